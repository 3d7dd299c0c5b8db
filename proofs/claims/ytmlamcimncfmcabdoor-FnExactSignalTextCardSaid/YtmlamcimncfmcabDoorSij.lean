/- Chapter 8: the model's ParseSignal. -/
import Derived.Test.YtmlamcimncfmcabDoorSif
import Derived.Test.YtmlamcimncfmcabDoorSig
import Derived.Test.YtmlamcimncfmcabDoorRead
import Derived.Deep.WholeRow
namespace Go.Proofs.YtmlamcimncfmcabDoor
open Go.ChangeShapes Go.WideShapes Go.ChangeAt Go.RowKit
open Si Dr Rd

theorem below_drewS {B : Nat} {w0 w : World} (h : Below B w0 w) : Below B w0 w.drew := ⟨h.os, h.tape, h.output, h.size, h.block⟩
structure Kept (G : Prop) : Prop where
  out : G
theorem cutG {G P : Prop} (h : Kept G → P) (g : G) : P := h ⟨g⟩
namespace Si
def candS (t : ByteArray) (k : Nat) : RSignal := (readZ (t.extract 0 k), decide (byteN t k = 60), readZ (t.extract (k + 1) t.size))
def fitS (t : ByteArray) (p : RSignal) : Bool := sigB 100 p && decide (sigT p.1.toNat p.2.1 p.2.2.toNat = t)
def goodS (t : ByteArray) (k : Nat) : Bool := (decide (byteN t k = 60) || decide (byteN t k = 62)) && fitS t (candS t k)
theorem str_ne {q s : ByteArray} (h : ¬ q = s) : (q.toList == s.toList) = false := by
  rw [beq_eq_false_iff_ne]
  intro e
  apply h
  rw [ByteArray.toList_eq, ByteArray.toList_eq] at e
  exact ByteArray.ext (Array.ext' e)
theorem setS0 {w : World} {g : Nat} {x y z u v t : Value} (h0 : w.cell? ⟨g, 0, none⟩ = some u) (_h1 : w.cell? ⟨g, 1, none⟩ = some v) (_h2 : w.cell? ⟨g, 2, none⟩ = some t) : (((w.setCell ⟨g, 0, none⟩ x).setCell ⟨g, 1, none⟩ y).setCell ⟨g, 2, none⟩ z).cell? ⟨g, 0, none⟩ = some x := by
  have h2 : (w.setCell ⟨g, 0, none⟩ x).cell? ⟨g, 0, none⟩ = some x := by go_simp
  go_simp
theorem setS1 {w : World} {g : Nat} {x y z u v t : Value} (_h0 : w.cell? ⟨g, 0, none⟩ = some u) (h1 : w.cell? ⟨g, 1, none⟩ = some v) (_h2 : w.cell? ⟨g, 2, none⟩ = some t) : (((w.setCell ⟨g, 0, none⟩ x).setCell ⟨g, 1, none⟩ y).setCell ⟨g, 2, none⟩ z).cell? ⟨g, 1, none⟩ = some y := by
  have h2 : ((w.setCell ⟨g, 0, none⟩ x).setCell ⟨g, 1, none⟩ y).cell? ⟨g, 1, none⟩ = some y := by go_simp
  go_simp
theorem setS2 {w : World} {g : Nat} {x y z u v t : Value} (_h0 : w.cell? ⟨g, 0, none⟩ = some u) (_h1 : w.cell? ⟨g, 1, none⟩ = some v) (h2 : w.cell? ⟨g, 2, none⟩ = some t) : (((w.setCell ⟨g, 0, none⟩ x).setCell ⟨g, 1, none⟩ y).setCell ⟨g, 2, none⟩ z).cell? ⟨g, 2, none⟩ = some z := by
  go_simp
end Si
def outParseSignal_0 (t : ByteArray) : RSignal := if decide (t.size ≤ 6) then (match soonTo (goodS t) t.size with | some k => candS t k | none => zSignal) else zSignal
def outParseSignal_1 (t : ByteArray) : Bool := decide (t.size ≤ 6) && (soonTo (goodS t) t.size).isSome
/-- a struct of an int, a truth and an int, and a truth, as results -/
theorem results_cell3 {fn : Func} {t u : Tmp} {ty : TypeId} (h : fn.results = #[.cell t ty, .tmp u]) (tmps : Array Value) (w : World) (g : Nat) (x y : Int) (b : Bool) (hty : ty = 26)
    (ht : tmps[t]?.getD undef = .pointer (some ⟨g, 0, none⟩)) (h0 : w.cell? ⟨g, 0, none⟩ = some (.int .i64 x)) (h1 : w.cell? ⟨g, 1, none⟩ = some (.bool b)) (h2 : w.cell? ⟨g, 2, none⟩ = some (.int .i64 y)) :
    (results fn tmps).run Tryd.prog w = .ok (.tuple #[.agg #[.int .i64 x, .bool b, .int .i64 y], tmps.getD u undef]) w := by
  subst hty
  simp [results, h, ht, h0, h1, h2, go_sem]

set_option maxHeartbeats 4000000 in
theorem specParseSignal_any (w : World) (s : ByteArray) (_ws : s.size ≤ maxLen) (hls : s.size ≤ 1048576) :
    Calls Tryd.prog 8 #[.string s] w fun e w' => e = .returned (.tuple #[.agg #[.int .i64 (outParseSignal_0 s).1, .bool (outParseSignal_0 s).2.1, .int .i64 (outParseSignal_0 s).2.2], .bool (outParseSignal_1 s)]) ∧ Below w.heap.size w w' := by
  clear _ws
  have HB1 : Hid (Below w.heap.size w (w.alloc (.cells #[.int .i64 0, .bool false, .int .i64 0] 26))) := Lib.hid ((Below.refl _ _).alloc (Nat.le_refl _) _)
  by_cases h6 : s.size ≤ 6
  case neg =>
    have h6i : (6 : Int) < (s.size : Int) := by omega
    have H0 : Hid (outParseSignal_0 s = (0, false, 0) ∧ outParseSignal_1 s = false) := Lib.hid (by unfold outParseSignal_0 outParseSignal_1; rw [decide_eq_false h6]; exact ⟨rfl, rfl⟩)
    clear h6
    go_enter Tryd.func8, Tryd.ntmps8
    go_wp2
    (try simp only [Exit.inBlock, Exit.then])
    refine bodyPost_ret (results_cell3 rfl _ _ w.heap.size 0 0 false rfl rfl (by rw [World.cell?_alloc_new]; rfl) (by rw [World.cell?_alloc_new]; rfl) (by rw [World.cell?_alloc_new]; rfl)) rfl ?_
    exact ⟨by rw [H0.out.1, H0.out.2]; exact rfl, HB1.out⟩
  case pos =>
    have h6i : ¬ (6 : Int) < (s.size : Int) := by omega
    have HE1 : Hid (∀ k, (∀ j, j < k → goodS s j = false) → goodS s k = true → k < s.size → outParseSignal_0 s = candS s k ∧ outParseSignal_1 s = true) := Lib.hid (fun k h1 h2 h3 => by
      unfold outParseSignal_0 outParseSignal_1; rw [decide_eq_true h6, soonTo_hit h1 h2 h3]; exact ⟨rfl, rfl⟩)
    have HE2 : Hid ((∀ j, j < s.size → goodS s j = false) → outParseSignal_0 s = (0, false, 0) ∧ outParseSignal_1 s = false) := Lib.hid (fun h1 => by
      unfold outParseSignal_0 outParseSignal_1; rw [decide_eq_true h6, soonTo_miss h1]; exact ⟨rfl, rfl⟩)
    have HR := Lib.hid (fun (z : ByteArray) (w2 : World) (hz : z.size ≤ 40) => l1Read_any z w2 (by omega))
    have HS := Lib.hid (fun x y l w2 => siSignal_any 100 x y l w2)
    have HZE : Hid (∀ w2, Below (w.alloc (.cells #[.int .i64 0, .bool false, .int .i64 0] 26)).heap.size (w.alloc (.cells #[.int .i64 0, .bool false, .int .i64 0] 26)) w2 → w2.heap[w.heap.size]? = some (.cells #[.int .i64 0, .bool false, .int .i64 0] 26)) := Lib.hid (fun w2 h => (h.block w.heap.size (by rw [alloc_size1]; exact Nat.lt_succ_self _)).trans (heap_alloc_last _ _))
    go_enter Tryd.func8, Tryd.ntmps8
    go_wp2
    go_loopw [4] (fun v wr => ∃ k : Nat, k ≤ s.size ∧ v = .int .i64 (k : Int) ∧ Hid (∀ j, j < k → goodS s j = false) ∧ Hid (Below (w.alloc (.cells #[.int .i64 0, .bool false, .int .i64 0] 26)).heap.size (w.alloc (.cells #[.int .i64 0, .bool false, .int .i64 0] 26)) wr)) (fun v _ => s.size - (intOf v).toNat)
    case atStart => exact ⟨0, Nat.zero_le _, rfl, Lib.hid (fun j h => absurd h (Nat.not_lt_zero _)), Lib.hid (Below.refl _ _)⟩
    case round =>
      obtain ⟨k, hk, rfl, HN, HB⟩ := hrel
      by_cases hlt : k < s.size
      · have i1 : (0 : Int) ≤ (k : Int) := by omega
        have i2 : (k : Int) < (s.size : Int) := by omega
        obtain ⟨K, hK⟩ : ∃ K, K = k + 1 := ⟨_, rfl⟩
        have HKK := Lib.hid hK
        have eK : (k : Int) + 1 = (K : Int) := by omega
        have i3 : (K : Int) ≤ (s.size : Int) := by omega
        have i4 : (0 : Int) ≤ (K : Int) := by omega
        have i5 : (k : Int) ≤ (s.size : Int) := by omega
        have hk6 : k ≤ 6 := by omega
        have hk7 : (k : Int) ≤ 6 := by omega
        have hK7 : K ≤ 7 := by omega
        have hwK : IntKind.i64.wrap (K : Int) = (K : Int) := IntWalk.i64_in _ (by omega)
        obtain ⟨b, hb⟩ : ∃ b, b = byteN s k := ⟨_, rfl⟩
        have eb : ((s[k]).toNat : Int) = (b : Int) := by rw [hb]; exact byteN_at hlt
        have hb256 : b < 256 := by rw [hb]; exact byteN_lt _ _
        have HBB := Lib.hid hb
        have hz0 : (s.extract 0 k).size ≤ 40 := by rw [ByteArray.size_extract]; omega
        have hz1 : (s.extract K s.size).size ≤ 40 := by rw [ByteArray.size_extract]; omega
        clear hK
        have hsl : ∀ wx, (Instr.slice 9 (.string s) (some (.int .i64 (K : Int))) none none).run Tryd.prog wx = .ok (.string (s.extract K s.size)) wx := fun wx => by
          rw [run_slice_string_from_if wx 9 s .i64 (K : Int) Tryd.underlying9, if_pos ⟨i4, i3⟩]; rfl
        have hsl0 : ∀ wx, (Instr.slice 9 (.string s) none (some (.int .i64 (k : Int))) none).run Tryd.prog wx = .ok (.string (s.extract 0 k)) wx := fun wx => by
          rw [run_slice_string_to_if wx 9 s .i64 (k : Int) Tryd.underlying9, if_pos ⟨i1, i5⟩]; rfl
        clear hb
        obtain ⟨x, ex2⟩ : ∃ x, readZ (s.extract 0 k) = x := ⟨_, rfl⟩
        obtain ⟨y, ey2⟩ : ∃ y, readZ (s.extract (k + 1) s.size) = y := ⟨_, rfl⟩
        have ex := ex2
        have ey : readZ (s.extract K s.size) = y := by rw [HKK.out]; exact ey2
        by_cases hb60 : b = 60
        · have q1 : ((b : Int) != 60) = false := by rw [bne_eq_false_iff_eq]; omega
          have q2 : ((b : Int) == 60) = true := by rw [beq_iff_eq]; omega
          have hfl : decide (b = 60) = true := decide_eq_true hb60
          have hor : (decide (byteN s k = 60) || decide (byteN s k = 62)) = true := by rw [← HBB.out, hfl]; rfl
          clear hb60
          have HCD : Hid (candS s k = (x, true, y)) := Lib.hid (by unfold candS; rw [ex2, ey2, ← HBB.out, hfl])
          clear hfl ex2 ey2
          go_wp2_with fail
          refine cutG (G := ?G) ?main ?rest
          case main =>
            intro gg
            go_region_held_law (fun _ => True) (trivial)
              (first
                | (go_at_call 15; refine (HR.out _ _ (by assumption)).mono ?_; rintro e w' ⟨rfl, rfl⟩))
            all_goals exact gg.out
          case rest =>
            have HBA : Hid (Below (w.alloc (.cells #[.int .i64 0, .bool false, .int .i64 0] 26)).heap.size (w.alloc (.cells #[.int .i64 0, .bool false, .int .i64 0] 26)) (wr.alloc (.cells #[.int .i64 x, .bool true, .int .i64 y] 26)).drew) := Lib.hid (below_drewS (HB.out.alloc HB.out.size _))
            have HKB : Hid (∀ w2, Below (wr.alloc (.cells #[.int .i64 x, .bool true, .int .i64 y] 26)).heap.size (wr.alloc (.cells #[.int .i64 x, .bool true, .int .i64 y] 26)).drew w2 → BoxS w2 wr.heap.size x true y) := Lib.hid (fun w2 h => BoxS.below (w := (wr.alloc (.cells #[.int .i64 x, .bool true, .int .i64 y] 26)).drew) (boxS_new wr x y true) h)
            have HSx := Lib.hid (fun w2 => HS.out x y true w2)
            have hz1 := HB.out.size
            clear ex ey hsl hsl0 eb hz0 hz1
            rcases hsg : sigB 100 (x, true, y) with _ | _
            · rw [hsg] at HSx
              have HN2 : Hid (∀ j, j < k + 1 → goodS s j = false) := Lib.hid (fun j hj => by
                by_cases e : j = k
                · subst e; unfold goodS fitS; rw [HCD.out, hsg, Bool.false_and, Bool.and_false]
                · exact HN.out j (by omega))
              clear hsg
              go_wp2_with fail
              go_at_call 11
              refine (HSx.out _).mono ?_
              rintro e w3 ⟨rfl, bb⟩
              have HB3 : Hid (Below (w.alloc (.cells #[.int .i64 0, .bool false, .int .i64 0] 26)).heap.size (w.alloc (.cells #[.int .i64 0, .bool false, .int .i64 0] 26)) w3) := Lib.hid (HBA.out.trans (bb.mono HBA.out.size))
              clear bb
              go_wp2
              go_roundw
              case rel => exact ⟨k + 1, by omega, by go_num, HN2, HB3⟩
              case measure => simp [intOf]; omega
            · obtain ⟨N, F, S, hN, hp, hg⟩ := sig_nat hsg
              obtain rfl : N = 100 := by omega
              obtain ⟨rfl, rfl⟩ : x = (F : Int) ∧ y = (S : Int) := by injection hp with h1 h2; injection h2 with _ h3; exact ⟨h1, h3⟩
              have HT := Lib.hid (fun w2 => siText_any F S true hg w2)
              rw [hsg] at HSx
              have HFT : Hid (goodS s k = decide (sigT F true S = s)) := Lib.hid (by unfold goodS fitS; rw [HCD.out, hsg, hor]; simp)
              obtain ⟨q, hq⟩ : ∃ q, q = sigT F true S := ⟨_, rfl⟩
              rw [← hq] at HT HFT
              clear hsg hp hg hN hq
              by_cases hqs : q = s
              · have H1 := Lib.hid (HE1.out k HN.out (by rw [HFT.out]; exact decide_eq_true hqs) hlt)
                rw [HCD.out] at H1
                subst hqs
                go_wp2_with fail
                go_at_call 11
                refine (HSx.out _).mono ?_
                rintro e w3 ⟨rfl, bb⟩
                have HB3 : Hid (Below (w.alloc (.cells #[.int .i64 0, .bool false, .int .i64 0] 26)).heap.size (w.alloc (.cells #[.int .i64 0, .bool false, .int .i64 0] 26)) w3) := Lib.hid (HBA.out.trans (bb.mono HBA.out.size))
                have HB3b := Lib.hid bb
                obtain ⟨c0, c1, c2⟩ := HKB.out _ bb
                clear bb
                go_wp2_with fail
                go_at_call 12
                refine (HT.out _).mono ?_
                rintro e w4 ⟨rfl, bb⟩
                have HB4 : Hid (Below (w.alloc (.cells #[.int .i64 0, .bool false, .int .i64 0] 26)).heap.size (w.alloc (.cells #[.int .i64 0, .bool false, .int .i64 0] 26)) w4) := Lib.hid (HB3.out.trans (bb.mono HB3.out.size))
                clear c0 c1 c2
                obtain ⟨c0, c1, c2⟩ := HKB.out _ (HB3b.out.trans (bb.mono HB3b.out.size))
                have hze := HZE.out _ HB4.out
                have d0 : w4.cell? ⟨w.heap.size, 0, none⟩ = some (.int .i64 0) := by simp [World.cell?, hze]
                have d1 : w4.cell? ⟨w.heap.size, 1, none⟩ = some (.bool false) := by simp [World.cell?, hze]
                have d2 : w4.cell? ⟨w.heap.size, 2, none⟩ = some (.int .i64 0) := by simp [World.cell?, hze]
                have f0 : w4.frozen? ⟨w.heap.size, 0, none⟩ = false := by simp [World.frozen?, hze]
                have f1 : w4.frozen? ⟨w.heap.size, 1, none⟩ = false := by simp [World.frozen?, hze]
                have f2 : w4.frozen? ⟨w.heap.size, 2, none⟩ = false := by simp [World.frozen?, hze]
                clear bb hze
                go_wp2
                (try simp only [Exit.inBlock, Exit.then])
                refine bodyPost_ret (results_cell3 rfl _ _ w.heap.size (F : Int) (S : Int) true rfl rfl (setS0 d0 d1 d2) (setS1 d0 d1 d2) (setS2 d0 d1 d2)) rfl ?_
                exact ⟨by rw [H1.out.1, H1.out.2]; exact rfl, (HB1.out.trans (HB4.out.mono HB1.out.size)).setCell (Nat.le_refl _) _ |>.setCell (Nat.le_refl _) _ |>.setCell (Nat.le_refl _) _⟩
              · have hq1 : (q.toList == s.toList) = false := str_ne hqs
                have HN2 : Hid (∀ j, j < k + 1 → goodS s j = false) := Lib.hid (fun j hj => by
                  by_cases e : j = k
                  · subst e; rw [HFT.out]; exact decide_eq_false hqs
                  · exact HN.out j (by omega))
                go_wp2_with fail
                go_at_call 11
                refine (HSx.out _).mono ?_
                rintro e w3 ⟨rfl, bb⟩
                have HB3 : Hid (Below (w.alloc (.cells #[.int .i64 0, .bool false, .int .i64 0] 26)).heap.size (w.alloc (.cells #[.int .i64 0, .bool false, .int .i64 0] 26)) w3) := Lib.hid (HBA.out.trans (bb.mono HBA.out.size))
                obtain ⟨c0, c1, c2⟩ := HKB.out _ bb
                clear bb
                go_wp2_with fail
                go_at_call 12
                refine (HT.out _).mono ?_
                rintro e w4 ⟨rfl, bb⟩
                have HB4 : Hid (Below (w.alloc (.cells #[.int .i64 0, .bool false, .int .i64 0] 26)).heap.size (w.alloc (.cells #[.int .i64 0, .bool false, .int .i64 0] 26)) w4) := Lib.hid (HB3.out.trans (bb.mono HB3.out.size))
                clear c0 c1 c2 bb
                go_wp2
                go_roundw
                case rel => exact ⟨k + 1, by omega, by go_num, HN2, HB4⟩
                case measure => simp [intOf]; omega
        by_cases hb62 : b = 62
        · have q1 : ((b : Int) != 60) = true := by rw [bne_iff_ne]; omega
          have q2 : ((b : Int) == 60) = false := by rw [beq_eq_false_iff_ne]; omega
          have q3 : ((b : Int) != 62) = false := by rw [bne_eq_false_iff_eq]; omega
          have hfl : decide (b = 60) = false := decide_eq_false hb60
          have hor : (decide (byteN s k = 60) || decide (byteN s k = 62)) = true := by rw [← HBB.out, decide_eq_true hb62, Bool.or_true]
          clear hb60 hb62
          have HCD : Hid (candS s k = (x, false, y)) := Lib.hid (by unfold candS; rw [ex2, ey2, ← HBB.out, hfl])
          clear hfl ex2 ey2
          go_wp2_with fail
          refine cutG (G := ?G2) ?main2 ?rest2
          case main2 =>
            intro gg
            go_region_held_law (fun _ => True) (trivial)
              (first
                | (go_at_call 15; refine (HR.out _ _ (by assumption)).mono ?_; rintro e w' ⟨rfl, rfl⟩))
            all_goals exact gg.out
          case rest2 =>
            have HBA : Hid (Below (w.alloc (.cells #[.int .i64 0, .bool false, .int .i64 0] 26)).heap.size (w.alloc (.cells #[.int .i64 0, .bool false, .int .i64 0] 26)) (wr.alloc (.cells #[.int .i64 x, .bool false, .int .i64 y] 26)).drew) := Lib.hid (below_drewS (HB.out.alloc HB.out.size _))
            have HKB : Hid (∀ w2, Below (wr.alloc (.cells #[.int .i64 x, .bool false, .int .i64 y] 26)).heap.size (wr.alloc (.cells #[.int .i64 x, .bool false, .int .i64 y] 26)).drew w2 → BoxS w2 wr.heap.size x false y) := Lib.hid (fun w2 h => BoxS.below (w := (wr.alloc (.cells #[.int .i64 x, .bool false, .int .i64 y] 26)).drew) (boxS_new wr x y false) h)
            have HSx := Lib.hid (fun w2 => HS.out x y false w2)
            have hz1 := HB.out.size
            clear ex ey hsl hsl0 eb hz0 hz1
            rcases hsg : sigB 100 (x, false, y) with _ | _
            · rw [hsg] at HSx
              have HN2 : Hid (∀ j, j < k + 1 → goodS s j = false) := Lib.hid (fun j hj => by
                by_cases e : j = k
                · subst e; unfold goodS fitS; rw [HCD.out, hsg, Bool.false_and, Bool.and_false]
                · exact HN.out j (by omega))
              clear hsg
              go_wp2_with fail
              go_at_call 11
              refine (HSx.out _).mono ?_
              rintro e w3 ⟨rfl, bb⟩
              have HB3 : Hid (Below (w.alloc (.cells #[.int .i64 0, .bool false, .int .i64 0] 26)).heap.size (w.alloc (.cells #[.int .i64 0, .bool false, .int .i64 0] 26)) w3) := Lib.hid (HBA.out.trans (bb.mono HBA.out.size))
              clear bb
              go_wp2
              go_roundw
              case rel => exact ⟨k + 1, by omega, by go_num, HN2, HB3⟩
              case measure => simp [intOf]; omega
            · obtain ⟨N, F, S, hN, hp, hg⟩ := sig_nat hsg
              obtain rfl : N = 100 := by omega
              obtain ⟨rfl, rfl⟩ : x = (F : Int) ∧ y = (S : Int) := by injection hp with h1 h2; injection h2 with _ h3; exact ⟨h1, h3⟩
              have HT := Lib.hid (fun w2 => siText_any F S false hg w2)
              rw [hsg] at HSx
              have HFT : Hid (goodS s k = decide (sigT F false S = s)) := Lib.hid (by unfold goodS fitS; rw [HCD.out, hsg, hor]; simp)
              obtain ⟨q, hq⟩ : ∃ q, q = sigT F false S := ⟨_, rfl⟩
              rw [← hq] at HT HFT
              clear hsg hp hg hN hq
              by_cases hqs : q = s
              · have H1 := Lib.hid (HE1.out k HN.out (by rw [HFT.out]; exact decide_eq_true hqs) hlt)
                rw [HCD.out] at H1
                subst hqs
                go_wp2_with fail
                go_at_call 11
                refine (HSx.out _).mono ?_
                rintro e w3 ⟨rfl, bb⟩
                have HB3 : Hid (Below (w.alloc (.cells #[.int .i64 0, .bool false, .int .i64 0] 26)).heap.size (w.alloc (.cells #[.int .i64 0, .bool false, .int .i64 0] 26)) w3) := Lib.hid (HBA.out.trans (bb.mono HBA.out.size))
                have HB3b := Lib.hid bb
                obtain ⟨c0, c1, c2⟩ := HKB.out _ bb
                clear bb
                go_wp2_with fail
                go_at_call 12
                refine (HT.out _).mono ?_
                rintro e w4 ⟨rfl, bb⟩
                have HB4 : Hid (Below (w.alloc (.cells #[.int .i64 0, .bool false, .int .i64 0] 26)).heap.size (w.alloc (.cells #[.int .i64 0, .bool false, .int .i64 0] 26)) w4) := Lib.hid (HB3.out.trans (bb.mono HB3.out.size))
                clear c0 c1 c2
                obtain ⟨c0, c1, c2⟩ := HKB.out _ (HB3b.out.trans (bb.mono HB3b.out.size))
                have hze := HZE.out _ HB4.out
                have d0 : w4.cell? ⟨w.heap.size, 0, none⟩ = some (.int .i64 0) := by simp [World.cell?, hze]
                have d1 : w4.cell? ⟨w.heap.size, 1, none⟩ = some (.bool false) := by simp [World.cell?, hze]
                have d2 : w4.cell? ⟨w.heap.size, 2, none⟩ = some (.int .i64 0) := by simp [World.cell?, hze]
                have f0 : w4.frozen? ⟨w.heap.size, 0, none⟩ = false := by simp [World.frozen?, hze]
                have f1 : w4.frozen? ⟨w.heap.size, 1, none⟩ = false := by simp [World.frozen?, hze]
                have f2 : w4.frozen? ⟨w.heap.size, 2, none⟩ = false := by simp [World.frozen?, hze]
                clear bb hze
                go_wp2
                (try simp only [Exit.inBlock, Exit.then])
                refine bodyPost_ret (results_cell3 rfl _ _ w.heap.size (F : Int) (S : Int) false rfl rfl (setS0 d0 d1 d2) (setS1 d0 d1 d2) (setS2 d0 d1 d2)) rfl ?_
                exact ⟨by rw [H1.out.1, H1.out.2]; exact rfl, (HB1.out.trans (HB4.out.mono HB1.out.size)).setCell (Nat.le_refl _) _ |>.setCell (Nat.le_refl _) _ |>.setCell (Nat.le_refl _) _⟩
              · have hq1 : (q.toList == s.toList) = false := str_ne hqs
                have HN2 : Hid (∀ j, j < k + 1 → goodS s j = false) := Lib.hid (fun j hj => by
                  by_cases e : j = k
                  · subst e; rw [HFT.out]; exact decide_eq_false hqs
                  · exact HN.out j (by omega))
                go_wp2_with fail
                go_at_call 11
                refine (HSx.out _).mono ?_
                rintro e w3 ⟨rfl, bb⟩
                have HB3 : Hid (Below (w.alloc (.cells #[.int .i64 0, .bool false, .int .i64 0] 26)).heap.size (w.alloc (.cells #[.int .i64 0, .bool false, .int .i64 0] 26)) w3) := Lib.hid (HBA.out.trans (bb.mono HBA.out.size))
                obtain ⟨c0, c1, c2⟩ := HKB.out _ bb
                clear bb
                go_wp2_with fail
                go_at_call 12
                refine (HT.out _).mono ?_
                rintro e w4 ⟨rfl, bb⟩
                have HB4 : Hid (Below (w.alloc (.cells #[.int .i64 0, .bool false, .int .i64 0] 26)).heap.size (w.alloc (.cells #[.int .i64 0, .bool false, .int .i64 0] 26)) w4) := Lib.hid (HB3.out.trans (bb.mono HB3.out.size))
                clear c0 c1 c2 bb
                go_wp2
                go_roundw
                case rel => exact ⟨k + 1, by omega, by go_num, HN2, HB4⟩
                case measure => simp [intOf]; omega
        · have q1 : ((b : Int) != 60) = true := by rw [bne_iff_ne]; omega
          have q3 : ((b : Int) != 62) = true := by rw [bne_iff_ne]; omega
          have HN2 : Hid (∀ j, j < k + 1 → goodS s j = false) := Lib.hid (fun j hj => by
            by_cases e : j = k
            · subst e; unfold goodS; rw [← HBB.out, decide_eq_false hb60, decide_eq_false hb62]; rfl
            · exact HN.out j (by omega))
          clear ex ey ex2 ey2 hsl hsl0 hb60 hb62
          go_wp2
          go_roundw
          case rel => exact ⟨k + 1, by omega, by go_num, HN2, HB⟩
          case measure => simp [intOf]; omega
      · have H0 := Lib.hid (HE2.out (fun j hj => HN.out j (by omega)))
        have i2 : ¬ (k : Int) < (s.size : Int) := by omega
        have hze := HZE.out _ HB.out
        have d0 : wr.cell? ⟨w.heap.size, 0, none⟩ = some (.int .i64 0) := by simp [World.cell?, hze]
        have d1 : wr.cell? ⟨w.heap.size, 1, none⟩ = some (.bool false) := by simp [World.cell?, hze]
        have d2 : wr.cell? ⟨w.heap.size, 2, none⟩ = some (.int .i64 0) := by simp [World.cell?, hze]
        have f0 : wr.frozen? ⟨w.heap.size, 0, none⟩ = false := by simp [World.frozen?, hze]
        have f1 : wr.frozen? ⟨w.heap.size, 1, none⟩ = false := by simp [World.frozen?, hze]
        have f2 : wr.frozen? ⟨w.heap.size, 2, none⟩ = false := by simp [World.frozen?, hze]
        clear hze
        go_wp2
        (try simp only [Exit.inBlock, Exit.then])
        refine bodyPost_ret (results_cell3 rfl _ _ w.heap.size 0 0 false rfl rfl (setS0 d0 d1 d2) (setS1 d0 d1 d2) (setS2 d0 d1 d2)) rfl ?_
        exact ⟨by rw [H0.out.1, H0.out.2]; exact rfl, (HB1.out.trans (HB.out.mono HB1.out.size)).setCell (Nat.le_refl _) _ |>.setCell (Nat.le_refl _) _ |>.setCell (Nat.le_refl _) _⟩

end Go.Proofs.YtmlamcimncfmcabDoor
