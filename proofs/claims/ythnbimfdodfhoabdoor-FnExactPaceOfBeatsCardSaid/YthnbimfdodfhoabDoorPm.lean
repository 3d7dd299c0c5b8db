/- Chapter 5: the model's PaceOfBeats. -/
import Derived.Test.YthnbimfdodfhoabDoorPe
namespace Go.Proofs.YthnbimfdodfhoabDoor
open Go.ChangeShapes Go.WideShapes Go.ChangeAt Go.RowKit
open Dr Pa

namespace Pa
/-- the first pair of which this is true, by the first number, then the second -/
def firstP (p : Nat → Nat → Bool) : Nat → Option (Nat × Nat)
  | 0 => none
  | e + 1 => match firstP p e with | some q => some q | none => ((List.range (e + 1)).find? (p (e + 1))).map fun f => (e + 1, f)
theorem firstP_stay {p : Nat → Nat → Bool} {e : Nat} {q : Nat × Nat} (h : firstP p e = some q) : ∀ d, firstP p (e + d) = some q
  | 0 => h
  | d + 1 => by rw [← Nat.add_assoc, firstP, firstP_stay h d]
theorem firstP_hit {p : Nat → Nat → Bool} {e f n : Nat} (h : firstP p e = none) (hf : f < e + 1) (hn : ∀ j, j < f → p (e + 1) j = false) (hp : p (e + 1) f = true) (he : e + 1 ≤ n) : firstP p n = some (e + 1, f) := by
  have h1 : firstP p (e + 1) = some (e + 1, f) := by
    have h2 : (List.range (e + 1)).find? (p (e + 1)) = some f := by
      rw [List.find?_range_eq_some]
      exact ⟨hp, List.mem_range.2 hf, fun j hj => by rw [hn j hj]; rfl⟩
    rw [firstP, h, h2]; rfl
  have := firstP_stay h1 (n - (e + 1))
  rwa [show e + 1 + (n - (e + 1)) = n by omega] at this
theorem firstP_miss {p : Nat → Nat → Bool} {e : Nat} (h : firstP p e = none) (hn : ∀ j, j < e + 1 → p (e + 1) j = false) : firstP p (e + 1) = none := by
  have h2 : (List.range (e + 1)).find? (p (e + 1)) = none := by
    rw [List.find?_eq_none]
    intro j hj
    rw [hn j (List.mem_range.1 hj)]; decide
  rw [firstP, h, h2]; rfl
theorem firstP_hitE {p : Nat → Nat → Bool} {E f n : Nat} (h1 : 1 ≤ E) (h : firstP p (E - 1) = none) (hf : f < E) (hn : ∀ j, j < f → p E j = false) (hp : p E f = true) (he : E ≤ n) : firstP p n = some (E, f) := by
  obtain ⟨e, rfl⟩ : ∃ e, E = e + 1 := ⟨E - 1, by omega⟩
  exact firstP_hit h hf hn hp he
theorem firstP_missE {p : Nat → Nat → Bool} {E : Nat} (h1 : 1 ≤ E) (h : firstP p (E - 1) = none) (hn : ∀ j, j < E → p E j = false) : firstP p E = none := by
  obtain ⟨e, rfl⟩ : ∃ e, E = e + 1 := ⟨E - 1, by omega⟩
  exact firstP_miss h hn
theorem good_one {E f : Nat} (h1 : 1 ≤ E) (h2 : E ≤ 60) (h3 : f < E) : GoodQ [(E, f)] := ⟨by simp, by simp, fun k hk => by
  have : k = 0 := by simp at hk; omega
  subst this
  exact ⟨h1, h2, h3⟩⟩
/-- whether a pace has these beats -/
def beatB (s : ByteArray) (e f : Nat) : Bool := decide (beatTo (many [(e, f)]) s.size = s)
def paceO (s : ByteArray) : Option (Nat × Nat) := firstP (beatB s) 60
def lenB (s : ByteArray) : Bool := inB s.size 1 200
end Pa
def outPaceOfBeats_0 (s : ByteArray) : RPace := if lenB s then (match paceO s with | some q => ((q.1 : Int), (q.2 : Int)) | none => (0, 0)) else (0, 0)
def outPaceOfBeats_1 (s : ByteArray) : Bool := lenB s && (paceO s).isSome

theorem size_up {w : World} {o : Obj} {B : Nat} (h : B ≤ w.heap.size) : B ≤ (w.alloc o).heap.size := by rw [alloc_size1]; omega
theorem setTwo0 {w : World} {g : Nat} {x y u v : Value} (h0 : w.cell? ⟨g, 0, none⟩ = some u) (_h1 : w.cell? ⟨g, 1, none⟩ = some v) : ((w.setCell ⟨g, 0, none⟩ x).setCell ⟨g, 1, none⟩ y).cell? ⟨g, 0, none⟩ = some x := by
  have h2 : (w.setCell ⟨g, 0, none⟩ x).cell? ⟨g, 0, none⟩ = some x := by go_simp
  go_simp
theorem setTwo1 {w : World} {g : Nat} {x y u v : Value} (_h0 : w.cell? ⟨g, 0, none⟩ = some u) (h1 : w.cell? ⟨g, 1, none⟩ = some v) : ((w.setCell ⟨g, 0, none⟩ x).setCell ⟨g, 1, none⟩ y).cell? ⟨g, 1, none⟩ = some y := by
  go_simp
theorem strs_ne {q s : ByteArray} (h : ¬ q = s) : (q.toList == s.toList) = false := by
  rw [beq_eq_false_iff_ne]
  intro e
  apply h
  rw [ByteArray.toList_eq, ByteArray.toList_eq] at e
  exact ByteArray.ext (Array.ext' e)
/-- a struct of two ints and a truth, as results -/
theorem results_cell2 {fn : Func} {t u : Tmp} {ty : TypeId} (h : fn.results = #[.cell t ty, .tmp u]) (tmps : Array Value) (w : World) (g : Nat) (x y : Int) (hty : ty = 23)
    (ht : tmps[t]?.getD undef = .pointer (some ⟨g, 0, none⟩)) (h0 : w.cell? ⟨g, 0, none⟩ = some (.int .i64 x)) (h1 : w.cell? ⟨g, 1, none⟩ = some (.int .i64 y)) :
    (results fn tmps).run Tryd.prog w = .ok (.tuple #[.agg #[.int .i64 x, .int .i64 y], tmps.getD u undef]) w := by
  subst hty
  simp [results, h, ht, h0, h1, go_sem]

set_option maxHeartbeats 4000000 in
theorem specPaceOfBeats_any (w : World) (s : ByteArray) (_ws : s.size ≤ maxLen) (hls : s.size ≤ 1048576) :
    Calls Tryd.prog 6 #[.string s] w fun e w' => e = .returned (.tuple #[.agg #[.int .i64 (outPaceOfBeats_0 s).1, .int .i64 (outPaceOfBeats_0 s).2], .bool (outPaceOfBeats_1 s)]) ∧ Below w.heap.size w w' := by
  have HI := Lib.hid (fun w2 => l1In_any s.size 1 200 w2)
  have HB1 : Hid (Below w.heap.size w (w.alloc (.cells #[.int .i64 0, .int .i64 0] 23))) := Lib.hid ((Below.refl _ _).alloc (Nat.le_refl _) _)
  rcases hb : inB s.size 1 200 with _ | _
  · have H0 : Hid (outPaceOfBeats_0 s = (0, 0) ∧ outPaceOfBeats_1 s = false) := Lib.hid (by unfold outPaceOfBeats_0 outPaceOfBeats_1 lenB; rw [hb]; exact ⟨rfl, rfl⟩)
    rw [hb] at HI
    clear hb
    go_enter Tryd.func6, Tryd.ntmps6
    go_wp2_with (go_at_call 18; refine (HI.out _).mono ?_; rintro e w' ⟨rfl, rfl⟩)
    (try simp only [Exit.inBlock, Exit.then])
    refine bodyPost_ret (results_cell2 rfl _ _ w.heap.size 0 0 rfl rfl (by rw [World.cell?_alloc_new]; rfl) (by rw [World.cell?_alloc_new]; rfl)) rfl ?_
    exact ⟨by rw [H0.out.1, H0.out.2]; exact rfl, HB1.out⟩
  · obtain ⟨hs1, hs2⟩ := inB_yes hb
    rw [hb] at HI
    have HIB := Lib.hid hb
    clear hb
    go_enter Tryd.func6, Tryd.ntmps6
    go_wp2_with (go_at_call 18; refine (HI.out _).mono ?_; rintro e w' ⟨rfl, rfl⟩)
    have H0 : Hid (∀ o, paceO s = o → outPaceOfBeats_0 s = (match o with | some q => ((q.1 : Int), (q.2 : Int)) | none => (0, 0)) ∧ outPaceOfBeats_1 s = o.isSome) := Lib.hid (fun o ho => by unfold outPaceOfBeats_0 outPaceOfBeats_1 lenB; rw [HIB.out, ho]; exact ⟨rfl, rfl⟩)
    have HZE : Hid (∀ w2, Below (w.alloc (.cells #[.int .i64 0, .int .i64 0] 23)).heap.size (w.alloc (.cells #[.int .i64 0, .int .i64 0] 23)) w2 → w2.heap[w.heap.size]? = some (.cells #[.int .i64 0, .int .i64 0] 23)) := Lib.hid (fun w2 h => (h.block _ (by rw [alloc_size1]; exact Nat.lt_succ_self _)).trans (heap_alloc_new w _))
    have HSZ : Hid (∀ w2, Below (w.alloc (.cells #[.int .i64 0, .int .i64 0] 23)).heap.size (w.alloc (.cells #[.int .i64 0, .int .i64 0] 23)) w2 → w.heap.size < w2.heap.size) := Lib.hid (fun w2 h => by have := h.size; rw [alloc_size1] at this; omega)
    go_loopw [4] (fun v wr => ∃ E : Nat, 1 ≤ E ∧ E ≤ 61 ∧ v = .int .i64 (E : Int) ∧ Hid (firstP (beatB s) (E - 1) = none) ∧ Hid (Below (w.alloc (.cells #[.int .i64 0, .int .i64 0] 23)).heap.size (w.alloc (.cells #[.int .i64 0, .int .i64 0] 23)) wr)) (fun v _ => 61 - (intOf v).toNat)
    case atStart => exact ⟨1, Nat.le_refl _, by omega, rfl, Lib.hid rfl, Lib.hid (Below.refl _ _)⟩
    case round =>
      obtain ⟨E, hE1, hE2, rfl, HN, HB⟩ := hrel
      by_cases hlt : E ≤ 60
      · have hE3 : (E : Int) ≤ 60 := by omega
        go_wp2
        obtain ⟨wo, rfl⟩ : ∃ wo : World, wo = wr := ⟨_, rfl⟩
        go_loopw [5] (fun v wr => ∃ f : Nat, f ≤ E ∧ v = .int .i64 (f : Int) ∧ Hid (∀ j, j < f → beatB s E j = false) ∧ Hid (Below (w.alloc (.cells #[.int .i64 0, .int .i64 0] 23)).heap.size (w.alloc (.cells #[.int .i64 0, .int .i64 0] 23)) wr)) (fun v _ => E - (intOf v).toNat)
        case atStart => exact ⟨0, Nat.zero_le _, rfl, Lib.hid (fun j h => absurd h (Nat.not_lt_zero _)), HB⟩
        case round =>
          obtain ⟨f, hf, rfl, HM, HB2⟩ := hrel
          by_cases hlt2 : f < E
          · have HCQ : Hid (CameQ ((wr.alloc (.cells #[.int .i64 (E : Int), .int .i64 (f : Int)] 23)).alloc (.cells #[.int .i64 (E : Int), .int .i64 (f : Int)] 23)) (some ⟨wr.heap.size + 1, 0, none⟩) 1 [(E, f)]) := Lib.hid ⟨rfl, fun _ => ⟨_, _, rfl, fun k hk => by
              obtain rfl : k = 0 := by omega
              exact ⟨World.cell?_alloc_at _ _ _ _ (alloc_size1 _ _).symm, World.cell?_alloc_at _ _ _ _ (alloc_size1 _ _).symm⟩⟩⟩
            have HT := Lib.hid (spBeats_any _ _ 1 1 [(E, f)] s.size (by omega) (good_one hE1 hlt hlt2) HCQ.out)
            have HBT : Hid (beatB s E f = decide (beatTo (many [(E, f)]) s.size = s)) := Lib.hid rfl
            obtain ⟨q, hq⟩ : ∃ q, q = beatTo (many [(E, f)]) s.size := ⟨_, rfl⟩
            rw [← hq] at HT HBT
            clear hq
            go_wp2_with fail
            go_at_call 19
            refine HT.out.mono ?_
            rintro e w2 ⟨rfl, b2⟩
            have HW2 : Hid (Below (w.alloc (.cells #[.int .i64 0, .int .i64 0] 23)).heap.size (w.alloc (.cells #[.int .i64 0, .int .i64 0] 23)) w2) := Lib.hid (((HB2.out.alloc HB2.out.size _).alloc (size_up HB2.out.size) _).trans (b2.mono (size_up (size_up HB2.out.size))))
            have hwl : wr.heap.size < ((wr.alloc (.cells #[.int .i64 (E : Int), .int .i64 (f : Int)] 23)).alloc (.cells #[.int .i64 (E : Int), .int .i64 (f : Int)] 23)).heap.size := by rw [alloc_size1, alloc_size1]; omega
            have hwl2 : wr.heap.size < (wr.alloc (.cells #[.int .i64 (E : Int), .int .i64 (f : Int)] 23)).heap.size := by rw [alloc_size1]; omega
            have c0 : w2.cell? ⟨wr.heap.size, 0, none⟩ = some (.int .i64 (E : Int)) := (b2.cell (p := ⟨wr.heap.size, 0, none⟩) hwl).trans ((World.cell?_alloc_lt _ _ _ hwl2).trans (by rw [World.cell?_alloc_new]; rfl))
            have c1 : w2.cell? ⟨wr.heap.size, 1, none⟩ = some (.int .i64 (f : Int)) := (b2.cell (p := ⟨wr.heap.size, 1, none⟩) hwl).trans ((World.cell?_alloc_lt _ _ _ hwl2).trans (by rw [World.cell?_alloc_new]; rfl))
            have hze := HZE.out _ HW2.out
            have c2 : w2.cell? ⟨w.heap.size, 0, none⟩ = some (.int .i64 0) := by simp [World.cell?, hze]
            have c3 : w2.cell? ⟨w.heap.size, 1, none⟩ = some (.int .i64 0) := by simp [World.cell?, hze]
            have f2 : w2.frozen? ⟨w.heap.size, 0, none⟩ = false := by simp [World.frozen?, hze]
            have f3 : w2.frozen? ⟨w.heap.size, 1, none⟩ = false := by simp [World.frozen?, hze]
            clear b2 hwl hwl2 hze
            by_cases hqs : q = s
            · have H1 := Lib.hid (H0.out (some (E, f)) (firstP_hitE hE1 HN.out hlt2 HM.out (by rw [HBT.out]; exact decide_eq_true hqs) hlt))
              go_wp2
              (try simp only [Exit.inBlock, Exit.then])
              have hgl : w.heap.size < w2.heap.size := World.block_lt_of_cell? w2 _ c2
              refine bodyPost_ret (results_cell2 rfl _ _ w.heap.size (E : Int) (f : Int) rfl rfl (setTwo0 c2 c3) (setTwo1 c2 c3)) rfl ?_
              exact ⟨by rw [H1.out.1, H1.out.2]; exact rfl, (HB1.out.trans (HW2.out.mono HB1.out.size)).setCell (Nat.le_refl _) _ |>.setCell (Nat.le_refl _) _⟩
            · have hq1 : (q.toList == s.toList) = false := strs_ne hqs
              have HM2 : Hid (∀ j, j < f + 1 → beatB s E j = false) := Lib.hid (fun j hj => by
                by_cases e : j = f
                · subst e; rw [HBT.out]; exact decide_eq_false hqs
                · exact HM.out j (by omega))
              go_wp2
              go_roundw
              case rel => exact ⟨f + 1, by omega, by go_num, HM2, HW2⟩
              case measure => simp [intOf]; omega
          · have HN2 : Hid (firstP (beatB s) (E + 1 - 1) = none) := Lib.hid (firstP_missE hE1 HN.out (fun j hj => HM.out j (by omega)))
            go_wp2
            go_roundw
            case rel => exact ⟨E + 1, by omega, by omega, by go_num, HN2, HB2⟩
            case measure => simp [intOf]; omega
      · have H1 := Lib.hid (H0.out none (by unfold paceO; rw [show (60 : Nat) = E - 1 by omega]; exact HN.out))
        have hE3 : ¬ (E : Int) ≤ 60 := by omega
        have hze := HZE.out _ HB.out
        have c2 : wr.cell? ⟨w.heap.size, 0, none⟩ = some (.int .i64 0) := by simp [World.cell?, hze]
        have c3 : wr.cell? ⟨w.heap.size, 1, none⟩ = some (.int .i64 0) := by simp [World.cell?, hze]
        have f2 : wr.frozen? ⟨w.heap.size, 0, none⟩ = false := by simp [World.frozen?, hze]
        have f3 : wr.frozen? ⟨w.heap.size, 1, none⟩ = false := by simp [World.frozen?, hze]
        clear hze
        go_wp2
        (try simp only [Exit.inBlock, Exit.then])
        refine bodyPost_ret (results_cell2 rfl _ _ w.heap.size 0 0 rfl rfl (setTwo0 c2 c3) (setTwo1 c2 c3)) rfl ?_
        exact ⟨by rw [H1.out.1, H1.out.2]; exact rfl, (HB1.out.trans (HB.out.mono HB1.out.size)).setCell (Nat.le_refl _) _ |>.setCell (Nat.le_refl _) _⟩

end Go.Proofs.YthnbimfdodfhoabDoor
