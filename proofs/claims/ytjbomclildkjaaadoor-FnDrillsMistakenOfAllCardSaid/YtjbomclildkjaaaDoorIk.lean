/- Chapter 4, the program: isMistake, isToldBy. -/
import Derived.Test.YtjbomclildkjaaaDoorIb
import Derived.Test.YtjbomclildkjaaaDoorMi
import Derived.Test.YtjbomclildkjaaaDoorLw
import Derived.BigQuiet
namespace Go.Proofs.YtjbomclildkjaaaDoor
open Go.ChangeShapes Go.WideShapes Go.ChangeAt Go.RowKit
open Dr

theorem alloc_sizeZ (w : World) (o : Obj) : (w.alloc o).heap.size = w.heap.size + 1 := Array.size_push _
theorem below_drewZ {B : Nat} {w0 w : World} (h : Below B w0 w) : Below B w0 w.drew := ⟨h.os, h.tape, h.output, h.size, h.block⟩
theorem strs_neZ {q s : ByteArray} (h : ¬ q = s) : (q.toList == s.toList) = false := by
  rw [beq_eq_false_iff_ne]
  intro e
  apply h
  rw [ByteArray.toList_eq, ByteArray.toList_eq] at e
  exact ByteArray.ext (Array.ext' e)
def isM (n : Int) (s : ByteArray) (p : RMistake) : Bool :=
  inB p.1 0 (n - 1) && (inB p.2.1 0 (s.size - 1) && (decide (p.2.2.size = 1) && (decide (0 ≤ turnI (byt p.2.2 0)) && !decide (byt p.2.2 0 = byt s p.2.1.toNat))))
theorem okR_isM (n : Int) (s : ByteArray) (ps : List RMistake) (k : Nat) : okR n s ps k = (isM n s (ps.getD k zMistake) && (List.range k).all fun j => !sameR (ps.getD j zMistake) (ps.getD k zMistake)) := by
  unfold okR isM
  simp only [Bool.and_assoc]
theorem one_of {x : ByteArray} (h : x.size = 1) : ∃ b : UInt8, x = ⟨#[b]⟩ := by
  refine ⟨x[0]'(by omega), ?_⟩
  apply ByteArray.ext
  apply Array.ext
  · simpa using h
  · intro i h1 h2
    have : i = 0 := by have h3 : i < x.size := h1; omega
    subst this
    rfl
theorem wordB_one (b : UInt8) : wordB ⟨#[b]⟩ = decide (0 ≤ turnI (b.toNat : Int)) := by
  unfold wordB
  simp [ByteArray.size]
theorem sub_one (s : ByteArray) (m : Nat) (h : m < s.size) : s.extract m (m + 1) = ⟨#[s[m]]⟩ := by
  apply ByteArray.ext
  rw [ByteArray.data_extract]
  apply Array.ext
  · have h3 : m < s.data.size := h
    simp only [Array.size_extract]
    show _ = 1
    omega
  · intro i h1 h2
    have h3 : i = 0 := by simpa using h2
    subst h3
    rw [Array.getElem_extract]
    rfl
theorem same_sub {b : UInt8} {s : ByteArray} {m : Nat} (h : m < s.size) : ((⟨#[b]⟩ : ByteArray) = s.extract m (m + 1)) = (byt ⟨#[b]⟩ 0 = byt s m) := by
  rw [sub_one s m h, byt_get s m h]
  have e : byt ⟨#[b]⟩ 0 = (b.toNat : Int) := rfl
  rw [e]
  apply propext
  constructor
  · intro hh
    have : (#[b] : Array UInt8) = #[s[m]] := congrArg ByteArray.data hh
    simp at this
    rw [this]
  · intro hh
    have : b = s[m] := UInt8.toNat_inj.1 (by omega)
    rw [← this]

set_option maxRecDepth 20000 in
set_option maxHeartbeats 1000000 in
theorem isMistake_any (w : World) (n : Int) (s : ByteArray) (x0 x1 : Int) (x2 : ByteArray) (hs : s.size ≤ 60) (hx : x2.size ≤ maxLen) (hT : Tab_signOfTurn w) :
    Calls Tryd.prog 80 #[.int .i64 n, .string s, .agg #[.int .i64 x0, .int .i64 x1, .string x2]] w fun e w' => e = .returned (.bool (isM n s (x0, x1, x2))) ∧ Below w.heap.size w w' := by
  have HBX : Hid (Below w.heap.size w (w.alloc (.cells #[.int .i64 x0, .int .i64 x1, .string x2] 55))) := Lib.hid ((Below.refl _ w).alloc (Nat.le_refl _) _)
  by_cases h0 : x0 < 0
  · have HF : Hid (isM n s (x0, x1, x2) = false) := Lib.hid (by unfold isM; rw [inB_no (by show ¬ (0 ≤ x0 ∧ _); omega)]; rfl)
    clear hT hx
    go_enter Tryd.func80, Tryd.ntmps80
    go_wp2
    go_ret
    exact ⟨ret_bool (by rw [HF.out]), HBX.out⟩
  · by_cases h1 : x0 < n
    · have h1b : ¬ n ≤ x0 := by omega
      have HBD := Lib.hid (below_drewZ HBX.out)
      by_cases h2 : x1 < 0
      · have HF : Hid (isM n s (x0, x1, x2) = false) := Lib.hid (by unfold isM; rw [inB_no (n := x1) (by omega), Bool.false_and, Bool.and_false])
        clear hT hx
        go_enter Tryd.func80, Tryd.ntmps80
        go_wp2
        go_ret
        exact ⟨ret_bool (by rw [HF.out]), HBX.out⟩
      · by_cases h3 : x1 < (s.size : Int)
        · obtain ⟨m, rfl⟩ : ∃ m : Nat, x1 = (m : Int) := ⟨x1.toNat, by omega⟩
          have hm : m < s.size := by omega
          have hE : isM n s (x0, (m : Int), x2) = (decide (x2.size = 1) && (decide (0 ≤ turnI (byt x2 0)) && !decide (byt x2 0 = byt s m))) := by
            unfold isM
            rw [inB_of (n := x0) (by omega), inB_of (n := (m : Int)) (by omega), Bool.true_and, Bool.true_and, Int.toNat_natCast]
          by_cases h4 : x2.size = 1
          · obtain ⟨b, rfl⟩ := one_of h4
            rw [decide_eq_true h4, Bool.true_and] at hE
            rw [show byt ⟨#[b]⟩ 0 = (b.toNat : Int) from rfl] at hE
            have HA := Lib.hid (fun w2 (hb : Below w.heap.size w w2) => implAreCommands_any w2 ⟨#[b]⟩ hx (by rw [h4]; omega) (hT.below hb))
            rw [show outAreCommands_0 ⟨#[b]⟩ = decide (0 ≤ turnI (b.toNat : Int)) from wordB_one b] at HA
            have HSUB : Hid (((⟨#[b]⟩ : ByteArray) = s.extract m (m + 1)) = ((b.toNat : Int) = byt s m)) := Lib.hid (same_sub hm)
            have h4b : ((ByteArray.size ⟨#[b]⟩ : Int) == 1) = true := by rw [h4]; rfl
            have hi1 : (0 : Int) ≤ (m : Int) := by omega
            have hi2 : (m : Int) + 1 ≤ (s.size : Int) := by omega
            obtain ⟨x2, hx2⟩ : ∃ x, x = (⟨#[b]⟩ : ByteArray) := ⟨_, rfl⟩
            rw [← hx2] at HA HSUB hE h4 h4b HBX HBD ⊢
            have HK := Lib.hid (fun (X : Lw (w.alloc (.cells #[.int .i64 x0, .int .i64 (m : Int), .string x2] 55))) =>
              show X.w.cell? ⟨w.heap.size, 1, none⟩ = some (.int .i64 (m : Int)) ∧ X.w.cell? ⟨w.heap.size, 2, none⟩ = some (.string x2) from ⟨X.cell (by simp), X.cell (by simp)⟩)
            have k1 := fun X => (HK.out X).1
            have k2 := fun X => (HK.out X).2
            by_cases h5 : 0 ≤ turnI (b.toNat : Int)
            · rw [decide_eq_true h5] at HA
              have HF : Hid (isM n s (x0, (m : Int), x2) = !decide (x2 = s.extract m (m + 1))) := Lib.hid (by rw [hE, decide_eq_true h5, Bool.true_and]; simp only [HSUB.out])
              by_cases h6 : x2 = s.extract m (m + 1)
              · rw [decide_eq_true h6] at HF
                have hq : (x2.toList == (s.extract m (m + 1)).toList) = true := by rw [beq_iff_eq, ← h6]
                clear hE h5 hx hT hx2 HSUB h6
                go_enter Tryd.func80, Tryd.ntmps80
                go_wp2_with fail
                refine wp_region_lw (by kernel_rfl) (by kernel_rfl) ?_
                repeat (go_big_quiet_step ((go_at_call 21; exact lw_call (fun w2 hb => HA.out w2 (HBX.out.trans (hb.mono HBX.out.size))) _)))
                refine wpQuiet_nil ?_
                rintro w' ⟨X, rfl⟩
                go_wp2
                go_ret
                exact ⟨ret_bool (by rw [HF.out]; rfl), HBX.out.trans (X.b.mono HBX.out.size)⟩
              · rw [decide_eq_false h6] at HF
                have hq : (x2.toList == (s.extract m (m + 1)).toList) = false := strs_neZ h6
                clear hE h5 hx hT hx2 HSUB h6
                go_enter Tryd.func80, Tryd.ntmps80
                go_wp2_with fail
                refine wp_region_lw (by kernel_rfl) (by kernel_rfl) ?_
                repeat (go_big_quiet_step ((go_at_call 21; exact lw_call (fun w2 hb => HA.out w2 (HBX.out.trans (hb.mono HBX.out.size))) _)))
                refine wpQuiet_nil ?_
                rintro w' ⟨X, rfl⟩
                go_wp2
                go_ret
                exact ⟨ret_bool (by rw [HF.out]; rfl), HBX.out.trans (X.b.mono HBX.out.size)⟩
            · have HF : Hid (isM n s (x0, (m : Int), x2) = false) := Lib.hid (by rw [hE, decide_eq_false h5]; rfl)
              rw [decide_eq_false h5] at HA
              clear hE h5 hx hT hx2 HSUB
              go_enter Tryd.func80, Tryd.ntmps80
              go_wp2_with fail
              refine wp_region_lw (by kernel_rfl) (by kernel_rfl) ?_
              repeat (go_big_quiet_step ((go_at_call 21; exact lw_call (fun w2 hb => HA.out w2 (HBX.out.trans (hb.mono HBX.out.size))) _)))
              refine wpQuiet_nil ?_
              rintro w' ⟨X, rfl⟩
              go_wp2
              go_ret
              exact ⟨ret_bool (by rw [HF.out]), HBX.out.trans (X.b.mono HBX.out.size)⟩
          · have HF : Hid (isM n s (x0, (m : Int), x2) = false) := Lib.hid (by rw [hE, decide_eq_false h4]; rfl)
            have h4b : ((x2.size : Int) == 1) = false := by rw [beq_eq_false_iff_ne]; omega
            clear hE h4 hx hT
            go_enter Tryd.func80, Tryd.ntmps80
            go_wp2_with fail
            go_quiet (fail)
            go_wp2
            go_ret
            exact ⟨ret_bool (by rw [HF.out]), HBX.out.trans ((drewN_down _ _).mono (HBX.out.size))⟩
        · have HF : Hid (isM n s (x0, x1, x2) = false) := Lib.hid (by unfold isM; rw [inB_no (n := x1) (by omega), Bool.false_and, Bool.and_false])
          clear hT hx
          go_enter Tryd.func80, Tryd.ntmps80
          go_wp2
          go_ret
          exact ⟨ret_bool (by rw [HF.out]), HBX.out⟩
    · have HF : Hid (isM n s (x0, x1, x2) = false) := Lib.hid (by unfold isM; rw [inB_no (n := x0) (by omega)]; rfl)
      clear hT hx
      go_enter Tryd.func80, Tryd.ntmps80
      go_wp2
      go_ret
      exact ⟨ret_bool (by rw [HF.out]), HBX.out⟩

set_option maxRecDepth 20000 in
set_option maxHeartbeats 1000000 in
theorem toldSame_any (w : World) (g : Nat) (x0 x1 : Int) (x2 : ByteArray) (y0 y1 : Int) (y2 : ByteArray) (c0 : w.cell? ⟨g, 0, none⟩ = some (.int .i64 x0)) (c1 : w.cell? ⟨g, 1, none⟩ = some (.int .i64 x1)) :
    Calls Tryd.prog 91 #[.agg #[.int .i64 y0, .int .i64 y1, .string y2], .pointer (some ⟨g, 0, none⟩)] w fun e w' => e = .returned (.bool (sameR (y0, y1, y2) (x0, x1, x2))) ∧ Below w.heap.size w w' := by
  have HBX : Hid (Below w.heap.size w (w.alloc (.cells #[.int .i64 y0, .int .i64 y1, .string y2] 55))) := Lib.hid ((Below.refl _ w).alloc (Nat.le_refl _) _)
  have hg1 := World.block_lt_of_cell? w _ c0
  have hne : ¬ g = w.heap.size := by have h : g < w.heap.size := hg1; omega
  have d0 : (w.alloc (.cells #[.int .i64 y0, .int .i64 y1, .string y2] 55)).cell? ⟨g, 0, none⟩ = some (.int .i64 x0) := (HBX.out.cell hg1).trans c0
  have d1 : (w.alloc (.cells #[.int .i64 y0, .int .i64 y1, .string y2] 55)).cell? ⟨g, 1, none⟩ = some (.int .i64 x1) := (HBX.out.cell (World.block_lt_of_cell? w _ c1)).trans c1
  by_cases h0 : y0 = x0
  · by_cases h1 : y1 = x1
    · have HF : Hid (sameR (y0, y1, y2) (x0, x1, x2) = true) := Lib.hid (by unfold sameR; exact decide_eq_true ⟨h0, h1⟩)
      subst h0 h1
      clear hg1 hne c0 c1
      go_enter Tryd.func91, Tryd.ntmps91
      go_wp2
      go_ret
      exact ⟨ret_bool (by rw [HF.out]), HBX.out⟩
    · have HF : Hid (sameR (y0, y1, y2) (x0, x1, x2) = false) := Lib.hid (by unfold sameR; exact decide_eq_false (fun h => h1 h.2))
      have hb : (y1 == x1) = false := by rw [beq_eq_false_iff_ne]; exact h1
      subst h0
      clear hg1 hne c0 c1 h1
      go_enter Tryd.func91, Tryd.ntmps91
      go_wp2
      go_ret
      exact ⟨ret_bool (by rw [HF.out]), HBX.out⟩
  · have HF : Hid (sameR (y0, y1, y2) (x0, x1, x2) = false) := Lib.hid (by unfold sameR; exact decide_eq_false (fun h => h0 h.1))
    have hb : (y0 == x0) = false := by rw [beq_eq_false_iff_ne]; exact h0
    clear hg1 hne c0 c1 h0
    go_enter Tryd.func91, Tryd.ntmps91
    go_wp2
    go_ret
    exact ⟨ret_bool (by rw [HF.out]), HBX.out⟩
def toldB (ps : List RMistake) (p : RMistake) (k : Nat) : Bool := (List.range k).any fun j => sameR (ps.getD j zMistake) p
theorem toldB_no {ps : List RMistake} {p : RMistake} {k : Nat} (h : ∀ j, j < k → sameR (ps.getD j zMistake) p = false) : toldB ps p k = false := by
  unfold toldB
  rw [List.any_eq_false]
  intro j hj
  rw [h j (List.mem_range.1 hj)]
  simp
theorem toldB_yes {ps : List RMistake} {p : RMistake} {k j : Nat} (hj : j < k) (h : sameR (ps.getD j zMistake) p = true) : toldB ps p k = true := by
  unfold toldB
  rw [List.any_eq_true]
  exact ⟨j, List.mem_range.2 hj, h⟩
theorem toldB_not (ps : List RMistake) (p : RMistake) (k : Nat) : ((List.range k).all fun j => !sameR (ps.getD j zMistake) p) = !toldB ps p k := by
  unfold toldB
  rw [List.not_any_eq_all_not]
set_option maxRecDepth 20000 in
set_option maxHeartbeats 1000000 in
theorem indexFunc_any (w : World) (a : Option Addr) (len cap : Nat) (ps : List RMistake) (hl : len ≤ 1048576) (hc : CameMistake w a len ps) (g : Nat) (x0 x1 : Int) (x2 : ByteArray) (c0 : w.cell? ⟨g, 0, none⟩ = some (.int .i64 x0)) (c1 : w.cell? ⟨g, 1, none⟩ = some (.int .i64 x1)) :
    Calls Tryd.prog 93 #[.slice a len cap, .func (.func 91) #[] #[.pointer (some ⟨g, 0, none⟩)]] w fun e w' => ∃ r : Int, e = .returned (.int .i64 r) ∧ decide (0 ≤ r) = toldB ps (x0, x1, x2) len ∧ Below w.heap.size w w' := by
  have HC := Lib.hid hc
  have HS := Lib.hid (fun w2 (hb : Below w.heap.size w w2) (p : RMistake) => toldSame_any w2 g x0 x1 x2 p.1 p.2.1 p.2.2 ((hb.cell (p := ⟨g, 0, none⟩) (World.block_lt_of_cell? w ⟨g, 0, none⟩ c0)).trans c0) ((hb.cell (p := ⟨g, 1, none⟩) (World.block_lt_of_cell? w ⟨g, 1, none⟩ c1)).trans c1))
  clear hc c0 c1
  go_enter Tryd.func93, Tryd.ntmps93
  go_wp2
  go_loopw [8] (fun i wr => ∃ k : Nat, k ≤ len ∧ i = .int .i64 (k : Int) ∧ Hid (∀ j, j < k → sameR (ps.getD j zMistake) (x0, x1, x2) = false) ∧ Hid (Below w.heap.size w wr)) (fun i _ => len - (intOf i).toNat)
  case atStart => exact ⟨0, Nat.zero_le _, rfl, Lib.hid (fun j h => absurd h (Nat.not_lt_zero _)), Lib.hid (Below.refl _ _)⟩
  case round =>
    obtain ⟨k, hk, rfl, HK, HB⟩ := hrel
    by_cases hlt : k < len
    · obtain ⟨b, off, rfl, hcell⟩ := (HC.out.below HB.out).2 (by omega)
      obtain ⟨e0, e1, e2, _⟩ := hcell k hlt
      have HP := Lib.hid (HS.out wr HB.out (ps.getD k zMistake))
      have HY : Hid (∀ b, sameR (ps.getD k zMistake) (x0, x1, x2) = b → b = true → toldB ps (x0, x1, x2) len = true) := Lib.hid (fun b h1 h2 => toldB_yes hlt (by rw [h1, h2]))
      have HN : Hid (∀ b, sameR (ps.getD k zMistake) (x0, x1, x2) = b → b = false → ∀ j, j < k + 1 → sameR (ps.getD j zMistake) (x0, x1, x2) = false) := Lib.hid (fun b h1 h2 j hj => by
        by_cases e : j = k
        · subst e; rw [h1, h2]
        · exact HK.out j (by omega))
      obtain ⟨p, hp⟩ : ∃ p, p = ps.getD k zMistake := ⟨_, rfl⟩
      rw [← hp] at e0 e1 e2 HP HY HN
      obtain ⟨y0, y1, y2⟩ := p
      simp only at e0 e1 e2 HP
      obtain ⟨b1, hb1⟩ : ∃ b, b = sameR (y0, y1, y2) (x0, x1, x2) := ⟨_, rfl⟩
      have HY2 := Lib.hid (HY.out b1 hb1.symm)
      have HN2 := Lib.hid (HN.out b1 hb1.symm)
      rw [← hb1] at HP
      have i1 : (0 : Int) ≤ (k : Int) := by omega
      have i2 : (k : Int) < (len : Int) := by omega
      clear hcell hp hb1 HY HN
      rcases b1 with _ | _
      · go_wp2_with fail
        go_at_call 91
        refine HP.out.mono ?_
        rintro e w2 ⟨rfl, b2⟩
        have B2 : Hid (Below w.heap.size w w2) := Lib.hid (HB.out.trans (b2.mono HB.out.size))
        clear b2
        go_wp2
        go_roundw
        case rel => exact ⟨k + 1, by omega, by go_num, Lib.hid (HN2.out (by simp)), B2⟩
        case measure => simp [intOf]; omega
      · go_wp2_with fail
        go_at_call 91
        refine HP.out.mono ?_
        rintro e w2 ⟨rfl, b2⟩
        have B2 : Hid (Below w.heap.size w w2) := Lib.hid (HB.out.trans (b2.mono HB.out.size))
        clear b2
        go_wp2
        go_ret
        exact ⟨_, rfl, by rw [HY2.out (by simp)]; exact decide_eq_true (by omega), B2.out⟩
    · have HE := Lib.hid (toldB_no (ps := ps) (p := (x0, x1, x2)) (k := len) (fun j hj => HK.out j (by omega)))
      go_wp2
      go_ret
      exact ⟨_, rfl, by rw [HE.out]; rfl, HB.out⟩
set_option maxRecDepth 20000 in
set_option maxHeartbeats 1000000 in
theorem containsFunc_any (w : World) (a : Option Addr) (len cap : Nat) (ps : List RMistake) (hl : len ≤ 1048576) (hc : CameMistake w a len ps) (g : Nat) (x0 x1 : Int) (x2 : ByteArray) (c0 : w.cell? ⟨g, 0, none⟩ = some (.int .i64 x0)) (c1 : w.cell? ⟨g, 1, none⟩ = some (.int .i64 x1)) :
    Calls Tryd.prog 90 #[.slice a len cap, .func (.func 91) #[] #[.pointer (some ⟨g, 0, none⟩)]] w fun e w' => e = .returned (.bool (toldB ps (x0, x1, x2) len)) ∧ Below w.heap.size w w' := by
  have HI := Lib.hid (indexFunc_any w a len cap ps hl hc g x0 x1 x2 c0 c1)
  clear hc c0 c1
  go_enter Tryd.func90, Tryd.ntmps90
  go_wp2_with fail
  go_at_call 93
  refine HI.out.mono ?_
  rintro e w2 ⟨r, rfl, hr, b2⟩
  have B2 := Lib.hid b2
  have HR := Lib.hid hr
  clear b2 hr
  go_wp2
  go_ret
  exact ⟨ret_bool HR.out, B2.out⟩
set_option maxRecDepth 20000 in
set_option maxHeartbeats 1000000 in
theorem isToldBy_any (w : World) (a : Option Addr) (len cap : Nat) (ps : List RMistake) (hl : len ≤ 1048576) (hc : CameMistake w a len ps) (x0 x1 : Int) (x2 : ByteArray) :
    Calls Tryd.prog 81 #[.slice a len cap, .agg #[.int .i64 x0, .int .i64 x1, .string x2]] w fun e w' => e = .returned (.bool (toldB ps (x0, x1, x2) len)) ∧ Below w.heap.size w w' := by
  have HBX : Hid (Below w.heap.size w (w.alloc (.cells #[.int .i64 x0, .int .i64 x1, .string x2] 55))) := Lib.hid ((Below.refl _ w).alloc (Nat.le_refl _) _)
  have HI := Lib.hid (containsFunc_any (w.alloc (.cells #[.int .i64 x0, .int .i64 x1, .string x2] 55)) a len cap ps hl (hc.below HBX.out) w.heap.size x0 x1 x2 (by simp) (by simp))
  clear hc
  go_enter Tryd.func81, Tryd.ntmps81
  go_wp2_with fail
  go_at_call 90
  refine HI.out.mono ?_
  rintro e w2 ⟨rfl, b2⟩
  have B2 : Hid (Below w.heap.size w w2) := Lib.hid (HBX.out.trans (b2.mono HBX.out.size))
  clear b2
  go_wp2
  go_ret
  exact ⟨rfl, B2.out⟩

end Go.Proofs.YtjbomclildkjaaaDoor
