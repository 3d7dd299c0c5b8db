/- Chapter 10: a desk (a struct of two texts) by value: its own cells, the verifier's sz, to, eq; IsDesk on both sides, FirstDesk. -/
import Derived.Test.YtagcopleeicmjaaOda
import Derived.WalkSpells
import Derived.Test.YtagcopleeicmjaaAgg
namespace Go.Proofs.Ytagcopleeicmjaa
open Go.ChangeShapes Go.WideShapes Go.ChangeAt Go.RowKit
open Rx Od
/-- a desk's own cells -/
structure BoxDesk (w : World) (g : Nat) (a b : ByteArray) : Prop where
  c0 : w.cell? ⟨g, 0, none⟩ = some (.string a)
  c1 : w.cell? ⟨g, 1, none⟩ = some (.string b)
theorem BoxDesk.lt {w : World} {g : Nat} {a b : ByteArray} (h : BoxDesk w g a b) : g < w.heap.size := World.block_lt_of_cell? w _ h.c0
theorem BoxDesk.of_block {w w' : World} {g : Nat} {a b : ByteArray} (h : BoxDesk w g a b) (hb : w'.heap[g]? = w.heap[g]?) : BoxDesk w' g a b :=
  ⟨(World.cell?_of_block hb).trans h.c0, (World.cell?_of_block hb).trans h.c1⟩
theorem BoxDesk.below {w w' : World} {g : Nat} {a b : ByteArray} (h : BoxDesk w g a b) (hb : Below w.heap.size w w') : BoxDesk w' g a b := h.of_block (hb.block g h.lt)
theorem boxDesk_new (w : World) (a b : ByteArray) {t : TypeId} : BoxDesk (w.alloc (.cells #[.string a, .string b] t)) w.heap.size a b :=
  ⟨by rw [World.cell?_alloc_new]; rfl, by rw [World.cell?_alloc_new]; rfl⟩

set_option maxHeartbeats 1000000 in
theorem toDesk_any (a b : ByteArray) (w : World) :
    Calls Try.prog 10 #[.agg #[.string a, .string b]] w fun e w' => e = .returned (.agg #[.string a, .string b]) ∧ Below w.heap.size w w' := by
  go_enter Try.func10, Try.ntmps10
  go_wp2
  refine bodyPost_ret (v := .agg #[.string a, .string b]) (by simp [results, Try.results10, go_sem]) rfl ⟨rfl, ?_⟩
  exact ((((Below.refl _ _).alloc (Nat.le_refl _) _).alloc (by simp) _).alloc (by simp; omega) _)

theorem szDesk_any (a b : ByteArray) (w : World) (ha : a.size ≤ maxLen) (hb : b.size ≤ maxLen) :
    Calls Try.prog 8 #[.agg #[.string a, .string b], .int .i64 1048576] w fun e w' => ∃ r : Int, e = .returned (.int .i64 r) ∧ -1 ≤ r ∧ r ≤ 1048576 ∧ (0 ≤ r → a.size ≤ 1048576 ∧ b.size ≤ 1048576) ∧ Below w.heap.size w w' := by
  have ha2 : (a.size : Int) ≤ 9223372036854775807 := by unfold maxLen at ha; omega
  have hb2 : (b.size : Int) ≤ 9223372036854775807 := by unfold maxLen at hb; omega
  clear ha hb
  by_cases h : (1048576 : Int) - (a.size : Int) < 0
  · go_enter Try.func8, Try.ntmps8
    go_wp2
    go_ret
    exact ⟨_, rfl, by omega, by omega, fun h => absurd h (by decide), (Below.refl _ _).alloc (Nat.le_refl _) _⟩
  · by_cases h2 : (1048576 : Int) - (a.size : Int) - (b.size : Int) < 0
    · go_enter Try.func8, Try.ntmps8
      go_wp2
      go_ret
      exact ⟨_, rfl, by omega, by omega, fun h => absurd h (by decide), (Below.refl _ _).alloc (Nat.le_refl _) _⟩
    · go_enter Try.func8, Try.ntmps8
      go_wp2
      go_ret
      exact ⟨_, rfl, by omega, by omega, fun _ => ⟨by omega, by omega⟩, (Below.refl _ _).alloc (Nat.le_refl _) _⟩

set_option maxHeartbeats 1000000 in
theorem eqDesk_any (a b : ByteArray) (w : World) :
    Calls Try.prog 7 #[.agg #[.string a, .string b], .agg #[.string a, .string b]] w fun e w' => e = .returned (.bool true) ∧ Below w.heap.size w w' := by
  go_enter Try.func7, Try.ntmps7
  go_wp2
  go_ret
  exact ⟨rfl, ((Below.refl _ _).alloc (Nat.le_refl _) _).alloc (by simp) _⟩

theorem coGood_q (a b : ByteArray) (w : World) (ha : a.size ≤ 1048576) (hb : b.size ≤ 1048576) :
    Calls Try.prog 12 #[.agg #[.string a, .string b]] w fun e w' => e = .returned (.bool (twoB a b)) ∧ Below w.heap.size w w' := by
  have HG := Lib.hid (fun w => odTwo_q a b w ha hb)
  have HB : Hid (Below w.heap.size w (w.alloc (.cells #[.string a, .string b] 23))) := Lib.hid ((Below.refl _ _).alloc (Nat.le_refl _) _)
  go_enter Try.func12, Try.ntmps12
  go_wp2_with (go_at_call 14; refine (HG.out _).mono ?_; rintro e w' ⟨rfl, rfl⟩)
  go_ret
  exact ⟨rfl, HB.out⟩
theorem specIsDesk_any (a b : ByteArray) (w : World) (ha : a.size ≤ 1048576) (hb : b.size ≤ 1048576) :
    Calls Try.prog 9 #[.agg #[.string a, .string b]] w fun e w' => e = .returned (.bool (twoB a b)) ∧ Below w.heap.size w w' := by
  have HG := Lib.hid (fun w => coGood_q a b w ha hb)
  have HB : Hid (Below w.heap.size w (w.alloc (.cells #[.string a, .string b] 23))) := Lib.hid ((Below.refl _ _).alloc (Nat.le_refl _) _)
  go_enter Try.func9, Try.ntmps9
  go_wp2_with (go_at_call 12; refine (HG.out _).mono ?_; rintro e w' ⟨rfl, b1⟩; have B1 := Lib.hid (HB.out.trans (b1.mono HB.out.size)); clear b1)
  go_ret
  exact ⟨rfl, B1.out⟩
namespace Tq0
theorem byteR {s : ByteArray} {l : List Bool} (h : s = Rw.str l) (k : Nat) (hk : k < s.size) : ((s[k].toNat : Int) == 62) = l.getD k false := by
  subst h
  rw [Rw.str_get _ _ hk]
  cases l.getD k false <;> rfl
set_option maxHeartbeats 400000 in
theorem isRow_any (s : ByteArray) (w : World) (hs : s.size ≤ maxLen) :
    Calls Try.prog 17 #[.string s] w fun e w' => e = .returned (.bool (goodB s)) ∧ w = w' := by
  unfold maxLen at hs
  by_cases hin : 1 ≤ s.size ∧ s.size ≤ 60
  · obtain ⟨i1, i2⟩ := hin
    have b1 : decide ((s.size : Int) < 1) = false := by simp; omega
    have b2 : decide ((60 : Int) < s.size) = false := by simp; omega
    go_enter Try.func17, Try.ntmps17
    go_wp2
    go_loop [14] (fun i => ∃ k : Nat, k ≤ s.size ∧ i = .int .i64 k ∧ goodTo s k) (fun i => s.size - (intOf i).toNat)
    case atStart => exact ⟨0, Nat.zero_le _, rfl, goodTo_zero s⟩
    case round =>
      obtain ⟨k, hk, rfl, hto⟩ := hrel
      have HT := Lib.hid hto
      clear hto
      by_cases hlt : k < s.size
      · by_cases h60 : s[k] = 60
        · have g1 : (s[k].toNat : Int) = 60 := by rw [h60]; rfl
          have g2 : (s[k].toNat : Int) ≤ 60 := by omega
          have g3 : 60 ≤ (s[k].toNat : Int) := by omega
          have H60 := goodTo_succ hlt HT.out (.inl h60)
          have H := Lib.hid H60
          clear g1 h60 H60
          go_wp2
          go_round
          case rel => exact ⟨k + 1, by omega, by go_num, H.out⟩
          case measure => simp [intOf]; omega
        · by_cases h62 : s[k] = 62
          · have g1 : (s[k].toNat : Int) = 62 := by rw [h62]; rfl
            have g2 : ((s[k].toNat : Int) != 60) = true := by simp; omega
            have g3 : ((s[k].toNat : Int) != 62) = false := by simp; omega
            have H60 := goodTo_succ hlt HT.out (.inr h62)
            have H := Lib.hid H60
            clear g1 h60 h62 H60
            go_wp2
            go_round
            case rel => exact ⟨k + 1, by omega, by go_num, H.out⟩
            case measure => simp [intOf]; omega
          · have g1 : ((s[k].toNat : Int) != 60) = true := by
              rw [bne_iff_ne]; intro e; exact h60 (UInt8.toNat_inj.1 (by rw [show (60 : UInt8).toNat = 60 from rfl]; omega))
            have g2 : ((s[k].toNat : Int) != 62) = true := by
              rw [bne_iff_ne]; intro e; exact h62 (UInt8.toNat_inj.1 (by rw [show (62 : UInt8).toNat = 62 from rfl]; omega))
            have H := Lib.hid (goodB_not s k hlt h60 h62)
            clear h60 h62
            go_wp2
            go_ret
            exact ⟨ret_bool H.out.symm, rfl⟩
      · have H := Lib.hid (goodB_of s (by omega) (by omega) (by rw [← (show k = s.size by omega)]; exact HT.out))
        go_wp2
        go_ret
        exact ⟨ret_bool H.out.symm, rfl⟩
  · have H : Hid (goodB s = false) := by
      refine Lib.hid ?_
      unfold goodB; rw [decide_eq_false hin]; rfl
    by_cases h1 : s.size < 1
    · have b1 : decide ((s.size : Int) < 1) = true := by simp; omega
      clear hin
      go_enter Try.func17, Try.ntmps17
      go_wp2
      go_ret
      exact ⟨ret_bool H.out.symm, rfl⟩
    · have b1 : decide ((s.size : Int) < 1) = false := by simp; omega
      have b2 : decide ((60 : Int) < s.size) = true := by simp; omega
      clear hin
      go_enter Try.func17, Try.ntmps17
      go_wp2
      go_ret
      exact ⟨ret_bool H.out.symm, rfl⟩
end Tq0
theorem isOrdered_pD (s : ByteArray) (w : World) (hs : s.size ≤ 1048576) : Calls Try.prog 15 #[.string s] w fun e w' => e = .returned (.bool (ordB s)) ∧ w = w' := by
  have HG := Lib.hid (Tq0.isRow_any s w (by unfold maxLen; omega))
  by_cases h40 : s.size ≤ 40
  · have H0 : Hid (ordB s = goodB s) := Lib.hid (by unfold ordB; rw [decide_eq_true h40, Bool.and_true])
    have i1 : (s.size : Int) ≤ 40 := by omega
    clear h40
    go_enter Try.func15, Try.ntmps15
    go_wp2_with (go_at_call 17; refine HG.out.mono ?_; rintro e w' ⟨rfl, rfl⟩)
    go_ret
    exact ⟨ret_bool H0.out.symm, rfl⟩
  · have H0 : Hid (ordB s = false) := Lib.hid (by unfold ordB; rw [decide_eq_false h40, Bool.and_false])
    have i1 : ¬ (s.size : Int) ≤ 40 := by omega
    clear h40
    go_enter Try.func15, Try.ntmps15
    go_wp2
    go_ret
    exact ⟨ret_bool H0.out.symm, rfl⟩
theorem areOrdered_pD (a b : ByteArray) (w : World) (ha : a.size ≤ 1048576) (hb : b.size ≤ 1048576) : Calls Try.prog 13 #[.string a, .string b] w fun e w' => e = .returned (.bool (twoB a b)) ∧ w = w' := by
  have HG := Lib.hid (isOrdered_pD a w ha)
  have HH := Lib.hid (isOrdered_pD b w hb)
  rcases h1 : ordB a with _ | _
  · have H0 : Hid (twoB a b = false) := Lib.hid (by unfold twoB; rw [h1]; rfl)
    rw [h1] at HG
    clear h1
    go_enter Try.func13, Try.ntmps13
    go_wp2_with (go_at_call 15; refine HG.out.mono ?_; rintro e w' ⟨rfl, rfl⟩)
    go_ret
    exact ⟨ret_bool H0.out.symm, rfl⟩
  · rw [h1] at HG
    rcases h2 : ordB b with _ | _
    · have H0 : Hid (twoB a b = false) := Lib.hid (by unfold twoB; rw [h1, h2]; rfl)
      rw [h2] at HH
      clear h1 h2
      go_enter Try.func13, Try.ntmps13
      go_wp2_with fail
      go_at_call 15
      refine HG.out.mono ?_
      rintro e w' ⟨rfl, rfl⟩
      go_wp2_with (go_at_call 15; refine HH.out.mono ?_; rintro e w' ⟨rfl, rfl⟩)
      go_ret
      exact ⟨ret_bool H0.out.symm, rfl⟩
    · have H0 : Hid (twoB a b = decide (a.size = b.size)) := Lib.hid (by unfold twoB; rw [h1, h2]; rfl)
      rw [h2] at HH
      have hq : ((a.size : Int) == (b.size : Int)) = decide (a.size = b.size) := by
        by_cases e : a.size = b.size
        · rw [decide_eq_true e, beq_iff_eq]; omega
        · rw [decide_eq_false e, beq_eq_false_iff_ne]; omega
      clear h1 h2
      go_enter Try.func13, Try.ntmps13
      go_wp2_with fail
      go_at_call 15
      refine HG.out.mono ?_
      rintro e w' ⟨rfl, rfl⟩
      go_wp2_with fail
      go_at_call 15
      refine HH.out.mono ?_
      rintro e w' ⟨rfl, rfl⟩
      go_wp2
      go_ret
      exact ⟨ret_bool H0.out.symm, rfl⟩
theorem implIsDesk_any (a b : ByteArray) (w : World) (ha : a.size ≤ 1048576) (hb : b.size ≤ 1048576) :
    Calls Try.prog 11 #[.agg #[.string a, .string b]] w fun e w' => e = .returned (.bool (twoB a b)) ∧ Below w.heap.size w w' := by
  have HG := Lib.hid (fun w => areOrdered_pD a b w ha hb)
  have HB : Hid (Below w.heap.size w (w.alloc (.cells #[.string a, .string b] 23))) := Lib.hid ((Below.refl _ _).alloc (Nat.le_refl _) _)
  go_enter Try.func11, Try.ntmps11
  go_wp2_with (go_at_call 13; refine (HG.out _).mono ?_; rintro e w' ⟨rfl, rfl⟩)
  go_ret
  exact ⟨rfl, HB.out⟩

/-- the first desk: <><< and >>>> -/
def fdRow : ByteArray := ⟨#[60, 62, 60, 60]⟩
def fdGoal : ByteArray := ⟨#[62, 62, 62, 62]⟩
theorem specFirstDesk_any (w : World) : Calls Try.prog 5 #[] w fun e w' => e = .returned (.agg #[.string fdRow, .string fdGoal]) ∧ Below w.heap.size w w' := by
  go_enter Try.func5, Try.ntmps5
  go_wp2
  refine bodyPost_ret (v := .agg #[.string fdRow, .string fdGoal]) (by simp [results, Try.results5, go_sem, fdRow, fdGoal]) rfl ⟨rfl, ?_⟩
  exact (Below.refl _ _).alloc (Nat.le_refl _) _
theorem implFirstDesk_any (w : World) : Calls Try.prog 6 #[] w fun e w' => e = .returned (.agg #[.string fdRow, .string fdGoal]) ∧ Below w.heap.size w w' := by
  go_enter Try.func6, Try.ntmps6
  go_wp2
  refine bodyPost_ret (v := .agg #[.string fdRow, .string fdGoal]) (by simp [results, Try.results6, go_sem, fdRow, fdGoal]) rfl ⟨rfl, ?_⟩
  exact (Below.refl _ _).alloc (Nat.le_refl _) _

set_option maxHeartbeats 1000000 in
theorem walkFnExactFirstDesk (w : World) : Calls Try.prog 3 #[] w fun e w' => e = .returned (.bool true) ∧ Below w.heap.size w w' := by
  have HS := Lib.hid (fun w => specFirstDesk_any w)
  have HI := Lib.hid (fun w => implFirstDesk_any w)
  obtain ⟨fa, hfa⟩ : ∃ x, x = fdRow := ⟨_, rfl⟩
  obtain ⟨fb, hfb⟩ : ∃ x, x = fdGoal := ⟨_, rfl⟩
  rw [← hfa, ← hfb] at HS HI
  clear hfa hfb
  have HE := Lib.hid (fun w => eqDesk_any fa fb w)
  go_enter Try.func3, Try.ntmps3
  go_wp2_with fail
  go_at_call 5
  refine (HS.out _).mono ?_
  rintro e w1 ⟨rfl, b1⟩
  have B1 : Hid (Below w.heap.size w (w1.alloc (.cells #[.string fa, .string fb] 23))) := Lib.hid (b1.alloc b1.size _)
  have K1 := Lib.hid (boxDesk_new w1 fa fb (t := 23))
  clear b1
  go_wp2_with fail
  obtain ⟨wa, hwa⟩ : ∃ wa, wa = w1.alloc (.cells #[.string fa, .string fb] 23) := ⟨_, rfl⟩
  obtain ⟨g1, hg1⟩ : ∃ g, g = w1.heap.size := ⟨_, rfl⟩
  rw [← hwa, ← hg1]
  rw [← hwa] at B1 K1
  rw [← hg1] at K1
  clear hwa hg1
  go_at_call 6
  refine (HI.out _).mono ?_
  rintro e w2 ⟨rfl, b2⟩
  have B2 : Hid (Below w.heap.size w (w2.alloc (.cells #[.string fa, .string fb] 23))) := Lib.hid ((B1.out.trans (b2.mono B1.out.size)).alloc (B1.out.trans (b2.mono B1.out.size)).size _)
  have K2 := Lib.hid (boxDesk_new w2 fa fb (t := 23))
  have K1 := Lib.hid ((K1.out.below b2).below ((Below.refl _ _).alloc (Nat.le_refl _) (.cells #[.string fa, .string fb] 23)))
  clear b2 B1
  obtain ⟨k0, k1⟩ := K1.out
  obtain ⟨j0, j1⟩ := K2.out
  go_wp2_with fail
  go_at_call 7
  refine (HE.out _).mono ?_
  rintro e w3 ⟨rfl, b3⟩
  have B3 := Lib.hid (B2.out.trans (b3.mono B2.out.size))
  clear b3
  go_wp2
  go_ret
  exact ⟨rfl, B3.out⟩

set_option maxHeartbeats 1000000 in
theorem walkFnExactIsDesk (a b : ByteArray) (hna : a.size ≤ maxLen) (hnb : b.size ≤ maxLen) (w : World) : Calls Try.prog 4 #[.agg #[.string a, .string b]] w fun e w' => e = .returned (.bool true) ∧ Below w.heap.size w w' := by
  have HZ := Lib.hid (fun w => szDesk_any a b w hna hnb)
  have HT := Lib.hid (fun w => toDesk_any a b w)
  have HS := Lib.hid (fun w => specIsDesk_any a b w)
  have HI := Lib.hid (fun w => implIsDesk_any a b w)
  obtain ⟨w0, hw0⟩ : ∃ w0, w0 = w.alloc (.cells #[.string a, .string b] 27) := ⟨_, rfl⟩
  obtain ⟨g0, hg0⟩ : ∃ g, g = w.heap.size := ⟨_, rfl⟩
  have HW : Hid (Below w.heap.size w w0) := Lib.hid (by rw [hw0]; exact (Below.refl _ _).alloc (Nat.le_refl _) _)
  have HK : Hid (BoxDesk w0 g0 a b) := Lib.hid (by rw [hw0, hg0]; exact boxDesk_new w a b)
  have HK : Hid (∀ w2, Below w0.heap.size w0 w2 → BoxDesk w2 g0 a b) := Lib.hid (fun w2 h => HK.out.below h)
  have B0 : Hid (Below w0.heap.size w0 w0) := Lib.hid (Below.refl _ _)
  clear hna hnb
  go_enter Try.func4, Try.ntmps4
  go_wp2_with fail
  rw [← hw0, ← hg0]
  clear hw0 hg0
  obtain ⟨k0, k1⟩ := HK.out w0 B0.out
  go_at_call 8
  refine (HZ.out w0).mono ?_
  rintro e w1 ⟨r, rfl, hr0, hr1, hr2, b1⟩
  have y1 := b1.size
  have B1 : Hid (Below w0.heap.size w0 w1) := B0.out.trans (b1.mono (by omega))
  clear B0 b1 k0 k1
  by_cases hneg : r < 0
  · clear hr2
    go_wp2
    go_ret
    exact ⟨rfl, HW.out.trans (B1.out.mono HW.out.size)⟩
  obtain ⟨hla, hlb⟩ := hr2 (by omega)
  have HS := Lib.hid (fun w => HS.out w hla hlb)
  have HI := Lib.hid (fun w => HI.out w hla hlb)
  clear hr2 hla hlb
  obtain ⟨t, ht⟩ : ∃ t, t = twoB a b := ⟨_, rfl⟩
  rw [← ht] at HS HI
  clear ht
  obtain ⟨k0, k1⟩ := HK.out w1 B1.out
  go_wp2_with fail
  go_at_call 10
  refine (HT.out w1).mono ?_
  rintro e w2 ⟨rfl, b2⟩
  have y2 := b2.size
  have B2 : Hid (Below w0.heap.size w0 w2) := B1.out.trans (b2.mono (by omega))
  clear B1 b2 k0 k1
  go_wp2_with fail
  go_at_call 9
  refine (HS.out w2).mono ?_
  rintro e w3 ⟨rfl, b3⟩
  have y3 := b3.size
  have B3 : Hid (Below w0.heap.size w0 w3) := B2.out.trans (b3.mono (by omega))
  clear B2 b3
  obtain ⟨k0, k1⟩ := HK.out w3 B3.out
  go_wp2_with fail
  go_at_call 10
  refine (HT.out w3).mono ?_
  rintro e w4 ⟨rfl, b4⟩
  have y4 := b4.size
  have B4 : Hid (Below w0.heap.size w0 w4) := B3.out.trans (b4.mono (by omega))
  clear B3 b4 k0 k1
  go_wp2_with fail
  go_at_call 11
  refine (HI.out w4).mono ?_
  rintro e w5 ⟨rfl, b5⟩
  have y5 := b5.size
  have B5 : Hid (Below w0.heap.size w0 w5) := B4.out.trans (b5.mono (by omega))
  clear B4 b5
  go_wp2
  go_ret
  exact ⟨rfl, HW.out.trans (B5.out.mono HW.out.size)⟩
end Go.Proofs.Ytagcopleeicmjaa
