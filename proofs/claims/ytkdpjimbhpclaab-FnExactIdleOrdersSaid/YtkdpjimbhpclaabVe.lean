/- Chapter 7, the program: isOrdered, areOrdered, isOrderedCount, isWide; differences. -/
import Derived.Test.YtkdpjimbhpclaabVd
import Derived.Test.YtkdpjimbhpclaabTp
namespace Go.Proofs.Ytkdpjimbhpclaab
open Go.ChangeShapes Go.WideShapes Go.ChangeAt Go.RowKit
open Rx Od Ed

theorem isOrdered_p (s : ByteArray) (w : World) (hs : s.size ≤ 1048576) : Calls Try.prog 58 #[.string s] w fun e w' => e = .returned (.bool (ordB s)) ∧ w = w' := by
  have HG := Lib.hid (Tp.isRow_any s w (by unfold maxLen; omega))
  by_cases h40 : s.size ≤ 40
  · have H0 : Hid (ordB s = goodB s) := Lib.hid (by unfold ordB; rw [decide_eq_true h40, Bool.and_true])
    have i1 : (s.size : Int) ≤ 40 := by omega
    clear h40
    go_enter Try.func58, Try.ntmps58
    go_wp2_with (go_at_call 77; refine HG.out.mono ?_; rintro e w' ⟨rfl, rfl⟩)
    go_ret
    exact ⟨ret_bool H0.out.symm, rfl⟩
  · have H0 : Hid (ordB s = false) := Lib.hid (by unfold ordB; rw [decide_eq_false h40, Bool.and_false])
    have i1 : ¬ (s.size : Int) ≤ 40 := by omega
    clear h40
    go_enter Try.func58, Try.ntmps58
    go_wp2
    go_ret
    exact ⟨ret_bool H0.out.symm, rfl⟩

theorem areOrdered_p (a b : ByteArray) (w : World) (ha : a.size ≤ 1048576) (hb : b.size ≤ 1048576) : Calls Try.prog 36 #[.string a, .string b] w fun e w' => e = .returned (.bool (twoB a b)) ∧ w = w' := by
  have HG := Lib.hid (isOrdered_p a w ha)
  have HH := Lib.hid (isOrdered_p b w hb)
  rcases h1 : ordB a with _ | _
  · have H0 : Hid (twoB a b = false) := Lib.hid (by unfold twoB; rw [h1]; rfl)
    rw [h1] at HG
    clear h1
    go_enter Try.func36, Try.ntmps36
    go_wp2_with (go_at_call 58; refine HG.out.mono ?_; rintro e w' ⟨rfl, rfl⟩)
    go_ret
    exact ⟨ret_bool H0.out.symm, rfl⟩
  · rw [h1] at HG
    rcases h2 : ordB b with _ | _
    · have H0 : Hid (twoB a b = false) := Lib.hid (by unfold twoB; rw [h1, h2]; rfl)
      rw [h2] at HH
      clear h1 h2
      go_enter Try.func36, Try.ntmps36
      go_wp2_with fail
      go_at_call 58
      refine HG.out.mono ?_
      rintro e w' ⟨rfl, rfl⟩
      go_wp2_with (go_at_call 58; refine HH.out.mono ?_; rintro e w' ⟨rfl, rfl⟩)
      go_ret
      exact ⟨ret_bool H0.out.symm, rfl⟩
    · have H0 : Hid (twoB a b = decide (a.size = b.size)) := Lib.hid (by unfold twoB; rw [h1, h2]; rfl)
      rw [h2] at HH
      have hq : ((a.size : Int) == (b.size : Int)) = decide (a.size = b.size) := by
        by_cases e : a.size = b.size
        · rw [decide_eq_true e, beq_iff_eq]; omega
        · rw [decide_eq_false e, beq_eq_false_iff_ne]; omega
      clear h1 h2
      go_enter Try.func36, Try.ntmps36
      go_wp2_with fail
      go_at_call 58
      refine HG.out.mono ?_
      rintro e w' ⟨rfl, rfl⟩
      go_wp2_with fail
      go_at_call 58
      refine HH.out.mono ?_
      rintro e w' ⟨rfl, rfl⟩
      go_wp2
      go_ret
      exact ⟨ret_bool H0.out.symm, rfl⟩

theorem isOrderedCount_p (n : Int) (w : World) : Calls Try.prog 42 #[.int .i64 n] w fun e w' => e = .returned (.bool (inB n 1 40)) ∧ w = w' := by
  by_cases h1 : 1 ≤ n
  · go_enter Try.func42, Try.ntmps42
    go_wp2
    go_ret
    exact ⟨ret_bool (by unfold inB; exact decide_eq_decide.2 (by omega)), rfl⟩
  · go_enter Try.func42, Try.ntmps42
    go_wp2
    go_ret
    exact ⟨ret_bool (inB_no (by omega)).symm, rfl⟩
theorem isWide_p (n wd : Int) (w : World) : Calls Try.prog 52 #[.int .i64 n, .int .i64 wd] w fun e w' => e = .returned (.bool (inB wd 1 n)) ∧ w = w' := by
  by_cases h1 : 1 ≤ wd
  · go_enter Try.func52, Try.ntmps52
    go_wp2
    go_ret
    exact ⟨ret_bool (by unfold inB; exact decide_eq_decide.2 (by omega)), rfl⟩
  · go_enter Try.func52, Try.ntmps52
    go_wp2
    go_ret
    exact ⟨ret_bool (inB_no (by omega)).symm, rfl⟩

set_option maxRecDepth 20000 in
theorem differences_p (w : World) (l m : List Bool) (hl : l.length ≤ 40) (hm : m.length = l.length) :
    Calls Try.prog 59 #[.string (Rw.str l), .string (Rw.str m)] w fun e w' => e = .returned (.map (some w.heap.size)) ∧ Fst w' w.heap.size 100 (edS (dif l m)) ∧ Below w.heap.size w w' := by
  obtain ⟨s, hs⟩ : ∃ s, s = Rw.str l := ⟨_, rfl⟩
  obtain ⟨t, ht⟩ : ∃ t, t = Rw.str m := ⟨_, rfl⟩
  have hsz : s.size = l.length := by rw [hs, Rw.size_str]
  have htz : t.size = s.size := by rw [ht, Rw.size_str, hm, hsz]
  have HS := Lib.hid hs
  have HT := Lib.hid ht
  have HSZ := Lib.hid hsz
  have HTZ := Lib.hid htz
  have HD : Hid (∀ k, (h1 : k < s.size) → (h2 : k < t.size) → (((s[k]).toNat : Int) != ((t[k]).toNat : Int)) = difB l m k) := Lib.hid (fun k h1 h2 => by rw [byte_dif HS.out HT.out k h1 h2]; unfold difB; rw [decide_eq_true (by omega), Bool.true_and])
  have HGR := Lib.hid (fun w2 N d A => giveRun_any w2 w.heap.size N d A A)
  rw [← hs, ← ht]
  have hs40 : s.size ≤ 40 := by omega
  have H0 : Hid (Fst (w.alloc (.map #[] 0)) w.heap.size 0 (edS (difTo l m 0))) := Lib.hid ((Fst.made w).congr fun x => by rw [difTo_zero, edS_zeros])
  have hmm := @run_makeMap Try.prog
  clear hs ht hsz htz hl hm
  go_enter Try.func59, Try.ntmps59
  go_wp2
  clear hmm
  go_loopw [10] (fun i wr => ∃ k : Nat, k ≤ s.size ∧ i = .int .i64 (k : Int) ∧ Hid (Fst wr w.heap.size (2 * k) (edS (difTo l m k))) ∧ Hid (Below w.heap.size w wr)) (fun i _ => s.size - (intOf i).toNat)
  case atStart => exact ⟨0, Nat.zero_le _, rfl, H0, Lib.hid ((Below.refl _ _).alloc (Nat.le_refl _) _)⟩
  case round =>
    obtain ⟨k, hk, rfl, HF, HB⟩ := hrel
    have hbs := HB.out.size
    by_cases hlt : k < s.size
    · have htk : k < t.size := by rw [HTZ.out]; exact hlt
      have g1 := HD.out k hlt htk
      have i1 : (0 : Int) ≤ (k : Int) := by omega
      have i2 : (k : Int) < (s.size : Int) := by omega
      have i3 : (k : Int) < (t.size : Int) := by omega
      rcases hb : difB l m k with _ | _
      · rw [hb] at g1
        have HE := Lib.hid (difTo_stay l m k hb)
        clear hb
        go_wp2_with fail
        go_quiet (fail)
        go_wp2
        exact ⟨⟨k + 1, by omega, by go_num, Lib.hid (by rw [HE.out]; exact (HF.out.drew _).mono (by omega)), Lib.hid (below_drewN HB.out _)⟩, by simp [intOf]; omega⟩
      · rw [hb] at g1
        have HE := Lib.hid (difTo_step l m k (by have := HSZ.out; omega) hb)
        have hbl := HF.out.lt
        have HC := Lib.hid (fun n => HGR.out (wr.drewN n) (2 * k) (difTo l m k) k (HF.out.drew n) (by omega) (Nat.le_refl _) (by rw [length_difTo]; have := HSZ.out; omega) (by rw [length_difTo]; have := HSZ.out; omega))
        clear hb
        go_wp2_with fail
        go_quiet (fail)
        go_wp2_with fail
        go_at_call 60
        refine (HC.out _).mono ?_
        rintro e w2 ⟨rfl, h2, k2⟩
        have HF2 := Lib.hid h2
        have HB2 : Hid (Below w.heap.size w w2) := Lib.hid (grownBy_below (below_drewN HB.out _) k2 (Nat.le_refl _) (Nat.le_refl _))
        clear h2 k2
        go_wp2
        exact ⟨⟨k + 1, by omega, by go_num, Lib.hid (by rw [HE.out]; exact HF2.out.mono (by omega)), HB2⟩, by simp [intOf]; omega⟩
    · obtain rfl : k = s.size := by omega
      have HE : Hid (difTo l m s.size = dif l m) := Lib.hid (by unfold dif; rw [HSZ.out])
      go_wp2
      go_ret
      exact ⟨rfl, by rw [← HE.out]; exact HF.out.mono (by omega), HB.out⟩

end Go.Proofs.Ytkdpjimbhpclaab
