/- Chapter 7, the model: odFirsts; FewestFirst, FirstsTo. -/
import Derived.Test.YtkdpjimbhpclaaaOda
import Derived.Test.YtkdpjimbhpclaaaItr
namespace Go.Proofs.Ytkdpjimbhpclaaa
open Go.ChangeShapes Go.WideShapes Go.ChangeAt Go.RowKit
open Rx Od

namespace Od
/-- whether soldier i looks differently in both -/
def difB (l m : List Bool) (i : Nat) : Bool := decide (i < l.length) && (l.getD i false != m.getD i false)
def firTo (l m : List Bool) : Nat → List Int
  | 0 => []
  | k + 1 => if difB l m k != difB l m (k + 1) then firTo l m k ++ [(k : Int) + 1] else firTo l m k
theorem length_firTo (l m : List Bool) : ∀ k, (firTo l m k).length ≤ k
  | 0 => Nat.le_refl _
  | k + 1 => by
    have := length_firTo l m k
    rw [firTo]
    split
    · rw [List.length_append, List.length_singleton]; omega
    · omega
theorem iterPos_w {w : World} {k : Nat} {s : ByteArray} {p : Nat} (h : w.heap[k]? = some (.stringIter s p)) : w.iterPos k = p := by unfold World.iterPos; rw [h]
theorem byte_dif {s t : ByteArray} {l m : List Bool} (hs : s = Rw.str l) (ht : t = Rw.str m) (k : Nat) (hk : k < s.size) (hk2 : k < t.size) : (((s[k]).toNat : Int) != ((t[k]).toNat : Int)) = (l.getD k false != m.getD k false) := by
  subst hs ht
  rw [Rw.str_get, Rw.str_get]
  cases l.getD k false <;> cases m.getD k false <;> rfl
theorem byte_low {s : ByteArray} {l : List Bool} (hs : s = Rw.str l) (k : Nat) (hk : k < s.size) : (s[k]).toNat < 128 := by
  subst hs
  rw [Rw.str_get]
  cases l.getD k false <;> decide
end Od

theorem Own.drewO {w : World} {B : Nat} {v : Value} {zs : List Int} (h : Own w B v zs) (n : Nat) : Own (w.drewN n) B v zs := h

set_option maxHeartbeats 1000000 in
theorem odFirsts_any (w : World) (l m : List Bool) (hl : l.length ≤ 40) (hm : m.length = l.length) :
    Calls Try.prog 51 #[.string (Rw.str l), .string (Rw.str m)] w fun e w' => ∃ v, e = .returned v ∧ Own w' w.heap.size v (firTo l m l.length) ∧ Below w.heap.size w w' := by
  obtain ⟨s, hs⟩ : ∃ s, s = Rw.str l := ⟨_, rfl⟩
  obtain ⟨t, ht⟩ : ∃ t, t = Rw.str m := ⟨_, rfl⟩
  have hsz : s.size = l.length := by rw [hs, Rw.size_str]
  have htz : t.size = s.size := by rw [ht, Rw.size_str, hm, hsz]
  have HS := Lib.hid hs
  have HT := Lib.hid ht
  have HSZ := Lib.hid hsz
  have HD : Hid (∀ k, (h1 : k < s.size) → (h2 : k < t.size) → (((s[k]).toNat : Int) != ((t[k]).toNat : Int)) = difB l m k) := Lib.hid (fun k h1 h2 => by rw [byte_dif HS.out HT.out k h1 h2]; unfold difB; rw [decide_eq_true (by omega), Bool.true_and])
  have HLW := Lib.hid (fun k hk => byte_low HS.out k hk)
  have hs40 : s.size ≤ 40 := by omega
  have HTZ := Lib.hid htz
  rw [← hs, ← ht, ← hsz]
  have HN : Hid (∀ k, ¬ k < s.size → difB l m k = false) := Lib.hid (fun k hk => by unfold difB; rw [decide_eq_false (by omega), Bool.false_and])
  clear hs ht hsz hl hm htz
  go_enter Try.func51, Try.ntmps51
  go_wp2
  go_loopw [5, 6] (fun v _ wr => ∃ k : Nat, k ≤ s.size ∧ Hid (Own wr w.heap.size v (firTo l m k)) ∧ Hid (wr.heap[w.heap.size]? = some (.stringIter s k)) ∧ Hid (Below w.heap.size w wr)) (fun _ _ wr => s.size - wr.iterPos w.heap.size)
  case atStart => exact ⟨0, Nat.zero_le _, Lib.hid (own_nil _ _), Lib.hid (World.iter_heap w s 0), Lib.hid (below_iterZ w s 0)⟩
  case round =>
    obtain ⟨k, hk, HO, HI, HW⟩ := hrel
    have hpos := iterPos_w HI.out
    by_cases hlt : k < s.size
    · have hnx : ∀ ty, (Instr.next (.pointer (some ⟨w.heap.size, 0, none⟩)) true ty).run Try.prog wr = _ := fun ty => Lib.run_next_ascii_at wr w.heap.size s k ty HI.out hlt (HLW.out k hlt)
      have HI2 := Lib.hid (Lib.iterAt_heap wr w.heap.size s k (k + 1) HI.out)
      have HW2 := Lib.hid (Lib.below_iterAt HW.out (k := w.heap.size) (Nat.le_refl _) s (k + 1))
      have HO2 := Lib.hid (HO.out.iterAtZ HI.out (k + 1))
      have hNI := Lib.hid (HO2.out.notIterZ HI2.out)
      obtain ⟨W, hWd⟩ : ∃ W, wr.iterAt w.heap.size s (k + 1) = W := ⟨_, rfl⟩
      rw [hWd] at hnx HI2 HW2 HO2
      have hltI : w.heap.size < W.heap.size := (Array.getElem?_eq_some_iff.1 HI2.out).1
      have HLT := Lib.hid hltI
      have hbl : w.heap.size ≤ W.heap.size := by omega
      have hul : (firTo l m k).length ≤ 1000000000 := by have := length_firTo l m k; omega
      have htk : k < t.size := by rw [HTZ.out]; exact hlt
      have g1 := HD.out k hlt htk
      have HF : Hid (firTo l m (k + 1) = if difB l m k != difB l m (k + 1) then firTo l m k ++ [(k : Int) + 1] else firTo l m k) := Lib.hid rfl
      obtain ⟨d1, hd1⟩ : ∃ d, d = difB l m k := ⟨_, rfl⟩
      rw [← hd1] at g1 HF
      have i1 : (0 : Int) ≤ (k : Int) := by omega
      have i2 : (k : Int) < (s.size : Int) := by omega
      have i3 : (k : Int) < (t.size : Int) := by omega
      clear hd1 hWd HO HI HW hltI
      by_cases hlt2 : k + 1 < s.size
      · have htk2 : k + 1 < t.size := by rw [HTZ.out]; exact hlt2
        have g2 := HD.out (k + 1) hlt2 htk2
        obtain ⟨d2, hd2⟩ : ∃ d, d = difB l m (k + 1) := ⟨_, rfl⟩
        rw [← hd2] at g2 HF
        have i4 : (k : Int) + 1 < (s.size : Int) := by omega
        have i5 : (k : Int) + 1 < (t.size : Int) := by omega
        have i6 : (0 : Int) ≤ (k : Int) + 1 := by omega
        have i7 : ((k : Int) + 1).toNat = k + 1 := by omega
        have b1 : decide ((k : Int) + 1 < (s.size : Int)) = true := decide_eq_true i4
        clear hd2
        cases d1
        · cases d2
          · have HS2 : Hid (firTo l m (k + 1) = firTo l m k) := Lib.hid (by rw [HF.out]; rfl)
            go_wp2_with fail
            go_quiet (fail)
            go_wp2_with fail
            go_quiet (fail)
            go_wp2
            exact ⟨⟨k + 1, by omega, Lib.hid (by rw [HS2.out]; exact HO2.out), HI2, Lib.hid (below_drewN HW2.out _)⟩, by show s.size - W.iterPos w.heap.size < _; rw [iterPos_w HI2.out, hpos]; omega⟩
          · have HS2 : Hid (firTo l m (k + 1) = firTo l m k ++ [(k : Int) + 1]) := Lib.hid (by rw [HF.out]; rfl)
            go_wp2_with fail
            go_quiet (fail)
            go_wp2_with fail
            go_quiet (fail)
            go_wp2_with (at_builtin; refine wpList_appW rfl _ _ rfl _ _ _ _ _ rfl rfl (HO2.out.drewO _) hbl hul ?_; intro v' w5 hO hB5 hG5; have HO5 : Hid (Own w5 w.heap.size v' (firTo l m (k + 1))) := Lib.hid (by rw [HS2.out]; exact hO); have HI5 := Lib.hid ((hG5.block w.heap.size (by simp; omega) hNI.out).trans ((Below.heap_alloc _ _ _ HLT.out).trans HI2.out)); have HB5 : Hid (Below w.heap.size w w5) := Lib.hid ((below_drewN HW2.out _).trans hB5); clear hO hB5 hG5)
            exact ⟨⟨k + 1, by omega, HO5, HI5, HB5⟩, by rw [iterPos_w HI5.out, hpos]; omega⟩
        · cases d2
          · have HS2 : Hid (firTo l m (k + 1) = firTo l m k ++ [(k : Int) + 1]) := Lib.hid (by rw [HF.out]; rfl)
            go_wp2_with fail
            go_quiet (fail)
            go_wp2_with fail
            go_quiet (fail)
            go_wp2_with (at_builtin; refine wpList_appW rfl _ _ rfl _ _ _ _ _ rfl rfl (HO2.out.drewO _) hbl hul ?_; intro v' w5 hO hB5 hG5; have HO5 : Hid (Own w5 w.heap.size v' (firTo l m (k + 1))) := Lib.hid (by rw [HS2.out]; exact hO); have HI5 := Lib.hid ((hG5.block w.heap.size (by simp; omega) hNI.out).trans ((Below.heap_alloc _ _ _ HLT.out).trans HI2.out)); have HB5 : Hid (Below w.heap.size w w5) := Lib.hid ((below_drewN HW2.out _).trans hB5); clear hO hB5 hG5)
            exact ⟨⟨k + 1, by omega, HO5, HI5, HB5⟩, by rw [iterPos_w HI5.out, hpos]; omega⟩
          · have HS2 : Hid (firTo l m (k + 1) = firTo l m k) := Lib.hid (by rw [HF.out]; rfl)
            go_wp2_with fail
            go_quiet (fail)
            go_wp2_with fail
            go_quiet (fail)
            go_wp2
            exact ⟨⟨k + 1, by omega, Lib.hid (by rw [HS2.out]; exact HO2.out), HI2, Lib.hid (below_drewN HW2.out _)⟩, by show s.size - W.iterPos w.heap.size < _; rw [iterPos_w HI2.out, hpos]; omega⟩
      · have g2 := HN.out (k + 1) hlt2
        obtain ⟨d2, hd2⟩ : ∃ d, d = difB l m (k + 1) := ⟨_, rfl⟩
        rw [← hd2] at g2 HF
        subst g2
        have i4 : ¬ (k : Int) + 1 < (s.size : Int) := by omega
        have b1 : decide ((k : Int) + 1 < (s.size : Int)) = false := decide_eq_false i4
        clear hd2
        cases d1
        · have HS2 : Hid (firTo l m (k + 1) = firTo l m k) := Lib.hid (by rw [HF.out]; rfl)
          go_wp2_with fail
          go_quiet (fail)
          go_wp2_with fail
          go_quiet (fail)
          go_wp2
          exact ⟨⟨k + 1, by omega, Lib.hid (by rw [HS2.out]; exact HO2.out), HI2, Lib.hid (below_drewN HW2.out _)⟩, by show s.size - W.iterPos w.heap.size < _; rw [iterPos_w HI2.out, hpos]; omega⟩
        · have HS2 : Hid (firTo l m (k + 1) = firTo l m k ++ [(k : Int) + 1]) := Lib.hid (by rw [HF.out]; rfl)
          go_wp2_with fail
          go_quiet (fail)
          go_wp2_with fail
          go_quiet (fail)
          go_wp2_with (at_builtin; refine wpList_appW rfl _ _ rfl _ _ _ _ _ rfl rfl (HO2.out.drewO _) hbl hul ?_; intro v' w5 hO hB5 hG5; have HO5 : Hid (Own w5 w.heap.size v' (firTo l m (k + 1))) := Lib.hid (by rw [HS2.out]; exact hO); have HI5 := Lib.hid ((hG5.block w.heap.size (by simp; omega) hNI.out).trans ((Below.heap_alloc _ _ _ HLT.out).trans HI2.out)); have HB5 : Hid (Below w.heap.size w w5) := Lib.hid ((below_drewN HW2.out _).trans hB5); clear hO hB5 hG5)
          exact ⟨⟨k + 1, by omega, HO5, HI5, HB5⟩, by rw [iterPos_w HI5.out, hpos]; omega⟩
    · obtain rfl : k = s.size := by omega
      have hnx : ∀ ty, (Instr.next (.pointer (some ⟨w.heap.size, 0, none⟩)) true ty).run Try.prog wr = _ := fun ty => Lib.run_next_end_at wr w.heap.size s s.size ty HI.out hlt
      clear hpos
      go_wp2
      go_ret
      exact ⟨_, rfl, HO.out, HW.out⟩

def outFirstsTo_0 (a b : ByteArray) : List Int := if twoB a b then firTo (rowOf a) (rowOf b) (rowOf a).length else []
def outFirstsTo_1 (a b : ByteArray) : Bool := twoB a b
theorem lenFirstsTo_0 (a b : ByteArray) (_ha : a.size ≤ 1048576) (_hb : b.size ≤ 1048576) : (outFirstsTo_0 a b).length ≤ 4611686018427387904 := by
  unfold outFirstsTo_0
  split
  · rename_i h
    obtain ⟨l, m, rfl, rfl, _, h3, _⟩ := two_rows h
    have := length_firTo (rowOf (Rw.str l)) (rowOf (Rw.str m)) (rowOf (Rw.str l)).length
    rw [rowOf_str] at this ⊢
    omega
  · simp
def outFewestFirst_0 (a b : ByteArray) : Int := if twoB a b then ((firTo (rowOf a) (rowOf b) (rowOf a).length).length : Nat) else 0
def outFewestFirst_1 (a b : ByteArray) : Bool := twoB a b

set_option maxHeartbeats 1000000 in
theorem specFirstsTo_any (w : World) (a b : ByteArray) (_wa : a.size ≤ maxLen) (_wb : b.size ≤ maxLen) (hla : a.size ≤ 1048576) (hlb : b.size ≤ 1048576) :
    Calls Try.prog 28 #[.string a, .string b] w fun e w' => ∃ v0, e = .returned (.tuple #[v0, .bool (outFirstsTo_1 a b)]) ∧ Own w' w.heap.size v0 (outFirstsTo_0 a b) ∧ Below w.heap.size w w' := by
  have HG := Lib.hid (odTwo_q a b w hla hlb)
  clear _wa _wb
  rcases h1 : twoB a b with _ | _
  · have H0 : Hid (outFirstsTo_0 a b = [] ∧ outFirstsTo_1 a b = false) := Lib.hid (by unfold outFirstsTo_0 outFirstsTo_1; rw [h1]; exact ⟨rfl, rfl⟩)
    rw [h1] at HG
    clear h1
    go_enter Try.func28, Try.ntmps28
    go_wp2_with (go_at_call 46; refine HG.out.mono ?_; rintro e w' ⟨rfl, rfl⟩)
    go_ret2
    exact ⟨_, by rw [H0.out.2]; exact rfl, by rw [H0.out.1]; exact own_nil _ _, Below.refl _ _⟩
  · obtain ⟨l, m, rfl, rfl, h2, h3, h4⟩ := two_rows h1
    have H0 : Hid (outFirstsTo_0 (Rw.str l) (Rw.str m) = firTo l m l.length ∧ outFirstsTo_1 (Rw.str l) (Rw.str m) = true) := Lib.hid (by unfold outFirstsTo_0 outFirstsTo_1; rw [h1, rowOf_str, rowOf_str]; exact ⟨rfl, rfl⟩)
    have HF := Lib.hid (odFirsts_any w l m h3 h4)
    obtain ⟨s, hs⟩ : ∃ s, s = Rw.str l := ⟨_, rfl⟩
    obtain ⟨t, ht⟩ : ∃ t, t = Rw.str m := ⟨_, rfl⟩
    rw [h1] at HG
    rw [← hs, ← ht] at HG HF H0 ⊢
    clear h1 hs ht hla hlb
    go_enter Try.func28, Try.ntmps28
    go_wp2_with fail
    go_at_call 46
    refine HG.out.mono ?_
    rintro e w' ⟨rfl, rfl⟩
    go_wp2_with fail
    go_at_call 51
    refine HF.out.mono ?_
    rintro e w2 ⟨v, rfl, o2, b2⟩
    have O2 := Lib.hid o2
    have B2 := Lib.hid b2
    skip
    clear o2 b2
    go_wp2
    go_ret2
    exact ⟨_, by rw [H0.out.2]; exact rfl, by rw [H0.out.1]; exact O2.out, B2.out⟩

set_option maxHeartbeats 1000000 in
theorem specFewestFirst_any (w : World) (a b : ByteArray) (_wa : a.size ≤ maxLen) (_wb : b.size ≤ maxLen) (hla : a.size ≤ 1048576) (hlb : b.size ≤ 1048576) :
    Calls Try.prog 26 #[.string a, .string b] w fun e w' => e = .returned (.tuple #[.int .i64 (outFewestFirst_0 a b), .bool (outFewestFirst_1 a b)]) ∧ Below w.heap.size w w' := by
  have HG := Lib.hid (odTwo_q a b w hla hlb)
  clear _wa _wb
  rcases h1 : twoB a b with _ | _
  · have H0 : Hid (outFewestFirst_0 a b = 0 ∧ outFewestFirst_1 a b = false) := Lib.hid (by unfold outFewestFirst_0 outFewestFirst_1; rw [h1]; exact ⟨rfl, rfl⟩)
    rw [h1] at HG
    clear h1
    go_enter Try.func26, Try.ntmps26
    go_wp2_with (go_at_call 46; refine HG.out.mono ?_; rintro e w' ⟨rfl, rfl⟩)
    go_ret2
    exact ⟨by rw [H0.out.1, H0.out.2]; exact rfl, Below.refl _ _⟩
  · obtain ⟨l, m, rfl, rfl, h2, h3, h4⟩ := two_rows h1
    have H0 : Hid (outFewestFirst_0 (Rw.str l) (Rw.str m) = ((firTo l m l.length).length : Nat) ∧ outFewestFirst_1 (Rw.str l) (Rw.str m) = true) := Lib.hid (by unfold outFewestFirst_0 outFewestFirst_1; rw [h1, rowOf_str, rowOf_str]; exact ⟨rfl, rfl⟩)
    have HF := Lib.hid (odFirsts_any w l m h3 h4)
    obtain ⟨s, hs⟩ : ∃ s, s = Rw.str l := ⟨_, rfl⟩
    obtain ⟨t, ht⟩ : ∃ t, t = Rw.str m := ⟨_, rfl⟩
    rw [h1] at HG
    rw [← hs, ← ht] at HG HF H0 ⊢
    clear h1 hs ht hla hlb
    go_enter Try.func26, Try.ntmps26
    go_wp2_with fail
    go_at_call 46
    refine HG.out.mono ?_
    rintro e w' ⟨rfl, rfl⟩
    go_wp2_with fail
    go_at_call 51
    refine HF.out.mono ?_
    rintro e w2 ⟨v, rfl, o2, b2⟩
    have O2 := Lib.hid o2
    have B2 := Lib.hid b2
    obtain ⟨ao, c, rfl⟩ := o2.any
    obtain ⟨n, hn⟩ : ∃ n, n = (firTo l m l.length).length := ⟨_, rfl⟩
    rw [← hn] at H0 ⊢
    clear hn O2
    clear o2 b2
    go_wp2
    go_ret2
    exact ⟨by rw [H0.out.1, H0.out.2]; exact rfl, B2.out⟩

end Go.Proofs.Ytkdpjimbhpclaaa
