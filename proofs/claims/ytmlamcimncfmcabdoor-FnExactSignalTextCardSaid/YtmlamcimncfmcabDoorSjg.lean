/- Chapter 8, plain: a signal is read out of its text by the program as by the model. -/
import Derived.Test.YtmlamcimncfmcabDoorSij
import Derived.Test.YtmlamcimncfmcabDoorTn
import Derived.Lib.ItoaNum
namespace Go.Proofs.YtmlamcimncfmcabDoor
open Go.ChangeShapes Go.WideShapes Go.ChangeAt Go.RowKit
open Si Dr Rd

namespace Si
theorem digits_eq : ∀ n : Nat, Lib.decDigits n = numL n := by
  intro n
  induction n using Nat.strongRecOn with
  | _ n ih =>
    rw [Lib.decDigits, numL]
    by_cases h : n < 10
    · rw [dif_pos h, dif_pos h]; rfl
    · rw [dif_neg h, dif_neg h, ih (n / 10) (by omega)]; rfl
/-- what Atoi returns beside its error -/
def atoiV (l : List UInt8) : Int := match Lib.atoiAll l with | .ok v => v | .syntax => 0 | .range => Lib.atoiSat l
def hasL (t : ByteArray) : Bool := (Lib.cut t.data.toList [60]).2.2
def fromT (t : ByteArray) : List UInt8 := if hasL t then (Lib.cut t.data.toList [60]).1 else (Lib.cut t.data.toList [62]).1
def slowT (t : ByteArray) : List UInt8 := if hasL t then (Lib.cut t.data.toList [60]).2.1 else (Lib.cut t.data.toList [62]).2.1
def progS (t : ByteArray) : RSignal := (atoiV (fromT t), hasL t, atoiV (slowT t))
def progB (t : ByteArray) : Bool := sigB 100 (progS t) && decide (sigT (progS t).1.toNat (progS t).2.1 (progS t).2.2.toNat = t)
theorem bytes_ext {a b : ByteArray} (h : a.data.toList = b.data.toList) : a = b := ByteArray.ext (Array.ext' h)
theorem data_append (a b : ByteArray) : (a ++ b).data.toList = a.data.toList ++ b.data.toList := by rw [ByteArray.data_append, Array.toList_append]
def sgnB (l : Bool) : UInt8 := if l then 60 else 62
theorem sig_data (f s : Nat) (l : Bool) : (sigT f l s).data.toList = numL f ++ sgnB l :: numL s := by
  unfold sigT
  rw [data_append, data_append]
  have e : (sgnT l).data.toList = [sgnB l] := by cases l <;> rfl
  rw [e]
  simp [txt]
theorem cut_none {b : UInt8} {x : List UInt8} (h : b ∉ x) : Lib.cut x [b] = (x, [], false) := by
  unfold Lib.cut
  rw [Lib.index_one, Tx.index_none' x h]
  rfl
theorem prog_sig {f s : Nat} (l : Bool) (h : OkS 100 f s) : progS (sigT f l s) = ((f : Int), l, (s : Int)) := by
  have h1 := h.f1
  have h2 := h.s2
  have hf : atoiV (numL f) = (f : Int) := by unfold atoiV; rw [Tx.atoi_num (n := f) (by omega)]
  have hs : atoiV (numL s) = (s : Int) := by unfold atoiV; rw [Tx.atoi_num (n := s) (by omega)]
  cases l with
  | true =>
    have e : Lib.cut (sigT f true s).data.toList [60] = (numL f, numL s, true) := by rw [sig_data]; exact Tx.cut_at (Tx.dg_mem (by decide) f)
    unfold progS fromT slowT hasL
    rw [e]
    show (atoiV (numL f), true, atoiV (numL s)) = _
    rw [hf, hs]
  | false =>
    have e0 : Lib.cut (sigT f false s).data.toList [60] = ((sigT f false s).data.toList, [], false) := cut_none (by
      rw [sig_data, List.mem_append, List.mem_cons]
      rintro (h | h | h)
      · exact Tx.dg_mem (by decide) _ h
      · exact absurd h (by decide)
      · exact Tx.dg_mem (by decide) _ h)
    have e : Lib.cut (sigT f false s).data.toList [62] = (numL f, numL s, true) := by rw [sig_data]; exact Tx.cut_at (Tx.dg_mem (by decide) f)
    unfold progS fromT slowT hasL
    rw [e0, e]
    show (atoiV (numL f), false, atoiV (numL s)) = _
    rw [hf, hs]
theorem size_data (t : ByteArray) : t.size = t.data.toList.length := Array.length_toList.symm
theorem byteN_data {t : ByteArray} {k : Nat} (h : k < t.data.toList.length) : byteN t k = (t.data.toList[k]).toNat := by
  unfold byteN
  rw [dif_pos (by rw [size_data]; exact h), Array.getElem_toList]; rfl
theorem sig_size {f s : Nat} (l : Bool) (h : OkS 100 f s) : (sigT f l s).size ≤ 6 := by
  have h1 := h.f1
  have h2 := h.s2
  rw [size_data, sig_data, List.length_append, List.length_cons]
  have := numL_len f 2 (by omega) (by omega)
  have := numL_len s 2 (by omega) (by omega)
  omega
/-- the model finds the sign -/
theorem good_sig {f s : Nat} (l : Bool) (h : OkS 100 f s) : soonTo (goodS (sigT f l s)) (sigT f l s).size = some (numL f).length ∧ candS (sigT f l s) (numL f).length = ((f : Int), l, (s : Int)) := by
  have h1 := h.f1
  have h2 := h.s2
  have hsz : (sigT f l s).size = (numL f).length + (1 + (numL s).length) := by rw [size_data, sig_data, List.length_append, List.length_cons]; omega
  have hlt : (numL f).length < (sigT f l s).data.toList.length := by rw [← size_data, hsz]; omega
  have hb : byteN (sigT f l s) (numL f).length = (sgnB l).toNat := by
    rw [byteN_data hlt]
    congr 1
    refine List.getElem_eq_iff hlt |>.2 ?_
    rw [sig_data, List.getElem?_append_right (Nat.le_refl _), Nat.sub_self]; rfl
  have e1 : (sigT f l s).extract 0 (numL f).length = txt (numL f) := bytes_ext (by
    rw [Tx.extract_list, sig_data, List.take_left, List.drop_zero]; simp [txt])
  have e2 : (sigT f l s).extract ((numL f).length + 1) (sigT f l s).size = txt (numL s) := bytes_ext (by
    rw [Tx.extract_list, List.take_of_length_le (by rw [size_data]; exact Nat.le_refl _), sig_data]
    rw [show numL f ++ sgnB l :: numL s = (numL f ++ [sgnB l]) ++ numL s by simp, List.drop_left' (by simp)]; simp [txt])
  have hc : candS (sigT f l s) (numL f).length = ((f : Int), l, (s : Int)) := by
    unfold candS
    rw [e1, e2, hb, Tx.readZ_num (n := f) (by omega), Tx.readZ_num (n := s) (by omega)]
    cases l <;> rfl
  refine ⟨soonTo_hit (fun j hj => ?_) ?_ (by rw [size_data]; exact hlt), hc⟩
  · have hj2 : j < (sigT f l s).data.toList.length := by omega
    have hm : (sigT f l s).data.toList[j] ∈ numL f := by
      have : (sigT f l s).data.toList[j] = (numL f)[j] := by
        refine List.getElem_eq_iff hj2 |>.2 ?_
        rw [sig_data, List.getElem?_append_left hj, List.getElem?_eq_getElem hj]
      rw [this]; exact List.getElem_mem hj
    have hd := Tx.num_digits f _ hm
    unfold goodS
    rw [byteN_data hj2, decide_eq_false (by omega), decide_eq_false (by omega)]; rfl
  · unfold goodS fitS
    have h4 : sigB 100 ((f : Int), l, (s : Int)) = true := sig_of (n := 100) l h
    rw [hc, hb, h4]
    have e3 : (decide ((sgnB l).toNat = 60) || decide ((sgnB l).toNat = 62)) = true := by cases l <;> rfl
    rw [e3]
    simp
theorem good_is {t : ByteArray} {k : Nat} (h : goodS t k = true) : ∃ (f s : Nat) (l : Bool), OkS 100 f s ∧ t = sigT f l s := by
  unfold goodS fitS at h
  rw [Bool.and_eq_true, Bool.and_eq_true] at h
  obtain ⟨N, f, s, hN, hp, hg⟩ := sig_nat h.2.1
  obtain rfl : N = 100 := by omega
  exact ⟨f, s, (candS t k).2.1, hg, by have := of_decide_eq_true h.2.2; rw [hp] at this; exact this.symm⟩
theorem prog_is {t : ByteArray} (h : progB t = true) : ∃ (f s : Nat) (l : Bool), OkS 100 f s ∧ t = sigT f l s := by
  unfold progB at h
  rw [Bool.and_eq_true] at h
  obtain ⟨N, f, s, hN, hp, hg⟩ := sig_nat h.1
  obtain rfl : N = 100 := by omega
  exact ⟨f, s, (progS t).2.1, hg, by have := of_decide_eq_true h.2; rw [hp] at this; exact this.symm⟩
theorem prog_of {f s : Nat} (l : Bool) (h : OkS 100 f s) : progB (sigT f l s) = true := by
  unfold progB
  have h4 : sigB 100 ((f : Int), l, (s : Int)) = true := sig_of (n := 100) l h
  rw [prog_sig l h, h4]
  simp
theorem soon_some {p : Nat → Bool} {n k : Nat} (h : soonTo p n = some k) : p k = true := by
  unfold soonTo at h
  exact List.find?_some h
/-- the program reads as the model does -/
theorem parse_is (t : ByteArray) : outParseSignal_0 t = (if progB t then progS t else zSignal) ∧ outParseSignal_1 t = progB t := by
  unfold outParseSignal_0 outParseSignal_1
  rcases hb : progB t with _ | _
  · have hn : soonTo (goodS t) t.size = none := by
      rcases e : soonTo (goodS t) t.size with _ | k
      · rfl
      · obtain ⟨f, s, l, hg, rfl⟩ := good_is (soon_some e)
        rw [prog_of l hg] at hb; cases hb
    rw [hn]
    refine ⟨?_, by simp⟩
    split <;> rfl
  · obtain ⟨f, s, l, hg, rfl⟩ := prog_is hb
    obtain ⟨h1, h2⟩ := good_sig l hg
    rw [h1, decide_eq_true (sig_size l hg), prog_sig l hg]
    exact ⟨h2, rfl⟩
end Si

end Go.Proofs.YtmlamcimncfmcabDoor
