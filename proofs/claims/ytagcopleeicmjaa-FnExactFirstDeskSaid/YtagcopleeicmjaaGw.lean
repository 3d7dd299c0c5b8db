/- Rows of soldiers beside lists of ints: rwGood, rwOther, rwMake of the model, with the world as it was. -/
import Derived.Test.YtagcopleeicmjaaHeSpec
import Derived.Test.YtagcopleeicmjaaIn
import Derived.Test.YtagcopleeicmjaaText
namespace Go.Proofs.Ytagcopleeicmjaa
open Go.ChangeShapes Go.WideShapes Go.ChangeAt Go.RowKit

namespace Rx
def signB (c : UInt8) : Bool := c == 60 || c == 62
def goodTo (s : ByteArray) (k : Nat) : Prop := ∀ j (h : j < s.size), j < k → s[j] = 60 ∨ s[j] = 62
def goodB (s : ByteArray) : Bool := decide (1 ≤ s.size ∧ s.size ≤ 60) && s.data.toList.all signB

theorem goodB_row {s : ByteArray} (h : goodB s = true) : ∃ l : List Bool, s = Rw.str l ∧ 1 ≤ l.length ∧ l.length ≤ 60 := by
  unfold goodB at h
  simp only [Bool.and_eq_true, decide_eq_true_eq, List.all_eq_true] at h
  obtain ⟨⟨h1, h2⟩, h3⟩ := h
  obtain ⟨l, hl, hn⟩ := Rw.str_of s (fun i hi => by
    have := h3 (s[i]) (by
      have e : s[i]'hi = s.data.toList[i]'(by rw [Array.length_toList]; exact hi) := by rw [Array.getElem_toList]; rfl
      rw [e]; exact List.getElem_mem _)
    simpa [signB] using this)
  exact ⟨l, hl, by omega, by omega⟩
theorem goodB_str {l : List Bool} (h1 : 1 ≤ l.length) (h2 : l.length ≤ 60) : goodB (Rw.str l) = true := by
  unfold goodB
  simp only [Bool.and_eq_true, decide_eq_true_eq, List.all_eq_true, Rw.size_str]
  refine ⟨⟨h1, h2⟩, fun x hx => ?_⟩
  simp only [Rw.str, Rw.txt] at hx
  simp at hx
  rcases hx with ⟨_, h⟩ | ⟨_, h⟩ <;> subst h <;> rfl
theorem goodB_of (s : ByteArray) (h1 : 1 ≤ s.size) (h2 : s.size ≤ 60) (h : goodTo s s.size) : goodB s = true := by
  obtain ⟨l, rfl, hl⟩ := Rw.str_of s (fun i hi => h i hi hi)
  exact goodB_str (by omega) (by omega)
theorem goodB_not (s : ByteArray) (k : Nat) (hk : k < s.size) (h1 : s[k] ≠ 60) (h2 : s[k] ≠ 62) : goodB s = false := by
  unfold goodB
  rw [Bool.and_eq_false_iff]; right
  rw [List.all_eq_false]
  refine ⟨s[k], ?_, by simp [signB, h1, h2]⟩
  have e : s[k]'hk = s.data.toList[k]'(by rw [Array.length_toList]; exact hk) := by rw [Array.getElem_toList]; rfl
  rw [e]; exact List.getElem_mem _

theorem goodTo_zero (s : ByteArray) : goodTo s 0 := fun _ _ h => absurd h (Nat.not_lt_zero _)
theorem goodTo_succ {s : ByteArray} {k : Nat} (hk : k < s.size) (h : goodTo s k) (hs : s[k] = 60 ∨ s[k] = 62) : goodTo s (k + 1) := by
  intro j hj hlt
  by_cases e : j = k
  · subst e; exact hs
  · exact h j hj (by omega)
theorem byteL {s : ByteArray} {l : List Bool} (hs : s = Rw.str l) (k : Nat) (hk : k < s.size) : (((s[k]).toNat : Int) == 60) = !l.getD k false := by
  subst hs
  rw [Rw.str_get]
  cases l.getD k false <;> rfl
theorem str_take {l : List Bool} {s : ByteArray} (hs : s = Rw.str l) (k : Nat) : s.extract 0 k = Rw.str (l.take k) := by subst hs; exact Rw.str_take l k
theorem str_dropS {l : List Bool} {s : ByteArray} (hs : s = Rw.str l) (k : Nat) : s.extract k s.size = Rw.str (l.drop k) := by subst hs; rw [Rw.size_str]; exact Rw.str_drop l k
end Rx
open Rx

set_option maxHeartbeats 400000 in
theorem rwGood_w (s : ByteArray) (w : World) (hs : s.size ≤ maxLen) :
    Calls Try.prog 18 #[.string s] w fun e w' => e = .returned (.bool (goodB s)) ∧ w = w' := by
  unfold maxLen at hs
  by_cases hin : inB s.size 1 60 = true
  · have hin' := hin
    unfold inB at hin'
    simp only [decide_eq_true_eq] at hin'
    go_enter Try.func18, Try.ntmps18
    go_wp2_with (go_at_call 19; refine (l1In_any _ _ _ _).mono ?_; rintro e w' ⟨rfl, rfl⟩)
    go_loop [3] (fun i => ∃ k : Nat, k ≤ s.size ∧ i = .int .i64 k ∧ goodTo s k) (fun i => s.size - (intOf i).toNat)
    case atStart => exact ⟨0, Nat.zero_le _, rfl, goodTo_zero s⟩
    case round =>
      obtain ⟨k, hk, rfl, hto⟩ := hrel
      have HT := Lib.hid hto
      clear hto
      by_cases hlt : k < s.size
      · by_cases h60 : s[k] = 60
        · have g1 : (s[k].toNat : Int) = 60 := by rw [h60]; rfl
          have g2 : (s[k].toNat : Int) ≤ 60 := by omega
          have g3 : 60 ≤ (s[k].toNat : Int) := by omega
          have H60 := goodTo_succ hlt HT.out (.inl h60)
          have H := Lib.hid H60
          clear g1 h60 H60
          go_wp2
          go_round
          case rel => exact ⟨k + 1, by omega, by go_num, H.out⟩
          case measure => simp [intOf]; omega
        · by_cases h62 : s[k] = 62
          · have g1 : (s[k].toNat : Int) = 62 := by rw [h62]; rfl
            have g2 : ((s[k].toNat : Int) != 60) = true := by simp; omega
            have g3 : ((s[k].toNat : Int) != 62) = false := by simp; omega
            have H60 := goodTo_succ hlt HT.out (.inr h62)
            have H := Lib.hid H60
            clear g1 h60 h62 H60
            go_wp2
            go_round
            case rel => exact ⟨k + 1, by omega, by go_num, H.out⟩
            case measure => simp [intOf]; omega
          · have g1 : ((s[k].toNat : Int) != 60) = true := by
              rw [bne_iff_ne]; intro e; exact h60 (UInt8.toNat_inj.1 (by rw [show (60 : UInt8).toNat = 60 from rfl]; omega))
            have g2 : ((s[k].toNat : Int) != 62) = true := by
              rw [bne_iff_ne]; intro e; exact h62 (UInt8.toNat_inj.1 (by rw [show (62 : UInt8).toNat = 62 from rfl]; omega))
            have H := Lib.hid (goodB_not s k hlt h60 h62)
            clear h60 h62
            go_wp2
            go_ret
            exact ⟨ret_bool H.out.symm, rfl⟩
      · have H := Lib.hid (goodB_of s (by omega) (by omega) (by rw [← (show k = s.size by omega)]; exact HT.out))
        go_wp2
        go_ret
        exact ⟨ret_bool H.out.symm, rfl⟩
  · have hf : inB s.size 1 60 = false := by simpa using hin
    have H : Hid (goodB s = false) := by
      have : ¬ (1 ≤ s.size ∧ s.size ≤ 60) := by
        intro h; apply hin; unfold inB; simp only [decide_eq_true_eq]; omega
      refine Lib.hid ?_
      unfold goodB; rw [decide_eq_false this]; rfl
    clear hin
    go_enter Try.func18, Try.ntmps18
    go_wp2_with (go_at_call 19; refine (l1In_any _ _ _ _).mono ?_; rintro e w' ⟨rfl, rfl⟩)
    go_ret
    exact ⟨ret_bool H.out.symm, rfl⟩




def p2w (n : Nat) : Nat := 2 ^ n
theorem p2w_le (n : Nat) (hn : n ≤ 60) : p2w n ≤ 1152921504606846976 := by
  have h : 2 ^ n ≤ 2 ^ 60 := Nat.pow_le_pow_right (by omega) hn
  have h3 : (2 : Nat) ^ 60 = 1152921504606846976 := by decide
  unfold p2w; omega
theorem p2w_pos (n : Nat) : 1 ≤ p2w n := Nat.one_le_two_pow
theorem p2w_wrap (n : Nat) (hn : n ≤ 60) : wrap64 ((2 : Int) ^ n) = (p2w n : Int) := by
  have h := p2w_le n hn
  have e : ((2 : Int) ^ n) = (p2w n : Int) := by unfold p2w; push_cast; rfl
  rw [e]
  exact IntWalk.wrap64_in _ (by omega)

end Go.Proofs.Ytagcopleeicmjaa
