
/- IsRow, rwGood, l1In, CountAtRest: contracts of the functions that look whether there is a row. -/
import Derived.WalkKit
import Derived.ProofKit
import Derived.OpenShut
import Derived.Outline
import Derived.Lib.Hide
import Derived.WalkLawsBesides
import Derived.Test.YtacchefmblfobaaText
import Derived.Test.YtacchefmblfobaaRows
namespace Go.Proofs.Ytacchefmblfobaa.C1
open Go.ChangeShapes Go.WideShapes Go.ChangeAt Go.RowKit

def signB (c : UInt8) : Bool := c == 60 || c == 62
def goodTo (s : ByteArray) (k : Nat) : Prop := ∀ j (h : j < s.size), j < k → s[j] = 60 ∨ s[j] = 62
def inB (n lo hi : Int) : Bool := decide (lo ≤ n ∧ n ≤ hi)
def goodB (s : ByteArray) : Bool := decide (1 ≤ s.size ∧ s.size ≤ 60) && s.data.toList.all signB

theorem goodB_row {s : ByteArray} (h : goodB s = true) : ∃ l : List Bool, s = Rw.str l ∧ 1 ≤ l.length ∧ l.length ≤ 60 := by
  unfold goodB at h
  simp only [Bool.and_eq_true, decide_eq_true_eq, List.all_eq_true] at h
  obtain ⟨⟨h1, h2⟩, h3⟩ := h
  obtain ⟨l, hl, hn⟩ := Rw.str_of s (fun i hi => by
    have := h3 (s[i]) (by
      have e : s[i]'hi = s.data.toList[i]'(by rw [Array.length_toList]; exact hi) := by rw [Array.getElem_toList]; rfl
      rw [e]; exact List.getElem_mem _)
    simpa [signB] using this)
  exact ⟨l, hl, by omega, by omega⟩
theorem goodB_str {l : List Bool} (h1 : 1 ≤ l.length) (h2 : l.length ≤ 60) : goodB (Rw.str l) = true := by
  unfold goodB
  simp only [Bool.and_eq_true, decide_eq_true_eq, List.all_eq_true, Rw.size_str]
  refine ⟨⟨h1, h2⟩, fun x hx => ?_⟩
  simp only [Rw.str, Rw.txt] at hx
  simp at hx
  rcases hx with ⟨_, h⟩ | ⟨_, h⟩ <;> subst h <;> rfl
theorem goodB_of (s : ByteArray) (h1 : 1 ≤ s.size) (h2 : s.size ≤ 60) (h : goodTo s s.size) : goodB s = true := by
  obtain ⟨l, rfl, hl⟩ := Rw.str_of s (fun i hi => h i hi hi)
  exact goodB_str (by omega) (by omega)
theorem goodB_not (s : ByteArray) (k : Nat) (hk : k < s.size) (h1 : s[k] ≠ 60) (h2 : s[k] ≠ 62) : goodB s = false := by
  unfold goodB
  rw [Bool.and_eq_false_iff]; right
  rw [List.all_eq_false]
  refine ⟨s[k], ?_, by simp [signB, h1, h2]⟩
  have e : s[k]'hk = s.data.toList[k]'(by rw [Array.length_toList]; exact hk) := by rw [Array.getElem_toList]; rfl
  rw [e]; exact List.getElem_mem _

set_option maxRecDepth 20000 in
set_option maxHeartbeats 400000 in
theorem l1In_any (n lo hi : Int) (w : World) :
    Calls Try.prog 89 #[.int .i64 n, .int .i64 lo, .int .i64 hi] w fun e w' => e = .returned (.bool (inB n lo hi)) ∧ w = w' := by
  by_cases h1 : lo ≤ n <;> by_cases h2 : n ≤ hi
  all_goals
    go_enter Try.func89, Try.ntmps89
    go_wp2
    go_ret
    exact ⟨by simp [inB, h1, h2], rfl⟩

theorem goodTo_zero (s : ByteArray) : goodTo s 0 := fun _ _ h => absurd h (Nat.not_lt_zero _)
theorem goodTo_succ {s : ByteArray} {k : Nat} (hk : k < s.size) (h : goodTo s k) (hs : s[k] = 60 ∨ s[k] = 62) : goodTo s (k + 1) := by
  intro j hj hlt
  by_cases e : j = k
  · subst e; exact hs
  · exact h j hj (by omega)
theorem ret_bool {a b : Bool} (h : a = b) : Ending.returned (.bool a) = .returned (.bool b) := by rw [h]
theorem ret_int {k : IntKind} {a b : Int} (h : a = b) : Ending.returned (.int k a) = .returned (.int k b) := by rw [h]
theorem ret_str {a b : ByteArray} (h : a = b) : Ending.returned (.string a) = .returned (.string b) := by rw [h]

set_option maxRecDepth 20000 in
set_option maxHeartbeats 400000 in
theorem rwGood_any (s : ByteArray) (w : World) (hs : s.size ≤ maxLen) :
    Calls Try.prog 65 #[.string s] w fun e w' => e = .returned (.bool (goodB s)) ∧ w = w' := by
  unfold maxLen at hs
  by_cases hin : inB s.size 1 60 = true
  · have hin' := hin
    unfold inB at hin'
    simp only [decide_eq_true_eq] at hin'
    go_enter Try.func65, Try.ntmps65
    go_wp2_with (go_at_call 89; refine (l1In_any _ _ _ _).mono ?_; rintro e w' ⟨rfl, rfl⟩)
    go_loop [3] (fun i => ∃ k : Nat, k ≤ s.size ∧ i = .int .i64 k ∧ goodTo s k) (fun i => s.size - (intOf i).toNat)
    case atStart => exact ⟨0, Nat.zero_le _, rfl, goodTo_zero s⟩
    case round =>
      obtain ⟨k, hk, rfl, hto⟩ := hrel
      have HT := Lib.hid hto
      clear hto
      by_cases hlt : k < s.size
      · by_cases h60 : s[k] = 60
        · have g1 : (s[k].toNat : Int) = 60 := by rw [h60]; rfl
          have g2 : (s[k].toNat : Int) ≤ 60 := by omega
          have g3 : 60 ≤ (s[k].toNat : Int) := by omega
          have H60 := goodTo_succ hlt HT.out (.inl h60)
          have H := Lib.hid H60
          clear g1 h60 H60
          go_wp2
          go_round
          case rel => exact ⟨k + 1, by omega, by go_num, H.out⟩
          case measure => simp [intOf]; omega
        · by_cases h62 : s[k] = 62
          · have g1 : (s[k].toNat : Int) = 62 := by rw [h62]; rfl
            have g2 : ((s[k].toNat : Int) != 60) = true := by simp; omega
            have g3 : ((s[k].toNat : Int) != 62) = false := by simp; omega
            have H60 := goodTo_succ hlt HT.out (.inr h62)
            have H := Lib.hid H60
            clear g1 h60 h62 H60
            go_wp2
            go_round
            case rel => exact ⟨k + 1, by omega, by go_num, H.out⟩
            case measure => simp [intOf]; omega
          · have g1 : ((s[k].toNat : Int) != 60) = true := by
              rw [bne_iff_ne]; intro e; exact h60 (UInt8.toNat_inj.1 (by rw [show (60 : UInt8).toNat = 60 from rfl]; omega))
            have g2 : ((s[k].toNat : Int) != 62) = true := by
              rw [bne_iff_ne]; intro e; exact h62 (UInt8.toNat_inj.1 (by rw [show (62 : UInt8).toNat = 62 from rfl]; omega))
            have H := Lib.hid (goodB_not s k hlt h60 h62)
            clear h60 h62
            go_wp2
            go_ret
            exact ⟨ret_bool H.out.symm, rfl⟩
      · have H := Lib.hid (goodB_of s (by omega) (by omega) (by rw [← (show k = s.size by omega)]; exact HT.out))
        go_wp2
        go_ret
        exact ⟨ret_bool H.out.symm, rfl⟩
  · have hf : inB s.size 1 60 = false := by simpa using hin
    have H : Hid (goodB s = false) := by
      have : ¬ (1 ≤ s.size ∧ s.size ≤ 60) := by
        intro h; apply hin; unfold inB; simp only [decide_eq_true_eq]; omega
      refine Lib.hid ?_
      unfold goodB; rw [decide_eq_false this]; rfl
    clear hin
    go_enter Try.func65, Try.ntmps65
    go_wp2_with (go_at_call 89; refine (l1In_any _ _ _ _).mono ?_; rintro e w' ⟨rfl, rfl⟩)
    go_ret
    exact ⟨ret_bool H.out.symm, rfl⟩

set_option maxRecDepth 20000 in
set_option maxHeartbeats 400000 in
theorem isRow_any (s : ByteArray) (w : World) (hs : s.size ≤ maxLen) :
    Calls Try.prog 28 #[.string s] w fun e w' => e = .returned (.bool (goodB s)) ∧ w = w' := by
  unfold maxLen at hs
  by_cases hin : 1 ≤ s.size ∧ s.size ≤ 60
  · obtain ⟨i1, i2⟩ := hin
    have b1 : decide ((s.size : Int) < 1) = false := by simp; omega
    have b2 : decide ((60 : Int) < s.size) = false := by simp; omega
    go_enter Try.func28, Try.ntmps28
    go_wp2
    go_loop [14] (fun i => ∃ k : Nat, k ≤ s.size ∧ i = .int .i64 k ∧ goodTo s k) (fun i => s.size - (intOf i).toNat)
    case atStart => exact ⟨0, Nat.zero_le _, rfl, goodTo_zero s⟩
    case round =>
      obtain ⟨k, hk, rfl, hto⟩ := hrel
      have HT := Lib.hid hto
      clear hto
      by_cases hlt : k < s.size
      · by_cases h60 : s[k] = 60
        · have g1 : (s[k].toNat : Int) = 60 := by rw [h60]; rfl
          have g2 : (s[k].toNat : Int) ≤ 60 := by omega
          have g3 : 60 ≤ (s[k].toNat : Int) := by omega
          have H60 := goodTo_succ hlt HT.out (.inl h60)
          have H := Lib.hid H60
          clear g1 h60 H60
          go_wp2
          go_round
          case rel => exact ⟨k + 1, by omega, by go_num, H.out⟩
          case measure => simp [intOf]; omega
        · by_cases h62 : s[k] = 62
          · have g1 : (s[k].toNat : Int) = 62 := by rw [h62]; rfl
            have g2 : ((s[k].toNat : Int) != 60) = true := by simp; omega
            have g3 : ((s[k].toNat : Int) != 62) = false := by simp; omega
            have H60 := goodTo_succ hlt HT.out (.inr h62)
            have H := Lib.hid H60
            clear g1 h60 h62 H60
            go_wp2
            go_round
            case rel => exact ⟨k + 1, by omega, by go_num, H.out⟩
            case measure => simp [intOf]; omega
          · have g1 : ((s[k].toNat : Int) != 60) = true := by
              rw [bne_iff_ne]; intro e; exact h60 (UInt8.toNat_inj.1 (by rw [show (60 : UInt8).toNat = 60 from rfl]; omega))
            have g2 : ((s[k].toNat : Int) != 62) = true := by
              rw [bne_iff_ne]; intro e; exact h62 (UInt8.toNat_inj.1 (by rw [show (62 : UInt8).toNat = 62 from rfl]; omega))
            have H := Lib.hid (goodB_not s k hlt h60 h62)
            clear h60 h62
            go_wp2
            go_ret
            exact ⟨ret_bool H.out.symm, rfl⟩
      · have H := Lib.hid (goodB_of s (by omega) (by omega) (by rw [← (show k = s.size by omega)]; exact HT.out))
        go_wp2
        go_ret
        exact ⟨ret_bool H.out.symm, rfl⟩
  · have H : Hid (goodB s = false) := by
      refine Lib.hid ?_
      unfold goodB; rw [decide_eq_false hin]; rfl
    by_cases h1 : s.size < 1
    · have b1 : decide ((s.size : Int) < 1) = true := by simp; omega
      clear hin
      go_enter Try.func28, Try.ntmps28
      go_wp2
      go_ret
      exact ⟨ret_bool H.out.symm, rfl⟩
    · have b1 : decide ((s.size : Int) < 1) = false := by simp; omega
      have b2 : decide ((60 : Int) < s.size) = true := by simp; omega
      clear hin
      go_enter Try.func28, Try.ntmps28
      go_wp2
      go_ret
      exact ⟨ret_bool H.out.symm, rfl⟩

set_option maxRecDepth 20000 in
set_option maxHeartbeats 400000 in
theorem specIsRow_any (s : ByteArray) (w : World) (hs : s.size ≤ maxLen) :
    Calls Try.prog 29 #[.string s] w fun e w' => e = .returned (.bool (goodB s)) ∧ w = w' := by
  go_enter Try.func29, Try.ntmps29
  go_wp2_with (go_at_call 65; refine (rwGood_any _ _ hs).mono ?_; rintro e w' ⟨rfl, rfl⟩)
  go_ret
  exact ⟨rfl, rfl⟩

end Go.Proofs.Ytacchefmblfobaa.C1
