/- Rows as texts, and their numbers: plain facts about byte strings and lists of Bool. Nothing of the program. -/
import Derived.WalkKit
import Derived.Test.YtacchefmblfobaaMath
namespace Go.Proofs.Ytacchefmblfobaa
namespace Rw

def sgn (b : Bool) : UInt8 := if b then 62 else 60
def txt (l : List Bool) : List UInt8 := l.map sgn
def str (l : List Bool) : ByteArray := ⟨(txt l).toArray⟩

@[simp] theorem size_str (l : List Bool) : (str l).size = l.length := by simp [str, txt, ByteArray.size]
theorem sgn_inj : ∀ {x y : Bool}, sgn x = sgn y → x = y := by
  intro x y; cases x <;> cases y <;> simp [sgn]
theorem str_inj {a b : List Bool} (h : str a = str b) : a = b := by
  unfold str at h
  injection h with h
  have h := congrArg Array.toList h
  simp only [txt] at h
  exact (List.map_inj_right (fun x y => sgn_inj)).1 h
theorem str_get (l : List Bool) (i : Nat) (h : i < (str l).size) : (str l)[i] = sgn (l.getD i false) := by
  have h' : i < l.length := by simpa using h
  show (str l).data[i]'h = _
  simp [str, txt, List.getD_eq_getElem?_getD, h']
theorem str_append (a b : List Bool) : str a ++ str b = str (a ++ b) := by
  apply ByteArray.ext
  simp [str, txt, ByteArray.data_append]
theorem str_take (l : List Bool) (i : Nat) : (str l).extract 0 i = str (l.take i) := by
  apply ByteArray.ext
  simp [str, txt, ByteArray.data_extract]
theorem str_drop (l : List Bool) (i : Nat) : (str l).extract i l.length = str (l.drop i) := by
  apply ByteArray.ext
  simp [str, txt, ByteArray.data_extract]
  rw [List.take_of_length_le (by simp)]

/-- a good text is that of a row -/
theorem str_of (s : ByteArray) (h : ∀ i (hi : i < s.size), s[i] = 60 ∨ s[i] = 62) : ∃ l, s = str l ∧ l.length = s.size := by
  refine ⟨s.data.toList.map (· == 62), ?_, (by show (s.data.toList.map _).length = s.data.size; rw [List.length_map, Array.length_toList])⟩
  apply ByteArray.ext
  apply Array.ext
  · show s.data.size = _
    simp only [str, txt, List.size_toArray, List.length_map, Array.length_toList]
  · intro i h1 h2
    have := h i h1
    simp only [str, txt, List.map_map, List.getElem_toArray, List.getElem_map, Function.comp_apply, Array.getElem_toList]
    have e : s[i]'h1 = s.data[i]'h1 := rfl
    rw [e] at this
    rcases this with h | h <;> rw [h] <;> rfl

def numberOf (l : List Bool) : Nat := l.foldl (fun n b => 2 * n + (if b then 1 else 0)) 0
theorem numberOf_snoc (l : List Bool) (b : Bool) : numberOf (l ++ [b]) = 2 * numberOf l + (if b then 1 else 0) := by
  simp [numberOf]
def make : Nat → Nat → List Bool
  | 0, _ => []
  | n + 1, k => make n (k / 2) ++ [k % 2 == 1]
@[simp] theorem length_make (n : Nat) : ∀ k, (make n k).length = n := by
  induction n with
  | zero => intro k; rfl
  | succ n ih => intro k; simp [make, ih]
theorem numberOf_make (n : Nat) : ∀ k, k < 2 ^ n → numberOf (make n k) = k := by
  induction n with
  | zero => intro k h; simp [make, numberOf]; omega
  | succ n ih =>
    intro k h
    rw [make, numberOf_snoc, ih (k / 2) (by rw [Nat.pow_succ] at h; omega)]
    by_cases hk : k % 2 = 1
    · simp [hk]; omega
    · have : k % 2 = 0 := by omega
      simp [this]; omega
theorem make_numberOf (n : Nat) : ∀ l : List Bool, l.length = n → make n (numberOf l) = l := by
  induction n with
  | zero => intro l h; rw [List.length_eq_zero_iff.1 h]; rfl
  | succ n ih =>
    intro l h
    have hne : l ≠ [] := by intro e; rw [e] at h; simp at h
    have hl := List.dropLast_concat_getLast hne
    rw [← hl, numberOf_snoc, make]
    have e1 : (2 * numberOf l.dropLast + (if l.getLast hne then 1 else 0)) / 2 = numberOf l.dropLast := by split <;> omega
    have e2 : ((2 * numberOf l.dropLast + (if l.getLast hne then 1 else 0)) % 2 == 1) = l.getLast hne := by
      cases l.getLast hne <;> simp <;> omega
    rw [e1, e2, ih _ (by simp [h])]
theorem numberOf_lt (l : List Bool) : numberOf l < 2 ^ l.length := by
  induction hn : l.length generalizing l with
  | zero => rw [List.length_eq_zero_iff.1 hn]; simp [numberOf]
  | succ n ih =>
    have hne : l ≠ [] := by intro e; rw [e] at hn; simp at hn
    have hl := List.dropLast_concat_getLast hne
    rw [← hl, numberOf_snoc]
    have := ih l.dropLast (by simp [hn])
    rw [Nat.pow_succ]
    split <;> omega
theorem numberOf_inj {a b : List Bool} (h : a.length = b.length) (e : numberOf a = numberOf b) : a = b := by
  rw [← make_numberOf _ a rfl, ← make_numberOf _ b rfl, e, h]

end Rw
end Go.Proofs.Ytacchefmblfobaa
