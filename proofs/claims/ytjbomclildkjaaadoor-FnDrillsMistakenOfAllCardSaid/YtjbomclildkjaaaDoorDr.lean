/- Chapter 4: plain facts on words and facings. Nothing of the program. -/
import Derived.WalkKit
namespace Go.Proofs.YtjbomclildkjaaaDoor
namespace Dr

/-- the sign of a command that turns so far -/
def sg (t : Nat) : UInt8 := if t = 0 then 83 else if t = 1 then 82 else if t = 2 then 65 else 76
/-- how far a sign turns to the right, -1 if it is none -/
def turnI (z : Int) : Int := if z = 83 then 0 else if z = 82 then 1 else if z = 65 then 2 else if z = 76 then 3 else -1
def dg (f : Nat) : UInt8 := UInt8.ofNat (48 + f)
def txt (l : List UInt8) : ByteArray := ⟨l.toArray⟩
def word (ts : List Nat) : ByteArray := txt (ts.map sg)
def face (fs : List Nat) : ByteArray := txt (fs.map dg)
@[simp] theorem size_txt (l : List UInt8) : (txt l).size = l.length := by simp [txt, ByteArray.size]
theorem txt_get (l : List UInt8) (i : Nat) (h : i < (txt l).size) : (txt l)[i] = l.getD i 0 := by
  have h' : i < l.length := by simpa using h
  show (txt l).data[i]'h = _
  simp [txt, List.getD_eq_getElem?_getD, h']
theorem txt_append (a b : List UInt8) : txt a ++ txt b = txt (a ++ b) := by
  apply ByteArray.ext
  simp [txt, ByteArray.data_append]
theorem txt_all (s : ByteArray) : s = txt s.data.toList := by
  apply ByteArray.ext
  simp [txt]
theorem size_word (ts : List Nat) : (word ts).size = ts.length := by simp [word]
theorem size_face (fs : List Nat) : (face fs).size = fs.length := by simp [face]
theorem getD_mapZ (f : Nat → UInt8) (l : List Nat) (i : Nat) (h : i < l.length) : (l.map f).getD i 0 = f (l.getD i 0) := by simp [List.getD_eq_getElem?_getD, h]
theorem sg_turn {t : Nat} (h : t < 4) : turnI ((sg t).toNat : Int) = (t : Int) := by
  match t, h with
  | 0, _ => rfl
  | 1, _ => rfl
  | 2, _ => rfl
  | 3, _ => rfl
theorem turn_sg {b : UInt8} (h : 0 ≤ turnI (b.toNat : Int)) : ∃ t : Nat, t < 4 ∧ b = sg t := by
  unfold turnI at h
  have e : ∀ c : UInt8, (b.toNat : Int) = (c.toNat : Int) → b = c := fun c hc => UInt8.toNat_inj.1 (by omega)
  by_cases h1 : (b.toNat : Int) = 83
  · exact ⟨0, by omega, e 83 h1⟩
  · by_cases h2 : (b.toNat : Int) = 82
    · exact ⟨1, by omega, e 82 h2⟩
    · by_cases h3 : (b.toNat : Int) = 65
      · exact ⟨2, by omega, e 65 h3⟩
      · by_cases h4 : (b.toNat : Int) = 76
        · exact ⟨3, by omega, e 76 h4⟩
        · rw [if_neg h1, if_neg h2, if_neg h3, if_neg h4] at h; omega
theorem dg_nat {f : Nat} (h : f < 10) : ((dg f).toNat : Int) = 48 + (f : Int) := by
  unfold dg
  rw [UInt8.toNat_ofNat']
  omega
theorem dg_of {b : UInt8} (h1 : 48 ≤ (b.toNat : Int)) (h2 : (b.toNat : Int) ≤ 57) : ∃ f : Nat, f < 10 ∧ f = b.toNat - 48 ∧ b = dg f := by
  refine ⟨b.toNat - 48, by omega, rfl, UInt8.toNat_inj.1 ?_⟩
  unfold dg
  rw [UInt8.toNat_ofNat']
  omega
/-- a list all of whose bytes are signs is a word -/
theorem map_of {p : UInt8 → Nat → Prop} {f : Nat → UInt8} : ∀ l : List UInt8, (∀ b ∈ l, ∃ t, p b t ∧ b = f t) → ∃ ts : List Nat, l = ts.map f ∧ ts.length = l.length ∧ ∀ t ∈ ts, ∃ b ∈ l, p b t
  | [], _ => ⟨[], rfl, rfl, fun t h => by simp at h⟩
  | b :: l, h => by
    obtain ⟨t, h1, h2⟩ := h b (by simp)
    obtain ⟨ts, h3, h4, h5⟩ := map_of l fun c hc => h c (by simp [hc])
    refine ⟨t :: ts, by rw [h2, h3]; rfl, by simp [h4], fun x hx => ?_⟩
    simp only [List.mem_cons] at hx
    rcases hx with rfl | hx
    · exact ⟨b, by simp, h1⟩
    · obtain ⟨c, hc, hp⟩ := h5 x hx; exact ⟨c, by simp [hc], hp⟩
def wordB (s : ByteArray) : Bool := decide (s.size ≤ 60) && s.data.toList.all fun b => decide (0 ≤ turnI (b.toNat : Int))
def faceB (s : ByteArray) : Bool := decide (1 ≤ s.size ∧ s.size ≤ 30) && s.data.toList.all fun b => decide (48 ≤ (b.toNat : Int) ∧ (b.toNat : Int) ≤ 51)
theorem word_of {s : ByteArray} (h : wordB s = true) : ∃ ts : List Nat, s = word ts ∧ ts.length ≤ 60 ∧ ∀ t ∈ ts, t < 4 := by
  unfold wordB at h
  rw [Bool.and_eq_true, List.all_eq_true] at h
  have h1 := of_decide_eq_true h.1
  obtain ⟨ts, h3, h4, h5⟩ := map_of (p := fun _ t => t < 4) (f := sg) s.data.toList fun b hb => turn_sg (of_decide_eq_true (h.2 b hb))
  refine ⟨ts, by rw [txt_all s, h3]; rfl, by rw [h4, Array.length_toList]; exact h1, fun t ht => ?_⟩
  obtain ⟨_, _, h6⟩ := h5 t ht
  exact h6
theorem face_of {s : ByteArray} (h : faceB s = true) : ∃ fs : List Nat, s = face fs ∧ 1 ≤ fs.length ∧ fs.length ≤ 30 ∧ ∀ t ∈ fs, t < 4 := by
  unfold faceB at h
  rw [Bool.and_eq_true, List.all_eq_true] at h
  have h1 := of_decide_eq_true h.1
  obtain ⟨ts, h3, h4, h5⟩ := map_of (p := fun _ t => t < 4) (f := dg) s.data.toList fun b hb => by
    have := of_decide_eq_true (h.2 b hb)
    obtain ⟨f, _, h2, h3⟩ := dg_of (b := b) (by omega) (by omega)
    exact ⟨f, by omega, h3⟩
  refine ⟨ts, by rw [txt_all s, h3]; rfl, by rw [h4, Array.length_toList]; exact h1.1, by rw [h4, Array.length_toList]; exact h1.2, fun t ht => ?_⟩
  obtain ⟨_, _, h6⟩ := h5 t ht
  exact h6
/-- as far as k, all are signs -/
def eachTo (p : UInt8 → Bool) (s : ByteArray) (k : Nat) : Prop := ∀ j, (h : j < s.size) → j < k → p s[j] = true
theorem each_to {p : UInt8 → Bool} {s : ByteArray} (h : eachTo p s s.size) : s.data.toList.all p = true := by
  rw [List.all_eq_true]
  intro b hb
  obtain ⟨j, hj, rfl⟩ := List.getElem_of_mem hb
  have hj' : j < s.size := by rw [Array.length_toList] at hj; exact hj
  have := h j hj' hj'
  rw [Array.getElem_toList]
  exact this
theorem each_not {p : UInt8 → Bool} {s : ByteArray} {k : Nat} (hk : k < s.size) (h : p s[k] = false) : s.data.toList.all p = false := by
  rw [List.all_eq_false]
  refine ⟨s[k], ?_, by rw [h]; simp⟩
  have e : s[k]'hk = s.data.toList[k]'(by rw [Array.length_toList]; exact hk) := by rw [Array.getElem_toList]; rfl
  rw [e]; exact List.getElem_mem _
theorem eachTo_succ {p : UInt8 → Bool} {s : ByteArray} {k : Nat} (hk : k < s.size) (h : eachTo p s k) (hp : p s[k] = true) : eachTo p s (k + 1) := by
  intro j hj hlt
  by_cases e : j = k
  · subst e; exact hp
  · exact h j hj (by omega)
/-- the turns of the first k signs -/
def sumTo (ts : List Nat) : Nat → Nat
  | 0 => 0
  | k + 1 => sumTo ts k + ts.getD k 0
def net (ts : List Nat) : Nat := sumTo ts ts.length % 4
theorem sumTo_le (ts : List Nat) (h : ∀ t ∈ ts, t < 4) : ∀ k, sumTo ts k ≤ 3 * k
  | 0 => Nat.le_refl _
  | k + 1 => by
    have := sumTo_le ts h k
    have h2 : ts.getD k 0 ≤ 3 := by
      by_cases hk : k < ts.length
      · simp only [List.getD_eq_getElem?_getD, List.getElem?_eq_getElem hk, Option.getD_some]; have := h _ (List.getElem_mem hk); omega
      · simp only [List.getD_eq_getElem?_getD, List.getElem?_eq_none (by omega : ts.length ≤ k), Option.getD_none]; omega
    rw [sumTo]; omega
theorem getD_lt {ts : List Nat} {b : Nat} (h : ∀ t ∈ ts, t < b) (hb : 0 < b) (k : Nat) : ts.getD k 0 < b := by
  by_cases hk : k < ts.length
  · simp only [List.getD_eq_getElem?_getD, List.getElem?_eq_getElem hk, Option.getD_some]; exact h _ (List.getElem_mem hk)
  · simp only [List.getD_eq_getElem?_getD, List.getElem?_eq_none (by omega : ts.length ≤ k), Option.getD_none]; exact hb

end Dr
end Go.Proofs.YtjbomclildkjaaaDoor
