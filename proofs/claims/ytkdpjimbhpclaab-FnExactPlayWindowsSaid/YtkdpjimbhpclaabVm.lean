/- Chapter 7, the program, plain: lists of orders carried out one after the other, as those who are turned in the end. -/
import Derived.Test.YtkdpjimbhpclaabVl
namespace Go.Proofs.Ytkdpjimbhpclaab
open Go.ChangeShapes Go.WideShapes Go.ChangeAt Go.RowKit
open Rx Od Ed

namespace Ed
/-- who is turned behind the first k orders -/
def pendTo {α : Type} (z : α) (rn : α → Option (Nat × Nat)) (n : Nat) (zs : List α) : Nat → List Bool
  | 0 => zeros n
  | k + 1 => match rn (zs.getD k z) with
    | some r => turnTo (pendTo z rn n zs k) r.1 (r.2 + 1)
    | none => pendTo z rn n zs k
theorem length_pendTo {α : Type} (z : α) (rn : α → Option (Nat × Nat)) (n : Nat) (zs : List α) : ∀ k, (pendTo z rn n zs k).length = n
  | 0 => length_zeros n
  | k + 1 => by
    rw [pendTo]
    split
    · rw [length_turnTo]; exact length_pendTo z rn n zs k
    · exact length_pendTo z rn n zs k
theorem pendTo_yes {α : Type} {z : α} {rn : α → Option (Nat × Nat)} {n : Nat} {zs : List α} {k a c : Nat} (h : rn (zs.getD k z) = some (a, c)) : pendTo z rn n zs (k + 1) = turnTo (pendTo z rn n zs k) a (c + 1) := by
  rw [pendTo, h]
def okL {α : Type} (rn : α → Option (Nat × Nat)) (zs : List α) : Bool := zs.all fun x => (rn x).isSome
def playB {α : Type} (rn : α → Option (Nat × Nat)) (s : ByteArray) (zs : List α) : Bool := ordB s && (decide (zs.length ≤ 100) && okL rn zs)
def playS {α : Type} (z : α) (rn : α → Option (Nat × Nat)) (s : ByteArray) (zs : List α) : ByteArray := if playB rn s zs then Rw.str (xorL (rowOf s) (pendTo z rn (rowOf s).length zs zs.length)) else ByteArray.empty
theorem okL_at {α : Type} {z : α} {rn : α → Option (Nat × Nat)} {zs : List α} (h : okL rn zs = true) (k : Nat) (hk : k < zs.length) : (rn (zs.getD k z)).isSome = true := by
  unfold okL at h
  rw [List.all_eq_true] at h
  refine h _ ?_
  simp only [List.getD_eq_getElem?_getD, List.getElem?_eq_getElem hk, Option.getD_some]
  exact List.getElem_mem hk
theorem okL_no {α : Type} {z : α} {rn : α → Option (Nat × Nat)} {zs : List α} (k : Nat) (hk : k < zs.length) (h : rn (zs.getD k z) = none) : okL rn zs = false := by
  rcases ho : okL rn zs with _ | _
  · rfl
  · have := okL_at (z := z) ho k hk
    rw [h] at this; cases this
theorem okL_yes {α : Type} {z : α} {rn : α → Option (Nat × Nat)} {zs : List α} (h : ∀ k, k < zs.length → (rn (zs.getD k z)).isSome = true) : okL rn zs = true := by
  unfold okL
  rw [List.all_eq_true]
  intro x hx
  obtain ⟨k, hk, rfl⟩ := List.getElem_of_mem hx
  have := h k hk
  simpa [List.getD_eq_getElem?_getD, hk] using this
end Ed

/-! ### the model's words -/
namespace Ed
theorem runOk_rn (n : Nat) (r : List Int) : (rnR n r).isSome = runOk n r := by
  unfold rnR
  rcases runOk n r with _ | _ <;> rfl
theorem runs_ok (s : ByteArray) (zss : List (List Int)) : prB s zss = playB (rnR s.size) s zss := by
  unfold prB playB okL
  congr 2
  exact List.all_congr rfl fun r => (runOk_rn _ _).symm
theorem rnR_in {n : Nat} {r : List Int} {a c : Nat} (h : rnR n r = some (a, c)) : a ≤ c ∧ c < n ∧ a = (r.getD 0 0).toNat ∧ c = (r.getD 1 0).toNat := by
  unfold rnR at h
  split at h
  · rename_i ho
    unfold runOk at ho
    simp only [Bool.and_eq_true, decide_eq_true_eq] at ho
    have h1 := inB_yes ho.2.1
    have h2 := inB_yes ho.2.2
    have h3 := Option.some.inj h
    have h4 : (r.getD 0 0).toNat = a := congrArg Prod.fst h3
    have h5 : (r.getD 1 0).toNat = c := congrArg Prod.snd h3
    omega
  · cases h
theorem runs_text (l : List Bool) (zss : List (List Int)) (h : okL (rnR l.length) zss = true) : ∀ k, k ≤ zss.length → plRu l zss k = xorL l (pendTo [] (rnR l.length) l.length zss k)
  | 0, _ => by rw [plRu, pendTo, xorL_zeros]
  | k + 1, hk => by
    have h1 := okL_at (z := []) h k (by omega)
    obtain ⟨⟨a, c⟩, hr⟩ := Option.isSome_iff_exists.1 h1
    obtain ⟨h2, h3, h4, h5⟩ := rnR_in hr
    rw [plRu, runs_text l zss h k (by omega), pendTo_yes hr, xorL_turn _ _ _ _ (length_pendTo _ _ _ _ _) (by omega), h4, h5]
theorem rnWI_in {n wd : Nat} {x : Int} {a c : Nat} (h1 : 1 ≤ wd) (h : rnWI n wd x = some (a, c)) : a ≤ c ∧ c < n ∧ a = x.toNat ∧ c + 1 = x.toNat + wd := by
  unfold rnWI at h
  split at h
  · have h3 := Option.some.inj h
    have h4 : x.toNat = a := congrArg Prod.fst h3
    have h5 : x.toNat + wd - 1 = c := congrArg Prod.snd h3
    omega
  · cases h
theorem windows_text (l : List Bool) (wd : Nat) (zs : List Int) (h1 : 1 ≤ wd) (h : okL (rnWI l.length wd) zs = true) : ∀ k, k ≤ zs.length → plWi l wd zs k = xorL l (pendTo 0 (rnWI l.length wd) l.length zs k)
  | 0, _ => by rw [plWi, pendTo, xorL_zeros]
  | k + 1, hk => by
    have ho := okL_at (z := 0) h k (by omega)
    obtain ⟨⟨a, c⟩, hr⟩ := Option.isSome_iff_exists.1 ho
    obtain ⟨h2, h3, h4, h5⟩ := rnWI_in h1 hr
    rw [plWi, windows_text l wd zs h1 h k (by omega), pendTo_yes hr, xorL_turn _ _ _ _ (length_pendTo _ _ _ _ _) (by omega), h5, ← h4]
theorem windows_ok (s : ByteArray) (wd : Nat) (zs : List Int) (h2 : inB (wd : Int) 1 (s.size : Int) = true) : pwB s wd zs = playB (rnWI s.size wd) s zs := by
  unfold pwB playB okL allB
  rw [h2, Bool.true_and]
  congr 2
  refine List.all_congr rfl fun x => ?_
  unfold rnWI
  rcases hb : inB x 0 ((s.size : Int) - wd) with _ | _
  · rw [if_neg (inB_not hb)]; rfl
  · rw [if_pos (inB_yes hb)]; rfl
theorem rnNI_in {n : Nat} {x : Int} {a c : Nat} (h : rnNI n x = some (a, c)) : a ≤ c ∧ c < n ∧ a = x.toNat - 1 ∧ c = min (n - 1) (x.toNat + 1) := by
  unfold rnNI at h
  split at h
  · have h3 := Option.some.inj h
    have h4 : x.toNat - 1 = a := congrArg Prod.fst h3
    have h5 : min (n - 1) (x.toNat + 1) = c := congrArg Prod.snd h3
    omega
  · cases h
theorem neighbours_text (l : List Bool) (zs : List Int) (h : okL (rnNI l.length) zs = true) : ∀ k, k ≤ zs.length → plNb l zs k = xorL l (pendTo 0 (rnNI l.length) l.length zs k)
  | 0, _ => by rw [plNb, pendTo, xorL_zeros]
  | k + 1, hk => by
    have ho := okL_at (z := 0) h k (by omega)
    obtain ⟨⟨a, c⟩, hr⟩ := Option.isSome_iff_exists.1 ho
    obtain ⟨h2, h3, h4, h5⟩ := rnNI_in hr
    rw [plNb, neighbours_text l zs h k (by omega), pendTo_yes hr]
    unfold aroundL
    rw [length_xorL, xorL_turn _ _ _ _ (length_pendTo _ _ _ _ _) (by omega), h5, ← h4]
theorem neighbours_ok (s : ByteArray) (zs : List Int) : pnB s zs = playB (rnNI s.size) s zs := by
  unfold pnB playB okL allB
  congr 2
  refine List.all_congr rfl fun x => ?_
  unfold rnNI
  rcases hb : inB x 0 ((s.size : Int) - 1) with _ | _
  · rw [if_neg (fun h => inB_not hb (by omega))]; rfl
  · have := inB_yes hb
    rw [if_pos (by omega)]; rfl
end Ed

end Go.Proofs.Ytkdpjimbhpclaab
