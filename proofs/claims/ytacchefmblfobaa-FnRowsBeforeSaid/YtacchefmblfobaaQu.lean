/- Rows at rest: who looks to the left stands first; how many turn in all; mirrored rows. Plain. -/
import Derived.Test.YtacchefmblfobaaQt
namespace Go.Proofs.Ytacchefmblfobaa
namespace Rw

theorem length_stp : ∀ (xs : List Nat) (a : Nat), (stp a xs).length = xs.length
  | [], _ => rfl
  | _ :: t, _ => by simp only [stp, List.length_cons, length_stp t]
theorem ps_tick (l : List Bool) : ps 0 (tick l) = stp 0 (ps 0 l) := by rw [tick_tk]; exact ps_tk l 0
theorem ps_rest (l : List Bool) : (ps 0 (restOf l)).length = (ps 0 l).length ∧ pairs (restOf l) = [] := by
  induction h : mw 0 l using Nat.strongRecOn generalizing l with
  | _ n ih =>
    subst h
    rw [restOf]
    split
    · next hp => exact ⟨rfl, hp⟩
    · next hp =>
      have := ih _ (tick_lt l hp) (tick l) rfl
      rw [ps_tick, length_stp] at this
      exact this
def NoPair (l : List Bool) : Prop := ∀ i, i + 1 < l.length → ¬ (l.getD i false = true ∧ l.getD (i + 1) true = false)
theorem noPair_of {l : List Bool} (h : pairs l = []) : NoPair l := fun i hi ⟨h1, h2⟩ => by
  have := mem_pairs_iff.2 ⟨hi, h1, h2⟩
  rw [h] at this; cases this
theorem NoPair.tail {x : Bool} {t : List Bool} (h : NoPair (x :: t)) : NoPair t := fun i hi hh => h (i + 1) (by simpa using hi) (by simpa using hh)
theorem right_all : ∀ (t : List Bool), NoPair (true :: t) → t = List.replicate t.length true
  | [], _ => rfl
  | false :: t, h => absurd ⟨rfl, rfl⟩ (h 0 (by simp))
  | true :: t, h => by rw [List.length_cons, List.replicate_succ, ← right_all t h.tail]
theorem ps_right : ∀ (n r : Nat), ps r (List.replicate n true) = []
  | 0, _ => rfl
  | n + 1, r => by rw [List.replicate_succ]; exact ps_right n (r + 1)
theorem ps_noPair : ∀ (l : List Bool) (r : Nat), NoPair l → ps r l = List.replicate (ps r l).length r
  | [], _, _ => rfl
  | true :: t, r, h => by
    have : ps r (true :: t) = [] := by show ps (r + 1) t = []; rw [right_all t h]; exact ps_right _ _
    rw [this]; rfl
  | false :: t, r, h => by
    have := ps_noPair t r h.tail
    show r :: ps r t = List.replicate ((ps r t).length + 1) r
    rw [List.replicate_succ, ← this]
/-- a row at rest: first who look to the left, then who look to the right -/
theorem rest_form : ∀ (l : List Bool) (r : Nat), NoPair l → l = List.replicate (ps r l).length false ++ List.replicate (l.length - (ps r l).length) true
  | [], _, _ => rfl
  | true :: t, r, h => by
    have : ps r (true :: t) = [] := by show ps (r + 1) t = []; rw [right_all t h]; exact ps_right _ _
    rw [this, List.length_nil, Nat.sub_zero, List.length_cons, List.replicate_succ, ← right_all t h]; rfl
  | false :: t, r, h => by
    have ih := rest_form t r h.tail
    show false :: t = List.replicate ((ps r t).length + 1) false ++ List.replicate (t.length + 1 - ((ps r t).length + 1)) true
    rw [List.replicate_succ, List.cons_append, Nat.add_sub_add_right, ← ih]
theorem rest_is (l : List Bool) : restOf l = List.replicate (ps 0 l).length false ++ List.replicate (l.length - (ps 0 l).length) true := by
  have h := ps_rest l
  have := rest_form (restOf l) 0 (noPair_of h.2)
  rw [h.1, length_restOf] at this
  exact this
/-- c, c + 1, .. so many of them, added up -/
def upSum (c : Nat) : Nat → Nat
  | 0 => 0
  | n + 1 => c + upSum (c + 1) n
theorem mw_ps : ∀ (l : List Bool) (r c : Nat), mw (r + c) l = (ps r l).sum + upSum c (ps r l).length
  | [], _, _ => rfl
  | true :: t, r, c => by
    show 0 + mw (r + c + 1) t = _
    rw [Nat.zero_add, show r + c + 1 = (r + 1) + c by omega]
    exact mw_ps t (r + 1) c
  | false :: t, r, c => by
    show (r + c) + mw (r + c + 1) t = (r :: ps r t).sum + upSum c ((ps r t).length + 1)
    rw [show r + c + 1 = r + (c + 1) by omega, mw_ps t r (c + 1), List.sum_cons]
    show _ = _ + (c + upSum (c + 1) (ps r t).length)
    omega
theorem count_mw (l : List Bool) : countOf l + mw 0 (restOf l) = mw 0 l := by
  induction h : mw 0 l using Nat.strongRecOn generalizing l with
  | _ n ih =>
    subst h
    rw [countOf, restOf]
    split
    · next hp => omega
    · next hp =>
      have h1 := mw_tick l
      have := ih _ (tick_lt l hp) (tick l) rfl
      omega
/-- each who looks to the left turns once for each who looks to the right ahead of this one -/
theorem count_is (l : List Bool) : countOf l = (ps 0 l).sum := by
  have h := count_mw l
  have e1 := mw_ps l 0 0
  have e2 := mw_ps (restOf l) 0 0
  have hr := ps_rest l
  have hz : (ps 0 (restOf l)).sum = 0 := by
    rw [ps_noPair _ 0 (noPair_of hr.2)]
    have : ∀ n, (List.replicate n 0).sum = 0 := fun n => by induction n with
      | zero => rfl
      | succ n ih => rw [List.replicate_succ, List.sum_cons, ih]
    exact this _
  rw [hz, hr.1] at e2
  rw [Nat.zero_add] at e1 e2
  omega
theorem ticks_zero (l : List Bool) : ticksOf l = 0 ↔ pairs l = [] := by
  rw [ticksOf]; split
  · next h => simp [h]
  · next h => simp [h]
theorem rest_self (l : List Bool) : restOf l = l ↔ pairs l = [] := by
  refine ⟨fun h => by rw [← h]; exact (ps_rest l).2, fun h => ?_⟩
  rw [restOf, dif_pos h]
/-- there are at least as many turns as ticks -/
theorem ticks_turns (l : List Bool) : ticksOf l ≤ countOf l := by
  induction h : mw 0 l using Nat.strongRecOn generalizing l with
  | _ n ih =>
    subst h
    rw [ticksOf, countOf]
    split
    · omega
    · next hp =>
      have := ih _ (tick_lt l hp) (tick l) rfl
      have : 0 < (pairs l).length := List.length_pos_iff.2 hp
      omega
theorem ticks_next (l : List Bool) : ticksOf (tick l) = ticksOf l - 1 := by
  by_cases hp : pairs l = []
  · have : tick l = l := by unfold tick; rw [hp]; rfl
    rw [this, (ticks_zero l).2 hp]
  · have : ticksOf l = ticksOf (tick l) + 1 := by rw [ticksOf, dif_neg hp]
    omega
/-- the mirrored row -/
def mir (l : List Bool) : List Bool := (l.map (!·)).reverse
theorem length_mir (l : List Bool) : (mir l).length = l.length := by simp [mir]
theorem mir_mir (l : List Bool) : mir (mir l) = l := by
  unfold mir
  rw [List.map_reverse, List.reverse_reverse, List.map_map]
  conv => rhs; rw [← List.map_id l]
  exact List.map_congr_left (fun b _ => by cases b <;> rfl)
theorem mir_at (l : List Bool) (j : Nat) (hj : j < l.length) (d e : Bool) : (mir l).getD j d = !l.getD (l.length - 1 - j) e := by
  unfold mir
  have h1 : j < (l.map (!·)).reverse.length := by simpa using hj
  rw [List.getD_eq_getElem?_getD, List.getElem?_eq_getElem h1, List.getD_eq_getElem?_getD, List.getElem?_eq_getElem (show l.length - 1 - j < l.length by omega)]
  simp [List.getElem_reverse]
theorem pair_mir {l : List Bool} {p : Nat} (h : p + 1 < l.length) : p ∈ pairs (mir l) ↔ l.length - 2 - p ∈ pairs l := by
  rw [mem_pairs_iff, mem_pairs_iff, length_mir, mir_at l p (by omega) false true, mir_at l (p + 1) h true false, show l.length - 2 - p + 1 = l.length - 1 - p by omega, show l.length - 1 - (p + 1) = l.length - 2 - p by omega]
  simp only [Bool.not_eq_true', Bool.not_eq_false']
  exact ⟨fun x => ⟨by omega, x.2.2, x.2.1⟩, fun x => ⟨h, x.2.2, x.2.1⟩⟩
theorem pairs_lt {l : List Bool} {p : Nat} (h : p ∈ pairs l) : p + 1 < l.length := (mem_pairs h).1
theorem tick_mir (l : List Bool) : tick (mir l) = mir (tick l) := by
  refine List.ext_getElem (by rw [length_tick, length_mir, length_mir, length_tick]) fun j h1 h2 => ?_
  have hj : j < l.length := by rw [length_tick, length_mir] at h1; exact h1
  have e1 : (tick (mir l)).getD j false = (tick (mir l))[j] := by rw [List.getD_eq_getElem?_getD, List.getElem?_eq_getElem h1]; rfl
  have e2 : (mir (tick l)).getD j false = (mir (tick l))[j] := by rw [List.getD_eq_getElem?_getD, List.getElem?_eq_getElem h2]; rfl
  rw [← e1, ← e2, tick_at, mir_at (tick l) j (by rw [length_tick]; exact hj) false false, tick_at, length_tick, mir_at l j hj false false]
  have q1 : j ∈ pairs (mir l) ↔ (1 ≤ l.length - 1 - j ∧ l.length - 1 - j - 1 ∈ pairs l) := by
    constructor
    · intro x
      have hx := pairs_lt x
      rw [length_mir] at hx
      have := (pair_mir hx).1 x
      exact ⟨by omega, by rw [show l.length - 1 - j - 1 = l.length - 2 - j by omega]; exact this⟩
    · rintro ⟨a, b⟩
      exact (pair_mir (by omega)).2 (by rw [show l.length - 2 - j = l.length - 1 - j - 1 by omega]; exact b)
  have q2 : (1 ≤ j ∧ j - 1 ∈ pairs (mir l)) ↔ l.length - 1 - j ∈ pairs l := by
    constructor
    · rintro ⟨a, x⟩
      have := (pair_mir (by omega)).1 x
      rw [show l.length - 1 - j = l.length - 2 - (j - 1) by omega]; exact this
    · intro b
      have hb := pairs_lt b
      exact ⟨by omega, (pair_mir (by omega)).2 (by rw [show l.length - 2 - (j - 1) = l.length - 1 - j by omega]; exact b)⟩
  have hno : l.length - 1 - j ∈ pairs l → ¬ (1 ≤ l.length - 1 - j ∧ l.length - 1 - j - 1 ∈ pairs l) := fun a ⟨c, b⟩ => by
    have h1 := (mem_pairs a).2.1
    have h2 := (mem_pairs b).2.2
    rw [show l.length - 1 - j - 1 + 1 = l.length - 1 - j by omega, getD_ne l (by omega) true false, h1] at h2
    cases h2
  by_cases c1 : l.length - 1 - j ∈ pairs l
  · rw [if_neg (fun x => hno c1 (q1.1 x)), if_pos (q2.2 c1), if_pos c1]; rfl
  · by_cases c2 : 1 ≤ l.length - 1 - j ∧ l.length - 1 - j - 1 ∈ pairs l
    · rw [if_pos (q1.2 c2), if_neg c1, if_pos c2]; rfl
    · rw [if_neg (fun x => c2 (q1.1 x)), if_neg (fun x => c1 (q2.1 x)), if_neg c1, if_neg c2]
theorem pairs_mir (l : List Bool) : pairs (mir l) = [] ↔ pairs l = [] := by
  have key : ∀ m : List Bool, pairs m = [] → pairs (mir m) = [] := fun m h => by
    rcases hp : pairs (mir m) with _ | ⟨p, t⟩
    · rfl
    · have hm : p ∈ pairs (mir m) := by rw [hp]; simp
      have hx := pairs_lt hm
      rw [length_mir] at hx
      have := (pair_mir hx).1 hm
      rw [h] at this; cases this
  exact ⟨fun h => by have := key _ h; rwa [mir_mir] at this, key l⟩
/-- mirrored rows rest alike -/
theorem ticks_mir (l : List Bool) : ticksOf (mir l) = ticksOf l := by
  induction h : mw 0 l using Nat.strongRecOn generalizing l with
  | _ n ih =>
    subst h
    by_cases hp : pairs l = []
    · rw [(ticks_zero _).2 hp, (ticks_zero _).2 ((pairs_mir l).2 hp)]
    · have e1 : ticksOf l = ticksOf (tick l) + 1 := by rw [ticksOf, dif_neg hp]
      have e2 : ticksOf (mir l) = ticksOf (tick (mir l)) + 1 := by rw [ticksOf, dif_neg (fun x => hp ((pairs_mir l).1 x))]
      rw [e1, e2, tick_mir, ih _ (tick_lt l hp) (tick l) rfl]
end Rw
end Go.Proofs.Ytacchefmblfobaa
