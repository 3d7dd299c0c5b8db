/- Appends of paces to a slice that the call made. -/
import Derived.Test.YthnbimfdodfhoabDoorRPace
import Derived.Test.YthnbimfdodfhoabDoorDrew
import Derived.Deep.RegionHeldLaw
namespace Go.Proofs.YthnbimfdodfhoabDoor
open Go.ChangeShapes Go.WideShapes Go.ChangeAt Go.RowKit

theorem wp_appPace {o : Oper} {a : Act} {K : Act → World → Prop} {Q : Exit → Act → World → Prop} {w : World} (s x : Operand)
    (ho : o.op = .call { callee := .builtin .append, args := #[s, x], argTypes := #[32, 32] })
    (B : Nat) (v : Value) (ps qs : List RPace) (ad : Addr) (len cap : Nat) (hs : a.eval s = v) (hx : a.eval x = .slice (some ad) len cap)
    (own : OwnPace w B v ps) (hn : qs.length = len) (hsrc : ∀ j u, (qs.flatMap cPace)[j]? = some u → w.cell? (ad.add j) = some u) (hB : B ≤ w.heap.size) (hl : ps.length + len ≤ 1000000000)
    (h : ∀ v' w', OwnPace w' B v' (ps ++ qs) → Below B w w' → w.grownBy w' v.ownBlock → K (a.put o.dst v') w') : o.wp Tryd.prog a w K Q := by
  obtain ⟨i0, hi, hz0, hz1, hz2⟩ := info_parts Tryd.info_Pace
  have hown : w.ownsRow B 23 2 v ps.length (ps.flatMap cPace) := own
  refine wp_append_own _ s x 32 ho B 23 i0 _ 2 16 Tryd.underlying32 hi hz0 hz1 hz2 rfl (by decide) v ps.length _ hs hown ad len cap (qs.flatMap cPace) hx (by rw [flat_len cPace_len, hn]) hsrc ?_ ?_ ?_ ?_ ?_
  · intro u hu
    obtain ⟨p, _, hp⟩ := List.mem_flatMap.1 hu
    unfold cPace at hp
    simp only [List.mem_cons, List.not_mem_nil, or_false] at hp
    rcases hp with rfl | rfl <;> rfl
  · unfold maxLen; omega
  · omega
  · omega
  · intro v' w' h1 h2 _
    refine h v' w' ?_ ((Below.refl _ _).grown h2 hB (fun k hk => (World.ownsRow.lt hown k hk).1)) h2
    unfold OwnPace
    rw [List.length_append, List.flatMap_append, hn]
    exact h1
theorem wpList_appPace {ops : Array Oper} {rest : List Oper} {o : Oper} {a : Act} {Q : Exit → Act → World → Prop} {w : World} (hgd : o.guard = none) (s x : Operand)
    (ho : o.op = .call { callee := .builtin .append, args := #[s, x], argTypes := #[32, 32] })
    (B : Nat) (v : Value) (ps qs : List RPace) (ad : Addr) (len cap : Nat) (hs : a.eval s = v) (hx : a.eval x = .slice (some ad) len cap)
    (own : OwnPace w B v ps) (hn : qs.length = len) (hsrc : ∀ j u, (qs.flatMap cPace)[j]? = some u → w.cell? (ad.add j) = some u) (hB : B ≤ w.heap.size) (hl : ps.length + len ≤ 1000000000)
    (h : ∀ v' w', OwnPace w' B v' (ps ++ qs) → Below B w w' → w.grownBy w' v.ownBlock → wpList Tryd.prog ops Q rest (a.put o.dst v') w') : wpList Tryd.prog ops Q (o :: rest) a w :=
  wpList_plain hgd fun _ hK => wp_appPace s x ho B v ps qs ad len cap hs hx own hn hsrc hB hl fun v' w' h1 h2 h3 => hK _ _ (h v' w' h1 h2 h3)
/-- at a step of a region that draws its order -/
theorem step_appPace {ops : Array Oper} {o : Oper} {a : Act} {K : Act → World → Prop} {Q : Exit → Act → World → Prop} {E : Prop} {w : World} (hgd : o.guard = none) (s x : Operand)
    (ho : o.op = .call { callee := .builtin .append, args := #[s, x], argTypes := #[32, 32] })
    (B : Nat) (v : Value) (ps qs : List RPace) (ad : Addr) (len cap : Nat) (hs : a.eval s = v) (hx : a.eval x = .slice (some ad) len cap)
    (own : OwnPace w B v ps) (hn : qs.length = len) (hsrc : ∀ j u, (qs.flatMap cPace)[j]? = some u → w.cell? (ad.add j) = some u) (hB : B ≤ w.heap.size) (hl : ps.length + len ≤ 1000000000)
    (h : ∀ v' w', OwnPace w' B v' (ps ++ qs) → Below B w w' → w.grownBy w' v.ownBlock → K (a.put o.dst v') w') :
    if Region.wanted o (yielded ops a.tmps) = true then Oper.wp Tryd.prog o a w K Q else E := by
  have hw : Region.wanted o (yielded ops a.tmps) = true := by simp [Region.wanted, hgd]
  rw [if_pos hw]
  exact wp_appPace s x ho B v ps qs ad len cap hs hx own hn hsrc hB hl h
/-- one that was just laid -/
theorem src_one {w : World} {n : Nat} (x y : Int) (hn : n = w.heap.size) : ∀ j u, ([((x, y) : RPace)].flatMap cPace)[j]? = some u → (w.alloc (.cells #[.int .i64 x, .int .i64 y] 23)).cell? ((⟨n, 0, none⟩ : Addr).add j) = some u := by
  subst hn
  intro j u hj
  have h2 : j < 2 := by have := (List.getElem?_eq_some_iff.1 hj).1; simpa [cPace] using this
  rcases j with _ | _ | j
  · simp [cPace] at hj; subst hj; show (w.alloc _).cell? ⟨w.heap.size, 0 + 0, none⟩ = _; rw [World.cell?_alloc_new]; rfl
  · simp [cPace] at hj; subst hj; show (w.alloc _).cell? ⟨w.heap.size, 0 + 1, none⟩ = _; rw [World.cell?_alloc_new]; rfl
  · omega
/-- all that came in -/
theorem src_came {w : World} {b off len : Nat} {ps : List RPace} (h : CamePace w (some ⟨b, off, none⟩) len ps) : ∀ j u, (ps.flatMap cPace)[j]? = some u → w.cell? ((⟨b, off, none⟩ : Addr).add j) = some u := by
  intro j u hj
  have hjl : j < ps.length * 2 := by have := (List.getElem?_eq_some_iff.1 hj).1; rwa [flat_len cPace_len] at this
  obtain ⟨b', off', e, hcell⟩ := h.2 (by have := h.1; omega)
  cases e
  have hk : j / 2 < len := by have := h.1; omega
  obtain ⟨h0, h1⟩ := hcell (j / 2) hk
  have hj2 : j / 2 * 2 + j % 2 = j := by omega
  rw [← hj2, flat_get cPace_len zPace ps (j / 2) (j % 2) (by omega) (by omega)] at hj
  rw [Addr.add_mid]
  rcases Nat.mod_two_eq_zero_or_one j with e | e
  · rw [e] at hj
    simp [cPace] at hj
    rw [show off + j = off + j / 2 * 2 by omega, h0]
    simpa using hj
  · rw [e] at hj
    simp [cPace] at hj
    rw [show off + j = off + j / 2 * 2 + 1 by omega, h1]
    simpa using hj
/-- an empty one that was just made -/
theorem ownPace_made (w : World) : OwnPace (w.alloc (.cells #[] 23)) w.heap.size (.slice (some ⟨w.heap.size, 0, none⟩) 0 0) [] :=
  ⟨rfl, .inr ⟨w.heap.size, 0, _, rfl, Nat.le_refl _, heap_alloc_new w _, Nat.le_refl _, by unfold maxLen; omega, rfl, rfl⟩⟩
theorem ownPace_alloc {w : World} {B : Nat} {v : Value} {ps : List RPace} (h : OwnPace w B v ps) (o : Obj) : OwnPace (w.alloc o) B v ps := h.below ((Below.refl _ _).alloc (Nat.le_refl _) _) (Nat.le_refl _)

end Go.Proofs.YthnbimfdodfhoabDoor
