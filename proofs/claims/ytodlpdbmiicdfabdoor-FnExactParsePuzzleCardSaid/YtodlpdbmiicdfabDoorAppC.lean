/- Appends of clues to a slice that the call made. -/
import Derived.Test.YtodlpdbmiicdfabDoorRClue
import Derived.Test.YtodlpdbmiicdfabDoorDrew
import Derived.Deep.RegionHeldLaw
namespace Go.Proofs.YtodlpdbmiicdfabDoor
open Go.ChangeShapes Go.WideShapes Go.ChangeAt Go.RowKit

theorem wp_appClue {o : Oper} {a : Act} {K : Act → World → Prop} {Q : Exit → Act → World → Prop} {w : World} (s x : Operand)
    (ho : o.op = .call { callee := .builtin .append, args := #[s, x], argTypes := #[28, 28] })
    (B : Nat) (v : Value) (ps qs : List RClue) (ad : Addr) (len cap : Nat) (hs : a.eval s = v) (hx : a.eval x = .slice (some ad) len cap)
    (own : OwnClue w B v ps) (hn : qs.length = len) (hsrc : ∀ j u, (qs.flatMap cClue)[j]? = some u → w.cell? (ad.add j) = some u) (hB : B ≤ w.heap.size) (hl : ps.length + len ≤ 1000000000)
    (h : ∀ v' w', OwnClue w' B v' (ps ++ qs) → Below B w w' → w.grownBy w' v.ownBlock → K (a.put o.dst v') w') : o.wp Tryd.prog a w K Q := by
  obtain ⟨i0, hi, hz0, hz1, hz2⟩ := info_parts Tryd.info_Clue
  have hown : w.ownsRow B 44 4 v ps.length (ps.flatMap cClue) := own
  refine wp_append_own _ s x 28 ho B 44 i0 _ 4 32 Tryd.underlying28 hi hz0 hz1 hz2 rfl (by decide) v ps.length _ hs hown ad len cap (qs.flatMap cClue) hx (by rw [flat_len cClue_len, hn]) hsrc ?_ ?_ ?_ ?_ ?_
  · intro u hu
    obtain ⟨p, _, hp⟩ := List.mem_flatMap.1 hu
    unfold cClue at hp
    simp only [List.mem_cons, List.not_mem_nil, or_false] at hp
    rcases hp with rfl | rfl | rfl | rfl <;> rfl
  · unfold maxLen; omega
  · omega
  · omega
  · intro v' w' h1 h2 _
    refine h v' w' ?_ ((Below.refl _ _).grown h2 hB (fun k hk => (World.ownsRow.lt hown k hk).1)) h2
    unfold OwnClue
    rw [List.length_append, List.flatMap_append, hn]
    exact h1
theorem wpList_appClue {ops : Array Oper} {rest : List Oper} {o : Oper} {a : Act} {Q : Exit → Act → World → Prop} {w : World} (hgd : o.guard = none) (s x : Operand)
    (ho : o.op = .call { callee := .builtin .append, args := #[s, x], argTypes := #[28, 28] })
    (B : Nat) (v : Value) (ps qs : List RClue) (ad : Addr) (len cap : Nat) (hs : a.eval s = v) (hx : a.eval x = .slice (some ad) len cap)
    (own : OwnClue w B v ps) (hn : qs.length = len) (hsrc : ∀ j u, (qs.flatMap cClue)[j]? = some u → w.cell? (ad.add j) = some u) (hB : B ≤ w.heap.size) (hl : ps.length + len ≤ 1000000000)
    (h : ∀ v' w', OwnClue w' B v' (ps ++ qs) → Below B w w' → w.grownBy w' v.ownBlock → wpList Tryd.prog ops Q rest (a.put o.dst v') w') : wpList Tryd.prog ops Q (o :: rest) a w :=
  wpList_plain hgd fun _ hK => wp_appClue s x ho B v ps qs ad len cap hs hx own hn hsrc hB hl fun v' w' h1 h2 h3 => hK _ _ (h v' w' h1 h2 h3)
/-- at a step of a region that draws its order -/
theorem step_appClue {ops : Array Oper} {o : Oper} {a : Act} {K : Act → World → Prop} {Q : Exit → Act → World → Prop} {E : Prop} {w : World} (hgd : o.guard = none) (s x : Operand)
    (ho : o.op = .call { callee := .builtin .append, args := #[s, x], argTypes := #[28, 28] })
    (B : Nat) (v : Value) (ps qs : List RClue) (ad : Addr) (len cap : Nat) (hs : a.eval s = v) (hx : a.eval x = .slice (some ad) len cap)
    (own : OwnClue w B v ps) (hn : qs.length = len) (hsrc : ∀ j u, (qs.flatMap cClue)[j]? = some u → w.cell? (ad.add j) = some u) (hB : B ≤ w.heap.size) (hl : ps.length + len ≤ 1000000000)
    (h : ∀ v' w', OwnClue w' B v' (ps ++ qs) → Below B w w' → w.grownBy w' v.ownBlock → K (a.put o.dst v') w') :
    if Region.wanted o (yielded ops a.tmps) = true then Oper.wp Tryd.prog o a w K Q else E := by
  have hw : Region.wanted o (yielded ops a.tmps) = true := by simp [Region.wanted, hgd]
  rw [if_pos hw]
  exact wp_appClue s x ho B v ps qs ad len cap hs hx own hn hsrc hB hl h
/-- one that was just laid -/
theorem src_oneC {w : World} {n : Nat} (x0 x1 x2 x3 : Int) (hn : n = w.heap.size) : ∀ j u, ([((x0, x1, x2, x3) : RClue)].flatMap cClue)[j]? = some u → (w.alloc (.cells #[.int .i64 x0, .int .i64 x1, .int .i64 x2, .int .i64 x3] 44)).cell? ((⟨n, 0, none⟩ : Addr).add j) = some u := by
  subst hn
  intro j u hj
  have h2 : j < 4 := by have := (List.getElem?_eq_some_iff.1 hj).1; simpa [cClue] using this
  rcases j with _ | _ | _ | _ | j
  · simp [cClue] at hj; subst hj; show (w.alloc _).cell? ⟨w.heap.size, 0 + 0, none⟩ = _; rw [World.cell?_alloc_new]; rfl
  · simp [cClue] at hj; subst hj; show (w.alloc _).cell? ⟨w.heap.size, 0 + 1, none⟩ = _; rw [World.cell?_alloc_new]; rfl
  · simp [cClue] at hj; subst hj; show (w.alloc _).cell? ⟨w.heap.size, 0 + 2, none⟩ = _; rw [World.cell?_alloc_new]; rfl
  · simp [cClue] at hj; subst hj; show (w.alloc _).cell? ⟨w.heap.size, 0 + 3, none⟩ = _; rw [World.cell?_alloc_new]; rfl
  · omega
/-- all that came in -/
theorem src_cameC {w : World} {b off len : Nat} {ps : List RClue} (h : CameClue w (some ⟨b, off, none⟩) len ps) : ∀ j u, (ps.flatMap cClue)[j]? = some u → w.cell? ((⟨b, off, none⟩ : Addr).add j) = some u := by
  intro j u hj
  have hjl : j < ps.length * 4 := by have := (List.getElem?_eq_some_iff.1 hj).1; rwa [flat_len cClue_len] at this
  obtain ⟨b', off', e, hcell⟩ := h.2 (by have := h.1; omega)
  cases e
  have hk : j / 4 < len := by have := h.1; omega
  obtain ⟨h0, h1, h2, h3⟩ := hcell (j / 4) hk
  have hj2 : j / 4 * 4 + j % 4 = j := by omega
  rw [← hj2, flat_get cClue_len zClue ps (j / 4) (j % 4) (by omega) (by omega)] at hj
  rw [Addr.add_mid]
  rcases (show j % 4 = 0 ∨ j % 4 = 1 ∨ j % 4 = 2 ∨ j % 4 = 3 by omega) with e | e | e | e
  · rw [e] at hj
    simp [cClue] at hj
    rw [show off + j = off + j / 4 * 4 by omega, h0]
    simpa using hj
  · rw [e] at hj
    simp [cClue] at hj
    rw [show off + j = off + j / 4 * 4 + 1 by omega, h1]
    simpa using hj
  · rw [e] at hj
    simp [cClue] at hj
    rw [show off + j = off + j / 4 * 4 + 2 by omega, h2]
    simpa using hj
  · rw [e] at hj
    simp [cClue] at hj
    rw [show off + j = off + j / 4 * 4 + 3 by omega, h3]
    simpa using hj
theorem CameClue.takeC {w : World} {a : Option Addr} {len k : Nat} {ps : List RClue} (h : CameClue w a len ps) (hk : k ≤ len) : CameClue w a k (ps.take k) := by
  refine ⟨by rw [List.length_take, h.1]; omega, fun hp => ?_⟩
  obtain ⟨b, off, rfl, hcell⟩ := h.2 (by omega)
  refine ⟨b, off, rfl, fun j hj => ?_⟩
  have e : (ps.take k).getD j zClue = ps.getD j zClue := by simp only [List.getD_eq_getElem?_getD, List.getElem?_take, if_pos hj]
  rw [e]
  exact hcell j (by omega)
theorem CameClue.dropC {w : World} {b off len k : Nat} {ps : List RClue} (h : CameClue w (some ⟨b, off, none⟩) len ps) : CameClue w (some ⟨b, off + k * 4, none⟩) (len - k) (ps.drop k) := by
  refine ⟨by rw [List.length_drop, h.1], fun hp => ?_⟩
  obtain ⟨b', off', e, hcell⟩ := h.2 (by omega)
  cases e
  refine ⟨b, off + k * 4, rfl, fun j hj => ?_⟩
  have e : (ps.drop k).getD j zClue = ps.getD (k + j) zClue := by simp only [List.getD_eq_getElem?_getD, List.getElem?_drop]
  rw [e]
  have := hcell (k + j) (by omega)
  rw [show off + (k + j) * 4 = off + k * 4 + j * 4 by omega] at this
  exact this
theorem below_drewC {B : Nat} {w0 w : World} (h : Below B w0 w) : Below B w0 w.drew := ⟨h.os, h.tape, h.output, h.size, h.block⟩
/-- an empty one that was just made -/
theorem ownClue_made (w : World) : OwnClue (w.alloc (.cells #[] 44)) w.heap.size (.slice (some ⟨w.heap.size, 0, none⟩) 0 0) [] :=
  ⟨rfl, .inr ⟨w.heap.size, 0, _, rfl, Nat.le_refl _, heap_alloc_new w _, Nat.le_refl _, by unfold maxLen; omega, rfl, rfl⟩⟩
theorem ownClue_alloc {w : World} {B : Nat} {v : Value} {ps : List RClue} (h : OwnClue w B v ps) (o : Obj) : OwnClue (w.alloc o) B v ps := h.below ((Below.refl _ _).alloc (Nat.le_refl _) _) (Nat.le_refl _)

end Go.Proofs.YtodlpdbmiicdfabDoor
