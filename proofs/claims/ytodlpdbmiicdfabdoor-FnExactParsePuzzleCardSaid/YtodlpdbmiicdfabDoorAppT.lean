/- append of one text to a slice of texts that the call owns, at a step of a region that draws its order. -/
import Derived.Test.YtodlpdbmiicdfabDoorStr
import Derived.Test.YtodlpdbmiicdfabDoorDrew
import Derived.Deep.RegionHeldLaw
namespace Go.Proofs.YtodlpdbmiicdfabDoor
open Go.ChangeShapes Go.WideShapes Go.ChangeAt Go.RowKit

theorem wp_appT {o : Oper} {a : Act} {K : Act → World → Prop} {Q : Exit → Act → World → Prop} {w : World} (s x : Operand)
    (ho : o.op = .call { callee := .builtin .append, args := #[s, x], argTypes := #[42, 42] })
    (B : Nat) (v : Value) (zs : List ByteArray) (z : ByteArray) (ad : Addr) (hs : a.eval s = v) (hx : a.eval x = .slice (some ad) 1 1)
    (own : OwnT w B v zs) (hsrc : w.cell? (ad.add 0) = some (.string z)) (hB : B ≤ w.heap.size) (hl : zs.length ≤ 1000000000)
    (h : ∀ v' w', OwnT w' B v' (zs ++ [z]) → Below B w w' → w.grownBy w' v.ownBlock → K (a.put o.dst v') w') : o.wp Tryd.prog a w K Q := by
  obtain ⟨i0, hi, hz0, hz1, hz2⟩ := info_parts Tryd.info_text
  have hown : w.ownsRow B 9 1 v zs.length (zs.map Value.string) := own
  refine wp_append_own _ s x 42 ho B 9 i0 _ 1 16 Tryd.underlying42 hi hz0 hz1 hz2 rfl (by decide) v zs.length _ hs hown ad 1 1 [.string z] hx rfl ?_ ?_ ?_ ?_ ?_ ?_
  · intro j u hj
    match j, hj with
    | 0, hj => simp only [List.getElem?_cons_zero, Option.some.injEq] at hj; subst hj; exact hsrc
  · intro u hu; rw [List.mem_singleton] at hu; subst hu; rfl
  · unfold maxLen; omega
  · omega
  · omega
  · intro v' w' h1 h2 _
    refine h v' w' ?_ ((Below.refl _ _).grown h2 hB (fun k hk => (World.ownsRow.lt hown k hk).1)) h2
    unfold OwnT
    rw [List.length_append, List.map_append]
    exact h1
theorem step_appT {ops : Array Oper} {o : Oper} {a : Act} {K : Act → World → Prop} {Q : Exit → Act → World → Prop} {E : Prop} {w : World} (hgd : o.guard = none) (s x : Operand)
    (ho : o.op = .call { callee := .builtin .append, args := #[s, x], argTypes := #[42, 42] })
    (B : Nat) (v : Value) (zs : List ByteArray) (z : ByteArray) (ad : Addr) (hs : a.eval s = v) (hx : a.eval x = .slice (some ad) 1 1)
    (own : OwnT w B v zs) (hsrc : w.cell? (ad.add 0) = some (.string z)) (hB : B ≤ w.heap.size) (hl : zs.length ≤ 1000000000)
    (h : ∀ v' w', OwnT w' B v' (zs ++ [z]) → Below B w w' → w.grownBy w' v.ownBlock → K (a.put o.dst v') w') :
    if Region.wanted o (yielded ops a.tmps) = true then Oper.wp Tryd.prog o a w K Q else E := by
  have hw : Region.wanted o (yielded ops a.tmps) = true := by simp [Region.wanted, hgd]
  rw [if_pos hw]
  exact wp_appT s x ho B v zs z ad hs hx own hsrc hB hl h
theorem ownT_alloc {w : World} {B : Nat} {v : Value} {zs : List ByteArray} (h : OwnT w B v zs) (o : Obj) : OwnT (w.alloc o) B v zs := h.below ((Below.refl _ _).alloc (Nat.le_refl _) _) (Nat.le_refl _)
theorem src_text {w : World} {n : Nat} (z : ByteArray) (hn : n = w.heap.size) : (w.alloc (.cells #[.string z] 9)).cell? ((⟨n, 0, none⟩ : Addr).add 0) = some (.string z) := by
  subst hn
  rw [Addr.add_mid, World.cell?_alloc_new]; rfl

end Go.Proofs.YtodlpdbmiicdfabDoor
