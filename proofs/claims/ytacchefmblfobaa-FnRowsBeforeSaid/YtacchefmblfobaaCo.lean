/- Walks over frames of which only some slots are known, on: draws: the cursor made, lists written out, one of a list of texts; bytes in a later world. -/
import Derived.Test.YtacchefmblfobaaCuA
import Derived.Test.YtacchefmblfobaaCt
namespace Go.Proofs.Ytacchefmblfobaa
open Go.ChangeShapes Go.WideShapes Go.ChangeAt Go.RowKit
theorem Cu.Bytes.below {w w' : World} {a : Option Addr} {len : Nat} (h : Cu.Bytes w a len) (hb : Below w.heap.size w w') : Cu.Bytes w' a len := by
  intro hp
  obtain ⟨b, off, e, hc⟩ := h hp
  refine ⟨b, off, e, fun k hk => ?_⟩
  obtain ⟨x, h1, h2⟩ := hc k hk
  exact ⟨x, h1, (hb.cell (World.block_lt_of_cell? w _ h2)).trans h2⟩
end Go.Proofs.Ytacchefmblfobaa

namespace Go.Proofs.Ytacchefmblfobaa
open Go.ChangeShapes Go.WideShapes Go.ChangeAt Go.RowKit
open Cu
namespace Sp
variable {P : Program} {N : Nat} {S S' : St} {ops : Array Oper} {rest : List Oper} {w w' : World} {Q : Exit → Act → World → Prop} {d : Nat} {ty t : TypeId} {pos : String} {after : Array Edge} {g : Option (Nat × Bool)} {x : Operand} {u v : Value}
theorem L.build1 {i : Nat} (hx : opn S x = some u) (hr : (Instr.build t #[(i, u)]).run P w = .ok v w) (hc : chk N S ops d g true = true) (h : L P N ops rest ((d, v) :: S) w Q) :
    L P N ops (⟨some d, .build t [(i, x)].toArray, ty, pos, after, g⟩ :: rest) S w Q := by
  refine L.step hc (fun a ha => ?_) h
  have h1 := ha.eval hx
  generalize a.eval = ρ at h1 ⊢
  simp [execOp, h1, hr]
theorem L.box (hx : opn S x = some u) (hr : (Instr.box t u).run P w = .ok v w') (hc : chk N S ops d g true = true) (h : L P N ops rest ((d, v) :: S) w' Q) :
    L P N ops (⟨some d, .box t x, ty, pos, after, g⟩ :: rest) S w Q := by
  refine L.step hc (fun a ha => ?_) h
  have h1 := ha.eval hx
  generalize a.eval = ρ at h1 ⊢
  simp [execOp, h1, hr]
def prt (S : St) : List (Nat × Operand) → Option (List (Nat × Value))
  | [] => some []
  | (i, x) :: r => match opn S x with
    | some v => match prt S r with
      | some vs => some ((i, v) :: vs)
      | none => none
    | none => none
theorem Kn.prt {a : Act} (h : Kn N S a) : ∀ {ps : List (Nat × Operand)} {vs : List (Nat × Value)}, Sp.prt S ps = some vs → ps.map (fun p => (p.1, a.eval p.2)) = vs
  | [], vs, e => by simp only [Sp.prt, Option.some.injEq] at e; subst e; rfl
  | (i, x) :: r, vs, e => by
    simp only [Sp.prt] at e
    split at e
    · rename_i v hv
      split at e
      · rename_i us hu
        simp only [Option.some.injEq] at e
        subst e
        rw [List.map_cons, h.eval hv, h.prt hu]
      · cases e
    · cases e
theorem L.lits {n : Nat} {ps : List (Nat × Operand)} {vs : List (Nat × Value)} (hx : Sp.prt S ps = some vs) (hr : (Instr.buildSlice t n vs.toArray).run P w = .ok v w') (hc : chk N S ops d g true = true) (h : L P N ops rest ((d, v) :: S) w' Q) :
    L P N ops (⟨some d, .buildSlice t n ps.toArray, ty, pos, after, g⟩ :: rest) S w Q := by
  refine L.step hc (fun a ha => ?_) h
  have h1 := ha.prt hx
  have h2 : ps.toArray.map (fun p => (p.1, a.eval p.2)) = vs.toArray := by rw [List.map_toArray, h1]
  have h3 : execOp a.eval ⟨some d, .buildSlice t n ps.toArray, ty, pos, after, g⟩ = ((do Pure.pure (Next.value (← Instr.buildSlice t n (ps.toArray.map (fun p => (p.1, a.eval p.2)))))) : Sem Next) := rfl
  rw [h3, h2]
  simp [hr]
theorem build_cur {p : Option Addr} {l c : Nat} : (Instr.build 79 #[(0, .slice p l c)]).run Try.prog w = .ok (.agg #[.slice p l c, .int .i64 0, .int .u64 0]) w := by
  simp [go_sem]
theorem box_cur {p : Option Addr} {l c : Nat} : (Instr.box 79 (.agg #[.slice p l c, .int .i64 0, .int .u64 0])).run Try.prog w = .ok (.pointer (some ⟨w.heap.size, 0, none⟩)) (w.alloc (.cells #[.slice p l c, .int .i64 0, .int .u64 0] 79)) := by
  simp [go_sem]
example : (Instr.buildSlice 29 3 #[(0, .int .i64 0), (1, .int .i64 1), (2, .int .i64 2)]).run Try.prog w = .ok (.slice (some ⟨w.heap.size, 0, none⟩) 3 3) (w.alloc (.cells #[.int .i64 0, .int .i64 1, .int .i64 2] 3)) := by
  simp [go_sem]
end Sp
end Go.Proofs.Ytacchefmblfobaa

namespace Go.Proofs.Ytacchefmblfobaa
open Go.ChangeShapes Go.WideShapes Go.ChangeAt Go.RowKit
open Cu
set_option maxRecDepth 20000 in
set_option maxHeartbeats 2000000 in
theorem of_p (w : World) (g A : Nat) (a : Option Addr) (n cap : Nat) (xs : List ByteArray) (hA : A ≤ 100000000000) (h1 : 1 ≤ n) (h2 : n ≤ 1000) (hx : CameT w a n xs) (hne : ∀ x, a = some x → x.block ≠ g) (hc : Cur w g A) :
    Calls Try.prog 107 #[.pointer (some ⟨g, 0, none⟩), .slice a n cap] w fun e w' => ∃ k : Nat, k < n ∧ e = .returned (.string (xs.getD k ByteArray.empty)) ∧ Drawn w w' g (A + 2) := by
  have C1 := Lib.hid (pick_p w g A n hA h1 (by omega) hc)
  obtain ⟨b, off, rfl, hcl⟩ := hx.2 (by omega)
  have HL : Hid (∀ w1, w.grownBy w1 (some g) → ∀ k, k < n → w1.cell? ⟨b, off + k, none⟩ = some (.string (xs.getD k ByteArray.empty))) :=
    Lib.hid (fun w1 hg k hk => (World.cell?_of_block (hg.block b (World.block_lt_of_cell? w _ (hcl k hk)) (fun h => hne _ rfl (Option.some.inj h)))).trans (hcl k hk))
  have q0 : (n : Int) ≤ 1000 := by omega
  clear hx hcl hne hc
  go_enter Try.func107, Try.ntmps107
  go_wp2_with fail
  go_at_call 91
  refine C1.out.mono ?_
  rintro e w1 ⟨r, hr, rfl, hd⟩
  have HD := Lib.hid hd
  have e1 := HL.out w1 hd.grown r hr
  have q1 : (0 : Int) ≤ (r : Int) := by omega
  have q2 : (r : Int) < (n : Int) := by omega
  clear hd
  go_wp2
  go_ret
  exact ⟨r, hr, rfl, HD.out⟩
set_option maxRecDepth 20000 in
theorem of_lit (wS w : World) (g A n : Nat) (xs : List ByteArray) (hn : xs.length = n) (h1 : 1 ≤ n) (h2 : n ≤ 1000) (hA : A ≤ 100000000000) (hg : g < wS.heap.size) (hd : Drawn wS w g A) :
    Calls Try.prog 107 #[.pointer (some ⟨g, 0, none⟩), .slice (some ⟨w.heap.size, 0, none⟩) n n] (w.alloc (.cells (xs.map Value.string).toArray 9)) fun e w' => ∃ x, x ∈ xs ∧ e = .returned (.string x) ∧ Drawn wS w' g (A + 2) := by
  have hgw : g < w.heap.size := Nat.lt_of_lt_of_le hg hd.grown.size
  have hd1 := hd.below (w2 := w.alloc (.cells (xs.map Value.string).toArray 9)) ((Below.refl _ _).alloc hd.grown.size _) hg
  have hc : CameT (w.alloc (.cells (xs.map Value.string).toArray 9)) (some ⟨w.heap.size, 0, none⟩) n xs := ⟨hn, fun _ => ⟨w.heap.size, 0, rfl, fun k hk => by
    rw [World.cell?_alloc_new, Nat.zero_add, List.getElem?_toArray, List.getElem?_map, List.getElem?_eq_getElem (by omega), List.getD_eq_getElem?_getD, List.getElem?_eq_getElem (by omega)]; rfl⟩⟩
  refine (of_p _ g A (some ⟨w.heap.size, 0, none⟩) n n xs hA h1 h2 hc (fun x hx => by cases hx; exact (Nat.ne_of_lt hgw).symm) hd1.cur).mono ?_
  rintro e w' ⟨k, hk, rfl, d⟩
  refine ⟨xs.getD k ByteArray.empty, ?_, rfl, hd1.trans d⟩
  rw [List.getD_eq_getElem?_getD, List.getElem?_eq_getElem (by omega)]; exact List.getElem_mem _
end Go.Proofs.Ytacchefmblfobaa
