/- Walks over frames of which only some slots are known, on: regions that draw their order and only read and call what makes memory of its own; the places of a slice of ints. -/
import Derived.Test.YtjbomclildkjaaaDoorSq
import Derived.Test.YtjbomclildkjaaaDoorLw
namespace Go.Proofs.YtjbomclildkjaaaDoor
open Go.ChangeShapes Go.WideShapes Go.ChangeAt Go.RowKit
namespace Sp
variable {P : Program} {N : Nat} {S S' : St} {ops : Array Oper} {rest : List Oper} {w : World} {Q : Exit → Act → World → Prop} {d : Nat} {op : Op} {ty : TypeId} {pos : String} {after : Array Edge} {g : Option (Nat × Bool)} {v : Value}
/-- the region's operations in the order of the text, in every world that keeps what lay in w -/
def T (P : Program) (N : Nat) (ops : Array Oper) (w : World) (Q : Exit → Act → World → Prop) (l : List Oper) (S : St) : Prop := ∀ a, Kn N S a → wpQuiet P ops (fun w' => ∃ X : Lw w, w' = X.w) (fun a' => ∀ w', (∃ X : Lw w, w' = X.w) → Q .normal a' w') l a
theorem Cd.regionT {id : Nat} {l : List Oper} (hm : P.follows .mixedOrders = true) (hB : Region.lexB .any l.toArray = true) (h : T P N l.toArray w Q l S) : Cd P N (.region id l.toArray true) S w Q :=
  fun a ha => wp_region_lw hm hB (h a ha)
theorem T.nil (h : ∀ w', Below w.heap.size w w' → Nx N S w' Q) : T P N ops w Q [] S := fun a ha w' ⟨X, e⟩ => by subst e; exact h X.w X.b a ha
theorem T.pure (hc : chk N S ops d g true = true) (hr : ∀ X : Lw w, Runs P N S ⟨some d, op, ty, pos, after, g⟩ X.w v) (h : T P N ops w Q rest ((d, v) :: S)) :
    T P N ops w Q (⟨some d, op, ty, pos, after, g⟩ :: rest) S := by
  obtain ⟨h1, h2⟩ := chk_spec hc
  intro a ha
  unfold wpQuiet
  rw [if_pos (want_spec ha h2)]
  refine ⟨v, fun w' ⟨X, e⟩ => ?_, h _ (ha.put h1 v)⟩
  subst e
  unfold Oper.quietAt
  rw [hr X a ha]
  exact ⟨rfl, rfl⟩
theorem T.skip (hc : chk N S ops d g false = true) (h : T P N ops w Q rest ((d, undef) :: S)) : T P N ops w Q (⟨some d, op, ty, pos, after, g⟩ :: rest) S := by
  obtain ⟨h1, h2⟩ := chk_spec hc
  intro a ha
  unfold wpQuiet
  rw [if_neg (by rw [want_spec ha h2]; exact Bool.false_ne_true)]
  exact h _ (ha.put h1 undef)
set_option maxRecDepth 20000 in
theorem T.call {f : FuncId} {c : Operand} {xs : List Operand} {vs : List Value} {ats : Array TypeId} (hk : callOk P f = true)
    (C : ∀ w2, Below w.heap.size w w2 → Calls P f vs.toArray w2 fun e w' => e = .returned v ∧ Below w2.heap.size w2 w')
    (hf : opn S c = some (.func (.func f) #[] #[])) (hx : opns S xs = some vs) (hc : chk N S ops d g true = true) (h : T P N ops w Q rest ((d, v) :: S)) :
    T P N ops w Q (⟨some d, .call { callee := .value c, args := xs.toArray, argTypes := ats }, ty, pos, after, g⟩ :: rest) S := by
  obtain ⟨h1, h2⟩ := chk_spec hc
  intro a ha
  unfold wpQuiet
  rw [if_pos (want_spec ha h2)]
  refine ⟨v, fun w' ⟨X, e⟩ => ?_, h _ (ha.put h1 v)⟩
  subst e
  unfold Oper.quietAt
  rw [run_call hk (ha.eval hf), show xs.toArray.map a.eval = vs.toArray by rw [List.map_toArray, ha.evals hx]]
  exact ⟨rfl, lw_call C X⟩
end Sp
end Go.Proofs.YtjbomclildkjaaaDoor

namespace Go.Proofs.YtjbomclildkjaaaDoor
open Go.ChangeShapes Go.WideShapes Go.ChangeAt Go.RowKit
namespace Sp
theorem idx_int {w : World} {b o l c : Nat} {k : IntKind} {n : Int} (j : Nat) (hn : n = (j : Int)) (hj : j < l) :
    (Instr.indexAt 47 (.slice (some ⟨b, o, none⟩) l c) (.int k n)).run Tryd.prog w = .ok (.pointer (some ⟨b, o + j, none⟩)) w := by
  subst hn
  have h2 : (j : Int) < (l : Int) := by omega
  simp [go_sem, h2, Addr.add_lit]
theorem load_int {w : World} {a : Addr} {z : Int} (h : w.cell? a = some (.int .i64 z)) : (Instr.loadAt 3 (.pointer (some a))).run Tryd.prog w = .ok (.int .i64 z) w := by
  simp [go_sem, h]
/-- a place of a slice of ints that came in -/
theorem came_idx {w : World} {a : Option Addr} {l c : Nat} {zs : List Int} {k : IntKind} {n : Int} (h : Came w a l zs) (j : Nat) (hj : j < l) (hn : n = (j : Int)) :
    ∃ p, ∀ w', Below w.heap.size w w' → (Instr.indexAt 47 (.slice a l c) (.int k n)).run Tryd.prog w' = .ok p w' ∧ (Instr.loadAt 3 p).run Tryd.prog w' = .ok (.int .i64 (zs.getD j 0)) w' := by
  obtain ⟨_, h2⟩ := h
  obtain ⟨b, o, rfl, h3⟩ := h2 (by omega)
  exact ⟨_, fun w' hb => ⟨idx_int j hn hj, load_int ((hb.cell (World.block_lt_of_cell? w _ (h3 j hj))).trans (h3 j hj))⟩⟩
end Sp
end Go.Proofs.YtjbomclildkjaaaDoor
