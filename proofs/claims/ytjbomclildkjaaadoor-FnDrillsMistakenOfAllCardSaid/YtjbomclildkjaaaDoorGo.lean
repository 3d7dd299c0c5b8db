/- A scope with one label that the run jumps back to: the pass from the label is walked once. -/
import Derived.WalkKit
import Derived.ScopeJumps
import Derived.WalkMore
import Derived.Test.YtjbomclildkjaaaDoorOwn
namespace Go.Proofs.YtjbomclildkjaaaDoor
open Go.ChangeShapes Go.WideShapes Go.ChangeAt Go.RowKit

theorem jump_weak {l : Nat} {J J' : Act → World → Prop} {Q : Exit → Act → World → Prop} (h : ∀ a w, J a w → J' a w) (e : Exit) (a : Act) (w : World) (hq : Exit.jump l J Q e a w) : Exit.jump l J' Q e a w := by
  cases e with
  | goto l' => exact ⟨hq.1, h _ _ hq.2⟩
  | normal => exact hq
  | exit id => exact hq
  | ret => exact hq
  | panic ch => exact hq
  | outgrown => exact hq
/-- as wp_scope_jumps; what comes first may use the pass where it reaches the label -/
theorem wp_scope_pass {P : Program} {a : Act} {w : World} {Q : Exit → Act → World → Prop} {c rest : Code} (l : Nat) (J : Act → World → Prop) (μ : Act → World → Nat) (hf : findLabel c l = some (Code.skip.seq rest))
    (pass : ∀ a w, J a w → rest.wp P (Exit.jump l (fun a' w' => J a' w' ∧ μ a' w' < μ a w) Q) a w)
    (first : (∀ a w, J a w → rest.wp P (Exit.jump l J Q) a w) → c.wp P (Exit.jump l J Q) a w) : (Code.scope c).wp P Q a w := by
  refine wp_scope_jumps l J μ hf (first fun a w hJ => ?_) fun a w hJ => wp_seq (wp_skip (pass a w hJ))
  intro b k cs
  obtain ⟨e, a', w', hq, h⟩ := pass a w hJ b k cs
  exact ⟨e, a', w', jump_weak (fun _ _ h => h.1) e a' w' hq, h⟩

end Go.Proofs.YtjbomclildkjaaaDoor
