/- FnExactFacingAfter: for every input the call returns true, and its arguments read as before. No condition. -/
import Derived.Test.YtamodlmdlaeoiaaDoorRows
import Derived.Test.YtamodlmdlaeoiaaDoorEFacingAfter
import Derived.WalkKit
import Derived.ProofKit
import Derived.OpenShut
import Derived.ShutString
import Derived.ChangeOld
import Derived.Below
import Derived.LaidMore
import Derived.Stop.Joined
import Derived.WalkSmall
import Derived.SevenTiedAt
import Derived.Test.YtamodlmdlaeoiaaDoorTab
import Derived.Test.YtamodlmdlaeoiaaDoorCards
import Derived.Test.YtamodlmdlaeoiaaDoorTie
namespace Go.Proofs.YtamodlmdlaeoiaaDoor.fnExactFacingAfter
open Go.ChangeShapes Go.WideShapes Go.ChangeAt Go.RowKit
open Go.ChangeMaps (open_string shut_string)

theorem own : ownKnob Tryd.prog.godebug = none := by kernel_rfl


theorem door_met (os : Os) (args : Array Value) : laidMetH Tryd.prog [("loop.example/g01332/impl.signOfTurn", Rows.laid_loop_example_g01332_impl_signOfTurn)] ((World.doorLaid Tryd.prog 400 os).forCall (fun _ _ => 0) ⟨#[], args, []⟩).memory :=
  laidMetH_of_parts3 (fuel := 8) (laidMet_of_run' 8 (by kernel_rfl) (by kernel_rfl)) (by kernel_rfl) (by kernel_rfl)

/-- what the condition says of the variables -/
theorem of_laid {W : World} (h : laidMetH Tryd.prog [("loop.example/g01332/impl.signOfTurn", Rows.laid_loop_example_g01332_impl_signOfTurn)] W) : Tab_signOfTurn W := by
  rw [MakeChecks.laidMetH_plain _ _ _ (by kernel_rfl)] at h
  obtain ⟨ps, h0, _⟩ := h
  obtain ⟨g0, t0, cs0, f0, p0, q0, hg0, ht0, hv0, hd0, h1, _⟩ := h0
  exact tab_signOfTurn_of hg0 ht0 hv0 hd0

set_option maxRecDepth 100000 in
theorem lifted (os : Os) (started : os.Started) (H : Type) (enc : TypeId × Value → H) :
    ReturnsInHanded {} Tryd.checked os 5 .any (fun w args => (Rows.fnExactFacingAfterSpec.pre enc Tryd.prog Tryd.f5 [] false w args ∧ laidMetH Tryd.prog [("loop.example/g01332/impl.signOfTurn", Rows.laid_loop_example_g01332_impl_signOfTurn)] w) ∧ sizedMet enc Tryd.prog Tryd.f5 (OpenSpec.ofChange Rows.fnExactFacingAfterSpec) false w args) (Rows.fnExactFacingAfterSpec.post enc Tryd.prog Tryd.f5 false true false false) := by
  refine returnsInHanded_of_change_and (C := Tryd.checked) (X := fun w _ => laidMetH Tryd.prog [("loop.example/g01332/impl.signOfTurn", Rows.laid_loop_example_g01332_impl_signOfTurn)] w) (fun _ _ _ hh h => h.of_heap hh) own started (by kernel_rfl) Tryd.func5
    (ChangeSpec.witness_shaped (enc := enc) (C := Tryd.checked) (os := os) (X := fun w _ => laidMetH Tryd.prog [("loop.example/g01332/impl.signOfTurn", Rows.laid_loop_example_g01332_impl_signOfTurn)] w) false (World.doorLaid Tryd.prog 400 os) #[.string ByteArray.empty, .string ByteArray.empty] 8 rfl (World.shaped_of_RefB (by kernel_rfl) (by kernel_rfl)) (by kernel_rfl) (by kernel_rfl) (by kernel_rfl) (door_met os _)) ?_
  intro W base args ds gs before hval0 hW _ _ hLaid _
  have hval : ∀ (j : Nat) t v, Tryd.f5.params[j]? = some t → args[j]? = some v → Value.okWide Tryd.prog W .any base t v := hval0
  have hW' := hW
  obtain ⟨p, q, hA0, hV, rfl, hfz, hnd⟩ := hW
  have hA : DataW.TrodAll enc Tryd.prog W 0 (fun _ => true) true Tryd.f5.params.toList args.toList ds p := hA0
  rw [Tryd.params5] at hA hval
  obtain ⟨v0, vs0, d0, ds0, p0, q0, hargs, rfl, rfl, h0, r0⟩ := trodAll_cons hA
  obtain ⟨v1, vs1, d1, ds1, p1, q1, rfl, rfl, rfl, h1, r1⟩ := trodAll_cons r0
  obtain ⟨rfl, rfl, rfl⟩ := trodAll_nil r1
  obtain rfl : args = #[v0, v1] := by cases args; simp_all
  obtain T_signOfTurn := of_laid hLaid
  obtain ⟨rfl, rfl⟩ := DataW.TrodVars.unique hV (trodVars_cons_mk trodVars_nil_mk tab_signOfTurn_num tab_signOfTurn_type (T_signOfTurn).val (tab_signOfTurn_reads enc _ _))
  obtain ⟨a0, rfl, rfl, rfl, w0⟩ := open_string Tryd.underlying9 (hval 0 9 v0 rfl rfl) h0
  obtain ⟨a1, rfl, rfl, rfl, w1⟩ := open_string Tryd.underlying9 (hval 1 9 v1 rfl rfl) h1
  clear hA0 hval0
  simp only [List.append_nil] at hW'
  refine (walkFnExactFacingAfter a0 a1 w0 w1 W  T_signOfTurn).mono fun e W' ⟨he, bel⟩ => ?_
  subst he
  exact ⟨_, rfl, _, _, _, [], _, _, hW', (trodAll_cons_mk (shut_bool Tryd.underlying4 _) trodAll_mk0), (trodAll_cons_mk (shut_string Tryd.underlying9 w0) (trodAll_cons_mk (shut_string Tryd.underlying9 w1) trodAll_mk0)), (trodVars_cons_mk trodVars_nil_mk tab_signOfTurn_num tab_signOfTurn_type (T_signOfTurn.below bel).val (tab_signOfTurn_reads enc _ _)), bel.frame _, fun h => by cases h⟩

theorem over : Rows.fnExactFacingAfterRow.holds Tryd.pinned (OpenSpec.ofChange Rows.fnExactFacingAfterSpec) :=
  OpenClaim.holds_of_wide 5 Tryd.f5 rfl rfl rfl rfl rfl rfl rfl ⟨rfl, rfl, rfl, rfl, rfl⟩ rfl rfl rfl rfl rfl (by kernel_rfl) Tryd.func5 (by kernel_rfl)
    (of_decide_eq_true (by kernel_rfl)) (by unfold Func.isWrapper; first | (rw [if_pos (by decide +kernel)]; kernel_rfl) | (rw [if_neg (by decide +kernel)]; exact ⟨rfl, rfl⟩))
    (fun os started H enc _ => lifted os started H enc)

/-- THE STATEMENT: the tied card -/
theorem proved : Rows.FnExactFacingAfterCardSaid :=
  Claim7.holds_tied_plain_at .later [] [.data] true (true, "be8393b5d74028e9b8af2df387f2499d1a5a0193ce5d04190f547c8b745b7000") false
    over (fun _ h => by cases h) (by kernel_rfl) (fun _ h => by cases h) fnExactFacingAfter_row_tie rfl ⟨rfl, rfl⟩ (by kernel_rfl) rfl
    (fun f fn hf hfn => by
      obtain rfl : f = 5 := Option.some.inj ((show Tryd.prog.funcNamed "loop.example/g01332/laws.FnExactFacingAfter" = some 5 by kernel_rfl).symm.trans hf) |>.symm
      obtain rfl : fn = Tryd.f5 := (Option.some.inj (Tryd.func5.symm.trans hfn)).symm
      exact ⟨by kernel_rfl, fun j t ht => by
        rw [Tryd.params5] at ht
        have hm : t ∈ [9, 9] := by simpa using Array.mem_of_getElem? ht
        have hall : ([9, 9].all fun u => !Tryd.prog.wantsStandIn u) = true := by kernel_rfl
        exact (show Tryd.prog.wantsStandIn t = false by simpa using List.all_eq_true.1 hall t hm)⟩)
    (by kernel_rfl)
#print axioms proved
end Go.Proofs.YtamodlmdlaeoiaaDoor.fnExactFacingAfter
