/- FnDrillsTurn: for every input the call returns true, and its arguments read as before. No condition. -/
import Derived.Test.YtjbomclildkjaaaDoorRows
import Derived.Test.YtjbomclildkjaaaDoorWdD
import Derived.WalkKit
import Derived.ProofKit
import Derived.OpenShut
import Derived.ShutString
import Derived.ChangeOld
import Derived.Below
import Derived.LaidMore
import Derived.Stop.Joined
import Derived.WalkSmall
import Derived.SevenTiedAt
import Derived.Test.YtjbomclildkjaaaDoorTab
import Derived.Test.YtjbomclildkjaaaDoorCards
import Derived.Test.YtjbomclildkjaaaDoorTie
namespace Go.Proofs.YtjbomclildkjaaaDoor.fnDrillsTurn
open Go.ChangeShapes Go.WideShapes Go.ChangeAt Go.RowKit
open Go.ChangeMaps (open_string shut_string)

theorem own : ownKnob Tryd.prog.godebug = none := by kernel_rfl
theorem laidOut : laidOutB Tryd.prog = true := by kernel_rfl

theorem door_met (os : Os) (args : Array Value) : laidMetH Tryd.prog [("loop.example/g01332/impl.signOfTurn", Rows.laid_loop_example_g01332_impl_signOfTurn), ("loop.example/g01332/impl.turnsChosen", Rows.laid_loop_example_g01332_impl_turnsChosen)] ((World.doorLaid Tryd.prog 400 os).forCall (fun _ _ => 0) ⟨#[], args, []⟩).memory :=
  laidMetH_of_parts3 (fuel := 8) (laidMet_of_run' 8 (by kernel_rfl) (by kernel_rfl)) (by kernel_rfl) (by kernel_rfl)

/-- what the condition says of the variables -/
theorem of_laid {W : World} (h : laidMetH Tryd.prog [("loop.example/g01332/impl.signOfTurn", Rows.laid_loop_example_g01332_impl_signOfTurn), ("loop.example/g01332/impl.turnsChosen", Rows.laid_loop_example_g01332_impl_turnsChosen)] W) : Tab_signOfTurn W ∧ Tab_turnsChosen W := by
  rw [MakeChecks.laidMetH_plain _ _ _ (by kernel_rfl)] at h
  obtain ⟨ps, h0, _⟩ := h
  obtain ⟨g0, t0, cs0, f0, p0, q0, hg0, ht0, hv0, hd0, h1, _⟩ := h0
  obtain ⟨g1, t1, cs1, f1, p1, q1, hg1, ht1, hv1, hd1, h2, _⟩ := h1
  exact ⟨tab_signOfTurn_of hg0 ht0 hv0 hd0, tab_turnsChosen_of hg1 ht1 hv1 hd1⟩

set_option maxRecDepth 100000 in
theorem lifted (os : Os) (started : os.Started) (H : Type) (enc : TypeId × Value → H) :
    ReturnsInHanded {} Tryd.checked os 3 .any (fun w args => (Rows.fnDrillsTurnSpec.pre enc Tryd.prog Tryd.f3 [] false w args ∧ laidMetH Tryd.prog [("loop.example/g01332/impl.signOfTurn", Rows.laid_loop_example_g01332_impl_signOfTurn), ("loop.example/g01332/impl.turnsChosen", Rows.laid_loop_example_g01332_impl_turnsChosen)] w) ∧ sizedMet enc Tryd.prog Tryd.f3 (OpenSpec.ofChange Rows.fnDrillsTurnSpec) false w args) (Rows.fnDrillsTurnSpec.post enc Tryd.prog Tryd.f3 false true false false) := by
  refine returnsInHanded_of_change_and (C := Tryd.checked) (X := fun w _ => laidMetH Tryd.prog [("loop.example/g01332/impl.signOfTurn", Rows.laid_loop_example_g01332_impl_signOfTurn), ("loop.example/g01332/impl.turnsChosen", Rows.laid_loop_example_g01332_impl_turnsChosen)] w) (fun _ _ _ hh h => h.of_heap hh) own started (by kernel_rfl) Tryd.func3
    (ChangeSpec.witness_shaped (enc := enc) (C := Tryd.checked) (os := os) (X := fun w _ => laidMetH Tryd.prog [("loop.example/g01332/impl.signOfTurn", Rows.laid_loop_example_g01332_impl_signOfTurn), ("loop.example/g01332/impl.turnsChosen", Rows.laid_loop_example_g01332_impl_turnsChosen)] w) false (World.doorLaid Tryd.prog 400 os) #[.slice none 0 0, .slice none 0 0] 8 rfl (World.shaped_of_RefB (by kernel_rfl) (by kernel_rfl)) (by kernel_rfl) (by kernel_rfl) (by kernel_rfl) (door_met os _)) ?_
  intro W base args ds gs before hval0 hW _ _ hLaid _
  have hval : ∀ (j : Nat) t v, Tryd.f3.params[j]? = some t → args[j]? = some v → Value.okWide Tryd.prog W .any base t v := hval0
  have hW' := hW
  obtain ⟨p, q, hA0, hV, rfl, hfz, hnd⟩ := hW
  have hA : DataW.TrodAll enc Tryd.prog W 0 (fun _ => true) true Tryd.f3.params.toList args.toList ds p := hA0
  rw [Tryd.params3] at hA hval
  obtain ⟨v0, vs0, d0, ds0, p0, q0, hargs, rfl, rfl, h0, r0⟩ := trodAll_cons hA
  obtain ⟨v1, vs1, d1, ds1, p1, q1, rfl, rfl, rfl, h1, r1⟩ := trodAll_cons r0
  obtain ⟨rfl, rfl, rfl⟩ := trodAll_nil r1
  obtain rfl : args = #[v0, v1] := by cases args; simp_all
  obtain ⟨T_signOfTurn, T_turnsChosen⟩ := of_laid hLaid
  obtain ⟨rfl, rfl⟩ := DataW.TrodVars.unique hV (trodVars_cons_mk (trodVars_cons_mk trodVars_nil_mk tab_turnsChosen_num tab_turnsChosen_type (T_turnsChosen).val (tab_turnsChosen_reads enc _ _)) tab_signOfTurn_num tab_signOfTurn_type (T_signOfTurn).val (tab_signOfTurn_reads enc _ _))
  obtain ⟨a0, len0, cap0, rfl⟩ := okWide_slice Tryd.underlying22 (hval 0 22 v0 rfl rfl)
  have k0 := h0
  have lt0 : ∀ x ∈ p0, x.block < W.heap.size := by obtain ⟨m, hm⟩ := k0; exact DataW.trod_lt m _ _ _ hm
  obtain ⟨c0, u0⟩ : Cu.Bytes W a0 len0 ∧ len0 ≤ 9223372036854775807 := by
    obtain ⟨fuel, hf⟩ := h0
    rcases open_ints Tryd.underlying22 Tryd.underlying5 (by kernel_rfl) hf with ⟨hcs, _⟩ | ⟨x, l, c, zs, hcs, _, hl, hm, hz, _, hcell, hwf⟩
    · simp [Value.cells] at hcs
      obtain ⟨rfl, rfl, rfl⟩ := hcs
      exact ⟨fun hp => absurd hp (by omega), by omega⟩
    · simp [Value.cells] at hcs
      obtain ⟨rfl, rfl, rfl⟩ := hcs
      exact ⟨Cu.bytes_of (by simpa using hz) hl hcell hwf, by unfold maxLen at hm; omega⟩
  obtain ⟨a1, len1, cap1, rfl⟩ := okWide_slice Tryd.underlying22 (hval 1 22 v1 rfl rfl)
  have k1 := h1
  have lt1 : ∀ x ∈ p1, x.block < W.heap.size := by obtain ⟨m, hm⟩ := k1; exact DataW.trod_lt m _ _ _ hm
  obtain ⟨c1, u1⟩ : Cu.Bytes W a1 len1 ∧ len1 ≤ 9223372036854775807 := by
    obtain ⟨fuel, hf⟩ := h1
    rcases open_ints Tryd.underlying22 Tryd.underlying5 (by kernel_rfl) hf with ⟨hcs, _⟩ | ⟨x, l, c, zs, hcs, _, hl, hm, hz, _, hcell, hwf⟩
    · simp [Value.cells] at hcs
      obtain ⟨rfl, rfl, rfl⟩ := hcs
      exact ⟨fun hp => absurd hp (by omega), by omega⟩
    · simp [Value.cells] at hcs
      obtain ⟨rfl, rfl, rfl⟩ := hcs
      exact ⟨Cu.bytes_of (by simpa using hz) hl hcell hwf, by unfold maxLen at hm; omega⟩
  clear hA0 hval0
  refine (walkFnDrillsTurn a0 len0 cap0 a1 len1 cap1  W c0 u0 c1 u1 T_signOfTurn T_turnsChosen).mono fun e W' ⟨he, bel⟩ => ?_
  subst he
  exact ⟨_, rfl, _, _, _, [], _, _, hW', (trodAll_cons_mk (shut_bool Tryd.underlying4 _) trodAll_mk0), (trodAll_cons_mk (Below.trod laidOut (by kernel_rfl) (of_decide_eq_true (by kernel_rfl)) k0 bel lt0) (trodAll_cons_mk (Below.trod laidOut (by kernel_rfl) (of_decide_eq_true (by kernel_rfl)) k1 bel lt1) trodAll_mk0)), (trodVars_cons_mk (trodVars_cons_mk trodVars_nil_mk tab_turnsChosen_num tab_turnsChosen_type (T_turnsChosen.below bel).val (tab_turnsChosen_reads enc _ _)) tab_signOfTurn_num tab_signOfTurn_type (T_signOfTurn.below bel).val (tab_signOfTurn_reads enc _ _)), bel.frame _, fun h => by cases h⟩

theorem over : Rows.fnDrillsTurnRow.holds Tryd.pinned (OpenSpec.ofChange Rows.fnDrillsTurnSpec) :=
  OpenClaim.holds_of_wide 3 Tryd.f3 rfl rfl rfl rfl rfl rfl rfl ⟨rfl, rfl, rfl, rfl, rfl⟩ rfl rfl rfl rfl rfl (by kernel_rfl) Tryd.func3 (by kernel_rfl)
    (of_decide_eq_true (by kernel_rfl)) (by unfold Func.isWrapper; first | (rw [if_pos (by decide +kernel)]; kernel_rfl) | (rw [if_neg (by decide +kernel)]; exact ⟨rfl, rfl⟩))
    (fun os started H enc _ => lifted os started H enc)

/-- THE STATEMENT: the tied card -/
theorem proved : Rows.FnDrillsTurnCardSaid :=
  Claim7.holds_tied_plain_at .later [] [.data, .data] true (true, "2010a2deaeb3457a80262e6eeb6314181daff0e25773f8a375c720ba900f7d84") false
    over (fun _ h => by cases h) (by kernel_rfl) (fun _ h => by cases h) fnDrillsTurn_row_tie rfl ⟨rfl, rfl⟩ (by kernel_rfl) rfl
    (fun f fn hf hfn => by
      obtain rfl : f = 3 := Option.some.inj ((show Tryd.prog.funcNamed "loop.example/g01332/laws.FnDrillsTurn" = some 3 by kernel_rfl).symm.trans hf) |>.symm
      obtain rfl : fn = Tryd.f3 := (Option.some.inj (Tryd.func3.symm.trans hfn)).symm
      exact ⟨by kernel_rfl, fun j t ht => by
        rw [Tryd.params3] at ht
        have hm : t ∈ [22, 22] := by simpa using Array.mem_of_getElem? ht
        have hall : ([22, 22].all fun u => !Tryd.prog.wantsStandIn u) = true := by kernel_rfl
        exact (show Tryd.prog.wantsStandIn t = false by simpa using List.all_eq_true.1 hall t hm)⟩)
    (by kernel_rfl)
#print axioms proved
end Go.Proofs.YtjbomclildkjaaaDoor.fnDrillsTurn
