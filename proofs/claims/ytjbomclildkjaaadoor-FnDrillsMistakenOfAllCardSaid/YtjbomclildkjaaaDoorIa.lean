/- Chapter 4, the program: turns of signs (the constant table), words ranged over, facings. -/
import Derived.Test.YtjbomclildkjaaaDoorDrC
import Derived.Test.YtjbomclildkjaaaDoorIn
import Derived.Test.YtjbomclildkjaaaDoorTab
import Derived.Lib.OthersKept
import Derived.Laws.RangeAny
import Derived.Laws.Runes
namespace Go.Proofs.YtjbomclildkjaaaDoor
open Go.ChangeShapes Go.WideShapes Go.ChangeAt Go.RowKit
open Dr

def notYet (z : Int) (k : Nat) : Prop := (0 < k → z ≠ 83) ∧ (1 < k → z ≠ 82) ∧ (2 < k → z ≠ 65) ∧ (3 < k → z ≠ 76)
theorem notYet_all {z : Int} (h : notYet z 4) : turnI z = -1 := by
  obtain ⟨h1, h2, h3, h4⟩ := h
  unfold turnI
  rw [if_neg (h1 (by omega)), if_neg (h2 (by omega)), if_neg (h3 (by omega)), if_neg (h4 (by omega))]
theorem notYet0 (z : Int) : notYet z 0 := ⟨fun h => by omega, fun h => by omega, fun h => by omega, fun h => by omega⟩
theorem notYet1 {z : Int} (hz : ¬ z = 83) : notYet z 1 := ⟨fun _ => hz, fun h => by omega, fun h => by omega, fun h => by omega⟩
theorem notYet2 {z : Int} (h : notYet z 1) (hz : ¬ z = 82) : notYet z 2 := ⟨fun _ => h.1 (by omega), fun _ => hz, fun h => by omega, fun h => by omega⟩
theorem notYet3 {z : Int} (h : notYet z 2) (hz : ¬ z = 65) : notYet z 3 := ⟨fun _ => h.1 (by omega), fun _ => h.2.1 (by omega), fun _ => hz, fun h => by omega⟩
theorem notYet4 {z : Int} (h : notYet z 3) (hz : ¬ z = 76) : notYet z 4 := ⟨fun _ => h.1 (by omega), fun _ => h.2.1 (by omega), fun _ => h.2.2.1 (by omega), fun _ => hz⟩

set_option maxRecDepth 20000 in
set_option maxHeartbeats 2000000 in
theorem turnOf_any (z : Int) (w : World) (hT : Tab_signOfTurn w) :
    Calls Tryd.prog 64 #[.int .i32 z] w fun e w' => e = .returned (.int .i64 (turnI z)) ∧ w = w' := by
  obtain ⟨c0, c1, c2, c3⟩ := hT.at
  clear hT
  go_enter Tryd.func64, Tryd.ntmps64
  go_wp2
  go_loop [6] (fun i => ∃ k : Nat, k ≤ 4 ∧ i = .int .i64 (k : Int) ∧ Hid (notYet z k)) (fun i => 4 - (intOf i).toNat)
  case atStart => exact ⟨0, Nat.zero_le _, rfl, Lib.hid (notYet0 z)⟩
  case round =>
    obtain ⟨k, hk, rfl, HK⟩ := hrel
    match k, hk with
    | 0, _ =>
      by_cases hz : z = 83
      · subst hz
        go_wp2_with (refine wpList_indexAgg 69 _ _ rfl rfl 21 4 _ _ _ (.int .i32 83) _ Tryd.underlying69 Tryd.underlying21 rfl tab_signOfTurn_one rfl rfl (by decide) (by decide) rfl ?_)
        refine ⟨?_⟩
        go_wp2
        go_ret
        exact ⟨rfl, rfl⟩
      · have bz : (z == 83) = false := by rw [beq_eq_false_iff_ne]; exact hz
        have HK2 := Lib.hid (notYet1 hz)
        go_wp2_with (refine wpList_indexAgg 69 _ _ rfl rfl 21 4 _ _ _ (.int .i32 83) _ Tryd.underlying69 Tryd.underlying21 rfl tab_signOfTurn_one rfl rfl (by decide) (by decide) rfl ?_)
        refine ⟨?_⟩
        go_wp2
        go_round
        case rel => exact ⟨1, by omega, rfl, HK2⟩
        case measure => simp [intOf]
    | 1, _ =>
      by_cases hz : z = 82
      · subst hz
        go_wp2_with (refine wpList_indexAgg 69 _ _ rfl rfl 21 4 _ _ _ (.int .i32 82) _ Tryd.underlying69 Tryd.underlying21 rfl tab_signOfTurn_one rfl rfl (by decide) (by decide) rfl ?_)
        refine ⟨?_⟩
        go_wp2
        go_ret
        exact ⟨rfl, rfl⟩
      · have bz : (z == 82) = false := by rw [beq_eq_false_iff_ne]; exact hz
        have HK2 := Lib.hid (notYet2 HK.out hz)
        go_wp2_with (refine wpList_indexAgg 69 _ _ rfl rfl 21 4 _ _ _ (.int .i32 82) _ Tryd.underlying69 Tryd.underlying21 rfl tab_signOfTurn_one rfl rfl (by decide) (by decide) rfl ?_)
        refine ⟨?_⟩
        go_wp2
        go_round
        case rel => exact ⟨2, by omega, rfl, HK2⟩
        case measure => simp [intOf]
    | 2, _ =>
      by_cases hz : z = 65
      · subst hz
        go_wp2_with (refine wpList_indexAgg 69 _ _ rfl rfl 21 4 _ _ _ (.int .i32 65) _ Tryd.underlying69 Tryd.underlying21 rfl tab_signOfTurn_one rfl rfl (by decide) (by decide) rfl ?_)
        refine ⟨?_⟩
        go_wp2
        go_ret
        exact ⟨rfl, rfl⟩
      · have bz : (z == 65) = false := by rw [beq_eq_false_iff_ne]; exact hz
        have HK2 := Lib.hid (notYet3 HK.out hz)
        go_wp2_with (refine wpList_indexAgg 69 _ _ rfl rfl 21 4 _ _ _ (.int .i32 65) _ Tryd.underlying69 Tryd.underlying21 rfl tab_signOfTurn_one rfl rfl (by decide) (by decide) rfl ?_)
        refine ⟨?_⟩
        go_wp2
        go_round
        case rel => exact ⟨3, by omega, rfl, HK2⟩
        case measure => simp [intOf]
    | 3, _ =>
      by_cases hz : z = 76
      · subst hz
        go_wp2_with (refine wpList_indexAgg 69 _ _ rfl rfl 21 4 _ _ _ (.int .i32 76) _ Tryd.underlying69 Tryd.underlying21 rfl tab_signOfTurn_one rfl rfl (by decide) (by decide) rfl ?_)
        refine ⟨?_⟩
        go_wp2
        go_ret
        exact ⟨rfl, rfl⟩
      · have bz : (z == 76) = false := by rw [beq_eq_false_iff_ne]; exact hz
        have HK2 := Lib.hid (notYet4 HK.out hz)
        go_wp2_with (refine wpList_indexAgg 69 _ _ rfl rfl 21 4 _ _ _ (.int .i32 76) _ Tryd.underlying69 Tryd.underlying21 rfl tab_signOfTurn_one rfl rfl (by decide) (by decide) rfl ?_)
        refine ⟨?_⟩
        go_wp2
        go_round
        case rel => exact ⟨4, by omega, rfl, HK2⟩
        case measure => simp [intOf]
    | 4, _ =>
      have HE : Hid (turnI z = -1) := Lib.hid (notYet_all HK.out)
      go_wp2
      go_ret
      exact ⟨ret_int (by rw [HE.out]), rfl⟩

set_option maxRecDepth 20000 in
set_option maxHeartbeats 400000 in
theorem turnBetween_any (x y : Int) (w : World) (hx : 0 ≤ x ∧ x ≤ 1000) (hy : 0 ≤ y ∧ y ≤ 1000) (h : 0 ≤ y - x + 4) :
    Calls Tryd.prog 67 #[.int .i64 x, .int .i64 y] w fun e w' => e = .returned (.int .i64 ((y - x + 4) % 4)) ∧ w = w' := by
  obtain ⟨hx1, hx2⟩ := hx
  obtain ⟨hy1, hy2⟩ := hy
  go_enter Tryd.func67, Tryd.ntmps67
  go_wp2
  go_ret
  exact ⟨ret_int (by first | rfl | omega), rfl⟩

end Go.Proofs.YtjbomclildkjaaaDoor
