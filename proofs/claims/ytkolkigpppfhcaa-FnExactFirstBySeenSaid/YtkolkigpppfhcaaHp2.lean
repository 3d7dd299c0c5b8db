/- The program: the methods of heights: seen, mirrored, list. -/
import Derived.Test.YtkolkigpppfhcaaHp1
import Derived.Lib.Hide
namespace Go.Proofs.Ytkolkigpppfhcaa
open Go.ChangeShapes Go.WideShapes Go.ChangeAt Go.RowKit

theorem Blk.tall {w : World} {g : Nat} {hs : List Nat} {t : TypeId} (h : Blk w g t (hc hs)) (hl : hs.length ≤ 40) (j : Nat) (hj : j < 40) : w.cell? ⟨g, j, none⟩ = some (.int .i64 (hs.getD j 0 : Nat)) := by
  rw [h.cell j, hc_tall hs hl j hj]
theorem Blk.count {w : World} {g : Nat} {hs : List Nat} {t : TypeId} (h : Blk w g t (hc hs)) (hl : hs.length ≤ 40) : w.cell? ⟨g, 40, none⟩ = some (.int .i64 (hs.length : Nat)) := by
  rw [h.cell 40, hc_count hs hl]
/-- the array's slice reads as the heights -/
theorem Blk.came {w : World} {g : Nat} {hs : List Nat} {t : TypeId} (h : Blk w g t (hc hs)) (hl : hs.length ≤ 40) : Came w (some ⟨g, 0, none⟩) hs.length (asInts hs) :=
  ⟨asInts_len _, fun _ => ⟨g, 0, rfl, fun j hj => by rw [Nat.zero_add, h.tall hl j (by omega), getD_asInts]⟩⟩

set_option maxHeartbeats 1000000 in
theorem seen_any (w : World) (hs : List Nat) (h1 : 1 ≤ hs.length) (h2 : hs.length ≤ 40) :
    Calls Try.prog 26 #[.agg (hc hs).toArray] w fun e w' => ∃ v, e = .returned v ∧ Own w' w.heap.size v (asInts (He.seen hs)) ∧ Below w.heap.size w w' := by
  obtain ⟨len, hlen⟩ : ∃ n, n = hs.length := ⟨_, rfl⟩
  have HZL := Lib.hid hlen
  rw [← hlen] at h1 h2
  clear hlen
  go_enter Try.func26, Try.ntmps26
  go_wp2_with (refine wpList_box 39 _ rfl rfl (hc hs) rfl ?_; intro w1 g G1 B1 L1)
  refine ⟨?_⟩
  have ec := B1.out.count (by have := HZL.out; omega)
  rw [← HZL.out] at ec
  have c1 : (0 : Int) ≤ (len : Int) := by omega
  have c2 : (len : Int) ≤ 40 := by omega
  go_wp2
  clear ec c1 c2
  go_loopw [4, 3, 12] (fun m v i wr => ∃ j : Nat, j ≤ len ∧ i = .int .i64 (j : Int) ∧ m = .int .i64 (He.mostTo hs j : Nat) ∧ Own wr w1.heap.size v (asInts (He.seenTo hs j)) ∧ Below w1.heap.size w1 wr) (fun _ _ i _ => len - (intOf i).toNat)
  case atStart => exact ⟨0, Nat.zero_le _, rfl, rfl, own_nil _ _, Below.refl _ _⟩
  case round =>
    obtain ⟨j, hj, rfl, rfl, ho, hb⟩ := hrel
    have hz := hb.size
    by_cases hlt : j < len
    · have e1 := (B1.out.below hb B1.out.lt).tall (by have := HZL.out; omega) j (by omega)
      have hsl := He.seenTo_len hs j
      have HM : Hid (He.mostTo hs (j + 1) = max (He.mostTo hs j) (hs.getD j 0)) := rfl
      by_cases hx : He.mostTo hs j < hs.getD j 0
      · have HS := Lib.hid (He.seenTo_yes hs j hx)
        obtain ⟨x, hxx⟩ : ∃ x, x = hs.getD j 0 := ⟨_, rfl⟩
        obtain ⟨m, hm⟩ : ∃ m, m = He.mostTo hs j := ⟨_, rfl⟩
        rw [← hxx] at e1 hx HM
        rw [← hm] at hx HM ⊢
        have HO := Lib.hid ho
        have HB := Lib.hid hb
        have hsl2 : (asInts (He.seenTo hs j)).length ≤ 1000000000 := by rw [asInts_len]; omega
        clear hxx hm ho hb hsl
        go_wp2_with (at_builtin; refine wpList_app rfl _ _ rfl _ _ _ _ _ rfl rfl HO.out hz hsl2 ?_; intro v' w3 hO hB1)
        have HO2 : Hid (Own w3 w1.heap.size v' (asInts (He.seenTo hs (j + 1)))) := by rw [HS.out]; unfold asInts; rw [List.map_append]; exact hO
        have HB2 : Hid (Below w1.heap.size w1 w3) := HB.out.trans hB1
        clear hO hB1
        go_wp2
        go_roundw
        case rel => exact ⟨j + 1, by omega, by go_num, int_eq (by rw [HM.out]; omega), HO2.out, HB2.out⟩
        case measure => simp [intOf]; omega
      · have HS := Lib.hid (He.seenTo_no hs j hx)
        obtain ⟨x, hxx⟩ : ∃ x, x = hs.getD j 0 := ⟨_, rfl⟩
        obtain ⟨m, hm⟩ : ∃ m, m = He.mostTo hs j := ⟨_, rfl⟩
        rw [← hxx] at e1 hx HM
        rw [← hm] at hx HM ⊢
        rw [← HS.out] at ho
        have HO := Lib.hid ho
        have HB := Lib.hid hb
        clear hxx hm ho hb hsl
        go_wp2
        go_roundw
        case rel => exact ⟨j + 1, by omega, by go_num, int_eq (by rw [HM.out]; omega), HO.out, HB.out⟩
        case measure => simp [intOf]; omega
    · have hjn : j = hs.length := by have := HZL.out; omega
      have HO := Lib.hid (seen_done hjn ho)
      have HB := Lib.hid hb
      clear ho hb hjn
      go_wp2
      go_ret
      exact ⟨_, rfl, HO.out.mono L1.out.size, L1.out.trans (HB.out.mono L1.out.size)⟩

end Go.Proofs.Ytkolkigpppfhcaa
