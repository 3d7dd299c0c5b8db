/- l1Has: whether a list holds a number (as in Pzc, on its own). -/
import Derived.Test.YtkolkigpppfhcaaHeSpec
namespace Go.Proofs.Ytkolkigpppfhcaa
open Go.ChangeShapes Go.WideShapes Go.ChangeAt Go.RowKit
namespace Has
/-- whether a list holds a number -/
def hasZ (zs : List Int) (x : Int) : Bool := zs.contains x
theorem has_at (ps : List Nat) (a : Nat) : hasZ (asInts ps) (a : Int) = ps.contains a := by
  unfold hasZ
  rw [Bool.eq_iff_iff]
  simp only [asInts, List.contains_iff_mem, List.mem_map]
  constructor
  · rintro ⟨x, hx, he⟩
    have : x = a := by omega
    subst this
    exact hx
  · intro h; exact ⟨a, h, rfl⟩
theorem has_no {zs : List Int} {x : Int} (h : ∀ j, j < zs.length → zs.getD j 0 ≠ x) : hasZ zs x = false := by
  unfold hasZ
  rw [Bool.eq_false_iff]
  intro hc
  rw [List.contains_iff_mem] at hc
  obtain ⟨k, hk, he⟩ := List.getElem_of_mem hc
  exact h k hk (by rw [List.getD_eq_getElem?_getD, List.getElem?_eq_getElem hk]; exact he)
theorem has_yes {zs : List Int} {x : Int} {j : Nat} (hj : j < zs.length) (h : zs.getD j 0 = x) : hasZ zs x = true := by
  unfold hasZ
  rw [List.contains_iff_mem, ← h, List.getD_eq_getElem?_getD, List.getElem?_eq_getElem hj]
  exact List.getElem_mem hj
end Has
open Has

set_option maxHeartbeats 1000000 in
theorem l1Has_any (w : World) (a : Option Addr) (len cap : Nat) (zs : List Int) (x : Int) (hl : len ≤ 1048576) (hc : Came w a len zs) :
    Calls Try.prog 24 #[.slice a len cap, .int .i64 x] w fun e w' => e = .returned (.bool (hasZ zs x)) ∧ w = w' := by
  have HZ : Hid (zs.length = len) := Lib.hid hc.1
  have HC := Lib.hid hc
  clear hc
  go_enter Try.func24, Try.ntmps24
  go_wp2
  go_loop [9] (fun i => ∃ k : Nat, k ≤ len ∧ i = .int .i64 (k : Int) ∧ Hid (∀ j, j < k → zs.getD j 0 ≠ x)) (fun i => len - (intOf i).toNat)
  case atStart => exact ⟨0, Nat.zero_le _, rfl, Lib.hid (fun j h => absurd h (Nat.not_lt_zero _))⟩
  case round =>
    obtain ⟨k, hk, rfl, HK⟩ := hrel
    by_cases hlt : k < len
    · obtain ⟨b, off, rfl, hcell⟩ := HC.out.2 (by omega)
      have e0 := hcell k hlt
      have i1 : (0 : Int) ≤ (k : Int) := by omega
      have i2 : (k : Int) < (len : Int) := by omega
      have HYE : Hid (zs.getD k 0 = x → hasZ zs x = true) := Lib.hid (fun h => has_yes (by rw [HZ.out]; exact hlt) h)
      obtain ⟨z, hz⟩ : ∃ z, z = zs.getD k 0 := ⟨_, rfl⟩
      rw [← hz] at e0 HYE
      have HP := Lib.hid hz
      clear hcell hz
      by_cases hx : z = x
      · have HE := Lib.hid (HYE.out hx)
        clear HYE
        go_wp2
        go_ret
        exact ⟨ret_bool (by rw [HE.out]), rfl⟩
      · have HK2 : Hid (∀ j, j < k + 1 → zs.getD j 0 ≠ x) := Lib.hid (fun j hj => by
          by_cases e : j = k
          · subst e; rw [← HP.out]; exact hx
          · exact HK.out j (by omega))
        have g : (z == x) = false := by simp [hx]
        clear HYE
        go_wp2
        go_round
        case rel => exact ⟨k + 1, by omega, by go_num, HK2⟩
        case measure => simp [intOf]; omega
    · have HE := Lib.hid (has_no (fun j hj => HK.out j (by have := HZ.out; omega)))
      go_wp2
      go_ret
      exact ⟨ret_bool (by rw [HE.out]), rfl⟩


end Go.Proofs.Ytkolkigpppfhcaa
