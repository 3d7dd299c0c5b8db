/- Texts cut at each of a byte: the model's l1Split. -/
import Derived.Test.YtodlpdbmiicdfabDoorStr
import Derived.Test.YtodlpdbmiicdfabDoorRead
namespace Go.Proofs.YtodlpdbmiicdfabDoor
open Go.ChangeShapes Go.WideShapes Go.ChangeAt Go.RowKit
open Rd

namespace Rd
/-- the pieces behind k bytes, and where the next one begins -/
def cutTo (s : ByteArray) (b : Nat) : Nat → List ByteArray × Nat
  | 0 => ([], 0)
  | k + 1 => if byteN s k = b then ((cutTo s b k).1 ++ [s.extract (cutTo s b k).2 k], k + 1) else cutTo s b k
theorem cutTo_yes {s : ByteArray} {b k : Nat} (h : byteN s k = b) : cutTo s b (k + 1) = ((cutTo s b k).1 ++ [s.extract (cutTo s b k).2 k], k + 1) := by rw [cutTo, if_pos h]
theorem cutTo_no {s : ByteArray} {b k : Nat} (h : ¬ byteN s k = b) : cutTo s b (k + 1) = cutTo s b k := by rw [cutTo, if_neg h]
theorem cutTo_len (s : ByteArray) (b : Nat) : ∀ k, (cutTo s b k).1.length ≤ k ∧ (cutTo s b k).2 ≤ k
  | 0 => ⟨Nat.le_refl _, Nat.le_refl _⟩
  | k + 1 => by
    have := cutTo_len s b k
    rw [cutTo]
    split
    · rw [List.length_append, List.length_singleton]; exact ⟨by omega, Nat.le_refl _⟩
    · omega
def cutL (s : ByteArray) (b : Nat) : List ByteArray := (cutTo s b s.size).1 ++ [s.extract (cutTo s b s.size).2 s.size]
theorem cutL_len (s : ByteArray) (b : Nat) : (cutL s b).length ≤ s.size + 1 := by
  unfold cutL
  have := (cutTo_len s b s.size).1
  rw [List.length_append, List.length_singleton]; omega
end Rd

set_option maxHeartbeats 2000000 in
theorem l1Split_any (s : ByteArray) (b : Nat) (_hb : b < 256) (w : World) (hls : s.size ≤ 1048576) :
    Calls Tryd.prog 41 #[.string s, .int .u8 b] w fun e w' => ∃ v, e = .returned v ∧ OwnT w' w.heap.size v (cutL s b) ∧ Below w.heap.size w w' := by
  go_enter Tryd.func41, Tryd.ntmps41
  go_wp2
  go_loopw [5, 6, 7] (fun v fv i wr => ∃ k f : Nat, k ≤ s.size ∧ f ≤ k ∧ i = .int .i64 (k : Int) ∧ fv = .int .i64 (f : Int) ∧ Hid (f = (cutTo s b k).2) ∧ Hid (OwnT wr w.heap.size v (cutTo s b k).1) ∧ Hid (Below w.heap.size w wr)) (fun _ _ i _ => s.size - (intOf i).toNat)
  case atStart => exact ⟨0, 0, Nat.zero_le _, Nat.le_refl _, rfl, rfl, Lib.hid rfl, Lib.hid (ownT_nil _ _), Lib.hid (Below.refl _ _)⟩
  case round =>
    obtain ⟨k, f, hk, hf, rfl, rfl, HF, HO, HB⟩ := hrel
    have hz := HB.out.size
    have hbl : (cutTo s b k).1.length ≤ 1000000000 := by have := (cutTo_len s b k).1; omega
    by_cases hlt : k < s.size
    · have ek := byteN_at hlt
      have hx256 := byteN_lt s k
      have HSY := Lib.hid (@cutTo_yes s b k)
      have HSN := Lib.hid (@cutTo_no s b k)
      rw [← HF.out] at HSY
      obtain ⟨x, hx⟩ : ∃ x, x = byteN s k := ⟨_, rfl⟩
      rw [← hx] at ek hx256 HSY HSN
      clear hx
      by_cases hxb : x = b
      · have HS := Lib.hid (HSY.out hxb)
        have hq : ((x : Int) == (b : Int)) = true := by rw [beq_iff_eq]; omega
        clear HSY HSN hxb
        go_wp2_with (at_builtin; refine wpList_appT rfl _ _ rfl wr _ _ _ _ rfl rfl HO.out hz hbl ?_; intro v' w5 hO hB5; have HO5 : Hid (OwnT w5 w.heap.size v' (cutTo s b (k + 1)).1) := Lib.hid (by rw [HS.out]; exact hO); have HB5 : Hid (Below w.heap.size w w5) := Lib.hid (HB.out.trans hB5); clear hO hB5)
        go_roundw
        case rel => exact ⟨k + 1, k + 1, by omega, by omega, by go_num, by go_num, Lib.hid (by rw [HS.out]), HO5, HB5⟩
        case measure => simp [intOf]; omega
      · have HS := Lib.hid (HSN.out hxb)
        have hq : ((x : Int) == (b : Int)) = false := by rw [beq_eq_false_iff_ne]; omega
        clear HSY HSN hxb
        go_wp2
        go_roundw
        case rel => exact ⟨k + 1, f, by omega, by omega, by go_num, rfl, Lib.hid (by rw [HS.out]; exact HF.out), Lib.hid (by rw [HS.out]; exact HO.out), HB⟩
        case measure => simp [intOf]; omega
    · obtain rfl : k = s.size := by omega
      go_wp2_with (at_builtin; refine wpList_appT rfl _ _ rfl wr _ _ _ _ rfl rfl HO.out hz hbl ?_; intro v' w5 hO hB5; have HO5 : Hid (OwnT w5 w.heap.size v' (cutL s b)) := Lib.hid (by unfold cutL; rw [← HF.out]; exact hO); have HB5 : Hid (Below w.heap.size w w5) := Lib.hid (HB.out.trans hB5); clear hO hB5)
      go_ret
      exact ⟨_, rfl, HO5.out, HB5.out⟩

end Go.Proofs.YtodlpdbmiicdfabDoor
