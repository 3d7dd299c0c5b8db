
/- number: how many rows come before. -/
import Derived.Test.YtacchefmblfobaaC1SpecB
import Derived.Test.YtacchefmblfobaaC1Txt
namespace Go.Proofs.Ytacchefmblfobaa.C1
open Go.ChangeShapes Go.WideShapes Go.ChangeAt Go.RowKit

theorem numTo_succ' (l : List Bool) (k : Nat) (hk : k < l.length) : Rw.numberOf (l.take (k + 1)) = 2 * Rw.numberOf (l.take k) + (if l.getD k false then 1 else 0) := by
  rw [List.take_succ_eq_append_getElem hk, Rw.numberOf_snoc]; simp [List.getD_eq_getElem?_getD, hk]
theorem numTo_lt' (l : List Bool) (k : Nat) (hk : k ≤ 59) : Rw.numberOf (l.take k) < 576460752303423488 := by
  have h := Rw.numberOf_lt (l.take k)
  have h2 : 2 ^ (l.take k).length ≤ 2 ^ 59 := Nat.pow_le_pow_right (by omega) (by have := List.length_take_le k l; omega)
  have h3 : (2 : Nat) ^ 59 = 576460752303423488 := by decide
  omega

set_option maxRecDepth 20000 in
set_option maxHeartbeats 2000000 in
theorem number_any (g : Nat) (m : List Bool) (c : List Nat) (h1 : 1 ≤ m.length) (h2 : m.length ≤ 60) (w : World) (hT : Trp w g m c) :
    Calls Try.prog 81 #[.slice (some ⟨g, 0, none⟩) m.length m.length] w fun e w' => e = .returned (.int .i64 (Rw.numberOf m : Nat)) ∧ Below w.heap.size w w' := by
  have hgl := hT.lt
  have HT := Lib.hid hT
  obtain ⟨n, hn⟩ : ∃ n, n = m.length := ⟨_, rfl⟩
  rw [← hn] at h1 h2 ⊢
  have HN := Lib.hid hn
  clear hn hT
  go_enter Try.func81, Try.ntmps81
  go_wp2
  go_loopw [3, 8] (fun o i wr => ∃ k : Nat, k ≤ n ∧ i = .int .i64 k ∧ o = .int .i64 (Rw.numberOf (m.take k) : Nat) ∧ Below w.heap.size w wr) (fun _ i _ => n - (intOf i).toNat)
  case atStart => exact ⟨0, Nat.zero_le _, rfl, rfl, Below.refl _ _⟩
  case round =>
    obtain ⟨k, hk, rfl, rfl, hB⟩ := hrel
    by_cases hlt : k < n
    · have hTr := HT.out.below hB hgl
      have e1 := hTr.cellB k (by have := HN.out; omega)
      have e2 := hTr.cellI k (by have := HN.out; omega)
      have hn := numTo_lt' m k (by omega)
      have HU := Lib.hid (numTo_succ' m k (by have := HN.out; omega))
      obtain ⟨N, hN⟩ : ∃ N, N = Rw.numberOf (m.take k) := ⟨_, rfl⟩
      obtain ⟨b, hb⟩ : ∃ b, b = m.getD k false := ⟨_, rfl⟩
      obtain ⟨x, hx⟩ : ∃ x, x = c.getD k 0 := ⟨_, rfl⟩
      rw [← hN] at hn HU ⊢
      rw [← hb] at e1 HU
      rw [← hx] at e2
      have HB := Lib.hid hB
      have hz := hB.size
      clear hN hb hx hB hTr
      rcases b with _ | _
      all_goals
        go_wp2
        go_roundw
        case rel => exact ⟨k + 1, by omega, by go_num, by rw [HU.out]; exact num_eq (by simp; omega), HB.out.alloc (by omega) _⟩
        case measure => simp [intOf]; omega
    · have hke : k = m.length := by have := HN.out; omega
      have H1 : Hid (Rw.numberOf (m.take k) = Rw.numberOf m) := by rw [hke, List.take_length]; exact rfl
      have HB := Lib.hid hB
      clear hke hB
      go_wp2
      go_ret
      exact ⟨ret_int (by rw [H1.out]), HB.out⟩

end Go.Proofs.Ytacchefmblfobaa.C1
