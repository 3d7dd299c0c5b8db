
/- The model's MirrorRow, TurnedRow and NumberOfRow. -/
import Derived.Test.YtacchefmblfobaaC1Spec
namespace Go.Proofs.Ytacchefmblfobaa.C1
open Go.ChangeShapes Go.WideShapes Go.ChangeAt Go.RowKit

theorem ret_ib {a b : Int} {x : Bool} (h : a = b) : Ending.returned (.tuple #[.int .i64 a, .bool x]) = .returned (.tuple #[.int .i64 b, .bool x]) := by rw [h]
theorem num_eq {a b : Int} (h : a = b) : Value.int .i64 a = .int .i64 b := by rw [h]

set_option maxRecDepth 20000 in
theorem rwOther_of (x : Int) (b : Bool) (h : (x == 60) = !b) (w : World) :
    Calls Try.prog 79 #[.int .u8 x] w fun e w' => e = .returned (.string (Rw.str [!b])) ∧ w = w' := by
  cases b
  all_goals
    simp only [Bool.not_true, Bool.not_false] at h ⊢
    go_enter Try.func79, Try.ntmps79
    go_wp2
    go_ret
    exact ⟨rfl, rfl⟩
theorem turnedTo_succ (l : List Bool) (k : Nat) (hk : k < l.length) : (l.take (k + 1)).map (!·) = (l.take k).map (!·) ++ [!l.getD k false] := by
  rw [List.take_succ_eq_append_getElem hk, List.map_append]; simp [List.getD_eq_getElem?_getD, hk]

set_option maxRecDepth 20000 in
set_option maxHeartbeats 1000000 in
theorem specTurnedRow_yes (l : List Bool) (h1 : 1 ≤ l.length) (h2 : l.length ≤ 60) (w : World) :
    Calls Try.prog 26 #[.string (Rw.str l)] w fun e w' => e = .returned (.tuple #[.string (Rw.str (l.map (!·))), .bool true]) ∧ Below w.heap.size w w' := by
  have hgood := goodB_str h1 h2
  have hsz := Rw.size_str l
  obtain ⟨s, hs⟩ : ∃ s, s = Rw.str l := ⟨_, rfl⟩
  rw [← hs] at hgood hsz ⊢
  have hml : s.size ≤ maxLen := by unfold maxLen; omega
  have hs60 : s.size ≤ 60 := by omega
  have HS := Lib.hid hs
  have HZ := Lib.hid hsz
  clear hs hsz
  go_enter Try.func26, Try.ntmps26
  go_wp2_with (go_at_call 65; refine (rwGood_any _ _ hml).mono ?_; rintro e w' ⟨rfl, rfl⟩)
  go_loop [4, 5] (fun o i => ∃ k : Nat, k ≤ s.size ∧ i = .int .i64 k ∧ o = .string (Rw.str ((l.take k).map (!·)))) (fun _ i => s.size - (intOf i).toNat)
  case atStart => exact ⟨0, Nat.zero_le _, rfl, rfl⟩
  case round =>
    obtain ⟨k, hk, rfl, rfl⟩ := hrel
    obtain ⟨o, ho⟩ : ∃ o, o = Rw.str ((l.take k).map (!·)) := ⟨_, rfl⟩
    rw [← ho]
    have hos : o.size ≤ 60 := by rw [ho, Rw.size_str, List.length_map]; have := List.length_take_le' k l; have := HZ.out; omega
    have HO := Lib.hid ho
    clear ho
    by_cases hlt : k < s.size
    · have HL := Lib.hid (byteL HS.out k hlt)
      have HU := Lib.hid (turnedTo_succ l k (by have := HZ.out; omega))
      obtain ⟨b, hb⟩ : ∃ b, b = l.getD k false := ⟨_, rfl⟩
      rw [← hb] at HL HU
      have HW := Lib.hid (fun w2 => rwOther_of _ b HL.out w2)
      clear hb
      go_wp2_with (go_at_call 79; refine (HW.out _).mono ?_; rintro e w' ⟨rfl, rfl⟩)
      go_round
      case rel => exact ⟨k + 1, by omega, by go_num, by rw [HU.out, ← Rw.str_append, ← HO.out]⟩
      case measure => simp [intOf]; omega
    · have hke : k = l.length := by have := HZ.out; omega
      have H1 : Hid (o = Rw.str (l.map (!·))) := by rw [HO.out, hke, List.take_length]; exact rfl
      clear hke
      go_wp2
      go_ret2
      exact ⟨ret_sb H1.out, Below.refl _ _⟩

/-- the row as it is seen from behind, from its soldier k on -/
def mirTo (l : List Bool) (k : Nat) : List Bool := ((l.drop k).reverse).map (!·)
theorem mirTo_succ (l : List Bool) (k : Nat) (hk : k < l.length) : mirTo l k = mirTo l (k + 1) ++ [!l.getD k false] := by
  unfold mirTo
  rw [List.drop_eq_getElem_cons hk, List.reverse_cons, List.map_append]; simp [List.getD_eq_getElem?_getD, hk]
theorem mirTo_all (l : List Bool) : mirTo l l.length = [] := by simp [mirTo]
theorem length_mirTo (l : List Bool) (k : Nat) : (mirTo l k).length = l.length - k := by simp [mirTo]

set_option maxRecDepth 20000 in
set_option maxHeartbeats 1000000 in
theorem specMirrorRow_yes (l : List Bool) (h1 : 1 ≤ l.length) (h2 : l.length ≤ 60) (w : World) :
    Calls Try.prog 24 #[.string (Rw.str l)] w fun e w' => e = .returned (.tuple #[.string (Rw.str (mirTo l 0)), .bool true]) ∧ Below w.heap.size w w' := by
  have hgood := goodB_str h1 h2
  have hsz := Rw.size_str l
  obtain ⟨s, hs⟩ : ∃ s, s = Rw.str l := ⟨_, rfl⟩
  rw [← hs] at hgood hsz ⊢
  have hml : s.size ≤ maxLen := by unfold maxLen; omega
  have hs60 : s.size ≤ 60 := by omega
  have HS := Lib.hid hs
  have HZ := Lib.hid hsz
  clear hs hsz
  go_enter Try.func24, Try.ntmps24
  go_wp2_with (go_at_call 65; refine (rwGood_any _ _ hml).mono ?_; rintro e w' ⟨rfl, rfl⟩)
  go_loop [4, 5] (fun o i => ∃ k : Nat, k ≤ s.size ∧ i = .int .i64 ((k : Int) - 1) ∧ o = .string (Rw.str (mirTo l k))) (fun _ i => (intOf i + 1).toNat)
  case atStart => exact ⟨s.size, Nat.le_refl _, rfl, by rw [HZ.out, mirTo_all]; exact rfl⟩
  case round =>
    obtain ⟨k, hk, rfl, rfl⟩ := hrel
    obtain ⟨o, ho⟩ : ∃ o, o = Rw.str (mirTo l k) := ⟨_, rfl⟩
    rw [← ho]
    have hos : o.size ≤ 60 := by rw [ho, Rw.size_str, length_mirTo]; have := HZ.out; omega
    have HO := Lib.hid ho
    clear ho
    rcases k with _ | k
    · have H1 : Hid (o = Rw.str (mirTo l 0)) := HO.out
      go_wp2
      go_ret2
      exact ⟨ret_sb H1.out, Below.refl _ _⟩
    · have hks : k < s.size := by omega
      have HL := Lib.hid (byteL HS.out k hks)
      have HU := Lib.hid (mirTo_succ l k (by have := HZ.out; omega))
      obtain ⟨b, hb⟩ : ∃ b, b = l.getD k false := ⟨_, rfl⟩
      rw [← hb] at HL HU
      have HW := Lib.hid (fun w2 => rwOther_of _ b HL.out w2)
      have ek : ((k + 1 : Nat) : Int) - 1 = (k : Int) := by omega
      rw [ek]
      clear hb ek
      go_wp2_with (go_at_call 79; refine (HW.out _).mono ?_; rintro e w' ⟨rfl, rfl⟩)
      go_round
      case rel => exact ⟨k, by omega, rfl, by rw [HU.out, ← Rw.str_append, ← HO.out]⟩
      case measure => simp [intOf]

theorem numTo_succ (l : List Bool) (k : Nat) (hk : k < l.length) : Rw.numberOf (l.take (k + 1)) = 2 * Rw.numberOf (l.take k) + (if l.getD k false then 1 else 0) := by
  rw [List.take_succ_eq_append_getElem hk, Rw.numberOf_snoc]; simp [List.getD_eq_getElem?_getD, hk]
theorem numTo_lt (l : List Bool) (k : Nat) (hk : k ≤ 59) : Rw.numberOf (l.take k) < 576460752303423488 := by
  have h := Rw.numberOf_lt (l.take k)
  have h2 : 2 ^ (l.take k).length ≤ 2 ^ 59 := Nat.pow_le_pow_right (by omega) (by have := List.length_take_le k l; omega)
  have h3 : (2 : Nat) ^ 59 = 576460752303423488 := by decide
  omega
set_option maxRecDepth 20000 in
set_option maxHeartbeats 1000000 in
theorem specNumberOfRow_yes (l : List Bool) (h1 : 1 ≤ l.length) (h2 : l.length ≤ 60) (w : World) :
    Calls Try.prog 41 #[.string (Rw.str l)] w fun e w' => e = .returned (.tuple #[.int .i64 (Rw.numberOf l : Nat), .bool true]) ∧ Below w.heap.size w w' := by
  have hgood := goodB_str h1 h2
  have hsz := Rw.size_str l
  obtain ⟨s, hs⟩ : ∃ s, s = Rw.str l := ⟨_, rfl⟩
  rw [← hs] at hgood hsz ⊢
  have hml : s.size ≤ maxLen := by unfold maxLen; omega
  have hs60 : s.size ≤ 60 := by omega
  have HS := Lib.hid hs
  have HZ := Lib.hid hsz
  clear hs hsz
  go_enter Try.func41, Try.ntmps41
  go_wp2_with (go_at_call 65; refine (rwGood_any _ _ hml).mono ?_; rintro e w' ⟨rfl, rfl⟩)
  go_loop [4, 5] (fun o i => ∃ k : Nat, k ≤ s.size ∧ i = .int .i64 k ∧ o = .int .i64 (Rw.numberOf (l.take k) : Nat)) (fun _ i => s.size - (intOf i).toNat)
  case atStart => exact ⟨0, Nat.zero_le _, rfl, rfl⟩
  case round =>
    obtain ⟨k, hk, rfl, rfl⟩ := hrel
    by_cases hlt : k < s.size
    · have hn := numTo_lt l k (by omega)
      have HU := Lib.hid (numTo_succ l k (by have := HZ.out; omega))
      have e1 := byteR HS.out k hlt
      obtain ⟨N, hN⟩ : ∃ N, N = Rw.numberOf (l.take k) := ⟨_, rfl⟩
      obtain ⟨b, hb⟩ : ∃ b, b = l.getD k false := ⟨_, rfl⟩
      rw [← hN] at hn HU ⊢
      rw [← hb] at e1 HU
      clear hN hb
      rcases b with _ | _
      all_goals
        go_wp2
        go_round
        case rel => exact ⟨k + 1, by omega, by go_num, by rw [HU.out]; exact num_eq (by simp; omega)⟩
        case measure => simp [intOf]; omega
    · have hke : k = l.length := by have := HZ.out; omega
      have H1 : Hid (Rw.numberOf (l.take k) = Rw.numberOf l) := by rw [hke, List.take_length]; exact rfl
      clear hke
      go_wp2
      go_ret2
      exact ⟨ret_ib (by rw [H1.out]), Below.refl _ _⟩

end Go.Proofs.Ytacchefmblfobaa.C1
