
/- rwMake, countRows, troopOf: the row with a number. -/
import Derived.Test.YtacchefmblfobaaC1Told
import Derived.Test.YtacchefmblfobaaC1Tick
import Derived.Test.YtacchefmblfobaaC1Txt
namespace Go.Proofs.Ytacchefmblfobaa.C1
open Go.ChangeShapes Go.WideShapes Go.ChangeAt Go.RowKit

theorem make_more (n k : Nat) (r : List Bool) : Rw.make n (k / 2) ++ (k % 2 == 1) :: r = Rw.make (n + 1) k ++ r := by
  rw [Rw.make, List.append_assoc]; rfl

theorem int_eq2 {a b : Int} (h : a = b) : Value.int .i64 a = .int .i64 b := by rw [h]
theorem str_sign {b : Bool} {o : ByteArray} {r : List Bool} {x : ByteArray} {c : Bool} (h : c = b) (ho : o = Rw.str r) (hx : x = Rw.str [b] := by rfl) : Value.string (x ++ o) = .string (Rw.str (c :: r)) := by
  rw [hx, ho, Rw.str_append, h]; rfl

set_option maxRecDepth 20000 in
set_option maxHeartbeats 1000000 in
theorem rwMake_any (n k : Nat) (hn : n ≤ 60) (hk : k ≤ 4611686018427387904) (w : World) :
    Calls Try.prog 92 #[.int .i64 (n : Int), .int .i64 (k : Int)] w fun e w' => e = .returned (.string (Rw.str (Rw.make n k))) ∧ w = w' := by
  go_enter Try.func92, Try.ntmps92
  go_wp2
  go_loop [0, 1, 5] (fun s q o => ∃ (i kj : Nat) (r : List Bool), i ≤ n ∧ kj ≤ 4611686018427387904 ∧ s = .int .i64 (i : Int) ∧ q = .int .i64 (kj : Int) ∧ o = .string (Rw.str r) ∧ Rw.make i kj ++ r = Rw.make n k ∧ r.length ≤ 60 - i) (fun s _ _ => (intOf s).toNat)
  case atStart => exact ⟨n, k, [], Nat.le_refl _, hk, rfl, rfl, rfl, List.append_nil _, Nat.zero_le _⟩
  case round =>
    obtain ⟨i, kj, r, hi, hkj, rfl, rfl, rfl, hm, hl⟩ := hrel
    obtain ⟨o, ho⟩ : ∃ o, o = Rw.str r := ⟨_, rfl⟩
    rw [← ho]
    have hos : o.size ≤ 60 := by rw [ho, Rw.size_str]; omega
    have HO := Lib.hid ho
    have HM := Lib.hid hm
    clear ho hm
    rcases i with _ | i
    · have H1 : Hid (o = Rw.str (Rw.make n k)) := by rw [HO.out, ← HM.out]; exact rfl
      go_wp2
      go_ret
      exact ⟨ret_str H1.out, rfl⟩
    · have HN : Hid (Rw.make i (kj / 2) ++ (kj % 2 == 1) :: r = Rw.make n k) := by rw [make_more]; exact HM.out
      rcases Nat.mod_two_eq_zero_or_one kj with h2 | h2
      · have HE : Hid ((kj % 2 == 1) = false) := by rw [h2]; rfl
        have h3 : (kj : Int) % 2 = 0 := by omega
        have h4 : ((kj : Int) % 2 == 1) = false := by rw [h3]; rfl
        clear h2 h3
        go_wp2
        go_round
        case rel => exact ⟨i, kj / 2, _, by omega, by omega, int_eq2 (by omega), int_eq2 (by omega), str_sign HE.out HO.out, HN.out, by simp; omega⟩
        case measure => simp [intOf]
      · have HE : Hid ((kj % 2 == 1) = true) := by rw [h2]; rfl
        have h3 : (kj : Int) % 2 = 1 := by omega
        have h4 : ((kj : Int) % 2 == 1) = true := by rw [h3]; rfl
        clear h2 h3
        go_wp2
        go_round
        case rel => exact ⟨i, kj / 2, _, by omega, by omega, int_eq2 (by omega), int_eq2 (by omega), str_sign HE.out HO.out, HN.out, by simp; omega⟩
        case measure => simp [intOf]

def p2 (n : Nat) : Nat := 2 ^ n
theorem p2_le (n : Nat) (hn : n ≤ 60) : p2 n ≤ 1152921504606846976 := by
  have h : 2 ^ n ≤ 2 ^ 60 := Nat.pow_le_pow_right (by omega) hn
  have h3 : (2 : Nat) ^ 60 = 1152921504606846976 := by decide
  unfold p2; omega
theorem p2_pos (n : Nat) : 1 ≤ p2 n := Nat.one_le_two_pow
theorem p2_wrap (n : Nat) (hn : n ≤ 60) : wrap64 ((2 : Int) ^ n) = (p2 n : Int) := by
  have h := p2_le n hn
  have e : ((2 : Int) ^ n) = (p2 n : Int) := by unfold p2; push_cast; rfl
  rw [e]
  exact IntWalk.wrap64_in _ (by omega)

set_option maxRecDepth 20000 in
set_option maxHeartbeats 1000000 in
theorem countRows_any (n : Nat) (hn : n ≤ 60) (w : World) :
    Calls Try.prog 82 #[.int .i64 (n : Int)] w fun e w' => e = .returned (.int .i64 (p2 n : Int)) ∧ w = w' := by
  have H := Lib.hid (p2_wrap n hn)
  go_enter Try.func82, Try.ntmps82
  go_wp2
  go_ret
  exact ⟨ret_int H.out, rfl⟩

/-- the troop of which the soldiers from i on have been placed -/
def laid (i : Nat) (r : List Bool) : List Bool := List.replicate i false ++ r
theorem laid_set (i : Nat) (b : Bool) (r : List Bool) : (laid (i + 1) r).set i b = laid i (b :: r) := by
  unfold laid
  rw [List.replicate_succ', List.append_assoc, List.set_append_right _ _ (by simp)]
  simp

set_option maxRecDepth 20000 in
set_option maxHeartbeats 1000000 in
theorem troopOf_any (n k : Nat) (h1 : 1 ≤ n) (hn : n ≤ 60) (hk : k ≤ 4611686018427387904) (w : World) :
    Calls Try.prog 83 #[.int .i64 (n : Int), .int .i64 (k : Int)] w fun e w' => e = .returned (.slice (some ⟨w.heap.size, 0, none⟩) n n) ∧ Trp w' w.heap.size (Rw.make n k) (List.replicate n 0) ∧ Below w.heap.size w w' := by
  obtain ⟨i0, hi, hz0, hz1, hz2⟩ := info_parts Try.info_placed
  go_enter Try.func83, Try.ntmps83
  go_wp2_with (at_make; refine wpList_make_full _ rfl _ _ 60 rfl w.heap.size 94 i0 (.agg #[.bool false, .int .i64 0]) 2 Try.underlying60 hi hz0 hz1 .i64 .i64 _ _ n rfl rfl rfl rfl (by rw [hz2]; omega) (by unfold maxLen; omega) (Nat.le_refl _) ?_; intro w1 hown hgrow)
  have hT0 : Trp w1 w.heap.size (laid n []) (List.replicate n 0) := by
    have h := hown
    rw [show (Value.agg #[.bool false, .int .i64 0]).cells = #[.bool false, .int .i64 0] from rfl, made_tc] at h
    unfold laid; rw [List.append_nil]; exact trp_of_own h (by simp)
  have hb0 := below_made hgrow
  clear hown hgrow
  go_loopw [1, 6] (fun q i wr => ∃ (j kj : Nat) (r : List Bool), j ≤ n ∧ kj ≤ 4611686018427387904 ∧ i = .int .i64 ((j : Int) - 1) ∧ q = .int .i64 (kj : Int) ∧ Rw.make j kj ++ r = Rw.make n k ∧ r.length + j = n ∧ Trp wr w.heap.size (laid j r) (List.replicate n 0) ∧ Below w.heap.size w wr) (fun _ i _ => (intOf i + 1).toNat)
  case atStart => exact ⟨n, k, [], Nat.le_refl _, hk, rfl, rfl, List.append_nil _, by simp, hT0, hb0⟩
  case round =>
    obtain ⟨j, kj, r, hj, hkj, rfl, rfl, hm, hl, hT, hB⟩ := hrel
    have HM := Lib.hid hm
    have HB := Lib.hid hB
    clear hm hT0 hb0
    rcases j with _ | j
    · have H1 : Hid (Trp wr w.heap.size (Rw.make n k) (List.replicate n 0)) := by rw [← HM.out]; exact hT
      clear hT hB
      go_wp2
      go_ret
      exact ⟨rfl, H1.out, HB.out⟩
    · have HN : Hid (Rw.make j (kj / 2) ++ (kj % 2 == 1) :: r = Rw.make n k) := by rw [make_more]; exact HM.out
      have hll : (laid (j + 1) r).length = n := by simp [laid]; omega
      have e1 := hT.cellB j (by omega)
      have f1 := hT.free (j * 2)
      obtain ⟨b0, hb⟩ : ∃ b, b = (laid (j + 1) r).getD j false := ⟨_, rfl⟩
      rw [← hb] at e1
      have HT : Hid (∀ b, Trp (wr.setCell ⟨w.heap.size, j * 2, none⟩ (.bool b)) w.heap.size (laid j (b :: r)) (List.replicate n 0)) := by
        refine Lib.hid (fun b => ?_)
        rw [← laid_set]; exact hT.setB j b
      have HB2 : Hid (∀ b, Below w.heap.size w (wr.setCell ⟨w.heap.size, j * 2, none⟩ (.bool b))) := Lib.hid (fun b => hB.setCell (Nat.le_refl _) _)
      have ej : ((j + 1 : Nat) : Int) - 1 = (j : Int) := by omega
      have hjn : j < n := by omega
      rw [ej]
      clear hb hT hB ej hll
      rcases Nat.mod_two_eq_zero_or_one kj with h2 | h2
      · have HE : Hid ((kj % 2 == 1) = false) := by rw [h2]; rfl
        have h3 : (kj : Int) % 2 = 0 := by omega
        have h4 : ((kj : Int) % 2 == 1) = false := by rw [h3]; rfl
        clear h2 h3
        go_wp2
        go_roundw
        case rel => exact ⟨j, kj / 2, _, by omega, by omega, rfl, int_eq2 (by omega), HN.out, by simp; omega, by rw [HE.out]; exact HT.out false, HB2.out false⟩
        case measure => simp [intOf]
      · have HE : Hid ((kj % 2 == 1) = true) := by rw [h2]; rfl
        have h3 : (kj : Int) % 2 = 1 := by omega
        have h4 : ((kj : Int) % 2 == 1) = true := by rw [h3]; rfl
        clear h2 h3
        go_wp2
        go_roundw
        case rel => exact ⟨j, kj / 2, _, by omega, by omega, rfl, int_eq2 (by omega), HN.out, by simp; omega, by rw [HE.out]; exact HT.out true, HB2.out true⟩
        case measure => simp [intOf]

end Go.Proofs.Ytacchefmblfobaa.C1
