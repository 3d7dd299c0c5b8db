
/- The model's own functions: rwTick, rwRest. -/
import Derived.Test.YtacchefmblfobaaC1Tick
import Derived.Test.YtacchefmblfobaaC1Settle
import Derived.WalkSpells
import Derived.WalkSmall
namespace Go.Proofs.Ytacchefmblfobaa.C1
open Go.ChangeShapes Go.WideShapes Go.ChangeAt Go.RowKit

theorem ret_two {a b : ByteArray} {x y : Int} (h : a = b) (k : x = y) : Ending.returned (.tuple #[.string a, .int .i64 x]) = .returned (.tuple #[.string b, .int .i64 y]) := by rw [h, k]

theorem ret_sb {a b : ByteArray} {x : Bool} (h : a = b) : Ending.returned (.tuple #[.string a, .bool x]) = .returned (.tuple #[.string b, .bool x]) := by rw [h]

def swapped (l : List Bool) (j : Nat) : List Bool := ((Rw.pairs l).take j).foldl Rw.swapAt l
theorem swapped_succ (l : List Bool) (j : Nat) (h : j < (Rw.pairs l).length) : swapped l (j + 1) = Rw.swapAt (swapped l j) (Rw.pairs l)[j] := fold_take _ _ _ _ h
theorem length_swapped (l : List Bool) (j : Nat) : (swapped l j).length = l.length := Rw.length_foldl_swap _ _
theorem swapped_all (l : List Bool) (j : Nat) (h : j = (Rw.pairs l).length) : swapped l j = Rw.tick l := by
  unfold swapped; rw [h, List.take_length]; rfl
theorem cut_swap : ∀ (m : List Bool) (p : Nat), p + 1 < m.length → m.take p ++ [false, true] ++ m.drop (p + 2) = Rw.swapAt m p
  | [], p, h => by simp at h
  | [_], p, h => by simp at h
  | _ :: _ :: t, 0, _ => by simp [Rw.swapAt]
  | a :: b :: t, p + 1, h => by
    have := cut_swap (b :: t) p (by simpa using h)
    simp only [Rw.swapAt, List.take_succ_cons, List.drop_succ_cons, List.set_cons_succ, List.cons_append] at this ⊢
    rw [this]
theorem cut_str (m : List Bool) (p : Nat) (hp : p + 1 < m.length) {s : ByteArray} (hs : s = Rw.str m) : s.extract 0 p ++ { data := #[60, 62] } ++ s.extract (p + 2) s.size = Rw.str (Rw.swapAt m p) := by
  subst hs
  rw [← cut_swap m p hp, Rw.size_str, Rw.str_take, Rw.str_drop, ← Rw.str_append, ← Rw.str_append]
  rfl

set_option maxRecDepth 20000 in
set_option maxHeartbeats 2000000 in
theorem rwTick_any (l : List Bool) (h1 : 1 ≤ l.length) (h2 : l.length ≤ 60) (w : World) :
    Calls Try.prog 71 #[.string (Rw.str l)] w fun e w' => e = .returned (.string (Rw.str (Rw.tick l))) ∧ Below w.heap.size w w' := by
  have HP := Lib.hid (rwPairs_any l h1 h2 w)
  have hpl : (Rw.pairs l).length ≤ 60 := by have := Rw.pairsTo_le l (l.length - 1); unfold Rw.pairs; omega
  obtain ⟨K, hK⟩ : ∃ K, K = (Rw.pairs l).length := ⟨_, rfl⟩
  rw [← hK] at HP hpl
  have HK := Lib.hid hK
  obtain ⟨s, hs⟩ : ∃ s, s = Rw.str l := ⟨_, rfl⟩
  rw [← hs] at HP ⊢
  have HS := Lib.hid hs
  clear hK hs
  go_enter Try.func71, Try.ntmps71
  go_wp2_with fail
  go_at_call 70
  refine HP.out.mono ?_
  rintro e w1 ⟨v, rfl, hown, hbel⟩
  have HO := Lib.hid hown
  have hws := hbel.size
  rcases own_shape hown with ⟨rfl, hn0⟩ | ⟨gv, cap, rfl, hgv⟩
  · have he : Rw.pairs l = [] := List.eq_nil_of_length_eq_zero (by rw [← HK.out]; exact hn0)
    have H1 : Hid (s = Rw.str (Rw.tick l)) := by unfold Rw.tick; rw [he]; exact HS.out
    have HB := Lib.hid hbel
    clear hown hbel hn0 he
    go_wp2
    go_loopw [0, 8] (fun r i wr => r = .string s ∧ i = .int .i64 0 ∧ wr = w1) (fun _ _ _ => 0)
    case atStart => exact ⟨rfl, rfl, rfl⟩
    case round =>
      obtain ⟨rfl, rfl, rfl⟩ := hrel
      go_wp2
      go_ret
      exact ⟨ret_str H1.out, HB.out⟩
  · clear hown
    go_wp2
    go_loopw [0, 8] (fun r i wr => ∃ j : Nat, j ≤ K ∧ i = .int .i64 j ∧ r = .string (Rw.str (swapped l j)) ∧ Below w1.heap.size w1 wr) (fun _ i _ => K - (intOf i).toNat)
    case atStart => exact ⟨0, Nat.zero_le _, rfl, by rw [HS.out]; rfl, Below.refl _ _⟩
    case round =>
      obtain ⟨j, hj, rfl, rfl, hB⟩ := hrel
      obtain ⟨sj, hsj⟩ : ∃ sj, sj = Rw.str (swapped l j) := ⟨_, rfl⟩
      rw [← hsj]
      have HSJ := Lib.hid hsj
      by_cases hlt : j < K
      · have hO : wr.ownsRow w.heap.size 3 1 (.slice (some ⟨gv, 0, none⟩) K cap) K (ints (Rw.pairs l)) := HO.out.kept (below_grownBy hB none) (.inr (by simp [Value.ownBlock]))
        have hjl : j < (Rw.pairs l).length := by have := HK.out; omega
        have hcell := own_cell' hO HK.out j hjl
        obtain ⟨p, hp⟩ : ∃ p, p = (Rw.pairs l)[j] := ⟨_, rfl⟩
        have hmem := Rw.mem_pairs (List.getElem_mem hjl)
        have HA := Lib.hid (swapped_succ l j hjl)
        rw [← hp] at hcell hmem HA
        have hsz : sj.size = l.length := by rw [hsj, Rw.size_str, length_swapped]
        have hz1 : p + 2 ≤ sj.size := by omega
        have hz2 : sj.size ≤ 60 := by omega
        have HC := Lib.hid (cut_str (swapped l j) p (by rw [length_swapped]; exact hmem.1) hsj)
        have HBB := Lib.hid hB
        have i1 : (0 : Int) ≤ (p : Int) := by omega
        have i2 : (p : Int) ≤ (sj.size : Int) := by omega
        have i3 : IntKind.i64.wrap ((p : Int) + 2) = (p : Int) + 2 := IntWalk.i64_in _ (by omega)
        have i4 : (p : Int) + 2 ≤ (sj.size : Int) := by omega
        have i5 : ((p : Int) + 2).toNat = p + 2 := by omega
        have i6 : (0 : Int) ≤ (p : Int) + 2 := by omega
        clear hsj hp hmem hO hsz hB hbel
        go_wp2_with fail
        go_quiet (fail)
        go_wp2
        go_roundw
        case rel => exact ⟨j + 1, by omega, by go_num, by rw [HA.out, ← HC.out], below_drewN HBB.out _⟩
        case measure => simp [intOf]; omega
      · have hjk : j = (Rw.pairs l).length := by have := HK.out; omega
        have H1 : Hid (sj = Rw.str (Rw.tick l)) := by rw [← swapped_all l j hjk]; exact hsj
        have HBB : Hid (Below w.heap.size w wr) := hbel.trans (hB.mono hws)
        clear hsj hjk hB hbel
        go_wp2
        go_ret
        exact ⟨ret_str H1.out, HBB.out⟩

set_option maxRecDepth 20000 in
set_option maxHeartbeats 2000000 in
theorem rwRest_any (l : List Bool) (h1 : 1 ≤ l.length) (h2 : l.length ≤ 60) (w : World) :
    Calls Try.prog 66 #[.string (Rw.str l)] w fun e w' => e = .returned (.tuple #[.string (Rw.str (Rw.restOf l)), .int .i64 (Rw.ticksOf l : Nat)]) ∧ Below w.heap.size w w' := by
  have hmw := Rw.mw_row l h2
  have htb : Rw.ticksOf l ≤ 3600 := by have := Rw.ticksOf_le l; omega
  obtain ⟨T, hTT⟩ : ∃ T, T = Rw.ticksOf l := ⟨_, rfl⟩
  rw [← hTT] at htb ⊢
  have HTT := Lib.hid hTT
  obtain ⟨s, hs⟩ : ∃ s, s = Rw.str l := ⟨_, rfl⟩
  rw [← hs]
  have HS := Lib.hid hs
  clear hTT hs
  go_enter Try.func66, Try.ntmps66
  go_wp2
  go_loopw [0, 4] (fun r t wr => ∃ k mj cj, k ≤ T ∧ t = .int .i64 (k : Nat) ∧ r = .string (Rw.str mj) ∧ Way l (List.replicate l.length 0) k mj cj ∧ Below w.heap.size w wr) (fun _ t _ => T - (intOf t).toNat)
  case atStart => exact ⟨0, l, _, Nat.zero_le _, rfl, by rw [HS.out], Way.start l _, Below.refl _ _⟩
  case round =>
    obtain ⟨k, mj, cj, hk, rfl, rfl, hW, hB⟩ := hrel
    have hwl := hW.2.2.2.1
    have HC := Lib.hid (rwPairs_any mj (by omega) (by omega) wr)
    have HU := Lib.hid (fun w2 => rwTick_any mj (by omega) (by omega) w2)
    obtain ⟨sj, hsj⟩ : ∃ sj, sj = Rw.str mj := ⟨_, rfl⟩
    rw [← hsj] at HC HU ⊢
    have HSJ := Lib.hid hsj
    have HB := Lib.hid hB
    have hws := hB.size
    by_cases hp : Rw.pairs mj = []
    · have HD := Lib.hid (hW.done hp)
      have hl0 : (Rw.pairs mj).length = 0 := by rw [hp]; rfl
      rw [hl0, hp] at HC
      clear hp hW hB hwl hsj hl0
      go_wp2_with fail
      go_at_call 70
      refine HC.out.mono ?_
      rintro e w2 ⟨v, rfl, hown, hbel⟩
      have H2 : Hid (Below w.heap.size w w2) := HB.out.trans (hbel.mono hws)
      rcases own_shape hown with ⟨rfl, _⟩ | ⟨gv, cap, rfl, _⟩
      all_goals
        clear hown hbel
        go_wp2
        go_ret2
        exact ⟨ret_two (by rw [HSJ.out, HD.out.2.1]) (by rw [HTT.out, HD.out.1]), H2.out⟩
    · have hkT : k < T := by rw [HTT.out]; exact hW.more hp
      have HX := Lib.hid (hW.next (by simp) hp)
      have hpos : 0 < (Rw.pairs mj).length := List.length_pos_iff.2 hp
      clear hp hW hB hwl hsj
      go_wp2_with fail
      go_at_call 70
      refine HC.out.mono ?_
      rintro e w2 ⟨v, rfl, hown, hbel⟩
      have hb2 := hbel.size
      have H2 : Hid (Below w.heap.size w w2) := HB.out.trans (hbel.mono hws)
      rcases own_shape hown with ⟨rfl, h0⟩ | ⟨gv, cap, rfl, _⟩
      · omega
      · clear hown hbel
        go_wp2_with fail
        go_at_call 71
        refine (HU.out _).mono ?_
        rintro e w3 ⟨rfl, hb3⟩
        have H3 : Hid (Below w.heap.size w w3) := H2.out.trans (hb3.mono (by omega))
        clear hb3
        go_wp2
        go_roundw
        case rel => exact ⟨k + 1, _, _, by omega, by go_num, rfl, HX.out, H3.out⟩
        case measure => simp [intOf]; omega

end Go.Proofs.Ytacchefmblfobaa.C1
