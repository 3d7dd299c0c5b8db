/- Chapter 2, the model's functions: heRight, NextTaller, RanksOf, MirrorHeights. -/
import Derived.Test.YtkolkigpppfhcaaHeSpec
namespace Go.Proofs.Ytkolkigpppfhcaa
open Go.ChangeShapes Go.WideShapes Go.ChangeAt Go.RowKit

def heights (zs : List Int) : List Nat := zs.map Int.toNat
theorem back_asInts (hs : List Nat) (k : Nat) : He.backTo (asInts hs) k = asInts (He.backTo hs k) := by
  unfold He.backTo asInts; rw [← List.map_drop, List.map_reverse]
def rightL (hs : List Nat) : List Int := (He.backTo (He.seen (He.backTo hs 0)) 0).map fun i : Nat => (hs.length : Int) - 1 - (i : Int)
theorem seen_lt {hs : List Nat} {x : Nat} (h : x ∈ He.seen hs) : x < hs.length := by
  unfold He.seen He.seenTo at h
  exact List.mem_range.1 (List.mem_filter.1 h).1

set_option maxHeartbeats 2000000 in
theorem heRight_any (w : World) (a : Option Addr) (len cap : Nat) (hs : List Nat) (hl : len ≤ 1000000) (hc : Came w a len (asInts hs)) :
    Calls Try.prog 23 #[.slice a len cap] w fun e w' => ∃ v, e = .returned v ∧ Own w' w.heap.size v (rightL hs) ∧ Below w.heap.size w w' := by
  have HZL : Hid (len = hs.length) := Lib.hid (by rw [← asInts_len]; exact hc.1.symm)
  have HB0 := Lib.hid (heBack_any w a len cap _ hl hc)
  rw [back_asInts] at HB0
  have hbl : (He.backTo hs 0).length = len := by rw [He.length_backTo]; have := HZL.out; omega
  obtain ⟨bs, hbs⟩ : ∃ bs, bs = He.backTo hs 0 := ⟨_, rfl⟩
  rw [← hbs] at HB0 hbl
  have HBS := Lib.hid hbs
  have hsl := He.seenTo_len bs bs.length
  have hst : ∀ x ∈ He.seen bs, x < len := fun x hx => by have := seen_lt hx; omega
  obtain ⟨ss, hss⟩ : ∃ ss, ss = He.seen bs := ⟨_, rfl⟩
  have hsl2 : ss.length ≤ 1000000 := by rw [hss]; unfold He.seen; omega
  obtain ⟨rs, hrs⟩ : ∃ rs, rs = He.backTo ss 0 := ⟨_, rfl⟩
  have hrl : rs.length = ss.length := by rw [hrs, He.length_backTo]; omega
  have hrx : Hid (∀ j, j < rs.length → rs.getD j 0 < len) := Lib.hid (fun j hj => by
    have hm : rs.getD j 0 ∈ rs := getD_mem0 hj
    refine hst _ ?_
    rw [← hss]
    have h2 : ∀ y, y ∈ rs → y ∈ ss := fun y hy => by
      rw [hrs] at hy
      unfold He.backTo at hy
      rwa [List.mem_reverse, List.drop_zero] at hy
    exact h2 _ hm)
  have HR : Hid (rightL hs = rs.map fun i : Nat => (len : Int) - 1 - (i : Int)) := by
    unfold rightL
    rw [← hbs, ← hss, ← hrs, ← HZL.out]; exact rfl
  rw [HR.out]
  have HSS : Hid (ss = He.seen bs) := hss
  have HRS : Hid (rs = He.backTo ss 0) := hrs
  clear hc hbs hss hrs hst hsl
  go_enter Try.func23, Try.ntmps23
  go_wp2_with fail
  go_at_call 29
  refine HB0.out.mono ?_
  rintro e w1 ⟨v1, rfl, o1, b1⟩
  obtain ⟨a1, k1, rfl, hc1⟩ := o1.came
  rw [asInts_len, hbl] at hc1 ⊢
  have HS1 := Lib.hid (heSeen_any w1 a1 len k1 bs hl hc1)
  rw [← HSS.out] at HS1
  have B1 := Lib.hid b1
  have z1 := b1.size
  clear o1 b1 hc1
  go_wp2_with fail
  go_at_call 22
  refine HS1.out.mono ?_
  rintro e w2 ⟨v2, rfl, o2, b2⟩
  obtain ⟨a2, k2, rfl, hc2⟩ := o2.came
  rw [asInts_len] at hc2 ⊢
  have HB2 := Lib.hid (heBack_any w2 a2 ss.length k2 _ hsl2 hc2)
  rw [back_asInts, ← HRS.out] at HB2
  have B2 : Hid (Below w.heap.size w w2) := B1.out.trans (b2.mono z1)
  have z2 := b2.size
  clear o2 b2 hc2
  go_wp2_with fail
  go_at_call 29
  refine HB2.out.mono ?_
  rintro e w3 ⟨v3, rfl, o3, b3⟩
  obtain ⟨a3, k3, rfl, hc3⟩ := o3.came
  rw [asInts_len, hrl] at hc3 ⊢
  have HC3 := Lib.hid hc3
  have B3 : Hid (Below w.heap.size w w3) := B2.out.trans (b3.mono (by omega))
  have z3 := b3.size
  obtain ⟨L, hL⟩ : ∃ L, L = ss.length := ⟨_, rfl⟩
  rw [← hL] at HC3 hsl2 hrl ⊢
  have HRL : Hid (rs.length = L) := hrl
  clear o3 b3 hc3 hL hrl
  go_wp2
  have B3W : Hid (w.heap.size ≤ w3.heap.size) := Lib.hid (by omega)
  go_loopw [3, 11] (fun v i wr => ∃ j : Nat, j ≤ L ∧ i = .int .i64 (j : Int) ∧ Own wr w3.heap.size v (He.mapTo (fun i : Nat => (len : Int) - 1 - (i : Int)) rs j) ∧ Below w3.heap.size w3 wr) (fun _ i _ => L - (intOf i).toNat)
  case atStart => exact ⟨0, Nat.zero_le _, rfl, own_nil _ _, Below.refl _ _⟩
  case round =>
    obtain ⟨j, hj, rfl, ho, hb3⟩ := hrel
    by_cases hlt : j < L
    · obtain ⟨b, off, rfl, hcell⟩ := (HC3.out.below hb3).2 (by omega)
      have e1 := hcell j hlt
      rw [getD_asInts] at e1
      have hxl := hrx.out j (by have := HRL.out; omega)
      have HS := Lib.hid (He.mapTo_succ 0 (fun i : Nat => (len : Int) - 1 - (i : Int)) rs j (by have := HRL.out; omega))
      have hml := He.length_mapTo (fun i : Nat => (len : Int) - 1 - (i : Int)) rs j
      have hml2 : (He.mapTo (fun i : Nat => (len : Int) - 1 - (i : Int)) rs j).length ≤ 1000000000 := by omega
      have HO := Lib.hid ho
      have H3 := Lib.hid hb3
      have hz3 := hb3.size
      obtain ⟨x, hxx⟩ : ∃ x, x = rs.getD j 0 := ⟨_, rfl⟩
      rw [← hxx] at e1 hxl HS
      clear hxx ho hb3 hcell hml
      go_wp2_with (at_builtin; refine wpList_app rfl _ _ rfl _ _ _ _ _ rfl rfl HO.out hz3 hml2 ?_; intro v' w5 hO hB1)
      have HO2 : Hid (Own w5 w3.heap.size v' (He.mapTo (fun i : Nat => (len : Int) - 1 - (i : Int)) rs (j + 1))) := by rw [HS.out]; exact hO
      have HB2' : Hid (Below w3.heap.size w3 w5) := H3.out.trans hB1
      clear hO hB1
      go_wp2
      go_roundw
      case rel => exact ⟨j + 1, by omega, by go_num, HO2.out, HB2'.out⟩
      case measure => simp [intOf]; omega
    · have hjn : j = rs.length := by have := HRL.out; omega
      rw [hjn, He.mapTo_all] at ho
      have HO := Lib.hid ho
      have HB := Lib.hid hb3
      clear ho hb3 hjn
      go_wp2
      go_ret
      exact ⟨_, rfl, HO.out.mono B3W.out, B3.out.trans (HB.out.mono B3W.out)⟩

end Go.Proofs.Ytkolkigpppfhcaa
