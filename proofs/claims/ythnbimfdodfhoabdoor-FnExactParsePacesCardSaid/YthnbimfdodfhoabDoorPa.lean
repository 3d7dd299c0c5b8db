/- Chapter 5: the model's paces: spPace, spGood, ArePaces, spTime, spAt, SteppingAt. -/
import Derived.Test.YthnbimfdodfhoabDoorRPace
import Derived.Test.YthnbimfdodfhoabDoorIn
import Derived.Test.YthnbimfdodfhoabDoorUp
import Derived.Test.YthnbimfdodfhoabDoorDrew
import Derived.BigQuiet
namespace Go.Proofs.YthnbimfdodfhoabDoor
open Go.ChangeShapes Go.WideShapes Go.ChangeAt Go.RowKit

namespace Pa
def paceB (p : RPace) : Bool := inB p.1 1 60 && inB p.2 0 (p.1 - 1)
def goodP (ps : List RPace) : Bool := inB ps.length 1 6 && ps.all paceB
def asP (qs : List (Nat × Nat)) : List RPace := qs.map fun q => ((q.1 : Int), (q.2 : Int))
structure GoodQ (qs : List (Nat × Nat)) : Prop where
  pos : 1 ≤ qs.length
  few : qs.length ≤ 6
  each : ∀ k, k < qs.length → 1 ≤ (qs.getD k (1, 0)).1 ∧ (qs.getD k (1, 0)).1 ≤ 60 ∧ (qs.getD k (1, 0)).2 < (qs.getD k (1, 0)).1
theorem length_asP (qs : List (Nat × Nat)) : (asP qs).length = qs.length := by simp [asP]
theorem getD_asP (qs : List (Nat × Nat)) (k : Nat) (h : k < qs.length) : (asP qs).getD k zPace = (((qs.getD k (1, 0)).1 : Int), ((qs.getD k (1, 0)).2 : Int)) := by
  simp [asP, List.getD_eq_getElem?_getD, h]
theorem good_nat {ps : List RPace} (h : goodP ps = true) : ∃ qs, ps = asP qs ∧ GoodQ qs := by
  unfold goodP at h
  rw [Bool.and_eq_true, List.all_eq_true] at h
  have h1 := inB_yes h.1
  have hp : ∀ p ∈ ps, 1 ≤ p.1 ∧ p.1 ≤ 60 ∧ 0 ≤ p.2 ∧ p.2 ≤ p.1 - 1 := fun p hp => by
    have h2 := h.2 p hp
    unfold paceB at h2
    rw [Bool.and_eq_true] at h2
    have := inB_yes h2.1
    have := inB_yes h2.2
    omega
  refine ⟨ps.map fun p => (p.1.toNat, p.2.toNat), ?_, by simp; omega, by simp; omega, fun k hk => ?_⟩
  · unfold asP
    rw [List.map_map]
    symm
    refine (List.map_congr_left (fun p hpm => ?_)).trans (List.map_id _)
    have := hp p hpm
    show (((p.1.toNat : Nat) : Int), ((p.2.toNat : Nat) : Int)) = p
    exact Prod.ext (show ((p.1.toNat : Nat) : Int) = p.1 by omega) (show ((p.2.toNat : Nat) : Int) = p.2 by omega)
  · rw [List.length_map] at hk
    have := hp ps[k] (List.getElem_mem hk)
    simp only [List.getD_eq_getElem?_getD, List.getElem?_map, List.getElem?_eq_getElem hk, Option.map_some, Option.getD_some]
    omega
/-- who of the first k steps at a time -/
def onTo (qs : List (Nat × Nat)) (t k : Nat) : List Int := asInts ((List.range k).filter fun i => decide (t % (qs.getD i (1, 0)).1 = (qs.getD i (1, 0)).2))
theorem onTo_yes {qs : List (Nat × Nat)} {t k : Nat} (h : t % (qs.getD k (1, 0)).1 = (qs.getD k (1, 0)).2) : onTo qs t (k + 1) = onTo qs t k ++ [(k : Int)] := by
  unfold onTo; rw [List.range_succ, List.filter_append]
  have hd := decide_eq_true h
  rw [List.filter_cons, if_pos hd, List.filter_nil]; unfold asInts; rw [List.map_append]; rfl
theorem onTo_no {qs : List (Nat × Nat)} {t k : Nat} (h : ¬ t % (qs.getD k (1, 0)).1 = (qs.getD k (1, 0)).2) : onTo qs t (k + 1) = onTo qs t k := by
  unfold onTo; rw [List.range_succ, List.filter_append]
  have hd := decide_eq_false h
  rw [List.filter_cons, if_neg (by rw [hd]; decide), List.filter_nil, List.append_nil]
theorem length_onTo (qs : List (Nat × Nat)) (t k : Nat) : (onTo qs t k).length ≤ k := by
  unfold onTo; rw [asInts_len]; refine Nat.le_trans (List.length_filter_le _ _) ?_; rw [List.length_range]; exact Nat.le_refl _
def onL (qs : List (Nat × Nat)) (t : Nat) : List Int := onTo qs t qs.length
/-- how many step at a time -/
def many (qs : List (Nat × Nat)) (t : Nat) : Nat := (onL qs t).length
theorem many_le (qs : List (Nat × Nat)) (t : Nat) : many qs t ≤ qs.length := length_onTo _ _ _
def toQ (ps : List RPace) : List (Nat × Nat) := ps.map fun p => (p.1.toNat, p.2.toNat)
theorem toQ_asP (qs : List (Nat × Nat)) : toQ (asP qs) = qs := by
  unfold toQ asP
  rw [List.map_map]
  refine (List.map_congr_left (fun p _ => ?_)).trans (List.map_id _)
  simp
end Pa
open Pa
/-- paces that came in, as numbers -/
def CameQ (w : World) (a : Option Addr) (len : Nat) (qs : List (Nat × Nat)) : Prop := qs.length = len ∧ (0 < len → ∃ b off, a = some ⟨b, off, none⟩ ∧ ∀ k, k < len → w.cell? ⟨b, off + k * 2, none⟩ = some (.int .i64 ((qs.getD k (1, 0)).1 : Nat)) ∧ w.cell? ⟨b, off + k * 2 + 1, none⟩ = some (.int .i64 ((qs.getD k (1, 0)).2 : Nat)))
theorem CameQ.of {w : World} {a : Option Addr} {len : Nat} {qs : List (Nat × Nat)} (h : CamePace w a len (asP qs)) : CameQ w a len qs := by
  have hl := h.1
  rw [length_asP] at hl
  refine ⟨hl, fun hp => ?_⟩
  obtain ⟨b, off, ha, hc⟩ := h.2 hp
  refine ⟨b, off, ha, fun k hk => ?_⟩
  have := hc k hk
  rw [getD_asP qs k (by omega)] at this
  exact this
theorem CameQ.below {w w' : World} {a : Option Addr} {len : Nat} {qs : List (Nat × Nat)} (h : CameQ w a len qs) (hb : Below w.heap.size w w') : CameQ w' a len qs := by
  refine ⟨h.1, fun hp => ?_⟩
  obtain ⟨b, off, ha, hc⟩ := h.2 hp
  refine ⟨b, off, ha, fun k hk => ?_⟩
  obtain ⟨h0, h1⟩ := hc k hk
  exact ⟨(hb.cell (World.block_lt_of_cell? w _ h0)).trans h0, (hb.cell (World.block_lt_of_cell? w _ h1)).trans h1⟩
def outArePaces_0 (ps : List RPace) : Bool := goodP ps
def outSteppingAt_0 (ps : List RPace) (t : Int) : List Int := if goodP ps && inB t 0 1000000000 then onL (toQ ps) t.toNat else []
def outSteppingAt_1 (ps : List RPace) (t : Int) : Bool := goodP ps && inB t 0 1000000000
theorem toQ_len (ps : List RPace) : (toQ ps).length = ps.length := by simp [toQ]
theorem good_len {ps : List RPace} (h : goodP ps = true) : ps.length ≤ 6 := by
  unfold goodP at h; rw [Bool.and_eq_true] at h; have := inB_yes h.1; omega
theorem lenSteppingAt_0 (ps : List RPace) (t : Int) : (outSteppingAt_0 ps t).length ≤ 4611686018427387904 := by
  unfold outSteppingAt_0
  split
  · rename_i h
    rw [Bool.and_eq_true] at h
    have := length_onTo (toQ ps) t.toNat (toQ ps).length
    have := good_len h.1
    rw [toQ_len] at *
    unfold onL
    rw [toQ_len]
    omega
  · simp

set_option maxHeartbeats 1000000 in
theorem spPace_any (x y : Int) (w : World) :
    Calls Tryd.prog 38 #[.agg #[.int .i64 x, .int .i64 y]] w fun e w' => e = .returned (.bool (paceB (x, y))) ∧ Below w.heap.size w w' := by
  have HI := Lib.hid (fun w2 => l1In_any x 1 60 w2)
  have HJ := Lib.hid (fun w2 => l1In_any y 0 (x - 1) w2)
  have HB : Hid (Below w.heap.size w (w.alloc (.cells #[.int .i64 x, .int .i64 y] 23))) := Lib.hid ((Below.refl _ _).alloc (Nat.le_refl _) _)
  rcases hb : inB x 1 60 with _ | _
  · have HE : Hid (paceB (x, y) = false) := Lib.hid (by unfold paceB; simp only; rw [hb]; rfl)
    rw [hb] at HI
    clear hb
    go_enter Tryd.func38, Tryd.ntmps38
    go_wp2_with (go_at_call 18; refine (HI.out _).mono ?_; rintro e w' ⟨rfl, rfl⟩)
    go_ret
    exact ⟨ret_bool (by rw [HE.out]), HB.out⟩
  · have HE : Hid (paceB (x, y) = inB y 0 (x - 1)) := Lib.hid (by unfold paceB; simp only; rw [hb]; rfl)
    obtain ⟨h1, h2⟩ := inB_yes hb
    rw [hb] at HI
    clear hb
    go_enter Tryd.func38, Tryd.ntmps38
    go_wp2_with fail
    go_at_call 18
    refine (HI.out _).mono ?_
    rintro e w' ⟨rfl, rfl⟩
    go_wp2_with fail
    go_at_call 18
    refine (HJ.out _).mono ?_
    rintro e w' ⟨rfl, rfl⟩
    go_wp2
    go_ret
    exact ⟨ret_bool (by rw [HE.out]), HB.out⟩

theorem good_no1 {ps : List RPace} (h : inB ps.length 1 6 = false) : goodP ps = false := by unfold goodP; rw [h]; rfl
theorem good_no2 {ps : List RPace} {k : Nat} (hk : k < ps.length) (h : paceB (ps.getD k zPace) = false) : goodP ps = false := by
  unfold goodP
  have : ps.all paceB = false := by
    rw [List.all_eq_false]
    refine ⟨ps[k], List.getElem_mem hk, ?_⟩
    simp only [List.getD_eq_getElem?_getD, List.getElem?_eq_getElem hk, Option.getD_some] at h
    rw [h]; simp
  rw [this]; simp
theorem good_yes {ps : List RPace} (h1 : inB ps.length 1 6 = true) (h : ∀ k, k < ps.length → paceB (ps.getD k zPace) = true) : goodP ps = true := by
  unfold goodP
  rw [h1, Bool.true_and, List.all_eq_true]
  intro p hp
  obtain ⟨k, hk, rfl⟩ := List.getElem_of_mem hp
  have := h k hk
  simpa only [List.getD_eq_getElem?_getD, List.getElem?_eq_getElem hk, Option.getD_some] using this
set_option maxHeartbeats 2000000 in
theorem spGood_any (w : World) (a : Option Addr) (len cap : Nat) (ps : List RPace) (hl : len ≤ 1048576) (hc : CamePace w a len ps) :
    Calls Tryd.prog 23 #[.slice a len cap] w fun e w' => e = .returned (.bool (goodP ps)) ∧ Below w.heap.size w w' := by
  have HI := Lib.hid (l1In_any len 1 6 w)
  have HZ : Hid (ps.length = len) := Lib.hid hc.1
  have HC := Lib.hid hc
  clear hc
  rcases hb : inB len 1 6 with _ | _
  · have HE := Lib.hid (good_no1 (ps := ps) (by rw [HZ.out]; exact hb))
    rw [hb] at HI
    clear hb
    go_enter Tryd.func23, Tryd.ntmps23
    go_wp2_with (go_at_call 18; refine HI.out.mono ?_; rintro e w' ⟨rfl, rfl⟩)
    go_ret
    exact ⟨ret_bool (by rw [HE.out]), Below.refl _ _⟩
  · have HY : Hid ((∀ k, k < ps.length → paceB (ps.getD k zPace) = true) → goodP ps = true) := Lib.hid (good_yes (by rw [HZ.out]; exact hb))
    obtain ⟨h1, h2⟩ := inB_yes hb
    rw [hb] at HI
    clear hb
    go_enter Tryd.func23, Tryd.ntmps23
    go_wp2_with (go_at_call 18; refine HI.out.mono ?_; rintro e w' ⟨rfl, rfl⟩)
    go_loopw [11] (fun i wr => ∃ k : Nat, k ≤ len ∧ i = .int .i64 (k : Int) ∧ Hid (∀ j, j < k → paceB (ps.getD j zPace) = true) ∧ Hid (Below w.heap.size w wr)) (fun i _ => len - (intOf i).toNat)
    case atStart => exact ⟨0, Nat.zero_le _, rfl, Lib.hid (fun j h => absurd h (Nat.not_lt_zero _)), Lib.hid (Below.refl _ _)⟩
    case round =>
      obtain ⟨k, hk, rfl, HK, HB⟩ := hrel
      by_cases hlt : k < len
      · obtain ⟨b, off, rfl, hcell⟩ := (HC.out.below HB.out).2 (by omega)
        obtain ⟨e0, e1⟩ := hcell k hlt
        have HNO : Hid (paceB (ps.getD k zPace) = false → goodP ps = false) := Lib.hid (good_no2 (by rw [HZ.out]; exact hlt))
        obtain ⟨p, hp⟩ : ∃ p, p = ps.getD k zPace := ⟨_, rfl⟩
        rw [← hp] at e0 e1 HNO
        obtain ⟨x0, x1⟩ := p
        simp only at e0 e1
        have HP := Lib.hid hp
        have HT := Lib.hid (fun w2 => spPace_any x0 x1 w2)
        have i1 : (0 : Int) ≤ (k : Int) := by omega
        have i2 : (k : Int) < (len : Int) := by omega
        have HBA : Hid (Below w.heap.size w (wr.alloc (.cells #[.int .i64 x0, .int .i64 x1] 23))) := Lib.hid (HB.out.alloc HB.out.size _)
        clear hcell hp
        rcases hpb : paceB (x0, x1) with _ | _
        · have HE := Lib.hid (HNO.out hpb)
          rw [hpb] at HT
          clear hpb HNO
          go_wp2_with fail
          go_at_call 38
          refine (HT.out _).mono ?_
          rintro e w2 ⟨rfl, b2⟩
          have HB2 : Hid (Below w.heap.size w w2) := Lib.hid (HBA.out.trans (b2.mono HBA.out.size))
          clear b2
          go_wp2
          go_ret
          exact ⟨ret_bool (by rw [HE.out]), HB2.out⟩
        · have HK2 : Hid (∀ j, j < k + 1 → paceB (ps.getD j zPace) = true) := Lib.hid (fun j hj => by
            by_cases e : j = k
            · subst e; rw [← HP.out]; exact hpb
            · exact HK.out j (by omega))
          rw [hpb] at HT
          clear hpb HNO
          go_wp2_with fail
          go_at_call 38
          refine (HT.out _).mono ?_
          rintro e w2 ⟨rfl, b2⟩
          have HB2 : Hid (Below w.heap.size w w2) := Lib.hid (HBA.out.trans (b2.mono HBA.out.size))
          clear b2
          go_wp2
          go_roundw
          case rel => exact ⟨k + 1, by omega, by go_num, HK2, HB2⟩
          case measure => simp [intOf]; omega
      · have HE := Lib.hid (HY.out (fun j hj => HK.out j (by have := HZ.out; omega)))
        go_wp2
        go_ret
        exact ⟨ret_bool (by rw [HE.out]), HB.out⟩



theorem alloc_size1 (w : World) (o : Obj) : (w.alloc o).heap.size = w.heap.size + 1 := Array.size_push _
theorem own_drew {w : World} {B : Nat} {v : Value} {zs : List Int} (h : Own w B v zs) (n : Nat) : Own (w.drewN n) B v zs := h
set_option maxHeartbeats 2000000 in
theorem spAt_any (w : World) (a : Option Addr) (len cap : Nat) (qs : List (Nat × Nat)) (t : Nat) (ht : t ≤ 1000000000000) (hg : GoodQ qs) (hc : CameQ w a len qs) :
    Calls Tryd.prog 34 #[.slice a len cap, .int .i64 t] w fun e w' => ∃ v, e = .returned v ∧ Own w' w.heap.size v (onL qs t) ∧ Below w.heap.size w w' := by
  have HZ : Hid (qs.length = len) := Lib.hid hc.1
  have HC := Lib.hid hc
  have HE := Lib.hid hg.each
  have h6 : len ≤ 6 := by have := hg.few; have := hc.1; omega
  clear hc hg
  go_enter Tryd.func34, Tryd.ntmps34
  go_wp2
  go_loopw [5, 10] (fun v i wr => ∃ k : Nat, k ≤ len ∧ i = .int .i64 (k : Int) ∧ Hid (Own wr w.heap.size v (onTo qs t k)) ∧ Hid (Below w.heap.size w wr)) (fun _ i _ => len - (intOf i).toNat)
  case atStart => exact ⟨0, Nat.zero_le _, rfl, Lib.hid (own_nil _ _), Lib.hid (Below.refl _ _)⟩
  case round =>
    obtain ⟨k, hk, rfl, HO, HB⟩ := hrel
    by_cases hlt : k < len
    · obtain ⟨b, off, rfl, hcell⟩ := (HC.out.below HB.out).2 (by omega)
      obtain ⟨e0, e1⟩ := hcell k hlt
      obtain ⟨hp1, hp2, hp3⟩ := HE.out k (by rw [HZ.out]; exact hlt)
      have HSY := Lib.hid (@onTo_yes qs t k)
      have HSN := Lib.hid (@onTo_no qs t k)
      obtain ⟨x, hx⟩ : ∃ x, x = (qs.getD k (1, 0)).1 := ⟨_, rfl⟩
      obtain ⟨y, hy⟩ : ∃ x, x = (qs.getD k (1, 0)).2 := ⟨_, rfl⟩
      rw [← hx] at e0 hp1 hp2 hp3 HSY HSN
      rw [← hy] at e1 hp3 HSY HSN
      obtain ⟨m, hm⟩ : ∃ m, m = t % x := ⟨_, rfl⟩
      have em : (t : Int) % (x : Int) = (m : Int) := by rw [hm]; simp
      rw [← hm] at HSY HSN
      have hmx : m < x := by rw [hm]; exact Nat.mod_lt _ hp1
      have hx0 : ¬ x = 0 := by omega
      have i1 : (0 : Int) ≤ (k : Int) := by omega
      have i2 : (k : Int) < (len : Int) := by omega
      have hbl : (onTo qs t k).length ≤ 1000000000 := by have := length_onTo qs t k; omega
      have HBA : Hid (Below w.heap.size w (wr.alloc (.cells #[.int .i64 (x : Int), .int .i64 (y : Int)] 23))) := Lib.hid (HB.out.alloc HB.out.size _)
      have HOA : Hid (Own (wr.alloc (.cells #[.int .i64 (x : Int), .int .i64 (y : Int)] 23)) w.heap.size _ (onTo qs t k)) := Lib.hid (own_alloc HO.out _)
      have hz := HBA.out.size
      clear hcell hx hy hm HO
      by_cases hmy : m = y
      · have HS := Lib.hid (HSY.out hmy)
        have hq : ((m : Int) == (y : Int)) = true := by rw [beq_iff_eq]; omega
        clear hmy HSY HSN
        go_wp2_with fail
        go_quiet (fail)
        go_wp2_with (at_builtin; refine wpList_app rfl _ _ rfl ((wr.alloc (.cells #[.int .i64 (x : Int), .int .i64 (y : Int)] 23)).drewN _) _ _ _ _ rfl (by show Value.slice (some ⟨wr.heap.size + 1, 0, none⟩) 1 1 = Value.slice (some ⟨(wr.alloc _).heap.size, 0, none⟩) 1 1; rw [alloc_size1]) (own_drew HOA.out _) hz hbl ?_; intro v' w5 hO hB5; have HO5 : Hid (Own w5 w.heap.size v' (onTo qs t (k + 1))) := Lib.hid (by rw [HS.out]; exact hO); have HB5 : Hid (Below w.heap.size w w5) := Lib.hid (HBA.out.trans (((drewN_down _ _).mono hz).trans hB5)); clear hO hB5)
        go_roundw
        case rel => exact ⟨k + 1, by omega, by go_num, HO5, HB5⟩
        case measure => simp [intOf]; omega
      · have HS := Lib.hid (HSN.out hmy)
        have hq : ((m : Int) == (y : Int)) = false := by rw [beq_eq_false_iff_ne]; omega
        clear hmy HSY HSN
        go_wp2_with fail
        go_quiet (fail)
        go_wp2
        go_roundw
        case rel => exact ⟨k + 1, by omega, by go_num, Lib.hid (by rw [HS.out]; exact own_drew HOA.out _), Lib.hid (HBA.out.trans ((drewN_down _ _).mono hz))⟩
        case measure => simp [intOf]; omega
    · have HF : Hid (onTo qs t k = onL qs t) := Lib.hid (by unfold onL; rw [HZ.out, show k = len by omega])
      go_wp2
      go_ret
      exact ⟨_, rfl, by rw [← HF.out]; exact HO.out, HB.out⟩


end Go.Proofs.YthnbimfdodfhoabDoor
