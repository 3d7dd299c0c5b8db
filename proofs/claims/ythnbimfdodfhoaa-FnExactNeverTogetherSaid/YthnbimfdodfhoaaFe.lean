/- Chapter 3, the program's leastWith. -/
import Derived.Test.YthnbimfdodfhoaaFc
import Derived.Test.YthnbimfdodfhoaaCopyS
import Derived.Test.YthnbimfdodfhoaaAny
import Derived.RegionTactic
import Derived.BigRegion
namespace Go.Proofs.Ythnbimfdodfhoaa
open Go.ChangeShapes Go.WideShapes Go.ChangeAt Go.RowKit
open Fo

def wantF (l2 : List Nat) : Nat → Int := fun k => ((l2.getD k 0 : Nat) : Int)
theorem first6_eq {f g : Nat → Int} {n : Nat} : first6 f n = first6 g n ↔ ∀ i, i < n → f i = g i := by
  constructor
  · intro h i hi
    have h2 := congrArg (fun l : List Int => l.getD i 0) h
    simp only [first6] at h2
    rw [getD_fill_lo _ _ _ _ hi, getD_fill_lo _ _ _ _ hi] at h2
    exact h2
  · intro h; unfold first6 fillTo; rw [upTo_congr f g n h]
theorem over_want {n : Nat} {cs l2 : List Nat} {j : Nat} (h : Sat cs l2 n j) : first6 (overF n cs) (j + 1) = first6 (wantF l2) (j + 1) ↔ n % cs.getD j 1 = l2.getD j 0 := by
  rw [first6_eq]
  unfold overF wantF
  constructor
  · intro hh; have := hh j (by omega); omega
  · intro hh i hi
    by_cases e : i = j
    · subst e; rw [hh]
    · rw [h i (by omega)]
theorem Try.size_int1 : (Try.prog.info? 3).map (·.size) = some 1 := by kernel_rfl
theorem want_splice (l2 : List Nat) (k : Nat) : splice (cellsI zer6) 0 ((upTo (wantF l2) k).map (Value.int .i64)) = cellsI (first6 (wantF l2) k) := by
  unfold splice cellsI first6 zer6 fillTo
  rw [List.take_zero, List.nil_append, List.length_map, length_upTo, Nat.zero_add, upTo_zero, List.nil_append, List.map_append, List.map_replicate, List.map_replicate, List.drop_replicate, Nat.sub_zero]
theorem Try.eqGuard_per : Try.prog.eqGuardType Try.prog.depth 75 = false := by kernel_rfl
theorem Try.plain_int1 : Try.prog.plainKey 3 = true := by kernel_rfl
theorem Try.cells_int1 : Try.prog.cellsOf 3 = 1 := by kernel_rfl
structure CondIV (b off b2 off2 gw len cap cap2 n j c s q y : Nat) (cs : List Nat) (W : List Int) (t : Bool) (u4 u5 u45 u46 u47 u48 u49 u50 u51 u52 u53 : Value) (l : Array Bool) (ww : World) (v39 v40 v41 v42 v43 v44 : Value) : Prop where
  f0 : l.getD 0 false = true → v39 = .int .i64 (n : Int)
  f1 : l.getD 1 false = true → ∃ g, v40 = .func (.func 72) #[] #[.pointer (some ⟨g, 0, none⟩)] ∧ ww.cell? ⟨g, 0, none⟩ = some (.int .i64 (n : Int))
  f2 : l.getD 2 false = true → v41 = .slice (some ⟨b, off, none⟩) (j + 1) (j + 1)
  f3 : l.getD 3 false = true → v42 = .agg (cellsI (first6 (overF n cs) (j + 1))).toArray
  f4 : l.getD 4 false = true → v43 = .agg (cellsI W).toArray
  f5 : l.getD 5 false = true → v44 = .bool (!t)
def CondI (w0 : World) (b off b2 off2 gw len cap cap2 n j c s q y : Nat) (cs : List Nat) (W : List Int) (t : Bool) (u4 u5 u45 u46 u47 u48 u49 u50 u51 u52 u53 : Value) (l : Array Bool) (a : Act) (w : World) : Prop :=
  ∃ v39 v40 v41 v42 v43 v44 : Value, a = { tmps := List.toArray (Value.slice (some ⟨b, off, none⟩) len cap :: Value.slice (some ⟨b2, off2, none⟩) len cap2 :: undef :: undef :: u4 :: u5 :: Value.int IntKind.i64 ((n : Int)) :: Value.int IntKind.i64 ((j : Int)) :: Value.int IntKind.i64 ((c : Int)) :: Value.int IntKind.i64 ((s : Int)) :: Value.slice (some ⟨b, off, none⟩) (j + 1) (j + 1) :: Value.pointer (some ⟨gw, 0, none⟩) :: Value.int IntKind.i64 ((q : Int) + 1) :: Value.slice (some ⟨b, off, none⟩) len cap :: Value.int IntKind.i64 ((len : Int)) :: Value.int IntKind.i64 ((j : Int)) :: Value.bool true :: Value.int IntKind.i64 ((j : Int)) :: Value.pointer (some ⟨b, off + j, none⟩) :: Value.int IntKind.i64 ((c : Int)) :: Value.slice (some ⟨b, off, none⟩) len cap :: Value.int IntKind.i64 ((j : Int)) :: Value.int IntKind.i64 ((j : Int)) :: Value.slice (some ⟨b, off, none⟩) j j :: Value.int IntKind.i64 ((s : Int)) :: Value.slice (some ⟨b, off, none⟩) len cap :: Value.int IntKind.i64 ((j : Int)) :: Value.int IntKind.i64 ((j : Int) + 1) :: Value.int IntKind.i64 ((j : Int)) :: Value.int IntKind.i64 ((j : Int) + 1) :: Value.slice (some ⟨b, off, none⟩) (j + 1) (j + 1) :: Value.slice (some ⟨gw, 0, none⟩) 6 6 :: Value.slice (some ⟨b2, off2, none⟩) len cap2 :: Value.int IntKind.i64 ((j : Int)) :: Value.int IntKind.i64 ((j : Int) + 1) :: Value.int IntKind.i64 ((j : Int)) :: Value.int IntKind.i64 ((j : Int) + 1) :: Value.slice (some ⟨b2, off2, none⟩) (j + 1) (j + 1) :: Value.int IntKind.i64 (y : Nat) :: v39 :: v40 :: v41 :: v42 :: v43 :: v44 :: u45 :: u46 :: u47 :: u48 :: u49 :: u50 :: u51 :: u52 :: u53 :: undef :: []), defers := [] } ∧ Hid (CondIV b off b2 off2 gw len cap cap2 n j c s q y cs W t u4 u5 u45 u46 u47 u48 u49 u50 u51 u52 u53 l w v39 v40 v41 v42 v43 v44) ∧ Hid (Below w0.heap.size w0 w)
set_option maxHeartbeats 4000000 in
theorem leastWith_any (w : World) (a : Option Addr) (len cap : Nat) (cs : List Nat) (a2 : Option Addr) (cap2 : Nat) (l2 : List Nat) (h1 : 1 ≤ len) (h6 : len ≤ 6) (hcp : len ≤ cap ∧ cap ≤ 9223372036854775807) (hcp2 : len ≤ cap2 ∧ cap2 ≤ 9223372036854775807) (hcol : ∀ i, 1 ≤ cs.getD i 1 ∧ cs.getD i 1 ≤ 1000) (hlb : ∀ i, l2.getD i 0 ≤ 1000) (hc : Came w a len (asInts cs)) (hc2 : Came w a2 len (asInts l2)) :
    Calls Try.prog 66 #[.slice a len cap, .slice a2 len cap2] w fun e w' => e = .returned (.tuple #[.int .i64 (leastA cs l2 len : Nat), .bool (leastO cs l2 len).isSome]) ∧ Below w.heap.size w w' := by
  have HC := Lib.hid (CameN.of hc)
  have HC2 := Lib.hid hc2
  have HCOL := Lib.hid hcol
  have HLB := Lib.hid hlb
  obtain ⟨hk, hkm⟩ := hcp
  obtain ⟨hk2, hkm2⟩ := hcp2
  obtain ⟨b, off, rfl, hx1⟩ := hc.2 (by omega)
  obtain ⟨b2, off2, rfl, hx2⟩ := hc2.2 (by omega)
  clear hc hc2 hcol hlb hx1 hx2
  go_enter Try.func66, Try.ntmps66
  go_wp2
  go_loopw [6, 15] (fun nv i wr => ∃ j n : Nat, j ≤ len ∧ i = .int .i64 (j : Int) ∧ nv = .int .i64 (n : Int) ∧ Hid (Least cs l2 j n) ∧ Hid (Below w.heap.size w wr)) (fun _ i _ => len - (intOf i).toNat)
  case atStart => exact ⟨0, 0, Nat.zero_le _, rfl, rfl, Lib.hid (least_zero _ _), Lib.hid (Below.refl _ _)⟩
  case round =>
    obtain ⟨j, n0, hj, rfl, rfl, HS, HB⟩ := hrel
    have HP : Hid (∀ i, 1 ≤ cs.getD i 1) := Lib.hid (fun i => (HCOL.out i).1)
    have HLE : Hid (∀ i, cs.getD i 1 ≤ 1000) := Lib.hid (fun i => (HCOL.out i).2)
    by_cases hlt : j < len
    · have HCN := Lib.hid (HC.out.below HB.out)
      have e1 : wr.cell? ⟨b, off + j, none⟩ = some (.int .i64 ((cs.getD j 1 : Nat) : Int)) := by
        obtain ⟨b', off', hbo, hcell⟩ := HCN.out (by omega)
        cases hbo
        exact hcell j hlt
      have hcb := HCOL.out j
      have hlbb := HLB.out j
      have hns := HS.out.lt HP.out
      have hl15 := lcm_small HLE.out (show j ≤ 5 by omega)
      have HST : Hid (∀ n x, Calls Try.prog 68 #[.slice (some ⟨b, off, none⟩) j x] (wr.drewN n) fun e w' => e = .returned (.int .i64 (lcmTo cs j : Nat)) ∧ ∃ m, w' = (wr.drewN n).drewN m) := Lib.hid (fun n x => stepOf_any (wr.drewN n) _ j x cs (by omega) HCOL.out (HCN.out.take (by omega)))
      obtain ⟨s, hs⟩ : ∃ s, s = lcmTo cs j := ⟨_, rfl⟩
      rw [← hs] at HST hns hl15
      have HSS := Lib.hid hs
      obtain ⟨c, hcc⟩ : ∃ c, c = cs.getD j 1 := ⟨_, rfl⟩
      obtain ⟨l, hll⟩ : ∃ c, c = l2.getD j 0 := ⟨_, rfl⟩
      rw [← hcc] at e1 hcb
      rw [← hll] at hlbb
      obtain ⟨hc1, hc2⟩ := hcb
      have HCC := Lib.hid hcc
      have HLL := Lib.hid hll
      have i1 : (0 : Int) ≤ (j : Int) := by omega
      have i2 : (j : Int) < (len : Int) := by omega
      have i3 : (j : Int) ≤ (cap : Int) := by omega
      have i4 : (j : Int) + 1 ≤ (cap : Int) := by omega
      have i5 : (j : Int) + 1 ≤ (cap2 : Int) := by omega
      have i6 : (0 : Int) ≤ (j : Int) + 1 := by omega
      clear hcc hll hs
      go_wp2_with fail
      go_quiet ((go_at_call 68; exact Calls.quiet_of (HST.out _ _)))
      go_wp2_with (refine wpList_new 75 rfl rfl _ _ Try.info_per ?_; intro w3 gw G3 K3 L3)
      refine ⟨?_⟩
      go_wp2_with fail
      have e9 : w3.cell? ⟨b, off + j, none⟩ = some (.int .i64 (c : Int)) := (L3.out.cell (World.block_lt_of_cell? wr _ e1)).trans e1
      have i7 : j + 1 ≤ cap2 := by omega
      have i8 : ¬ (cap2 : Int) < (j : Int) + 1 := by omega
      have i9 : ((j : Int) + 1).toNat = j + 1 := by omega
      have ew : IntKind.i64.wrap ((j : Int) + 1) = (j : Int) + 1 := by rw [IntKind.wrap_i64]; omega
      have LW3 : Hid (Below w.heap.size w w3) := Lib.hid (HB.out.trans (((drewN_down wr _).trans L3.out).mono HB.out.size))
      have HN9 : Hid (((upTo (wantF l2) (j + 1)).map (Value.int .i64)).length = Nat.min (j + 1) 6) := Lib.hid (by rw [List.length_map, length_upTo]; exact (Nat.min_eq_left (by omega)).symm)
      have HSRC : Hid (∀ jj v, ((upTo (wantF l2) (j + 1)).map (Value.int .i64))[jj]? = some v → w3.cell? ((⟨b2, off2, none⟩ : Addr).add jj) = some v) := Lib.hid (fun jj v hv => by
        obtain ⟨b', off', hbo, hcell⟩ := (HC2.out.below LW3.out).2 (by omega)
        cases hbo
        have hjj : jj < j + 1 := by have := (List.getElem?_eq_some_iff.1 hv).1; rw [List.length_map, length_upTo] at this; exact this
        rw [Addr.add_mid, hcell jj (by omega), getD_asInts, ← hv]
        unfold upTo
        rw [List.getElem?_map, List.getElem?_map, List.getElem?_range hjj]
        rfl)
      have HFIT : Hid (0 + ((upTo (wantF l2) (j + 1)).map (Value.int .i64)).length ≤ (cellsI zer6).length) := Lib.hid (by rw [List.length_map, length_upTo, length_cellsI, length_zer6]; omega)
      have HKB : Hid (∀ w5 : World, w3.drew.grownBy w5 (some gw) → w5.cell? ⟨b, off + j, none⟩ = some (.int .i64 (c : Int))) := Lib.hid (fun w5 h5 => by
        have hb1 := World.block_lt_of_cell? wr _ e1
        have hb2 : b < gw := by have := G3.out; rw [this]; exact hb1
        exact (World.cell?_of_block (h5.block b (World.block_lt_of_cell? w3 _ e9) (fun e => by cases e; omega))).trans e9)
      go_region_held_law (fun w' => w'.cell? ⟨b, off + j, none⟩ = some (.int .i64 (c : Int))) (first | go_keep | exact HKB.out w4 L4.out)
        ((refine step_copyB _ _ _ _ rfl rfl 3 Try.underlying29 Try.size_int1 ⟨b2, off2, none⟩ 6 6 (j + 1) (j + 1) gw 0 rfl rfl (cellsI zer6) _ K3 ((upTo (wantF l2) (j + 1)).map (Value.int .i64)) HN9.out HSRC.out HFIT.out (ints_one _) ?_; intro w4 K4 L4))
      have HW : Hid (Blk w4 gw 75 (cellsI (first6 (wantF l2) (j + 1)))) := Lib.hid (by rw [← want_splice]; exact K4.out)
      have hgw : Hid (w.heap.size ≤ gw) := Lib.hid (by have := G3.out; rw [this]; exact HB.out.size)
      have LW4 : Hid (Below w.heap.size w w4) := Lib.hid (grownBy_below (w := w3.drew) ⟨LW3.out.os, LW3.out.tape, LW3.out.output, LW3.out.size, LW3.out.block⟩ L4.out (Nat.le_refl _) hgw.out)
      have HCN4 : Hid (CameN w4 (some ⟨b, off, none⟩) (j + 1) cs) := Lib.hid ((HC.out.below LW4.out).take (by omega))
      obtain ⟨W, hW⟩ : ∃ W, W = first6 (wantF l2) (j + 1) := ⟨_, rfl⟩
      rw [← hW] at HW
      have HWW := Lib.hid hW
      have HWL : Hid (W.length = 6) := Lib.hid (by rw [hW]; exact length_first6 _ _ (by omega))
      clear hW K4 L4 HKB HFIT HSRC HN9 LW3 e9 i7 i8 i9 ew K3 L3 G3 HST
      go_wp2
      go_loopw [6, 12] (fun nv sv wr => ∃ q n : Nat, q < c ∧ n ≤ s + q * s ∧ nv = .int .i64 (n : Int) ∧ sv = .int .i64 ((q : Int) + 1) ∧ Hid (n = n0 + q * s) ∧ Hid (∀ i, i < q → (n0 + i * s) % c ≠ l) ∧ Hid (Blk wr gw 75 (cellsI W)) ∧ Hid (Below w.heap.size w wr)) (fun _ sv _ => (c + 1) - (intOf sv).toNat)
      case atStart => exact ⟨0, n0, by omega, by omega, rfl, rfl, Lib.hid (by simp), Lib.hid (fun i h => absurd h (Nat.not_lt_zero _)), HW, LW4⟩
      case round =>
        obtain ⟨q, n, hq, hnq, rfl, rfl, HN, HNO, HWB, HB2⟩ := hrel
        have hqs : q * s ≤ 1000 * 1000000000000000 := Nat.mul_le_mul (by omega) hl15
        have hn18 : n ≤ 1001000000000000000 := by omega
        clear hqs
        have HLO := Lib.hid (leftOver_any (n : Int))
        have HWB2 : Hid (∀ w5, Below wr.heap.size wr w5 → Hid (Blk w5 gw 75 (cellsI W))) := Lib.hid (fun w5 h5 => Lib.hid (HWB.out.below h5 HWB.out.lt))
        have HCL : Hid (∀ (w5 : World) (g : Nat), Below wr.heap.size wr w5 → w5.cell? ⟨g, 0, none⟩ = some (.int .i64 (n : Int)) → Calls Try.prog 72 #[.slice (some ⟨b, off, none⟩) (j + 1) (j + 1), .pointer (some ⟨g, 0, none⟩)] w5 fun e w' => e = .returned (.agg (cellsI (first6 (overF n cs) (j + 1))).toArray) ∧ Below w5.heap.size w5 w') := Lib.hid (fun w5 g h5 hg =>
          overOf_any w5 n (by omega) g hg _ (j + 1) (j + 1) cs (by omega) HCOL.out (((HC.out.below (HB2.out.trans (h5.mono HB2.out.size)))).take (by omega)))
        have HOL : Hid ((first6 (overF n cs) (j + 1)).length = 6) := Lib.hid (length_first6 _ _ (by omega))
        have HSAT : Hid (Sat cs l2 n j) := Lib.hid (by rw [HN.out, HSS.out]; exact sat_add HS.out.sat q)
        have HIFF : Hid (first6 (overF n cs) (j + 1) = W ↔ n % c = l) := Lib.hid (by rw [HWW.out, HCC.out, HLL.out]; exact over_want HSAT.out)
        obtain ⟨y, hy⟩ : ∃ y, y = (upTo (wantF l2) (j + 1)).length := ⟨_, rfl⟩
        by_cases hml : n % c = l
        · have HT : Hid (decide (first6 (overF n cs) (j + 1) = W) = true) := Lib.hid (decide_eq_true (HIFF.out.2 hml))
          have HST2 : Hid (Least cs l2 (j + 1) n) := Lib.hid (by
            rw [HN.out, HSS.out]
            refine HS.out.step ?_ fun i hi => ?_
            · rw [← HSS.out, ← HCC.out, ← HLL.out, ← HN.out]; exact hml
            · rw [← HSS.out, ← HCC.out, ← HLL.out]; exact HNO.out i hi)
          clear hml
          rw [← hy]
          clear hy
          go_wp2_with fail
          refine wp_region_inv (by kernel_rfl) (CondI wr b off b2 off2 gw len cap cap2 n j c s q y cs W true u4 u5 u45 u46 u47 u48 u49 u50 u51 u52 u53) (by kernel_rfl) ?_ ?_ ?_
          · exact ⟨_, _, _, _, _, _, rfl, Lib.hid ⟨fun h => by simp at h, fun h => by simp at h, fun h => by simp at h, fun h => by simp at h, fun h => by simp at h, fun h => by simp at h⟩, Lib.hid ⟨rfl, rfl, rfl, Nat.le_refl _, fun _ _ => rfl⟩⟩
          · intro i o l a w' ho hsz hl hdep hI
            obtain ⟨v39, v40, v41, v42, v43, v44, rfl, HV, BL⟩ := hI
            clear hsz hl
            match i, ho with
            | 0, ho =>
              obtain rfl := Option.some.inj ho
              clear hdep ho
              go_wp2
              exact ⟨_, v40, v41, v42, v43, v44, rfl, Lib.hid ⟨fun _ => rfl, fun h => HV.out.f1 (ung (by decide) h), fun h => HV.out.f2 (ung (by decide) h), fun h => HV.out.f3 (ung (by decide) h), fun h => HV.out.f4 (ung (by decide) h), fun h => HV.out.f5 (ung (by decide) h)⟩, BL⟩
            | 1, ho =>
              obtain rfl := Option.some.inj ho
              obtain rfl := HV.out.f0 (hdep ⟨0, .data⟩ (by simp) rfl)
              clear hdep ho
              go_wp2_with fail
              go_at_call 70
              refine (HLO.out _).mono ?_
              rintro e w2 ⟨g, rfl, hgc, b2⟩
              have HGC := Lib.hid hgc
              have B2 : Hid (Below wr.heap.size wr _) := Lib.hid (BL.out.trans (b2.mono BL.out.size))
              have HBB := Lib.hid b2
              clear b2 hgc
              go_wp2
              exact ⟨_, _, v41, v42, v43, v44, rfl, Lib.hid ⟨fun h => HV.out.f0 (ung (by decide) h), fun _ => ⟨g, rfl, HGC.out⟩, fun h => HV.out.f2 (ung (by decide) h), fun h => HV.out.f3 (ung (by decide) h), fun h => HV.out.f4 (ung (by decide) h), fun h => HV.out.f5 (ung (by decide) h)⟩, B2⟩
            | 2, ho =>
              obtain rfl := Option.some.inj ho
              clear hdep ho
              go_wp2
              exact ⟨v39, v40, _, v42, v43, v44, rfl, Lib.hid ⟨fun h => HV.out.f0 (ung (by decide) h), fun h => HV.out.f1 (ung (by decide) h), fun _ => rfl, fun h => HV.out.f3 (ung (by decide) h), fun h => HV.out.f4 (ung (by decide) h), fun h => HV.out.f5 (ung (by decide) h)⟩, BL⟩
            | 3, ho =>
              obtain rfl := Option.some.inj ho
              obtain ⟨g, rfl, hgc⟩ := HV.out.f1 (hdep ⟨1, .data⟩ (by simp) rfl)
              obtain rfl := HV.out.f2 (hdep ⟨2, .data⟩ (by simp) rfl)
              clear hdep ho
              have HX := Lib.hid (HCL.out w' g BL.out hgc)
              clear hgc
              go_wp2_with fail
              go_at_call 72
              refine HX.out.mono ?_
              rintro e w2 ⟨rfl, b2⟩
              have B2 : Hid (Below wr.heap.size wr _) := Lib.hid (BL.out.trans (b2.mono BL.out.size))
              have HBB := Lib.hid b2
              clear b2
              go_wp2
              exact ⟨v39, _, _, _, v43, v44, rfl, Lib.hid ⟨fun h => HV.out.f0 (ung (by decide) h), fun h => by obtain ⟨g, e, c⟩ := (HV.out.f1 (ung (by decide) h)); exact ⟨g, e, (HBB.out.cell (World.block_lt_of_cell? _ _ c)).trans c⟩, fun h => HV.out.f2 (ung (by decide) h), fun _ => rfl, fun h => HV.out.f4 (ung (by decide) h), fun h => HV.out.f5 (ung (by decide) h)⟩, B2⟩
            | 4, ho =>
              obtain rfl := Option.some.inj ho
              clear hdep ho
              refine wpList_loadAll 75 _ rfl rfl gw _ (cellsI W) _ Try.underlying75 rfl 6 Try.size_per rfl (HWB2.out _ BL.out) (by rw [length_cellsI, HWL.out]) ?_
              refine ⟨?_⟩
              go_wp2
              exact ⟨v39, v40, v41, v42, _, v44, rfl, Lib.hid ⟨fun h => HV.out.f0 (ung (by decide) h), fun h => HV.out.f1 (ung (by decide) h), fun h => HV.out.f2 (ung (by decide) h), fun h => HV.out.f3 (ung (by decide) h), fun _ => rfl, fun h => HV.out.f5 (ung (by decide) h)⟩, BL⟩
            | 5, ho =>
              obtain rfl := Option.some.inj ho
              obtain rfl := HV.out.f3 (hdep ⟨3, .data⟩ (by simp) rfl)
              obtain rfl := HV.out.f4 (hdep ⟨4, .data⟩ (by simp) rfl)
              clear hdep ho
              obtain ⟨i0, hi, hz0, hz1, hz2⟩ := info_parts Try.info_int
              refine wpList_neqArr 75 _ _ _ rfl rfl 6 3 i0 Try.underlying75 hi Try.plain_int1 _ Try.underlying3 Try.cells_int1 Try.eqGuard_per _ _ rfl rfl HOL.out HWL.out true HT.out ?_
              refine ⟨?_⟩
              clear hi hz0 hz1 hz2
              go_wp2
              exact ⟨v39, v40, v41, _, _, _, rfl, Lib.hid ⟨fun h => HV.out.f0 (ung (by decide) h), fun h => HV.out.f1 (ung (by decide) h), fun h => HV.out.f2 (ung (by decide) h), fun h => HV.out.f3 (ung (by decide) h), fun h => HV.out.f4 (ung (by decide) h), fun _ => rfl⟩, BL⟩
            | i + 6, ho => simp at ho
          · intro l a w2 hall hI
            obtain ⟨v39, v40, v41, v42, v43, v44, rfl, HV, BL⟩ := hI
            obtain rfl := HV.out.f0 (hall 0 (by decide))
            obtain ⟨g, rfl, hgc⟩ := HV.out.f1 (hall 1 (by decide))
            obtain rfl := HV.out.f2 (hall 2 (by decide))
            obtain rfl := HV.out.f3 (hall 3 (by decide))
            obtain rfl := HV.out.f4 (hall 4 (by decide))
            obtain rfl := HV.out.f5 (hall 5 (by decide))
            clear hall HV
            go_wp2
            go_roundw
            case rel => exact ⟨j + 1, n, by omega, by go_num, rfl, HST2, Lib.hid (HB2.out.trans (BL.out.mono HB2.out.size))⟩
            case measure => simp [intOf]; omega
        · have HT : Hid (decide (first6 (overF n cs) (j + 1) = W) = false) := Lib.hid (decide_eq_false (fun e => hml (HIFF.out.1 e)))
          have HNO2 : Hid (∀ i, i < q + 1 → (n0 + i * s) % c ≠ l) := Lib.hid (fun i hi => by
            by_cases e : i = q
            · subst e; rw [← HN.out]; exact hml
            · exact HNO.out i (by omega))
          clear hml
          rw [← hy]
          by_cases hqc : q + 1 = c
          · have HE : Hid (leastO cs l2 len = none) := Lib.hid (by
              refine leastO_none (none_mono (HS.out.none (HP.out j) fun i hi => ?_) (show j + 1 ≤ len from hlt))
              rw [← HCC.out] at hi ⊢
              rw [← HSS.out, ← HLL.out]
              exact HNO2.out i (by omega))
            have hqe : ((q : Int) + 1 == (c : Int)) = true := by rw [beq_iff_eq]; omega
            clear hy
            go_wp2_with fail
            refine wp_region_inv (by kernel_rfl) (CondI wr b off b2 off2 gw len cap cap2 n j c s q y cs W false u4 u5 u45 u46 u47 u48 u49 u50 u51 u52 u53) (by kernel_rfl) ?_ ?_ ?_
            · exact ⟨_, _, _, _, _, _, rfl, Lib.hid ⟨fun h => by simp at h, fun h => by simp at h, fun h => by simp at h, fun h => by simp at h, fun h => by simp at h, fun h => by simp at h⟩, Lib.hid ⟨rfl, rfl, rfl, Nat.le_refl _, fun _ _ => rfl⟩⟩
            · intro i o l a w' ho hsz hl hdep hI
              obtain ⟨v39, v40, v41, v42, v43, v44, rfl, HV, BL⟩ := hI
              clear hsz hl
              match i, ho with
              | 0, ho =>
                obtain rfl := Option.some.inj ho
                clear hdep ho
                go_wp2
                exact ⟨_, v40, v41, v42, v43, v44, rfl, Lib.hid ⟨fun _ => rfl, fun h => HV.out.f1 (ung (by decide) h), fun h => HV.out.f2 (ung (by decide) h), fun h => HV.out.f3 (ung (by decide) h), fun h => HV.out.f4 (ung (by decide) h), fun h => HV.out.f5 (ung (by decide) h)⟩, BL⟩
              | 1, ho =>
                obtain rfl := Option.some.inj ho
                obtain rfl := HV.out.f0 (hdep ⟨0, .data⟩ (by simp) rfl)
                clear hdep ho
                go_wp2_with fail
                go_at_call 70
                refine (HLO.out _).mono ?_
                rintro e w2 ⟨g, rfl, hgc, b2⟩
                have HGC := Lib.hid hgc
                have B2 : Hid (Below wr.heap.size wr _) := Lib.hid (BL.out.trans (b2.mono BL.out.size))
                have HBB := Lib.hid b2
                clear b2 hgc
                go_wp2
                exact ⟨_, _, v41, v42, v43, v44, rfl, Lib.hid ⟨fun h => HV.out.f0 (ung (by decide) h), fun _ => ⟨g, rfl, HGC.out⟩, fun h => HV.out.f2 (ung (by decide) h), fun h => HV.out.f3 (ung (by decide) h), fun h => HV.out.f4 (ung (by decide) h), fun h => HV.out.f5 (ung (by decide) h)⟩, B2⟩
              | 2, ho =>
                obtain rfl := Option.some.inj ho
                clear hdep ho
                go_wp2
                exact ⟨v39, v40, _, v42, v43, v44, rfl, Lib.hid ⟨fun h => HV.out.f0 (ung (by decide) h), fun h => HV.out.f1 (ung (by decide) h), fun _ => rfl, fun h => HV.out.f3 (ung (by decide) h), fun h => HV.out.f4 (ung (by decide) h), fun h => HV.out.f5 (ung (by decide) h)⟩, BL⟩
              | 3, ho =>
                obtain rfl := Option.some.inj ho
                obtain ⟨g, rfl, hgc⟩ := HV.out.f1 (hdep ⟨1, .data⟩ (by simp) rfl)
                obtain rfl := HV.out.f2 (hdep ⟨2, .data⟩ (by simp) rfl)
                clear hdep ho
                have HX := Lib.hid (HCL.out w' g BL.out hgc)
                clear hgc
                go_wp2_with fail
                go_at_call 72
                refine HX.out.mono ?_
                rintro e w2 ⟨rfl, b2⟩
                have B2 : Hid (Below wr.heap.size wr _) := Lib.hid (BL.out.trans (b2.mono BL.out.size))
                have HBB := Lib.hid b2
                clear b2
                go_wp2
                exact ⟨v39, _, _, _, v43, v44, rfl, Lib.hid ⟨fun h => HV.out.f0 (ung (by decide) h), fun h => by obtain ⟨g, e, c⟩ := (HV.out.f1 (ung (by decide) h)); exact ⟨g, e, (HBB.out.cell (World.block_lt_of_cell? _ _ c)).trans c⟩, fun h => HV.out.f2 (ung (by decide) h), fun _ => rfl, fun h => HV.out.f4 (ung (by decide) h), fun h => HV.out.f5 (ung (by decide) h)⟩, B2⟩
              | 4, ho =>
                obtain rfl := Option.some.inj ho
                clear hdep ho
                refine wpList_loadAll 75 _ rfl rfl gw _ (cellsI W) _ Try.underlying75 rfl 6 Try.size_per rfl (HWB2.out _ BL.out) (by rw [length_cellsI, HWL.out]) ?_
                refine ⟨?_⟩
                go_wp2
                exact ⟨v39, v40, v41, v42, _, v44, rfl, Lib.hid ⟨fun h => HV.out.f0 (ung (by decide) h), fun h => HV.out.f1 (ung (by decide) h), fun h => HV.out.f2 (ung (by decide) h), fun h => HV.out.f3 (ung (by decide) h), fun _ => rfl, fun h => HV.out.f5 (ung (by decide) h)⟩, BL⟩
              | 5, ho =>
                obtain rfl := Option.some.inj ho
                obtain rfl := HV.out.f3 (hdep ⟨3, .data⟩ (by simp) rfl)
                obtain rfl := HV.out.f4 (hdep ⟨4, .data⟩ (by simp) rfl)
                clear hdep ho
                obtain ⟨i0, hi, hz0, hz1, hz2⟩ := info_parts Try.info_int
                refine wpList_neqArr 75 _ _ _ rfl rfl 6 3 i0 Try.underlying75 hi Try.plain_int1 _ Try.underlying3 Try.cells_int1 Try.eqGuard_per _ _ rfl rfl HOL.out HWL.out false HT.out ?_
                refine ⟨?_⟩
                clear hi hz0 hz1 hz2
                go_wp2
                exact ⟨v39, v40, v41, _, _, _, rfl, Lib.hid ⟨fun h => HV.out.f0 (ung (by decide) h), fun h => HV.out.f1 (ung (by decide) h), fun h => HV.out.f2 (ung (by decide) h), fun h => HV.out.f3 (ung (by decide) h), fun h => HV.out.f4 (ung (by decide) h), fun _ => rfl⟩, BL⟩
              | i + 6, ho => simp at ho
            · intro l a w2 hall hI
              obtain ⟨v39, v40, v41, v42, v43, v44, rfl, HV, BL⟩ := hI
              obtain rfl := HV.out.f0 (hall 0 (by decide))
              obtain ⟨g, rfl, hgc⟩ := HV.out.f1 (hall 1 (by decide))
              obtain rfl := HV.out.f2 (hall 2 (by decide))
              obtain rfl := HV.out.f3 (hall 3 (by decide))
              obtain rfl := HV.out.f4 (hall 4 (by decide))
              obtain rfl := HV.out.f5 (hall 5 (by decide))
              clear hall HV
              go_wp2
              go_ret2
              exact ⟨by unfold leastA; rw [HE.out]; exact rfl, HB2.out.trans (BL.out.mono HB2.out.size)⟩
          · have HN2 : Hid (n + s = n0 + (q + 1) * s) := Lib.hid (by rw [HN.out, Nat.succ_mul]; omega)
            have hnq2 : n + s ≤ s + (q + 1) * s := by rw [Nat.succ_mul]; omega
            have hqe : ((q : Int) + 1 == (c : Int)) = false := by rw [beq_eq_false_iff_ne]; omega
            clear hy
            go_wp2_with fail
            refine wp_region_inv (by kernel_rfl) (CondI wr b off b2 off2 gw len cap cap2 n j c s q y cs W false u4 u5 u45 u46 u47 u48 u49 u50 u51 u52 u53) (by kernel_rfl) ?_ ?_ ?_
            · exact ⟨_, _, _, _, _, _, rfl, Lib.hid ⟨fun h => by simp at h, fun h => by simp at h, fun h => by simp at h, fun h => by simp at h, fun h => by simp at h, fun h => by simp at h⟩, Lib.hid ⟨rfl, rfl, rfl, Nat.le_refl _, fun _ _ => rfl⟩⟩
            · intro i o l a w' ho hsz hl hdep hI
              obtain ⟨v39, v40, v41, v42, v43, v44, rfl, HV, BL⟩ := hI
              clear hsz hl
              match i, ho with
              | 0, ho =>
                obtain rfl := Option.some.inj ho
                clear hdep ho
                go_wp2
                exact ⟨_, v40, v41, v42, v43, v44, rfl, Lib.hid ⟨fun _ => rfl, fun h => HV.out.f1 (ung (by decide) h), fun h => HV.out.f2 (ung (by decide) h), fun h => HV.out.f3 (ung (by decide) h), fun h => HV.out.f4 (ung (by decide) h), fun h => HV.out.f5 (ung (by decide) h)⟩, BL⟩
              | 1, ho =>
                obtain rfl := Option.some.inj ho
                obtain rfl := HV.out.f0 (hdep ⟨0, .data⟩ (by simp) rfl)
                clear hdep ho
                go_wp2_with fail
                go_at_call 70
                refine (HLO.out _).mono ?_
                rintro e w2 ⟨g, rfl, hgc, b2⟩
                have HGC := Lib.hid hgc
                have B2 : Hid (Below wr.heap.size wr _) := Lib.hid (BL.out.trans (b2.mono BL.out.size))
                have HBB := Lib.hid b2
                clear b2 hgc
                go_wp2
                exact ⟨_, _, v41, v42, v43, v44, rfl, Lib.hid ⟨fun h => HV.out.f0 (ung (by decide) h), fun _ => ⟨g, rfl, HGC.out⟩, fun h => HV.out.f2 (ung (by decide) h), fun h => HV.out.f3 (ung (by decide) h), fun h => HV.out.f4 (ung (by decide) h), fun h => HV.out.f5 (ung (by decide) h)⟩, B2⟩
              | 2, ho =>
                obtain rfl := Option.some.inj ho
                clear hdep ho
                go_wp2
                exact ⟨v39, v40, _, v42, v43, v44, rfl, Lib.hid ⟨fun h => HV.out.f0 (ung (by decide) h), fun h => HV.out.f1 (ung (by decide) h), fun _ => rfl, fun h => HV.out.f3 (ung (by decide) h), fun h => HV.out.f4 (ung (by decide) h), fun h => HV.out.f5 (ung (by decide) h)⟩, BL⟩
              | 3, ho =>
                obtain rfl := Option.some.inj ho
                obtain ⟨g, rfl, hgc⟩ := HV.out.f1 (hdep ⟨1, .data⟩ (by simp) rfl)
                obtain rfl := HV.out.f2 (hdep ⟨2, .data⟩ (by simp) rfl)
                clear hdep ho
                have HX := Lib.hid (HCL.out w' g BL.out hgc)
                clear hgc
                go_wp2_with fail
                go_at_call 72
                refine HX.out.mono ?_
                rintro e w2 ⟨rfl, b2⟩
                have B2 : Hid (Below wr.heap.size wr _) := Lib.hid (BL.out.trans (b2.mono BL.out.size))
                have HBB := Lib.hid b2
                clear b2
                go_wp2
                exact ⟨v39, _, _, _, v43, v44, rfl, Lib.hid ⟨fun h => HV.out.f0 (ung (by decide) h), fun h => by obtain ⟨g, e, c⟩ := (HV.out.f1 (ung (by decide) h)); exact ⟨g, e, (HBB.out.cell (World.block_lt_of_cell? _ _ c)).trans c⟩, fun h => HV.out.f2 (ung (by decide) h), fun _ => rfl, fun h => HV.out.f4 (ung (by decide) h), fun h => HV.out.f5 (ung (by decide) h)⟩, B2⟩
              | 4, ho =>
                obtain rfl := Option.some.inj ho
                clear hdep ho
                refine wpList_loadAll 75 _ rfl rfl gw _ (cellsI W) _ Try.underlying75 rfl 6 Try.size_per rfl (HWB2.out _ BL.out) (by rw [length_cellsI, HWL.out]) ?_
                refine ⟨?_⟩
                go_wp2
                exact ⟨v39, v40, v41, v42, _, v44, rfl, Lib.hid ⟨fun h => HV.out.f0 (ung (by decide) h), fun h => HV.out.f1 (ung (by decide) h), fun h => HV.out.f2 (ung (by decide) h), fun h => HV.out.f3 (ung (by decide) h), fun _ => rfl, fun h => HV.out.f5 (ung (by decide) h)⟩, BL⟩
              | 5, ho =>
                obtain rfl := Option.some.inj ho
                obtain rfl := HV.out.f3 (hdep ⟨3, .data⟩ (by simp) rfl)
                obtain rfl := HV.out.f4 (hdep ⟨4, .data⟩ (by simp) rfl)
                clear hdep ho
                obtain ⟨i0, hi, hz0, hz1, hz2⟩ := info_parts Try.info_int
                refine wpList_neqArr 75 _ _ _ rfl rfl 6 3 i0 Try.underlying75 hi Try.plain_int1 _ Try.underlying3 Try.cells_int1 Try.eqGuard_per _ _ rfl rfl HOL.out HWL.out false HT.out ?_
                refine ⟨?_⟩
                clear hi hz0 hz1 hz2
                go_wp2
                exact ⟨v39, v40, v41, _, _, _, rfl, Lib.hid ⟨fun h => HV.out.f0 (ung (by decide) h), fun h => HV.out.f1 (ung (by decide) h), fun h => HV.out.f2 (ung (by decide) h), fun h => HV.out.f3 (ung (by decide) h), fun h => HV.out.f4 (ung (by decide) h), fun _ => rfl⟩, BL⟩
              | i + 6, ho => simp at ho
            · intro l a w2 hall hI
              obtain ⟨v39, v40, v41, v42, v43, v44, rfl, HV, BL⟩ := hI
              obtain rfl := HV.out.f0 (hall 0 (by decide))
              obtain ⟨g, rfl, hgc⟩ := HV.out.f1 (hall 1 (by decide))
              obtain rfl := HV.out.f2 (hall 2 (by decide))
              obtain rfl := HV.out.f3 (hall 3 (by decide))
              obtain rfl := HV.out.f4 (hall 4 (by decide))
              obtain rfl := HV.out.f5 (hall 5 (by decide))
              clear hall HV
              go_wp2
              go_roundw
              case rel => exact ⟨q + 1, n + s, by omega, hnq2, int_eq (by omega), int_eq (by omega), HN2, HNO2, HWB2.out _ BL.out, Lib.hid (HB2.out.trans (BL.out.mono HB2.out.size))⟩
              case measure => simp [intOf]; omega
    · obtain rfl : j = len := by omega
      have HE : Hid (leastO cs l2 j = some n0) := Lib.hid (leastO_some HS.out HP.out)
      go_wp2
      go_ret2
      exact ⟨by unfold leastA; rw [HE.out]; exact rfl, HB.out⟩

end Go.Proofs.Ythnbimfdodfhoaa
