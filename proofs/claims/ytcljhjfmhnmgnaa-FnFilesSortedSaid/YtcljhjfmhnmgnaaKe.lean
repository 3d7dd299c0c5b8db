/- Chapter 6, the program: rows of a block put in order: sorter, withRowsSorted, withColumnsSorted, withBothSorted. -/
import Derived.Test.YtcljhjfmhnmgnaaKd
import Derived.Test.YtcljhjfmhnmgnaaSo
import Derived.Deep.MidRow
namespace Go.Proofs.Ytcljhjfmhnmgnaa
open Go.ChangeShapes Go.WideShapes Go.ChangeAt Go.RowKit
open Fi

/-- a stretch of a block loaded as one value -/
theorem wpList_loadRow {P : Program} {w : World} {ops : Array Oper} {rest : List Oper} {o : Oper} {a : Act} {Q : Exit → Act → World → Prop} (ty : TypeId) (x : Operand) (ho : o.op = .load ty x) (hgd : o.guard = none)
    (g off : Nat) (t : TypeId) (cur cs : List Value) (d : TypeDesc) (hu : P.underlying ty = some d) (hd : d.isRow = true) (n : Nat) (hi : (P.info? ty).map (·.size) = some n)
    (hx : a.eval x = .pointer (some ⟨g, off, none⟩)) (hb : Hid (Blk w g t cur)) (hc : (cur.drop off).take n = cs) (hn : cs.length = n)
    (h : Stop (wpList P ops Q rest (a.put o.dst (.agg cs.toArray)) w)) : wpList P ops Q (o :: rest) a w := by
  subst hn
  exact wpList_load_mid hgd ty x ho g off hx cs d (by rw [← hc]; exact hb.out.range off _) hu hd hi h.on
/-- a value of several cells stored into the middle of a block -/
theorem wpList_storeRow {P : Program} {w : World} {ops : Array Oper} {rest : List Oper} {o : Oper} {a : Act} {Q : Exit → Act → World → Prop} (ty : TypeId) (x y : Operand) (ho : o.op = .store ty x y) (hgd : o.guard = none)
    (g off : Nat) (t : TypeId) (cur cs : List Value) (n : Nat) (hi : (P.info? ty).map (·.size) = some n) (hx : a.eval x = .pointer (some ⟨g, off, none⟩)) (hy : a.eval y = .agg cs.toArray) (hb : Hid (Blk w g t cur)) (hn : cs.length = n) (hfit : off + n ≤ cur.length) (h1 : ∀ v ∈ cs, v.oneCell' = true)
    (h : ∀ w', Hid (Blk w' g t (splice cur off cs)) → Hid (w.grownBy w' (some g)) → Stop (wpList P ops Q rest (a.put o.dst undef) w')) : wpList P ops Q (o :: rest) a w := by
  subst hn
  refine wpList_store_mid hgd ty x y ho g off cs.toArray hx hy ?_ (by simpa using hi) (all_oneCell_toArray h1) ?_
  · rw [List.size_toArray]; exact hb.out.there off _ hfit
  · exact (h _ (Lib.hid (hb.out.setCells cs off hfit)) (Lib.hid (grown_setCells g cs off w))).on

def fr0 : List Int := List.replicate 8 0
theorem Try.info_fileRow : (Try.prog.info? 39).map (fun i => (i.zero, i.size)) = some (some (.agg (cellsI fr0).toArray), 8) := by kernel_rfl
theorem Try.size_fileRow : (Try.prog.info? 39).map (·.size) = some 8 := by kernel_rfl

set_option maxRecDepth 20000 in
set_option maxHeartbeats 1000000 in
theorem sorter1_any (w : World) (rs : List Int) (C gc : Nat) (h8 : rs.length = 8) (hC : C ≤ 8) (hc : w.cell? ⟨gc, 0, none⟩ = some (.int .i64 (C : Int))) :
    Calls Try.prog 70 #[.agg (cellsI rs).toArray, .pointer (some ⟨gc, 0, none⟩)] w fun e w' => e = .returned (.agg (cellsI (ordR C rs)).toArray) ∧ Below w.heap.size w w' := by
  have HC := Lib.hid hc
  have H8 := Lib.hid h8
  have hol : (cellsI (ordR C rs)).length = 8 := by rw [length_cellsI, length_ordR (by omega), h8]
  have HOL := Lib.hid hol
  have HOE : Hid (ordR C rs = splice rs 0 (sortL ((rs.drop 0).take C))) := Lib.hid rfl
  clear hc h8 hol
  go_enter Try.func70, Try.ntmps70
  go_wp2_with (refine wpList_box 39 _ rfl rfl (cellsI rs) rfl ?_; intro w1 g1 G1 B1 L1)
  refine ⟨?_⟩
  go_wp2_with (refine wpList_new 39 rfl rfl _ _ Try.info_fileRow ?_; intro w2 g2 G2 B2 L2)
  refine ⟨?_⟩
  have HB1 : Hid (Blk w2 g1 39 (cellsI rs)) := Lib.hid (B1.out.below L2.out B1.out.lt)
  have LA : Hid (Below w.heap.size w w2) := L1.out.trans (L2.out.mono L1.out.size)
  have g12 : Hid (g2 ≠ g1) := Lib.hid (by have := G2.out; have := B1.out.lt; omega)
  have g1l : Hid (w.heap.size ≤ g1) := Lib.hid (by have := G1.out; omega)
  have g2l : Hid (w.heap.size ≤ g2) := Lib.hid (by have := G2.out; have := L1.out.size; omega)
  have c2 : w2.cell? ⟨gc, 0, none⟩ = some (.int .i64 (C : Int)) := (LA.out.cell (World.block_lt_of_cell? w _ HC.out)).trans HC.out
  have HSO := Lib.hid (sort_any w2 g1 39 0 C 8 rs HB1.out (by have := H8.out; omega) (by omega))
  rw [← HOE.out] at HSO
  have i1 : (0 : Int) ≤ (C : Int) := by omega
  have i2 : (C : Int) ≤ 8 := by omega
  clear G1 G2 B1 L1 L2
  go_wp2_with fail
  go_at_call 71
  refine HSO.out.mono ?_
  rintro e w3 ⟨rfl, b3, l3⟩
  have HB3 : Hid (Blk w3 g1 39 (cellsI (ordR C rs))) := Lib.hid b3
  have HB2 : Hid (Blk w3 g2 39 (cellsI fr0)) := Lib.hid (B2.out.grown l3 (fun e => g12.out (Option.some.inj e).symm))
  have LB : Hid (Below w.heap.size w w3) := grownBy_below LA.out l3 (Nat.le_refl _) g1l.out
  clear b3 l3 HB1 c2 HSO B2
  go_wp2_with (refine wpList_loadAll 39 _ rfl rfl g1 _ (cellsI (ordR C rs)) _ Try.underlying39 rfl 8 Try.size_fileRow rfl HB3 HOL.out ?_)
  refine ⟨?_⟩
  go_wp2_with (refine wpList_storeAll 39 _ _ rfl rfl g2 _ (cellsI fr0) (cellsI (ordR C rs)) 8 Try.size_fileRow rfl rfl HB2 HOL.out (by rw [length_cellsI]; rfl) (cellsI_one _) ?_; intro w5 B5 L5)
  refine ⟨?_⟩
  go_wp2
  refine ret_cell 3 39 (by kernel_rfl) g2 _ (cellsI (ordR C rs)) _ Try.underlying39 rfl 8 Try.size_fileRow rfl B5.out HOL.out rfl ?_
  exact ⟨rfl, grownBy_below LB.out L5.out (Nat.le_refl _) g2l.out⟩

set_option maxRecDepth 20000 in
theorem sorter_any (w : World) (C : Int) :
    Calls Try.prog 59 #[.int .i64 C] w fun e w' => ∃ gc, e = .returned (.func (.func 70) #[] #[.pointer (some ⟨gc, 0, none⟩)]) ∧ w.heap.size ≤ gc ∧ w'.cell? ⟨gc, 0, none⟩ = some (.int .i64 C) ∧ Below w.heap.size w w' := by
  have HB : Hid (Below w.heap.size w (w.alloc (.cells #[.int .i64 C] 3))) := (Below.refl _ _).alloc (Nat.le_refl _) _
  go_enter Try.func59, Try.ntmps59
  go_wp2
  go_ret
  exact ⟨w.heap.size, rfl, Nat.le_refl _, by simp, HB.out⟩

set_option maxRecDepth 20000 in
set_option maxHeartbeats 4000000 in
theorem rowsB_any (w : World) (bs : List Int) (zss : List (List Int)) (R C : Nat) (h : IsZ bs zss R C) :
    Calls Try.prog 34 #[.agg (cellsI bs).toArray] w fun e w' => ∃ bs', e = .returned (.agg (cellsI bs').toArray) ∧ IsZ bs' (rowsL zss) R C ∧ Below w.heap.size w w' := by
  have hr1 := h.good.r1
  have hr8 := h.good.r8
  have hc1 := h.good.c1
  have hc8 := h.good.c8
  have HI := Lib.hid h.is
  have HGR := Lib.hid (good_rows h.good)
  have HCO := Lib.hid (fun i hi => h.good.cols i hi)
  have HRR : Hid (∀ i, i < R → row (rowsL zss) i = sortL (row zss i)) := Lib.hid (fun i hi => row_rows zss i (by rw [h.good.rows]; exact hi))
  clear h
  go_enter Try.func34, Try.ntmps34
  go_wp2_with (refine wpList_box 42 _ rfl rfl (cellsI bs) rfl ?_; intro w1 g1 G1 B1 L1)
  refine ⟨?_⟩
  go_wp2_with (refine wpList_new 42 rfl rfl _ _ Try.info_block ?_; intro w2 g2 G2 B2 L2)
  refine ⟨?_⟩
  have HB1 : Hid (Blk w2 g1 42 (cellsI bs)) := Lib.hid (B1.out.below L2.out B1.out.lt)
  have c65 : w2.cell? ⟨g1, 65, none⟩ = some (.int .i64 (C : Int)) := by rw [HB1.out.celI 65 (by rw [HI.out.len]; omega), HI.out.cols]
  have LA : Hid (Below w.heap.size w w2) := L1.out.trans (L2.out.mono L1.out.size)
  have g12 : Hid (g1 ≠ g2) := Lib.hid (by have := G2.out; have := B1.out.lt; omega)
  have g1l : Hid (w.heap.size ≤ g1) := Lib.hid (by have := G1.out; omega)
  have g2l : Hid (w.heap.size ≤ g2) := Lib.hid (by have := G2.out; have := L1.out.size; omega)
  clear G1 G2 B1 L1 L2
  go_wp2_with fail
  go_at_call 59
  refine (sorter_any w2 (C : Int)).mono ?_
  rintro e w3 ⟨gc, rfl, hgc, c3, b3⟩
  have HC3 := Lib.hid c3
  have HB3 : Hid (Blk w3 g1 42 (cellsI bs)) := Lib.hid (HB1.out.below b3 HB1.out.lt)
  have HZ3 : Hid (Blk w3 g2 42 (cellsI bk0)) := Lib.hid (B2.out.below b3 B2.out.lt)
  have LB : Hid (Below w.heap.size w w3) := Lib.hid (LA.out.trans (b3.mono LA.out.size))
  have gcn : Hid (gc ≠ g1) := Lib.hid (by have := HB1.out.lt; omega)
  have HIa : Hid (IsP bs (fOf (rowsL zss)) R C (fun i _ => i < 0)) := Lib.hid (HI.out.mono fun i j _ _ h => absurd h (Nat.not_lt_zero _))
  have HIb : Hid (IsP bs (fOf zss) R C (fun i _ => 0 ≤ i)) := Lib.hid (HI.out.mono fun i j _ _ h => ⟨trivial, rfl⟩)
  have c64 : w3.cell? ⟨g1, 64, none⟩ = some (.int .i64 (R : Int)) := by rw [HB3.out.celI 64 (by rw [HI.out.len]; omega), HI.out.rows]
  clear b3 c3 hgc HB1 B2 LA c65 HI
  go_wp2
  go_loopw [10] (fun i wr => ∃ (k : Nat) (us : List Int), k ≤ R ∧ i = .int .i64 (k : Int) ∧ Hid (Blk wr g1 42 (cellsI us)) ∧ Hid (IsP us (fOf (rowsL zss)) R C (fun i _ => i < k)) ∧ Hid (IsP us (fOf zss) R C (fun i _ => k ≤ i)) ∧ Hid (Blk wr g2 42 (cellsI bk0)) ∧ Hid (wr.cell? ⟨gc, 0, none⟩ = some (.int .i64 (C : Int))) ∧ Hid (Below w.heap.size w wr)) (fun i _ => R - (intOf i).toNat)
  case atStart => exact ⟨0, bs, Nat.zero_le _, rfl, HB3, HIa, HIb, HZ3, HC3, LB⟩
  case round =>
    obtain ⟨k, us, hk, rfl, HO, HA, HN, HZ, HC, HB⟩ := hrel
    clear HB3 HIa HIb HZ3 HC3 LB c64
    by_cases hlt : k < R
    · have hul := isB_len HA.out
      have hsg := length_seg HA.out.len k (by omega)
      have hst : (seg us k).take C = row zss k := seg_row HN.out k hlt (HCO.out k hlt) (fun j _ => ⟨Nat.le_refl _, rfl⟩)
      have hol : (ordR C (seg us k)).length = 8 := by rw [length_ordR (by omega), hsg]
      have hog : ∀ j, j < C → (ordR C (seg us k)).getD j 0 = fOf (rowsL zss) k j := fun j hj => by rw [getD_ordR (by omega) j hj, hst]; unfold fOf; rw [HRR.out k hlt]
      have HA2 : Hid (IsP (splice us (k * 8) (ordR C (seg us k))) (fOf (rowsL zss)) R C (fun i _ => i < k + 1)) := Lib.hid ((HA.out.put k hlt _ (by omega) (by omega) hog).mono fun i j _ _ h => ⟨by omega, rfl⟩)
      have HN2 : Hid (IsP (splice us (k * 8) (ordR C (seg us k))) (fOf zss) R C (fun i _ => k + 1 ≤ i)) := Lib.hid ((HN.out.off k hlt _ (by omega)).mono fun i j _ _ h => ⟨by omega, rfl⟩)
      have HSG : Hid (((cellsI us).drop (k * 8)).take 8 = cellsI (seg us k)) := Lib.hid (cellsI_seg us k)
      have HS1 := Lib.hid (fun w2 h => sorter1_any w2 (seg us k) C gc hsg hc8 h)
      obtain ⟨rs, hrs⟩ : ∃ rs, rs = seg us k := ⟨_, rfl⟩
      obtain ⟨ys, hys⟩ : ∃ ys, ys = ordR C (seg us k) := ⟨_, rfl⟩
      have hrl : (cellsI rs).length = 8 := by rw [length_cellsI, hrs]; exact hsg
      have hyl : (cellsI ys).length = 8 := by rw [length_cellsI, hys]; exact hol
      rw [← hys] at HA2 HN2 HS1
      rw [← hrs] at HSG HS1
      have HRL := Lib.hid hrl
      have HYL := Lib.hid hyl
      have HUL := Lib.hid hul
      have i1 : (0 : Int) ≤ (k : Int) := by omega
      have i2 : (k : Int) < 8 := by omega
      have i3 : (k : Int) < (R : Int) := by omega
      clear hrs hys hrl hyl hul hsg hst hol hog HA HN
      go_wp2_with (refine wpList_loadRow 39 _ rfl rfl g1 (k * 8) _ (cellsI us) (cellsI rs) _ Try.underlying39 rfl 8 Try.size_fileRow rfl HO HSG.out HRL.out ?_)
      refine ⟨?_⟩
      go_wp2_with fail
      go_at_call 70
      refine (HS1.out wr HC.out).mono ?_
      rintro e w4 ⟨rfl, b4⟩
      have HO4 : Hid (Blk w4 g1 42 (cellsI us)) := Lib.hid (HO.out.below b4 HO.out.lt)
      have HZ4 : Hid (Blk w4 g2 42 (cellsI bk0)) := Lib.hid (HZ.out.below b4 HZ.out.lt)
      have HC4 : Hid (w4.cell? ⟨gc, 0, none⟩ = some (.int .i64 (C : Int))) := Lib.hid ((b4.cell (World.block_lt_of_cell? wr _ HC.out)).trans HC.out)
      have HB4 : Hid (Below w.heap.size w w4) := Lib.hid (HB.out.trans (b4.mono HB.out.size))
      clear b4 HO HZ HC HB HS1
      go_wp2_with (refine wpList_storeRow 39 _ _ rfl rfl g1 (k * 8) _ (cellsI us) (cellsI ys) 8 Try.size_fileRow rfl rfl HO4 HYL.out (by rw [HUL.out]; omega) (cellsI_one _) ?_; intro w5 B5 L5)
      refine ⟨?_⟩
      rw [cellsI_splice] at B5
      have HZ5 : Hid (Blk w5 g2 42 (cellsI bk0)) := Lib.hid (HZ4.out.grown L5.out (fun e => g12.out (Option.some.inj e)))
      have HC5 : Hid (w5.cell? ⟨gc, 0, none⟩ = some (.int .i64 (C : Int))) := Lib.hid ((World.cell?_of_block (L5.out.block gc (World.block_lt_of_cell? w4 _ HC4.out) (fun e => gcn.out (Option.some.inj e)))).trans HC4.out)
      have HB5 : Hid (Below w.heap.size w w5) := grownBy_below HB4.out L5.out (Nat.le_refl _) g1l.out
      clear HO4 HZ4 HC4 HB4 L5
      go_wp2
      go_roundw
      case rel => exact ⟨k + 1, _, by omega, by go_num, B5, HA2, HN2, HZ5, HC5, HB5⟩
      case measure => simp [intOf]; omega
    · obtain rfl : k = R := by omega
      have hfl := isB_len HA.out
      have HIF : Hid (IsF us (fOf (rowsL zss)) k C) := Lib.hid (HA.out.mono fun i j hi _ _ => ⟨hi, rfl⟩)
      go_wp2_with (refine wpList_loadAll 42 _ rfl rfl g1 _ (cellsI us) _ Try.underlying42 rfl 66 Try.size_block rfl HO hfl ?_)
      refine ⟨?_⟩
      go_wp2_with (refine wpList_storeAll 42 _ _ rfl rfl g2 _ (cellsI bk0) (cellsI us) 66 Try.size_block rfl rfl HZ hfl length_bk0 (cellsI_one _) ?_; intro w5 B5 L5)
      refine ⟨?_⟩
      go_wp2
      refine ret_cell 2 42 (by kernel_rfl) g2 _ (cellsI us) _ Try.underlying42 rfl 66 Try.size_block rfl B5.out hfl rfl ?_
      exact ⟨us, rfl, ⟨HGR.out, HIF.out⟩, grownBy_below HB.out L5.out (Nat.le_refl _) g2l.out⟩

end Go.Proofs.Ytcljhjfmhnmgnaa
