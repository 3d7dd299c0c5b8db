/- Chapter 6, the program: rows of a block put in order: sorter, withRowsSorted, withColumnsSorted, withBothSorted. -/
import Derived.Test.YtpoceonmlpnhlabKd
import Derived.Test.YtpoceonmlpnhlabSo
import Derived.Deep.MidRow
namespace Go.Proofs.Ytpoceonmlpnhlab
open Go.ChangeShapes Go.WideShapes Go.ChangeAt Go.RowKit
open Fi

/-- a stretch of a block loaded as one value -/
theorem wpList_loadRow {P : Program} {w : World} {ops : Array Oper} {rest : List Oper} {o : Oper} {a : Act} {Q : Exit → Act → World → Prop} (ty : TypeId) (x : Operand) (ho : o.op = .load ty x) (hgd : o.guard = none)
    (g off : Nat) (t : TypeId) (cur cs : List Value) (d : TypeDesc) (hu : P.underlying ty = some d) (hd : d.isRow = true) (n : Nat) (hi : (P.info? ty).map (·.size) = some n)
    (hx : a.eval x = .pointer (some ⟨g, off, none⟩)) (hb : Hid (Blk w g t cur)) (hc : (cur.drop off).take n = cs) (hn : cs.length = n)
    (h : Stop (wpList P ops Q rest (a.put o.dst (.agg cs.toArray)) w)) : wpList P ops Q (o :: rest) a w := by
  subst hn
  exact wpList_load_mid hgd ty x ho g off hx cs d (by rw [← hc]; exact hb.out.range off _) hu hd hi h.on
/-- a value of several cells stored into the middle of a block -/
theorem wpList_storeRow {P : Program} {w : World} {ops : Array Oper} {rest : List Oper} {o : Oper} {a : Act} {Q : Exit → Act → World → Prop} (ty : TypeId) (x y : Operand) (ho : o.op = .store ty x y) (hgd : o.guard = none)
    (g off : Nat) (t : TypeId) (cur cs : List Value) (n : Nat) (hi : (P.info? ty).map (·.size) = some n) (hx : a.eval x = .pointer (some ⟨g, off, none⟩)) (hy : a.eval y = .agg cs.toArray) (hb : Hid (Blk w g t cur)) (hn : cs.length = n) (hfit : off + n ≤ cur.length) (h1 : ∀ v ∈ cs, v.oneCell' = true)
    (h : ∀ w', Hid (Blk w' g t (splice cur off cs)) → Hid (w.grownBy w' (some g)) → Stop (wpList P ops Q rest (a.put o.dst undef) w')) : wpList P ops Q (o :: rest) a w := by
  subst hn
  refine wpList_store_mid hgd ty x y ho g off cs.toArray hx hy ?_ (by simpa using hi) (all_oneCell_toArray h1) ?_
  · rw [List.size_toArray]; exact hb.out.there off _ hfit
  · exact (h _ (Lib.hid (hb.out.setCells cs off hfit)) (Lib.hid (grown_setCells g cs off w))).on

def fr0 : List Int := List.replicate 8 0
theorem Try.info_fileRow : (Try.prog.info? 42).map (fun i => (i.zero, i.size)) = some (some (.agg (cellsI fr0).toArray), 8) := by kernel_rfl
theorem Try.size_fileRow : (Try.prog.info? 42).map (·.size) = some 8 := by kernel_rfl

set_option maxHeartbeats 1000000 in
theorem sorter1_any (w : World) (rs : List Int) (C gc : Nat) (h8 : rs.length = 8) (hC : C ≤ 8) (hc : w.cell? ⟨gc, 0, none⟩ = some (.int .i64 (C : Int))) :
    Calls Try.prog 65 #[.agg (cellsI rs).toArray, .pointer (some ⟨gc, 0, none⟩)] w fun e w' => e = .returned (.agg (cellsI (ordR C rs)).toArray) ∧ Below w.heap.size w w' := by
  have HC := Lib.hid hc
  have H8 := Lib.hid h8
  have hol : (cellsI (ordR C rs)).length = 8 := by rw [length_cellsI, length_ordR (by omega), h8]
  have HOL := Lib.hid hol
  have HOE : Hid (ordR C rs = splice rs 0 (sortL ((rs.drop 0).take C))) := Lib.hid rfl
  clear hc h8 hol
  go_enter Try.func65, Try.ntmps65
  go_wp2_with (refine wpList_box 42 _ rfl rfl (cellsI rs) rfl ?_; intro w1 g1 G1 B1 L1)
  refine ⟨?_⟩
  go_wp2_with (refine wpList_new 42 rfl rfl _ _ Try.info_fileRow ?_; intro w2 g2 G2 B2 L2)
  refine ⟨?_⟩
  have HB1 : Hid (Blk w2 g1 42 (cellsI rs)) := Lib.hid (B1.out.below L2.out B1.out.lt)
  have LA : Hid (Below w.heap.size w w2) := L1.out.trans (L2.out.mono L1.out.size)
  have g12 : Hid (g2 ≠ g1) := Lib.hid (by have := G2.out; have := B1.out.lt; omega)
  have g1l : Hid (w.heap.size ≤ g1) := Lib.hid (by have := G1.out; omega)
  have g2l : Hid (w.heap.size ≤ g2) := Lib.hid (by have := G2.out; have := L1.out.size; omega)
  have c2 : w2.cell? ⟨gc, 0, none⟩ = some (.int .i64 (C : Int)) := (LA.out.cell (World.block_lt_of_cell? w _ HC.out)).trans HC.out
  have HSO := Lib.hid (sort_any w2 g1 42 0 C 8 rs HB1.out (by have := H8.out; omega) (by omega))
  rw [← HOE.out] at HSO
  have i1 : (0 : Int) ≤ (C : Int) := by omega
  have i2 : (C : Int) ≤ 8 := by omega
  clear G1 G2 B1 L1 L2
  go_wp2_with fail
  go_at_call 59
  refine HSO.out.mono ?_
  rintro e w3 ⟨rfl, b3, l3⟩
  have HB3 : Hid (Blk w3 g1 42 (cellsI (ordR C rs))) := Lib.hid b3
  have HB2 : Hid (Blk w3 g2 42 (cellsI fr0)) := Lib.hid (B2.out.grown l3 (fun e => g12.out (Option.some.inj e).symm))
  have LB : Hid (Below w.heap.size w w3) := grownBy_below LA.out l3 (Nat.le_refl _) g1l.out
  clear b3 l3 HB1 c2 HSO B2
  go_wp2_with (refine wpList_loadAll 42 _ rfl rfl g1 _ (cellsI (ordR C rs)) _ Try.underlying42 rfl 8 Try.size_fileRow rfl HB3 HOL.out ?_)
  refine ⟨?_⟩
  go_wp2_with (refine wpList_storeAll 42 _ _ rfl rfl g2 _ (cellsI fr0) (cellsI (ordR C rs)) 8 Try.size_fileRow rfl rfl HB2 HOL.out (by rw [length_cellsI]; rfl) (cellsI_one _) ?_; intro w5 B5 L5)
  refine ⟨?_⟩
  go_wp2
  refine ret_cell 3 42 (by kernel_rfl) g2 _ (cellsI (ordR C rs)) _ Try.underlying42 rfl 8 Try.size_fileRow rfl B5.out HOL.out rfl ?_
  exact ⟨rfl, grownBy_below LB.out L5.out (Nat.le_refl _) g2l.out⟩

theorem sorter_any (w : World) (C : Int) :
    Calls Try.prog 53 #[.int .i64 C] w fun e w' => ∃ gc, e = .returned (.func (.func 65) #[] #[.pointer (some ⟨gc, 0, none⟩)]) ∧ w.heap.size ≤ gc ∧ w'.cell? ⟨gc, 0, none⟩ = some (.int .i64 C) ∧ Below w.heap.size w w' := by
  have HB : Hid (Below w.heap.size w (w.alloc (.cells #[.int .i64 C] 3))) := (Below.refl _ _).alloc (Nat.le_refl _) _
  go_enter Try.func53, Try.ntmps53
  go_wp2
  go_ret
  exact ⟨w.heap.size, rfl, Nat.le_refl _, by simp, HB.out⟩


end Go.Proofs.Ytpoceonmlpnhlab
