/- Chapter 6, the program: files in a block: blockOf. -/
import Derived.Test.YtcljhjfmhnmgnaaKb
namespace Go.Proofs.Ytcljhjfmhnmgnaa
open Go.ChangeShapes Go.WideShapes Go.ChangeAt Go.RowKit
open Fi

theorem wpList_build2 {P : Program} {w : World} {ops : Array Oper} {rest : List Oper} {o : Oper} {a : Act} {Q : Exit → Act → World → Prop} (t : TypeId) (k1 k2 : Nat) (x y : Operand) (ho : o.op = .build t #[(k1, x), (k2, y)]) (hgd : o.guard = none)
    (v u : Value) (cs : List Value) (hx : a.eval x = v) (hy : a.eval y = u) (hr : P.built t [(k1, v), (k2, u)] = some cs.toArray)
    (h : Stop (wpList P ops Q rest (a.put o.dst (.agg cs.toArray)) w)) : wpList P ops Q (o :: rest) a w := by
  refine wpList_plain hgd fun K hK => ?_
  have hl := run_build (P := P) w t #[(k1, v), (k2, u)] cs.toArray hr
  have hm : (#[(k1, x), (k2, y)] : Array (Nat × Operand)).map (fun p => (p.1, a.eval p.2)) = #[(k1, v), (k2, u)] := by simp [hx, hy]
  unfold Oper.wp
  simp only [execOp, ho, hm, Sem.run_bind, Sem.run_pure, Result.andThen_ok, hl]
  exact hK _ _ h.on

def bk0 : List Int := List.replicate 66 0
def bkN (r c : Int) : List Int := List.replicate 64 0 ++ [r, c]
theorem Try.info_block : (Try.prog.info? 42).map (fun i => (i.zero, i.size)) = some (some (.agg (cellsI bk0).toArray), 66) := by kernel_rfl
theorem Try.size_block : (Try.prog.info? 42).map (·.size) = some 66 := by kernel_rfl
theorem built_block (r c : Int) : Try.prog.built 42 [(1, .int .i64 r), (2, .int .i64 c)] = some (cellsI (bkN r c)).toArray := by kernel_rfl
theorem Try.size_intB : (Try.prog.info? 3).map (·.size) = some 1 := by kernel_rfl
theorem length_bk0 : (cellsI bk0).length = 66 := by rw [length_cellsI]; rfl
theorem length_bkN (r c : Int) : (cellsI (bkN r c)).length = 66 := by rw [length_cellsI]; rfl
theorem is_bkN (f : Nat → Nat → Int) {R C : Nat} (h1 : R ≤ 8) (h2 : C ≤ 8) : IsP (bkN R C) f R C (fun _ _ => False) := ⟨rfl, rfl, rfl, h1, h2, fun _ _ _ _ h => h.elim⟩

set_option maxRecDepth 20000 in
set_option maxHeartbeats 2000000 in
theorem blockOf_any (w : World) (a : Option Addr) (len cap : Nat) (zss : List (List Int)) (R C : Nat) (g : Fi.Good zss R C) (hc : CameSS w a len zss) :
    Calls Try.prog 60 #[.slice a len cap] w fun e w' => ∃ bs, e = .returned (.agg (cellsI bs).toArray) ∧ IsZ bs zss R C ∧ Below w.heap.size w w' := by
  have hln : len = R := hc.1.symm.trans g.rows
  subst hln
  have HC := Lib.hid hc
  have HG := Lib.hid g
  have hr1 := g.r1
  have hr8 := g.r8
  have hc1 := g.c1
  have hc8 := g.c8
  obtain ⟨b, off, a0, c0, rfl, e0, _, _, _⟩ := hc.at 0 (by omega)
  rw [show (zss.getD 0 []).length = C from g.cols 0 (by omega), Nat.add_zero] at e0
  have HE0 := Lib.hid (fun (w2 : World) (h : Below w.heap.size w w2) => (h.cell (World.block_lt_of_cell? w _ e0)).trans e0)
  have i0 : (0 : Int) < (len : Int) := by omega
  clear hc g e0
  go_enter Try.func60, Try.ntmps60
  go_wp2_with (refine wpList_new 42 rfl rfl _ _ Try.info_block ?_; intro w1 g1 G1 B1 L1)
  refine ⟨?_⟩
  have e0 := HE0.out w1 L1.out
  go_wp2_with (refine wpList_build2 42 _ _ _ _ rfl rfl _ _ (cellsI (bkN len C)) rfl rfl (built_block len C) ?_)
  refine ⟨?_⟩
  go_wp2_with (refine wpList_new 42 rfl rfl _ _ Try.info_block ?_; intro w2 g2 G2 B2 L2)
  refine ⟨?_⟩
  go_wp2_with (refine wpList_storeAll 42 _ _ rfl rfl g2 _ (cellsI bk0) (cellsI (bkN len C)) 66 Try.size_block rfl rfl B2 (length_bkN _ _) length_bk0 (cellsI_one _) ?_; intro w3 B3 L3)
  refine ⟨?_⟩
  have g12 : Hid (g1 ≠ g2) := Lib.hid (by have := G2.out; have := B1.out.lt; omega)
  have g2l : Hid (w.heap.size ≤ g2) := Lib.hid (by have := G2.out; have := L1.out.size; omega)
  have g1l : Hid (w.heap.size ≤ g1) := Lib.hid (by have := G1.out; omega)
  have LA : Hid (Below w.heap.size w w3) := grownBy_below (L1.out.trans (L2.out.mono L1.out.size)) L3.out (Nat.le_refl _) g2l.out
  have B1' : Hid (Blk w3 g1 42 (cellsI bk0)) := Lib.hid ((B1.out.below L2.out B1.out.lt).grown L3.out (fun e => g12.out (Option.some.inj e).symm))
  have HI3 : Hid (IsP (bkN len C) (fOf zss) len C (fun i _ => i < 0)) := Lib.hid ((is_bkN (fOf zss) hr8 hc8).mono fun i j _ _ h => absurd h (Nat.not_lt_zero _))
  clear G1 G2 L1 L2 L3 B1 B2 e0
  go_wp2
  go_loopw [15] (fun i wr => ∃ (k : Nat) (bs : List Int), k ≤ len ∧ i = .int .i64 (k : Int) ∧ Hid (Blk wr g2 42 (cellsI bs)) ∧ Hid (IsP bs (fOf zss) len C (fun i _ => i < k)) ∧ Hid (Blk wr g1 42 (cellsI bk0)) ∧ Hid (Below w.heap.size w wr)) (fun i _ => len - (intOf i).toNat)
  case atStart => exact ⟨0, bkN len C, Nat.zero_le _, rfl, B3, HI3, B1', LA⟩
  case round =>
    obtain ⟨k, bs, hk, rfl, HO, HI, HZ, HB⟩ := hrel
    clear B3 HI3 B1' LA
    by_cases hlt : k < len
    · obtain ⟨b', off', ak, ck, he, e1, hrow, _, _⟩ := (HC.out.below HB.out).at k hlt
      cases he
      have hq : (zss.getD k []).length = C := HG.out.cols k hlt
      rw [hq] at e1 hrow
      have i2 : (0 : Int) ≤ (k : Int) := by omega
      have i3 : (k : Int) < (len : Int) := by omega
      have i4 : (k : Int) < 8 := by omega
      have HR := Lib.hid hrow
      have HQ := Lib.hid hq
      clear hq hrow
      have hfl : (cellsI bs).length = 66 := by rw [length_cellsI]; exact HI.out.len
      have HW : Hid (∀ r : List Int, r = zss.getD k [] → Came wr ak C r) := Lib.hid (fun r e => by rw [e]; exact HR.out)
      obtain ⟨r, hr⟩ : ∃ r, r = zss.getD k [] := ⟨_, rfl⟩
      have hrl : r.length = C := by rw [hr]; exact HQ.out
      have hrc := Lib.hid (HW.out r hr)
      have HI2 : Hid (IsP (splice bs (k * 8) r) (fOf zss) len C (fun i _ => i < k + 1)) := Lib.hid ((HI.out.put k hlt r (by omega) (by omega) (fun j _ => by rw [hr]; rfl)).mono fun i j _ _ h => ⟨by omega, rfl⟩)
      clear HR HQ HW hr
      go_wp2_with (refine wpList_copyB (.tmp 23) (.tmp 24) 31 31 rfl rfl 3 Try.underlying31 Try.size_intB ak 8 8 C ck g2 (k * 8) rfl rfl (cellsI bs) _ HO (cellsI r) (by rw [length_cellsI, hrl]; exact (Nat.min_eq_left (by omega)).symm) (fun hp => hrc.out.src (by rw [length_cellsI, hrl] at hp; exact hp)) (by rw [length_cellsI, hrl, hfl]; omega) (cellsI_one _) ?_; intro w4 B4 L4)
      refine ⟨?_⟩
      rw [cellsI_splice] at B4
      have HZ4 : Hid (Blk w4 g1 42 (cellsI bk0)) := Lib.hid (HZ.out.grown L4.out (fun e => g12.out (Option.some.inj e).symm))
      have HB4 : Hid (Below w.heap.size w w4) := grownBy_below HB.out L4.out (Nat.le_refl _) g2l.out
      clear HO HI HZ HB hrc L4 hfl hrl
      go_wp2
      go_roundw
      case rel => exact ⟨k + 1, splice bs (k * 8) r, by omega, by go_num, B4, HI2, HZ4, HB4⟩
      case measure => simp [intOf]; omega
    · obtain rfl : k = len := by omega
      have hfl : (cellsI bs).length = 66 := by rw [length_cellsI]; exact HI.out.len
      have HIF : Hid (IsF bs (fOf zss) k C) := Lib.hid (HI.out.mono fun i j hi _ _ => ⟨hi, rfl⟩)
      go_wp2_with (refine wpList_loadAll 42 _ rfl rfl g2 _ (cellsI bs) _ Try.underlying42 rfl 66 Try.size_block rfl HO hfl ?_)
      refine ⟨?_⟩
      go_wp2_with (refine wpList_storeAll 42 _ _ rfl rfl g1 _ (cellsI bk0) (cellsI bs) 66 Try.size_block rfl rfl HZ hfl length_bk0 (cellsI_one _) ?_; intro w5 B5 L5)
      refine ⟨?_⟩
      go_wp2
      refine ret_cell 2 42 (by kernel_rfl) g1 _ (cellsI bs) _ Try.underlying42 rfl 66 Try.size_block rfl B5.out hfl rfl ?_
      exact ⟨bs, rfl, ⟨HG.out, HIF.out⟩, grownBy_below HB.out L5.out (Nat.le_refl _) g1l.out⟩

end Go.Proofs.Ytcljhjfmhnmgnaa
