/- Chapter 4, the program: math/bits.Mul and slices.Repeat at one int. -/
import Derived.Test.YtjbomclildkjaaaDoorOwn
import Derived.Test.YtjbomclildkjaaaDoorAgg
import Derived.Test.YtjbomclildkjaaaDoorCopyS
import Derived.Deep.MidRow
import Derived.Deep.RegionHeldLaw
namespace Go.Proofs.YtjbomclildkjaaaDoor
open Go.ChangeShapes Go.WideShapes Go.ChangeAt Go.RowKit

set_option maxRecDepth 20000 in
set_option maxHeartbeats 400000 in
theorem mul64_one (n : Nat) (hn : n ≤ 100) (w : World) :
    Calls Tryd.prog 95 #[.int .u64 1, .int .u64 (n : Int)] w fun e w' => e = .returned (.tuple #[.int .u64 0, .int .u64 (n : Int)]) ∧ w = w' := by
  have a1 : bits BinOp.and IntKind.u64 1 4294967295 = 1 := by decide
  have a0 : bits BinOp.and IntKind.u64 0 4294967295 = 0 := by decide
  have a2 : bits BinOp.and IntKind.u64 (n : Int) 4294967295 = (n : Int) := (by decide +kernel : ∀ m < 101, bits BinOp.and IntKind.u64 ((m : Nat) : Int) 4294967295 = ((m : Nat) : Int)) n (by omega)
  have a3 : IntKind.u64.wrap (n : Int) = (n : Int) := (by decide +kernel : ∀ m < 101, IntKind.u64.wrap ((m : Nat) : Int) = ((m : Nat) : Int)) n (by omega)
  have a4 : IntKind.u64.wrap 0 = 0 := by decide
  have a5 : (n : Int) / 4294967296 = 0 := by omega
  go_enter Tryd.func95, Tryd.ntmps95
  go_wp2
  go_ret2
  exact ⟨rfl, rfl⟩
set_option maxRecDepth 20000 in
set_option maxHeartbeats 400000 in
theorem mul_one' (n : Nat) (hn : n ≤ 100) (w : World) :
    Calls Tryd.prog 92 #[.int .u64 1, .int .u64 (n : Int)] w fun e w' => e = .returned (.tuple #[.int .u64 0, .int .u64 (n : Int)]) ∧ w = w' := by
  have HM := Lib.hid (mul64_one n hn w)
  have a3 : IntKind.u64.wrap (n : Int) = (n : Int) := (by decide +kernel : ∀ m < 101, IntKind.u64.wrap ((m : Nat) : Int) = ((m : Nat) : Int)) n (by omega)
  go_enter Tryd.func92, Tryd.ntmps92
  go_wp2_with (go_at_call 95; refine HM.out.mono ?_; rintro e w' ⟨rfl, rfl⟩)
  go_ret2
  exact ⟨rfl, rfl⟩
theorem one_int : (Tryd.prog.info? 3).map (·.size) = some 1 := by kernel_rfl
theorem blk_of_own {w : World} {B g n : Nat} {zs : List Int} (h : Own w B (.slice (some ⟨g, 0, none⟩) n n) zs) (hn : n = zs.length) : Blk w g 3 (zs.map (Value.int .i64)) := by
  subst hn
  rcases h.2 with ⟨h1, _⟩ | ⟨g', cap, cur, hv, _, hh, _, _, hs, ht⟩
  · cases h1
  · simp only [Value.slice.injEq, Option.some.injEq, Addr.mk.injEq] at hv
    obtain ⟨⟨rfl, _⟩, _, rfl⟩ := hv
    have hl : cur.toList = zs.map (Value.int .i64) := by
      have h3 : cur.toList.length ≤ zs.length * 1 := by rw [Array.length_toList]; omega
      rw [List.take_of_length_le h3] at ht
      exact ht
    unfold Blk
    rw [hh, ← hl]
theorem own_of_blk {w : World} {B g n : Nat} {zs : List Int} (h : Blk w g 3 (zs.map (Value.int .i64))) (hn : n = zs.length) (hB : B ≤ g) (hm : n ≤ 1000000000) : Own w B (.slice (some ⟨g, 0, none⟩) n n) zs := by
  subst hn
  refine ⟨by simp, .inr ⟨g, zs.length, (zs.map (Value.int .i64)).toArray, rfl, hB, h, Nat.le_refl _, by unfold maxLen; omega, by simp, by rw [List.take_of_length_le (by simp)]⟩⟩
def repL (t : Int) (n m : Nat) : List Int := List.replicate m t ++ List.replicate (n - m) 0
theorem length_repL (t : Int) (n m : Nat) (h : m ≤ n) : (repL t n m).length = n := by unfold repL; rw [List.length_append, List.length_replicate, List.length_replicate]; omega
theorem repL_zero (t : Int) (n : Nat) : repL t n 0 = List.replicate n 0 := by unfold repL; simp
theorem repL_all (t : Int) (n : Nat) : repL t n n = List.replicate n t := by unfold repL; simp
theorem repL_splice (t : Int) (n m c : Nat) (h : m + c ≤ n) : splice ((repL t n m).map (Value.int .i64)) m ((List.replicate c t).map (Value.int .i64)) = (repL t n (m + c)).map (Value.int .i64) := by
  unfold splice repL
  simp only [List.map_append, List.map_replicate, List.length_replicate]
  rw [List.take_left' (by simp), List.drop_append, List.drop_of_length_le (by simp), List.nil_append, List.length_replicate, List.drop_replicate, ← List.append_assoc, List.replicate_append_replicate]
  rw [show n - m - (m + c - m) = n - (m + c) from by omega]
theorem repL_at (t : Int) (n m j : Nat) (h : j < m) : (repL t n m).getD j 0 = t := by
  unfold repL
  rw [List.getD_eq_getElem?_getD, List.getElem?_append_left (by simpa using h), List.getElem?_replicate, if_pos h]
  rfl
theorem repL_cell0 (t : Int) (n m : Nat) (h : 0 < m) (_hm : m ≤ n) : ((repL t n m).map (Value.int .i64))[0]? = some (.int .i64 t) := by
  obtain ⟨m, rfl⟩ : ∃ k, m = k + 1 := ⟨m - 1, by omega⟩
  unfold repL
  rw [List.replicate_succ]
  rfl
theorem Blk.intZ {w : World} {g : Nat} {zs : List Int} (h : Blk w g 3 (zs.map (Value.int .i64))) (j : Nat) (hj : j < zs.length) : w.cell? ⟨g, j, none⟩ = some (.int .i64 (zs.getD j 0)) := by
  rw [h.cell]
  simp [hj]
theorem repL_made {w w1 : World} {B n : Nat} (t : Int) (h : w1.ownsRow B 3 1 (.slice (some ⟨w.heap.size, 0, none⟩) n n) n (madeCells #[.int .i64 0] (n * 1)).toList) : Blk w1 w.heap.size 3 ((repL t n 0).map (Value.int .i64)) := by
  have h2 := made_own (zs := List.replicate n 0) (by simp) h
  rw [copyTo_zero, List.length_replicate] at h2
  rw [repL_zero]
  exact blk_of_own h2 (by simp)
theorem one_src {w w1 : World} {g0 : Nat} {t : Int} (hg : w.grownBy w1 none) (c0 : w.cell? ⟨g0, 0, none⟩ = some (.int .i64 t)) : ∀ j v, ((List.replicate 1 t).map (Value.int .i64))[j]? = some v → w1.cell? ((⟨g0, 0, none⟩ : Addr).add j) = some v := by
  intro j v hv
  have h0 : j = 0 := by
    have := (List.getElem?_eq_some_iff.1 hv).1
    simpa using this
  subst h0
  simp at hv
  subst hv
  exact (World.cell?_of_block (a := ⟨g0, 0, none⟩) (hg.block g0 (World.block_lt_of_cell? w _ c0) (by simp))).trans c0
theorem one_min {t : Int} {n : Nat} (h : 1 ≤ n) : ((List.replicate 1 t).map (Value.int .i64)).length = Nat.min 1 n := by
  rw [List.length_map, List.length_replicate]
  exact (Nat.min_eq_left h).symm
theorem one_fit (t : Int) {n : Nat} (h : 1 ≤ n) : 0 + ((List.replicate 1 t).map (Value.int .i64)).length ≤ ((repL t n 0).map (Value.int .i64)).length := by
  rw [List.length_map, List.length_map, length_repL _ _ _ (Nat.zero_le _), List.length_replicate]
  omega
theorem ints_ones (t : Int) (m : Nat) : ∀ v ∈ (List.replicate m t).map (Value.int .i64), v.oneCell' = true := by
  intro v hv
  simp only [List.mem_map] at hv
  obtain ⟨z, _, rfl⟩ := hv
  rfl
set_option maxRecDepth 20000 in
set_option maxHeartbeats 1000000 in
theorem repeat_any (t : Int) (n : Nat) (h1 : 1 ≤ n) (hn : n ≤ 100) (w : World) (g0 : Nat) (c0 : w.cell? ⟨g0, 0, none⟩ = some (.int .i64 t)) :
    Calls Tryd.prog 89 #[.slice (some ⟨g0, 0, none⟩) 1 1, .int .i64 (n : Int)] w fun e w' => ∃ v, e = .returned v ∧ Own w' w.heap.size v (List.replicate n t) ∧ Below w.heap.size w w' := by
  have HM := Lib.hid (mul_one' n hn w)
  have a3 : IntKind.u64.wrap (n : Int) = (n : Int) := (by decide +kernel : ∀ m < 101, IntKind.u64.wrap ((m : Nat) : Int) = ((m : Nat) : Int)) n (by omega)
  have a4 : ¬ (n : Int) < 0 := by omega
  have a5 : decide (9223372036854775807 < (n : Int)) = false := decide_eq_false (by omega)
  obtain ⟨i0, hi, hz0, hz1, hz2⟩ := info_parts Tryd.info_int
  have hg0 : g0 < w.heap.size := World.block_lt_of_cell? w _ c0
  go_enter Tryd.func89, Tryd.ntmps89
  go_wp2_with (first | (go_at_call 92; refine HM.out.mono ?_; rintro e w' ⟨rfl, rfl⟩) | (at_make; refine wpList_make_full _ rfl _ _ 47 rfl w.heap.size 3 i0 (.int .i64 0) 1 Tryd.underlying47 hi hz0 hz1 .i64 .i64 _ _ n rfl rfl rfl rfl (by rw [hz2]; omega) (by unfold maxLen; omega) (Nat.le_refl _) ?_; intro w1 hown hgrow; have BK := Lib.hid (repL_made t hown); have HB1 := Lib.hid (below_made hgrow); have c1 := Lib.hid (one_src hgrow c0); clear hown hgrow) | (refine wpList_copy_splice rfl (.tmp 31) (.tmp 32) 47 47 rfl 3 Tryd.underlying47 one_int _ _ n n 1 1 rfl rfl w.heap.size 0 _ _ BK.out ((List.replicate 1 t).map (Value.int .i64)) (one_min h1) (fun _ => ⟨rfl, _, rfl, c1.out⟩) (one_fit t h1) (ints_ones t 1) w.heap.size w HB1.out (Nat.le_refl _) ?_; intro w2 BK2 HB2))
  have BK3 : Hid (Blk w2 w.heap.size 3 ((repL t n 1).map (Value.int .i64))) := Lib.hid (by have h := repL_splice t n 0 1 (by omega); rw [Nat.zero_add] at h; rw [← h]; exact BK2.out)
  have HB3 := Lib.hid HB2
  clear BK BK2 HB1 HB2 c1 c0 hg0 a3 a4 a5
  go_loopw [8] (fun m wr => ∃ k : Nat, 1 ≤ k ∧ k ≤ n ∧ m = .int .i64 (k : Int) ∧ Hid (Blk wr w.heap.size 3 ((repL t n k).map (Value.int .i64))) ∧ Hid (Below w.heap.size w wr)) (fun m _ => n - (intOf m).toNat)
  case atStart => exact ⟨1, Nat.le_refl _, h1, by simp, BK3, HB3⟩
  case round =>
    obtain ⟨k, hk1, hk, rfl, BW, HW⟩ := hrel
    by_cases hlt : k < n
    · have hk0 : (0 : Int) ≤ (k : Int) := by omega
      have hkn : (k : Int) ≤ (n : Int) := by omega
      have hnk : ¬ n = k := by omega
      obtain ⟨c, hc⟩ : ∃ c, c = min k (n - k) := ⟨_, rfl⟩
      have hc1 : c ≤ k := by omega
      have hc2 : k + c ≤ n := by omega
      have hc3 : 0 < c := by omega
      have HSP := Lib.hid (repL_splice t n k c hc2)
      have HMIN : Hid (((List.replicate c t).map (Value.int .i64)).length = Nat.min k (n - k)) := Lib.hid (by rw [List.length_map, List.length_replicate, hc])
      have BW2 : Hid (Blk wr.drew w.heap.size 3 ((repL t n k).map (Value.int .i64))) := BW
      have HSRC : Hid (∀ j v, ((List.replicate c t).map (Value.int .i64))[j]? = some v → wr.drew.cell? ((⟨w.heap.size, 0, none⟩ : Addr).add j) = some v) := Lib.hid (fun j v hv => by
        have hj : j < c := by have := (List.getElem?_eq_some_iff.1 hv).1; simpa using this
        rw [show ((⟨w.heap.size, 0, none⟩ : Addr).add j) = ⟨w.heap.size, j, none⟩ from by
          simp only [Addr.add, Nat.zero_add]
          split
          · rename_i e; rw [e]
          · rfl]
        rw [BW2.out.intZ j (by rw [length_repL _ _ _ hk]; omega), repL_at _ _ _ _ (by omega), ← hv]
        simp [hj])
      have HFIT : Hid (k + ((List.replicate c t).map (Value.int .i64)).length ≤ ((repL t n k).map (Value.int .i64)).length) := Lib.hid (by rw [List.length_map, List.length_map, List.length_replicate, length_repL _ _ _ hk]; omega)
      have e0 := BW.out.intZ 0 (by rw [length_repL _ _ _ hk]; omega)
      rw [repL_at _ _ _ _ (by omega)] at e0
      have eL : ((List.replicate c t).map (Value.int .i64)).length = c := by rw [List.length_map, List.length_replicate]
      have eW : IntKind.i64.wrap ((k : Int) + (c : Int)) = (k : Int) + (c : Int) := by have h1 : (0 : Int) ≤ (k : Int) + (c : Int) := by omega
                                                                                       exact wrap_small _ h1 (by omega)
      clear hc
      go_wp2_with fail
      go_region_held_law (fun w' => w'.cell? ⟨w.heap.size, 0, none⟩ = some (.int .i64 t)) (first | go_keep | (rw [BW5.out.cell]; rw [HSP.out]; exact repL_cell0 t n (k + c) (by omega) hc2))
        ((refine step_copyB _ _ _ _ rfl rfl 3 Tryd.underlying47 one_int ⟨w.heap.size, 0, none⟩ (n - k) (n - k) k n w.heap.size k rfl rfl ((repL t n k).map (Value.int .i64)) _ BW2 ((List.replicate c t).map (Value.int .i64)) HMIN.out HSRC.out HFIT.out (ints_ones t c) ?_; intro w5 BW5 L5))
      have BW6 : Hid (Blk w5 w.heap.size 3 ((repL t n (k + c)).map (Value.int .i64))) := Lib.hid (by rw [← HSP.out]; exact BW5.out)
      have HW6 : Hid (Below w.heap.size w w5) := Lib.hid (grownBy_below (w := wr.drew) ⟨HW.out.os, HW.out.tape, HW.out.output, HW.out.size, HW.out.block⟩ L5.out (Nat.le_refl _) (Nat.le_refl _))
      clear BW5 L5 BW BW2 HW e0 HSRC HSP HFIT HMIN
      simp only [List.getElem_toArray, List.getElem_cons_zero, List.getElem_cons_succ, List.setIfInBounds_toArray, List.set_cons_zero, List.set_cons_succ, eL]
      go_wp2
      go_roundw
      case rel => exact ⟨k + c, by omega, by omega, by simp, BW6, HW6⟩
      case measure => simp [intOf]; omega
    · obtain rfl : k = n := by omega
      have HO : Hid (Own wr w.heap.size (.slice (some ⟨w.heap.size, 0, none⟩) k k) (List.replicate k t)) := Lib.hid (by have h := BW.out; rw [repL_all] at h; exact own_of_blk h (by simp) (Nat.le_refl _) (by omega))
      go_wp2
      go_ret
      exact ⟨_, rfl, HO.out, HW.out⟩

end Go.Proofs.YtjbomclildkjaaaDoor
