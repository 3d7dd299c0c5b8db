/- Chapter 3, columns: the program's areColumns, canLeave, commonDivisor, stepOf, leftOver; StepOf, RemaindersOf. -/
import Derived.Test.YthnbimfdodfhoaaFoG
import Derived.Test.YthnbimfdodfhoaaFp
import Derived.Test.YthnbimfdodfhoaaMx
import Derived.Test.YthnbimfdodfhoaaArr
import Derived.Test.YthnbimfdodfhoaaClone
import Derived.Test.YthnbimfdodfhoaaDrew
import Derived.BigQuiet
namespace Go.Proofs.Ythnbimfdodfhoaa
open Go.ChangeShapes Go.WideShapes Go.ChangeAt Go.RowKit
open Fo



/-- a slice that reads as the first columns -/
def CameN (w : World) (a : Option Addr) (len : Nat) (cs : List Nat) : Prop := 0 < len → ∃ b off, a = some ⟨b, off, none⟩ ∧ ∀ j, j < len → w.cell? ⟨b, off + j, none⟩ = some (.int .i64 ((cs.getD j 1 : Nat) : Int))
theorem CameN.of {w : World} {a : Option Addr} {len : Nat} {cs : List Nat} (h : Came w a len (asInts cs)) : CameN w a len cs := fun hp => by
  obtain ⟨b, off, rfl, hcell⟩ := h.2 hp
  refine ⟨b, off, rfl, fun j hj => ?_⟩
  have := hcell j hj
  rw [getD_asInts, getD_in (by have := h.1; rw [asInts_len] at this; omega)] at this
  exact this
theorem CameN.below {w w' : World} {a : Option Addr} {len : Nat} {cs : List Nat} (h : CameN w a len cs) (hb : Below w.heap.size w w') : CameN w' a len cs := fun hp => by
  obtain ⟨b, off, ha, hc⟩ := h hp
  exact ⟨b, off, ha, fun j hj => (hb.cell (World.block_lt_of_cell? w _ (hc j hj))).trans (hc j hj)⟩
theorem CameN.take {w : World} {a : Option Addr} {len k : Nat} {cs : List Nat} (h : CameN w a len cs) (hk : k ≤ len) : CameN w a k cs := fun hp => by
  obtain ⟨b, off, ha, hc⟩ := h (by omega)
  exact ⟨b, off, ha, fun j hj => hc j (by omega)⟩

set_option maxHeartbeats 1000000 in
theorem commonDivisor_any (n d : Nat) (hn : n ≤ 1000000000000000000) (hd : d ≤ 1000000000000000000) (h1 : 1 ≤ n ∨ 1 ≤ d) (w : World) :
    Calls Try.prog 71 #[.int .i64 n, .int .i64 d] w fun e w' => e = .returned (.int .i64 (Nat.gcd n d : Nat)) ∧ ∃ m, w' = w.drewN m := by
  go_enter Try.func71, Try.ntmps71
  go_wp2
  go_loopw [0, 1] (fun x y wr => ∃ a b : Nat, a ≤ 1000000000000000000 ∧ b ≤ 1000000000000000000 ∧ x = .int .i64 (a : Int) ∧ y = .int .i64 (b : Int) ∧ Hid (Nat.gcd a b = Nat.gcd n d) ∧ (1 ≤ a ∨ 1 ≤ b) ∧ Hid (∃ m, wr = w.drewN m)) (fun _ y _ => (intOf y).toNat)
  case atStart => exact ⟨n, d, hn, hd, rfl, rfl, rfl, h1, Lib.hid ⟨0, rfl⟩⟩
  case round =>
    obtain ⟨a, b, ha2, hb2, rfl, rfl, HG, hab, HB⟩ := hrel
    by_cases hz : 0 < b
    · have HG2 : Hid (Nat.gcd b (a % b) = Nat.gcd n d) := Lib.hid (by rw [← HG.out, Nat.gcd_comm a b, Nat.gcd_rec b a, Nat.gcd_comm])
      have hml := Nat.mod_lt a hz
      have hb0 : ¬ b = 0 := by omega
      go_wp2_with fail
      go_quiet (fail)
      go_wp2
      go_roundw
      case rel => exact ⟨b, a % b, hb2, by omega, rfl, int_eq (by omega), HG2.out, .inl hz, Lib.hid (by obtain ⟨m, rfl⟩ := HB.out; exact ⟨m + _, World.drewN_drewN ..⟩)⟩
      case measure => simp [intOf]; omega
    · obtain rfl : b = 0 := by omega
      have HA : Hid (a = Nat.gcd n d) := Lib.hid (by rw [← HG.out, Nat.gcd_zero_right])
      clear hab hz
      go_wp2
      go_ret
      exact ⟨ret_int (by rw [HA.out]), HB.out⟩

theorem lcm_step2 (a c : Nat) : a * (c / Nat.gcd a c) = Nat.lcm a c := by
  unfold Nat.lcm
  rw [Nat.mul_div_assoc a (Nat.gcd_dvd_right a c)]
set_option maxHeartbeats 1000000 in
theorem stepOf_any (w : World) (a : Option Addr) (len cap : Nat) (cs : List Nat) (h6 : len ≤ 6) (hcol : ∀ i, 1 ≤ cs.getD i 1 ∧ cs.getD i 1 ≤ 1000) (hc : CameN w a len cs) :
    Calls Try.prog 68 #[.slice a len cap] w fun e w' => e = .returned (.int .i64 (lcmTo cs len : Nat)) ∧ ∃ m, w' = w.drewN m := by
  have HC := Lib.hid hc
  have HCOL := Lib.hid hcol
  clear hc hcol
  go_enter Try.func68, Try.ntmps68
  go_wp2
  go_loopw [3, 8] (fun sv i wr => ∃ j s : Nat, j ≤ len ∧ i = .int .i64 (j : Int) ∧ sv = .int .i64 (s : Int) ∧ 1 ≤ s ∧ s ≤ 1000000000000000000 ∧ Hid (s = lcmTo cs j) ∧ Hid (∃ m, wr = w.drewN m)) (fun _ i _ => len - (intOf i).toNat)
  case atStart => exact ⟨0, 1, Nat.zero_le _, rfl, rfl, by omega, by omega, Lib.hid rfl, Lib.hid ⟨0, rfl⟩⟩
  case round =>
    obtain ⟨j, s, hj, rfl, rfl, hs1, hs18, HS, HB⟩ := hrel
    by_cases hlt : j < len
    · obtain ⟨b, off, rfl, hcell⟩ := HC.out (by omega)
      have e1 : wr.cell? ⟨b, off + j, none⟩ = some (.int .i64 ((cs.getD j 1 : Nat) : Int)) := by obtain ⟨m, rfl⟩ := HB.out; exact hcell j hlt
      have hcb := HCOL.out j
      have hl18 := lcm_six (fun i => (HCOL.out i).2) (show j + 1 ≤ 6 by omega)
      have hl1 := lcmTo_pos (fun i => (HCOL.out i).1) (j + 1)
      have HLS : Hid (s * (cs.getD j 1 / Nat.gcd s (cs.getD j 1)) = lcmTo cs (j + 1)) := Lib.hid (by rw [lcm_step2, lcmTo, ← HS.out])
      obtain ⟨c, hcc⟩ : ∃ c, c = cs.getD j 1 := ⟨_, rfl⟩
      rw [← hcc] at e1 hcb HLS
      obtain ⟨hc1, hc2⟩ := hcb
      have HGC := Lib.hid (fun w2 => commonDivisor_any s c (by omega) (by omega) (.inr hc1) w2)
      have hg0 : ¬ Nat.gcd s c = 0 := fun h => by have := Nat.eq_zero_of_gcd_eq_zero_right h; omega
      obtain ⟨g, hg⟩ : ∃ g, g = Nat.gcd s c := ⟨_, rfl⟩
      rw [← hg] at HGC HLS hg0
      obtain ⟨d, hd⟩ : ∃ d, d = c / g := ⟨_, rfl⟩
      have ed : (c : Int) / (g : Int) = (d : Int) := by rw [hd]; simp
      have hd2 : d ≤ c := by rw [hd]; exact Nat.div_le_self _ _
      rw [← hd] at HLS
      obtain ⟨s2, hs2⟩ : ∃ s2, s2 = lcmTo cs (j + 1) := ⟨_, rfl⟩
      rw [← hs2] at HLS hl18 hl1
      have em : (s : Int) * (d : Int) = (s2 : Int) := by rw [← HLS.out]; simp
      have HS2 := Lib.hid hs2
      have i1 : (0 : Int) ≤ (j : Int) := by omega
      have i2 : (j : Int) < (len : Int) := by omega
      clear hcc hg hd hs2 hcell
      go_wp2_with fail
      go_at_call 71
      refine (HGC.out _).mono ?_
      rintro e w2 ⟨rfl, hm2⟩
      have HM2 : Hid (∃ m, w2 = w.drewN m) := Lib.hid (by obtain ⟨m, rfl⟩ := HB.out; obtain ⟨m2, rfl⟩ := hm2; exact ⟨m + m2, World.drewN_drewN ..⟩)
      clear hm2
      go_wp2
      go_roundw
      case rel => exact ⟨j + 1, s2, by omega, by go_num, rfl, hl1, hl18, HS2, HM2⟩
      case measure => simp [intOf]; omega
    · obtain rfl : j = len := by omega
      have HSS := HS
      go_wp2
      go_ret
      exact ⟨ret_int (by rw [HSS.out]), HB.out⟩


def zer6 : List Int := fillTo (fun _ => 0) 6 0
theorem length_zer6 : zer6.length = 6 := length_fillTo _ _ _ (by omega)
def first6 (f : Nat → Int) (n : Nat) : List Int := fillTo f 6 n
theorem first6_zero (f : Nat → Int) : first6 f 0 = zer6 := by unfold first6 zer6; rw [fillTo_zero, fillTo_zero]
theorem length_first6 (f : Nat → Int) (n : Nat) (h : n ≤ 6) : (first6 f n).length = 6 := length_fillTo f 6 n h
theorem first6_succ (f : Nat → Int) (k : Nat) (x : Int) (hk : k < 6) (hx : x = f k) : (first6 f k).set k x = first6 f (k + 1) := by rw [hx]; exact fillTo_succ f 6 k hk
theorem Try.info_per : (Try.prog.info? 75).map (fun i => (i.zero, i.size)) = some (some (.agg (cellsI zer6).toArray), 6) := by kernel_rfl
theorem Try.size_per : (Try.prog.info? 75).map (·.size) = some 6 := by kernel_rfl
def overF (n : Nat) (cs : List Nat) : Nat → Int := fun k => ((n % cs.getD k 1 : Nat) : Int)

set_option maxHeartbeats 2000000 in
theorem overOf_any (w : World) (n : Nat) (hn : n ≤ 9000000000000000000) (g : Nat) (hg : w.cell? ⟨g, 0, none⟩ = some (.int .i64 (n : Int))) (a : Option Addr) (len cap : Nat) (cs : List Nat) (h6 : len ≤ 6) (hcol : ∀ i, 1 ≤ cs.getD i 1 ∧ cs.getD i 1 ≤ 1000) (hc : CameN w a len cs) :
    Calls Try.prog 72 #[.slice a len cap, .pointer (some ⟨g, 0, none⟩)] w fun e w' => e = .returned (.agg (cellsI (first6 (overF n cs) len)).toArray) ∧ Below w.heap.size w w' := by
  have HC := Lib.hid hc
  have HCOL := Lib.hid hcol
  have HGC : Hid (∀ w5, Below w.heap.size w w5 → w5.cell? ⟨g, 0, none⟩ = some (.int .i64 (n : Int))) := Lib.hid (fun w5 hb => (hb.cell (World.block_lt_of_cell? w _ hg)).trans hg)
  obtain ⟨F, hF⟩ : ∃ F, F = overF n cs := ⟨_, rfl⟩
  have HF := Lib.hid hF
  rw [← hF]
  clear hc hcol hg hF
  go_enter Try.func72, Try.ntmps72
  go_wp2_with (refine wpList_new 75 rfl rfl _ _ Try.info_per ?_; intro w1 g1 G1 B1 L1)
  refine ⟨?_⟩
  go_wp2_with (refine wpList_new 75 rfl rfl _ _ Try.info_per ?_; intro w2 g2 G2 B2 L2)
  refine ⟨?_⟩
  have g12 : Hid (g1 ≠ g2) := Lib.hid (by have := G2.out; have := B1.out.lt; omega)
  have g2l : Hid (w.heap.size ≤ g2) := Lib.hid (by have := G2.out; have := L1.out.size; omega)
  have g1l : Hid (w.heap.size ≤ g1) := Lib.hid (by have := G1.out; omega)
  have LA : Hid (Below w.heap.size w w2) := L1.out.trans (L2.out.mono L1.out.size)
  have B1' : Hid (Blk w2 g1 75 (cellsI zer6)) := Lib.hid (B1.out.below L2.out B1.out.lt)
  have B2' : Hid (Blk w2 g2 75 (cellsI (first6 F 0))) := by rw [first6_zero]; exact B2
  clear G1 G2 L1 L2 B1 B2
  go_wp2
  go_loopw [9] (fun i wr => ∃ k : Nat, k ≤ len ∧ i = .int .i64 (k : Int) ∧ Hid (Blk wr g2 75 (cellsI (first6 F k))) ∧ Hid (Blk wr g1 75 (cellsI zer6)) ∧ Hid (Below w.heap.size w wr)) (fun i _ => len - (intOf i).toNat)
  case atStart => exact ⟨0, Nat.zero_le _, rfl, B2', B1', LA⟩
  case round =>
    obtain ⟨k, hk, rfl, HO, HZ, HB⟩ := hrel
    by_cases hlt : k < len
    · obtain ⟨b, off, rfl, hcell⟩ := (HC.out.below HB.out) (by omega)
      have e0 := hcell k hlt
      have e5 := HGC.out wr HB.out
      have hcb := HCOL.out k
      have e1 := HO.out.celI k (by rw [length_first6 _ _ (by omega)]; omega)
      have f1 := HO.out.free k
      obtain ⟨c, hcc⟩ : ∃ c, c = cs.getD k 1 := ⟨_, rfl⟩
      rw [← hcc] at e0 hcb
      obtain ⟨m, hm⟩ : ∃ m, m = n % c := ⟨_, rfl⟩
      have em : (n : Int) % (c : Int) = (m : Int) := by rw [hm]; simp
      have hval : (m : Int) = F k := by rw [HF.out]; unfold overF; rw [← hcc, ← hm]
      have hmn : m ≤ n := by rw [hm]; exact Nat.mod_le _ _
      have HO2 : Hid (Blk (wr.setCell ⟨g2, k, none⟩ (.int .i64 (m : Int))) g2 75 (cellsI (first6 F (k + 1)))) := Lib.hid (by
        rw [← first6_succ F k (m : Int) (by omega) hval]; exact HO.out.setI k _)
      have HZ2 : Hid (Blk (wr.setCell ⟨g2, k, none⟩ (.int .i64 (m : Int))) g1 75 (cellsI zer6)) := Lib.hid (HZ.out.grown (set_grown _ _ _ _) (fun e => g12.out (Option.some.inj e).symm))
      have HB2 : Hid (Below w.heap.size w (wr.setCell ⟨g2, k, none⟩ (.int .i64 (m : Int)))) := Lib.hid (HB.out.setCell g2l.out _)
      obtain ⟨z, hz⟩ : ∃ z, z = (first6 F k).getD k 0 := ⟨_, rfl⟩
      rw [← hz] at e1
      have i1 : (0 : Int) ≤ (k : Int) := by omega
      have i2 : (k : Int) < 6 := by omega
      have i3 : (k : Int) < (len : Int) := by omega
      obtain ⟨hc1, hc2⟩ := hcb
      have c0 : ¬ c = 0 := by omega
      clear hz hval hm hcc hcell
      go_wp2
      go_roundw
      case rel => exact ⟨k + 1, by omega, by go_num, HO2, HZ2, HB2⟩
      case measure => simp [intOf]; omega
    · obtain rfl : k = len := by omega
      go_wp2_with (refine wpList_loadAll 75 _ rfl rfl g2 _ (cellsI (first6 F k)) _ Try.underlying75 rfl 6 Try.size_per rfl HO (by rw [length_cellsI, length_first6 _ _ h6]) ?_)
      refine ⟨?_⟩
      go_wp2_with (refine wpList_storeAll 75 _ _ rfl rfl g1 _ (cellsI zer6) (cellsI (first6 F k)) 6 Try.size_per rfl rfl HZ (by rw [length_cellsI, length_first6 _ _ h6]) (by rw [length_cellsI, length_zer6]) (cellsI_one _) ?_; intro w5 B5 L5)
      refine ⟨?_⟩
      go_wp2
      refine ret_cell 3 75 (by kernel_rfl) g1 _ (cellsI (first6 F k)) _ Try.underlying75 rfl 6 Try.size_per rfl B5.out (by rw [length_cellsI, length_first6 _ _ h6]) rfl ?_
      exact ⟨rfl, grownBy_below HB.out L5.out (Nat.le_refl _) g1l.out⟩

set_option maxHeartbeats 1000000 in
theorem leftOver_any (n : Int) (w : World) :
    Calls Try.prog 70 #[.int .i64 n] w fun e w' => ∃ g, e = .returned (.func (.func 72) #[] #[.pointer (some ⟨g, 0, none⟩)]) ∧ w'.cell? ⟨g, 0, none⟩ = some (.int .i64 n) ∧ Below w.heap.size w w' := by
  have HB : Hid (Below w.heap.size w (w.alloc (.cells #[.int .i64 n] 3))) := (Below.refl _ _).alloc (Nat.le_refl _) _
  have HC : Hid ((w.alloc (.cells #[.int .i64 n] 3)).cell? ⟨w.heap.size, 0, none⟩ = some (.int .i64 n)) := Lib.hid (by rw [World.cell?_alloc_new]; rfl)
  go_enter Try.func70, Try.ntmps70
  go_wp2
  go_ret
  exact ⟨w.heap.size, rfl, HC.out, HB.out⟩

end Go.Proofs.Ythnbimfdodfhoaa
