/- The draws of files as the laws call them; big. -/
import Derived.Test.YtcljhjfmhnmgnaaCuG
import Derived.OpenShut
namespace Go.Proofs.Ytcljhjfmhnmgnaa
open Go.ChangeShapes Go.WideShapes Go.ChangeAt Go.RowKit
open Cu Fi

theorem Cu.bytes_of {w : World} {x : Addr} {len cap : Nat} {zs : List Int} (hz : zs.length = cap) (hl : len ≤ cap) (hcell : ∀ i, i < zs.length → w.cell? (x.add i) = some (.int .u8 (zs.getD i 0))) (hwf : ∀ n ∈ zs, (Lit.int .u8 n).wf = true) : Bytes w (some x) len := by
  intro hp
  obtain ⟨b, off, rfl, hc⟩ := Go.ints_at hcell (by omega)
  refine ⟨b, off, rfl, fun k hk => ?_⟩
  have hm : zs.getD k 0 ∈ zs := by
    rw [List.getD_eq_getElem?_getD, List.getElem?_eq_getElem (show k < zs.length by omega)]; exact List.getElem_mem _
  have hw := hwf _ hm
  have h0 : 0 ≤ zs.getD k 0 ∧ zs.getD k 0 ≤ 255 := by
    simp only [Lit.wf, Bool.and_eq_true, decide_eq_true_eq] at hw
    have e1 : IntKind.min .u8 = 0 := rfl
    have e2 : IntKind.max .u8 = 255 := rfl
    rw [e1, e2] at hw
    exact hw
  refine ⟨(zs.getD k 0).toNat, by omega, ?_⟩
  rw [hc k (by omega), show (((zs.getD k 0).toNat : Nat) : Int) = zs.getD k 0 by omega]

def bigB (la lb : Nat) : Bool := decide ((1048576 : Int) < (la : Int)) || decide ((1048576 : Int) - (la : Int) < (lb : Int))
set_option maxRecDepth 20000 in
theorem big_p (w : World) (a b : Option Addr) (la ca lb cb : Nat) (_h1 : la ≤ 9223372036854775807) (_h2 : lb ≤ 9223372036854775807) :
    Calls Try.prog 27 #[.slice a la ca, .slice b lb cb] w fun e w' => e = .returned (.bool (bigB la lb)) ∧ w = w' := by
  by_cases h : (1048576 : Int) < (la : Int)
  · have H0 : Hid (bigB la lb = true) := Lib.hid (by unfold bigB; rw [decide_eq_true h]; rfl)
    go_enter Try.func27, Try.ntmps27
    go_wp2
    go_ret
    exact ⟨ret_bool H0.out.symm, rfl⟩
  · have hd : decide ((1048576 : Int) < (la : Int)) = false := by simpa using h
    have H0 : Hid (bigB la lb = decide ((1048576 : Int) - (la : Int) < (lb : Int))) := Lib.hid (by unfold bigB; rw [hd]; rfl)
    have i1 : (la : Int) ≤ 1048576 := by omega
    go_enter Try.func27, Try.ntmps27
    go_wp2
    go_ret
    exact ⟨ret_bool H0.out.symm, rfl⟩
/-- a new cursor -/
theorem cur_new (w : World) (a : Option Addr) (len cap : Nat) (hl : len ≤ 9223372036854775807) (hb : Bytes w a len) : Cur (w.alloc (.cells #[.slice a len cap, .int .i64 0, .int .u64 0] 70)) w.heap.size 0 := by
  refine ⟨a, len, cap, 0, 0, heap_alloc_new w _, Nat.le_refl _, by omega, by omega, hl, fun hp => ?_, fun hp x hx => ?_⟩
  · obtain ⟨b, off, e, hc⟩ := hb hp
    refine ⟨b, off, e, fun k hk => ?_⟩
    obtain ⟨x, h1, h2⟩ := hc k hk
    exact ⟨x, h1, (World.cell?_of_block (heap_alloc_old _ _ (World.block_lt_of_cell? w _ h2))).trans h2⟩
  · obtain ⟨b, off, e, hc⟩ := hb hp
    obtain ⟨y, _, h2⟩ := hc 0 hp
    rw [e] at hx
    cases hx
    exact World.block_lt_of_cell? w _ h2
set_option maxRecDepth 20000 in
set_option maxHeartbeats 1000000 in
theorem drawAreFiles_p (w : World) (a : Option Addr) (len cap : Nat) (hl : len ≤ 9223372036854775807) (hb : Bytes w a len) :
    Calls Try.prog 53 #[.slice a len cap] w fun e w' => ∃ v zss, e = .returned v ∧ OwnSS w' w.heap.size v zss ∧ zss.length ≤ 20 ∧ Below w.heap.size w w' := by
  have HC := Lib.hid (cur_new w a len cap hl hb)
  have C1 := Lib.hid (files_p _ _ 0 (by omega) HC.out)
  clear hb
  go_enter Try.func53, Try.ntmps53
  go_wp2_with fail
  go_at_call 67
  refine C1.out.mono ?_
  rintro e w1 ⟨v, zss, rfl, o1, hz, d1⟩
  have O1 := Lib.hid (o1.mono (show w.heap.size ≤ _ by rw [alloc_size]; omega))
  have B1 : Hid (Below w.heap.size w w1) := Lib.hid (grownBy_below (((Below.refl w.heap.size w).alloc (Nat.le_refl _) _)) d1.grown (Nat.le_refl _) (Nat.le_refl _))
  clear o1 d1
  go_wp2
  go_ret
  exact ⟨v, zss, rfl, O1.out, hz, B1.out⟩
set_option maxRecDepth 20000 in
theorem drawSortBoth_p (w : World) (a : Option Addr) (len cap : Nat) (hl : len ≤ 9223372036854775807) (hb : Bytes w a len) :
    Calls Try.prog 28 #[.slice a len cap] w fun e w' => ∃ v zss, e = .returned v ∧ OwnSS w' w.heap.size v zss ∧ zss.length ≤ 20 ∧ Below w.heap.size w w' := by
  have C1 := Lib.hid (drawAreFiles_p w a len cap hl hb)
  clear hb
  go_enter Try.func28, Try.ntmps28
  go_wp2_with fail
  go_at_call 53
  refine C1.out.mono ?_
  rintro e w1 ⟨v, zss, rfl, o1, hz, b1⟩
  have O1 := Lib.hid o1
  have B1 := Lib.hid b1
  clear o1 b1
  go_wp2
  go_ret
  exact ⟨v, zss, rfl, O1.out, hz, B1.out⟩
end Go.Proofs.Ytcljhjfmhnmgnaa
