/- Chapter 9: the model's pzNext, pzOf. Written by a program of mine (tools/mk/mk_pzo.py). -/
import Derived.Test.YtodlpdbmiicdfabPzj
import Derived.Test.YtodlpdbmiicdfabPzc
import Derived.Test.YtodlpdbmiicdfabAgg
namespace Go.Proofs.Ytodlpdbmiicdfab
open Go.ChangeShapes Go.WideShapes Go.ChangeAt Go.RowKit
open Pz

namespace Pz
def nextZ (z : Nat) : Nat := (223 * z + 2161) % 10007
theorem nextZ_lt (z : Nat) : nextZ z < 10007 := Nat.mod_lt _ (by decide)
def ofA (k y n : Nat) : Nat := if k = 0 ∨ k = 4 then y % n else 0
def ofB (k y : Nat) : Nat := if k = 0 then y / 11 % 4 else 0
/-- a clue of a kind that a row fits -/
def clueOf (k y : Nat) (l : List Bool) : RClue := ((k : Int), ((ofA k y l.length : Nat) : Int), ((ofB k y : Nat) : Int), ((valueN k (ofA k y l.length) (ofB k y) l : Nat) : Int))
theorem ofA_lt {k y n : Nat} (h : 0 < n) : ofA k y n < n := by unfold ofA; split; exact Nat.mod_lt _ h; exact h
theorem ofB_lt (k y : Nat) : ofB k y ≤ 20 := by
  unfold ofB
  split
  · have := Nat.mod_lt (y / 11) (show 0 < 4 by decide); omega
  · omega
end Pz

set_option maxHeartbeats 1000000 in
theorem pzNext_any (z : Nat) (h : z ≤ 100000) (w : World) :
    Calls Try.prog 45 #[.int .i64 (z : Int)] w fun e w' => e = .returned (.int .i64 (nextZ z : Nat)) ∧ w = w' := by
  have HE : Hid ((223 * (z : Int) + 2161) % 10007 = ((nextZ z : Nat) : Int)) := Lib.hid (by unfold nextZ; omega)
  go_enter Try.func45, Try.ntmps45
  go_wp2
  go_ret
  exact ⟨ret_int HE.out, rfl⟩

theorem results_oneC {fn : Func} {t : Tmp} {ty : TypeId} (h : fn.results = #[.cell t ty]) (tmps : Array Value) (w : World) (g : Nat) (x0 x1 x2 x3 : Int) (hty : ty = 64)
    (ht : tmps[t]?.getD undef = .pointer (some ⟨g, 0, none⟩)) (h0 : Blk w g 64 [.int .i64 x0, .int .i64 x1, .int .i64 x2, .int .i64 x3]) :
    (results fn tmps).run Try.prog w = .ok (.agg #[.int .i64 x0, .int .i64 x1, .int .i64 x2, .int .i64 x3]) w := by
  subst hty
  have c0 : w.cell? ⟨g, 0, none⟩ = some (.int .i64 x0) := h0.cell 0
  have c1 : w.cell? ⟨g, 1, none⟩ = some (.int .i64 x1) := h0.cell 1
  have c2 : w.cell? ⟨g, 2, none⟩ = some (.int .i64 x2) := h0.cell 2
  have c3 : w.cell? ⟨g, 3, none⟩ = some (.int .i64 x3) := h0.cell 3
  simp [results, h, ht, c0, c1, c2, c3, go_sem]
set_option maxHeartbeats 8000000 in
theorem pzOf_any (k y : Nat) (l : List Bool) (h1 : 1 ≤ l.length) (h2 : l.length ≤ 8) (h4 : k ≤ 4) (hy : y ≤ 100000) (w : World) :
    Calls Try.prog 46 #[.int .i64 (k : Int), .int .i64 (y : Int), .string (Rw.str l)] w fun e w' => e = .returned (.agg #[.int .i64 (clueOf k y l).1, .int .i64 (clueOf k y l).2.1, .int .i64 (clueOf k y l).2.2.1, .int .i64 (clueOf k y l).2.2.2]) ∧ Below w.heap.size w w' := by
  have HV := Lib.hid (fun w2 => pzValue_any k (ofA k y l.length) (ofB k y) l h1 h2 h4 (ofA_lt h1) (ofB_lt k y) w2)
  have hal := ofA_lt (k := k) (y := y) h1
  have hbl := ofB_lt k y
  have hvl : valueN k (ofA k y l.length) (ofB k y) l ≤ 3600 := valueN_le rfl h2
  have HEA : Hid ((k = 0 ∨ k = 4) → ((y : Int) % ((l.length : Nat) : Int)) = ((ofA k y l.length : Nat) : Int)) := Lib.hid (fun h => by unfold ofA; rw [if_pos h]; simp)
  have HEA0 : Hid (¬ (k = 0 ∨ k = 4) → ofA k y l.length = 0) := Lib.hid (fun h => by unfold ofA; rw [if_neg h])
  have HEB : Hid (k = 0 → ((y : Int) / 11) % 4 = ((ofB k y : Nat) : Int)) := Lib.hid (fun h => by unfold ofB; rw [if_pos h]; omega)
  have HEB0 : Hid (¬ k = 0 → ofB k y = 0) := Lib.hid (fun h => by unfold ofB; rw [if_neg h])
  have hsz : (Rw.str l).size = l.length := Rw.size_str l
  obtain ⟨A, hA⟩ : ∃ A, A = ofA k y l.length := ⟨_, rfl⟩
  obtain ⟨B, hB⟩ : ∃ A, A = ofB k y := ⟨_, rfl⟩
  obtain ⟨V, hV⟩ : ∃ A, A = valueN k (ofA k y l.length) (ofB k y) l := ⟨_, rfl⟩
  have HCO : Hid (clueOf k y l = ((k : Int), (A : Int), (B : Int), (V : Int))) := Lib.hid (by unfold clueOf; rw [hA, hB, hV])
  rw [HCO.out]
  rw [← hV] at HV hvl
  rw [← hA] at HV hal HEA HEA0
  rw [← hB] at HV hbl HEB HEB0
  obtain ⟨row, hrow⟩ : ∃ row, row = Rw.str l := ⟨_, rfl⟩
  rw [← hrow] at HV hsz ⊢
  obtain ⟨n, hn⟩ : ∃ n, n = l.length := ⟨_, rfl⟩
  rw [← hn] at hal HEA h1 h2 hsz
  have hn0 : ¬ n = 0 := by omega
  have hsi : (row.size : Int) = (n : Int) := by rw [hsz]
  clear hA hB hV hrow hn
  rcases Nat.eq_zero_or_pos k with h0 | h0
  · subst h0
    have ea := HEA.out (.inl rfl)
    have eb := HEB.out rfl
    clear HEA HEA0 HEB HEB0
    have HBx : Hid (Below w.heap.size w ((w.alloc (.cells #[.int .i64 0, .int .i64 0, .int .i64 0, .int .i64 0] 64)).alloc (.cells #[.int .i64 0, .int .i64 (A : Int), .int .i64 (B : Int), .int .i64 0] 64))) := Lib.hid (((Below.refl _ _).alloc (Nat.le_refl _) _).alloc (by rw [pz_size1]; omega) _)
    have HRx : Hid (Blk ((w.alloc (.cells #[.int .i64 0, .int .i64 0, .int .i64 0, .int .i64 0] 64)).alloc (.cells #[.int .i64 0, .int .i64 (A : Int), .int .i64 (B : Int), .int .i64 0] 64)) w.heap.size 64 [.int .i64 0, .int .i64 0, .int .i64 0, .int .i64 0]) := Lib.hid (Blk.below (heap_alloc_new w _) ((Below.refl _ _).alloc (Nat.le_refl _) _) (by rw [pz_size1]; omega))
    have HCx : Hid (Blk ((w.alloc (.cells #[.int .i64 0, .int .i64 0, .int .i64 0, .int .i64 0] 64)).alloc (.cells #[.int .i64 0, .int .i64 (A : Int), .int .i64 (B : Int), .int .i64 0] 64)) (w.heap.size + 1) 64 [.int .i64 0, .int .i64 (A : Int), .int .i64 (B : Int), .int .i64 0]) := Lib.hid (by
      have h := heap_alloc_new (w.alloc (.cells #[.int .i64 0, .int .i64 0, .int .i64 0, .int .i64 0] 64)) (.cells #[.int .i64 0, .int .i64 (A : Int), .int .i64 (B : Int), .int .i64 0] 64)
      rw [pz_size1] at h
      exact h)
    go_enter Try.func46, Try.ntmps46
    go_wp2_with fail
    go_at_call 66
    refine (HV.out _).mono ?_
    rintro e w5 ⟨rfl, b5⟩
    have HC5 : Hid (Blk w5 (w.heap.size + 1) 64 [.int .i64 0, .int .i64 (A : Int), .int .i64 (B : Int), .int .i64 0]) := Lib.hid (HCx.out.below b5 HCx.out.lt)
    have HR5 : Hid (Blk w5 w.heap.size 64 [.int .i64 0, .int .i64 0, .int .i64 0, .int .i64 0]) := Lib.hid (HRx.out.below b5 HRx.out.lt)
    have HB5 : Hid (Below w.heap.size w w5) := Lib.hid (HBx.out.trans (b5.mono HBx.out.size))
    have HC6 : Hid (Blk (w5.setCell ⟨w.heap.size + 1, 3, none⟩ (.int .i64 (V : Int))) (w.heap.size + 1) 64 [.int .i64 0, .int .i64 (A : Int), .int .i64 (B : Int), .int .i64 (V : Int)]) := Lib.hid (HC5.out.set 3 _)
    have HR6 : Hid (Blk (w5.setCell ⟨w.heap.size + 1, 3, none⟩ (.int .i64 (V : Int))) w.heap.size 64 [.int .i64 0, .int .i64 0, .int .i64 0, .int .i64 0]) := Lib.hid (HR5.out.grown (set_grown w5 _ 3 _) (fun e => by have := Option.some.inj e; omega))
    clear b5 ea eb
    have c3 : w5.cell? ⟨w.heap.size + 1, 3, none⟩ = some (.int .i64 0) := HC5.out.cell 3
    have f3 := HC5.out.free 3
    have d0 : w5.cell? ⟨w.heap.size + 1, 0, none⟩ = some (.int .i64 0) := HC5.out.cell 0
    have d1 : w5.cell? ⟨w.heap.size + 1, 1, none⟩ = some (.int .i64 (A : Int)) := HC5.out.cell 1
    have d2 : w5.cell? ⟨w.heap.size + 1, 2, none⟩ = some (.int .i64 (B : Int)) := HC5.out.cell 2
    have r0 : w5.cell? ⟨w.heap.size, 0, none⟩ = some (.int .i64 0) := HR5.out.cell 0
    have r1 : w5.cell? ⟨w.heap.size, 1, none⟩ = some (.int .i64 0) := HR5.out.cell 1
    have r2 : w5.cell? ⟨w.heap.size, 2, none⟩ = some (.int .i64 0) := HR5.out.cell 2
    have r3 : w5.cell? ⟨w.heap.size, 3, none⟩ = some (.int .i64 0) := HR5.out.cell 3
    have g0 := HR5.out.free 0
    have g1 := HR5.out.free 1
    have g2 := HR5.out.free 2
    have g3 := HR5.out.free 3
    go_wp2
    (try simp only [Exit.inBlock, Exit.then])
    refine bodyPost_ret (results_oneC rfl _ _ w.heap.size 0 (A : Int) (B : Int) (V : Int) rfl rfl ((((HR6.out.set 0 _).set 1 _).set 2 _).set 3 _)) rfl ?_
    exact ⟨rfl, HB5.out.setCell (by show w.heap.size ≤ w.heap.size + 1; omega) _ |>.setCell (Nat.le_refl _) _ |>.setCell (Nat.le_refl _) _ |>.setCell (Nat.le_refl _) _ |>.setCell (Nat.le_refl _) _⟩
  by_cases hk4 : k = 4
  · subst hk4
    have ea := HEA.out (.inr rfl)
    obtain rfl : B = 0 := HEB0.out (by omega)
    clear HEA HEA0 HEB HEB0
    have HBx : Hid (Below w.heap.size w ((w.alloc (.cells #[.int .i64 0, .int .i64 0, .int .i64 0, .int .i64 0] 64)).alloc (.cells #[.int .i64 4, .int .i64 (A : Int), .int .i64 0, .int .i64 0] 64))) := Lib.hid (((Below.refl _ _).alloc (Nat.le_refl _) _).alloc (by rw [pz_size1]; omega) _)
    have HRx : Hid (Blk ((w.alloc (.cells #[.int .i64 0, .int .i64 0, .int .i64 0, .int .i64 0] 64)).alloc (.cells #[.int .i64 4, .int .i64 (A : Int), .int .i64 0, .int .i64 0] 64)) w.heap.size 64 [.int .i64 0, .int .i64 0, .int .i64 0, .int .i64 0]) := Lib.hid (Blk.below (heap_alloc_new w _) ((Below.refl _ _).alloc (Nat.le_refl _) _) (by rw [pz_size1]; omega))
    have HCx : Hid (Blk ((w.alloc (.cells #[.int .i64 0, .int .i64 0, .int .i64 0, .int .i64 0] 64)).alloc (.cells #[.int .i64 4, .int .i64 (A : Int), .int .i64 0, .int .i64 0] 64)) (w.heap.size + 1) 64 [.int .i64 4, .int .i64 (A : Int), .int .i64 0, .int .i64 0]) := Lib.hid (by
      have h := heap_alloc_new (w.alloc (.cells #[.int .i64 0, .int .i64 0, .int .i64 0, .int .i64 0] 64)) (.cells #[.int .i64 4, .int .i64 (A : Int), .int .i64 0, .int .i64 0] 64)
      rw [pz_size1] at h
      exact h)
    go_enter Try.func46, Try.ntmps46
    go_wp2_with fail
    go_at_call 66
    refine (HV.out _).mono ?_
    rintro e w5 ⟨rfl, b5⟩
    have HC5 : Hid (Blk w5 (w.heap.size + 1) 64 [.int .i64 4, .int .i64 (A : Int), .int .i64 0, .int .i64 0]) := Lib.hid (HCx.out.below b5 HCx.out.lt)
    have HR5 : Hid (Blk w5 w.heap.size 64 [.int .i64 0, .int .i64 0, .int .i64 0, .int .i64 0]) := Lib.hid (HRx.out.below b5 HRx.out.lt)
    have HB5 : Hid (Below w.heap.size w w5) := Lib.hid (HBx.out.trans (b5.mono HBx.out.size))
    have HC6 : Hid (Blk (w5.setCell ⟨w.heap.size + 1, 3, none⟩ (.int .i64 (V : Int))) (w.heap.size + 1) 64 [.int .i64 4, .int .i64 (A : Int), .int .i64 0, .int .i64 (V : Int)]) := Lib.hid (HC5.out.set 3 _)
    have HR6 : Hid (Blk (w5.setCell ⟨w.heap.size + 1, 3, none⟩ (.int .i64 (V : Int))) w.heap.size 64 [.int .i64 0, .int .i64 0, .int .i64 0, .int .i64 0]) := Lib.hid (HR5.out.grown (set_grown w5 _ 3 _) (fun e => by have := Option.some.inj e; omega))
    clear b5 ea
    have c3 : w5.cell? ⟨w.heap.size + 1, 3, none⟩ = some (.int .i64 0) := HC5.out.cell 3
    have f3 := HC5.out.free 3
    have d0 : w5.cell? ⟨w.heap.size + 1, 0, none⟩ = some (.int .i64 4) := HC5.out.cell 0
    have d1 : w5.cell? ⟨w.heap.size + 1, 1, none⟩ = some (.int .i64 (A : Int)) := HC5.out.cell 1
    have d2 : w5.cell? ⟨w.heap.size + 1, 2, none⟩ = some (.int .i64 0) := HC5.out.cell 2
    have r0 : w5.cell? ⟨w.heap.size, 0, none⟩ = some (.int .i64 0) := HR5.out.cell 0
    have r1 : w5.cell? ⟨w.heap.size, 1, none⟩ = some (.int .i64 0) := HR5.out.cell 1
    have r2 : w5.cell? ⟨w.heap.size, 2, none⟩ = some (.int .i64 0) := HR5.out.cell 2
    have r3 : w5.cell? ⟨w.heap.size, 3, none⟩ = some (.int .i64 0) := HR5.out.cell 3
    have g0 := HR5.out.free 0
    have g1 := HR5.out.free 1
    have g2 := HR5.out.free 2
    have g3 := HR5.out.free 3
    go_wp2
    (try simp only [Exit.inBlock, Exit.then])
    refine bodyPost_ret (results_oneC rfl _ _ w.heap.size 4 (A : Int) 0 (V : Int) rfl rfl ((((HR6.out.set 0 _).set 1 _).set 2 _).set 3 _)) rfl ?_
    exact ⟨rfl, HB5.out.setCell (by show w.heap.size ≤ w.heap.size + 1; omega) _ |>.setCell (Nat.le_refl _) _ |>.setCell (Nat.le_refl _) _ |>.setCell (Nat.le_refl _) _ |>.setCell (Nat.le_refl _) _⟩
  · obtain rfl : A = 0 := HEA0.out (by omega)
    obtain rfl : B = 0 := HEB0.out (by omega)
    have k0 : ((k : Int) == 0) = false := by rw [beq_eq_false_iff_ne]; omega
    have k4 : ((k : Int) == 4) = false := by rw [beq_eq_false_iff_ne]; omega
    clear HEA HEA0 HEB HEB0 hk4
    have HBx : Hid (Below w.heap.size w ((w.alloc (.cells #[.int .i64 0, .int .i64 0, .int .i64 0, .int .i64 0] 64)).alloc (.cells #[.int .i64 (k : Int), .int .i64 0, .int .i64 0, .int .i64 0] 64))) := Lib.hid (((Below.refl _ _).alloc (Nat.le_refl _) _).alloc (by rw [pz_size1]; omega) _)
    have HRx : Hid (Blk ((w.alloc (.cells #[.int .i64 0, .int .i64 0, .int .i64 0, .int .i64 0] 64)).alloc (.cells #[.int .i64 (k : Int), .int .i64 0, .int .i64 0, .int .i64 0] 64)) w.heap.size 64 [.int .i64 0, .int .i64 0, .int .i64 0, .int .i64 0]) := Lib.hid (Blk.below (heap_alloc_new w _) ((Below.refl _ _).alloc (Nat.le_refl _) _) (by rw [pz_size1]; omega))
    have HCx : Hid (Blk ((w.alloc (.cells #[.int .i64 0, .int .i64 0, .int .i64 0, .int .i64 0] 64)).alloc (.cells #[.int .i64 (k : Int), .int .i64 0, .int .i64 0, .int .i64 0] 64)) (w.heap.size + 1) 64 [.int .i64 (k : Int), .int .i64 0, .int .i64 0, .int .i64 0]) := Lib.hid (by
      have h := heap_alloc_new (w.alloc (.cells #[.int .i64 0, .int .i64 0, .int .i64 0, .int .i64 0] 64)) (.cells #[.int .i64 (k : Int), .int .i64 0, .int .i64 0, .int .i64 0] 64)
      rw [pz_size1] at h
      exact h)
    go_enter Try.func46, Try.ntmps46
    go_wp2_with fail
    go_at_call 66
    refine (HV.out _).mono ?_
    rintro e w5 ⟨rfl, b5⟩
    have HC5 : Hid (Blk w5 (w.heap.size + 1) 64 [.int .i64 (k : Int), .int .i64 0, .int .i64 0, .int .i64 0]) := Lib.hid (HCx.out.below b5 HCx.out.lt)
    have HR5 : Hid (Blk w5 w.heap.size 64 [.int .i64 0, .int .i64 0, .int .i64 0, .int .i64 0]) := Lib.hid (HRx.out.below b5 HRx.out.lt)
    have HB5 : Hid (Below w.heap.size w w5) := Lib.hid (HBx.out.trans (b5.mono HBx.out.size))
    have HC6 : Hid (Blk (w5.setCell ⟨w.heap.size + 1, 3, none⟩ (.int .i64 (V : Int))) (w.heap.size + 1) 64 [.int .i64 (k : Int), .int .i64 0, .int .i64 0, .int .i64 (V : Int)]) := Lib.hid (HC5.out.set 3 _)
    have HR6 : Hid (Blk (w5.setCell ⟨w.heap.size + 1, 3, none⟩ (.int .i64 (V : Int))) w.heap.size 64 [.int .i64 0, .int .i64 0, .int .i64 0, .int .i64 0]) := Lib.hid (HR5.out.grown (set_grown w5 _ 3 _) (fun e => by have := Option.some.inj e; omega))
    clear b5
    have c3 : w5.cell? ⟨w.heap.size + 1, 3, none⟩ = some (.int .i64 0) := HC5.out.cell 3
    have f3 := HC5.out.free 3
    have d0 : w5.cell? ⟨w.heap.size + 1, 0, none⟩ = some (.int .i64 (k : Int)) := HC5.out.cell 0
    have d1 : w5.cell? ⟨w.heap.size + 1, 1, none⟩ = some (.int .i64 0) := HC5.out.cell 1
    have d2 : w5.cell? ⟨w.heap.size + 1, 2, none⟩ = some (.int .i64 0) := HC5.out.cell 2
    have r0 : w5.cell? ⟨w.heap.size, 0, none⟩ = some (.int .i64 0) := HR5.out.cell 0
    have r1 : w5.cell? ⟨w.heap.size, 1, none⟩ = some (.int .i64 0) := HR5.out.cell 1
    have r2 : w5.cell? ⟨w.heap.size, 2, none⟩ = some (.int .i64 0) := HR5.out.cell 2
    have r3 : w5.cell? ⟨w.heap.size, 3, none⟩ = some (.int .i64 0) := HR5.out.cell 3
    have g0 := HR5.out.free 0
    have g1 := HR5.out.free 1
    have g2 := HR5.out.free 2
    have g3 := HR5.out.free 3
    go_wp2
    (try simp only [Exit.inBlock, Exit.then])
    refine bodyPost_ret (results_oneC rfl _ _ w.heap.size (k : Int) 0 0 (V : Int) rfl rfl ((((HR6.out.set 0 _).set 1 _).set 2 _).set 3 _)) rfl ?_
    exact ⟨rfl, HB5.out.setCell (by show w.heap.size ≤ w.heap.size + 1; omega) _ |>.setCell (Nat.le_refl _) _ |>.setCell (Nat.le_refl _) _ |>.setCell (Nat.le_refl _) _ |>.setCell (Nat.le_refl _) _⟩

end Go.Proofs.Ytodlpdbmiicdfab
