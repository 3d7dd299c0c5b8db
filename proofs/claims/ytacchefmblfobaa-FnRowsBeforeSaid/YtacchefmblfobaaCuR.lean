/- The draws of chapter 1. Written by a program of mine (tools/sp/w_dr1.py). -/
import Derived.Test.YtacchefmblfobaaCo
import Derived.Test.YtacchefmblfobaaC1Spec
namespace Go.Proofs.Ytacchefmblfobaa
open Go.ChangeShapes Go.WideShapes Go.ChangeAt Go.RowKit
open Cu
theorem drawn_end {w w' : World} {a : Option Addr} {len cap A : Nat} (d : Drawn (w.alloc (.cells #[.slice a len cap, .int .i64 0, .int .u64 0] 79)) w' w.heap.size A) : Below w.heap.size w w' :=
  grownBy_below ((Below.refl w.heap.size w).alloc (Nat.le_refl _) _) d.grown (Nat.le_refl _) (Nat.le_refl _)
theorem wf_mem {xs : List Int} (h : (xs.all fun x => (Lit.int .i64 x).wf) = true) {x : Int} (hx : x ∈ xs) : (Lit.int .i64 x).wf = true := List.all_eq_true.1 h x hx
theorem str_nil : Rw.str [] = ByteArray.empty := rfl
theorem str_one (b : Bool) : Rw.str [b] = if b then ⟨#[62]⟩ else ⟨#[60]⟩ := by cases b <;> rfl
theorem wf_i64' {z : Int} (h1 : -9223372036854775808 ≤ z) (h2 : z ≤ 9223372036854775807) : (Lit.int .i64 z).wf = true := WalkArith.wf_i64 ⟨h1, h2⟩

theorem one_of {x : ByteArray} (h : x ∈ [(⟨#[60]⟩ : ByteArray), (⟨#[62]⟩ : ByteArray)]) : x.size ≤ 1 := by
  simp only [List.mem_cons, List.not_mem_nil, or_false] at h
  rcases h with h | h <;> rw [h] <;> decide

set_option maxRecDepth 20000 in
set_option maxHeartbeats 4000000 in
theorem sureRow_p (w0 : World) (g A most : Nat) (hA : A ≤ 1000000) (h1 : 1 ≤ most) (h2 : most ≤ 100) (hc : Cur w0 g A) :
    Calls Try.prog 93 #[.pointer (some ⟨g, 0, none⟩), .int .i64 (most : Nat)] w0 fun e w' => ∃ l : List Bool, 1 ≤ l.length ∧ l.length ≤ most ∧ e = .returned (.string (Rw.str l)) ∧ Drawn w0 w' g (A + (2 + 2 * most)) := by
  have D : Hid (Drawn w0 w0 g (A + 0)) := Lib.hid (drawn_refl hc)
  have HG : g < w0.heap.size := hc.lt
  refine Sp.enter (N := 21) (args := [.pointer (some ⟨g, 0, none⟩), .int .i64 (most : Nat)]) Try.func93 rfl rfl (by kernel_rfl) ?_
  refine Sp.Cd.seq fun K1 hK1 => ?_
  refine Sp.Cd.region ?_
  refine Sp.L.pure (by kernel_rfl) (Sp.Runs.assign rfl) ?_
  refine Sp.L.nil ?_
  refine hK1 _ _ (Sp.Cd.sub (S' := [(0, _), (1, _)]) ⟨rfl, rfl, trivial⟩ ?_)
  clear hK1 K1
  refine Sp.Cd.seq fun K2 hK2 => ?_
  refine Sp.Cd.region ?_
  refine Sp.L.pure (by kernel_rfl) (Sp.Runs.assign rfl) ?_
  refine Sp.L.nil ?_
  refine hK2 _ _ (Sp.Cd.sub (S' := [(0, _), (1, _), (5, _)]) ⟨rfl, rfl, rfl, trivial⟩ ?_)
  clear hK2 K2
  refine Sp.Cd.seq fun K3 hK3 => ?_
  refine Sp.Cd.seq fun K4 hK4 => ?_
  refine Sp.Cd.region ?_
  refine Sp.L.pure (by kernel_rfl) (Sp.Runs.move rfl) ?_
  refine Sp.L.pure (by kernel_rfl) (Sp.Runs.move rfl) ?_
  refine Sp.L.call (by kernel_rfl) (pick_p w0 g (A + 0) most (by omega) (by omega) (by omega) D.out.cur) rfl rfl (by kernel_rfl) ?_
  rintro e w1 ⟨x1, hx1, rfl, d⟩
  replace D : Hid (Drawn w0 w1 g (A + 2)) := Lib.hid ((D.out.trans d).mono (by omega))
  clear d
  refine ⟨_, rfl, ?_⟩
  refine Sp.L.pure (by kernel_rfl) (Sp.Runs.addI rfl rfl (Sp.wrapI (by omega) (by omega))) ?_
  refine Sp.L.pure (by kernel_rfl) (Sp.Runs.assign rfl) ?_
  refine Sp.L.nil ?_
  refine hK4 _ _ (Sp.Cd.sub (S' := [(0, _), (5, _), (6, _)]) ⟨rfl, rfl, rfl, trivial⟩ ?_)
  clear hK4 K4
  refine Sp.Cd.block ?_
  obtain ⟨K, hK⟩ : ∃ K : Nat, K = 1 + x1 := ⟨_, rfl⟩
  have hKI : (1 : Int) + (x1 : Int) = (K : Int) := by omega
  refine Sp.Cd.loop (ι := List Bool) [(0, _)] (fun l => [(5, .string (Rw.str l)), (6, .int .i64 ((K : Int) - (l.length : Int)))]) (fun l w' => Hid (Drawn w0 w' g (A + 2 * l.length + 2)) ∧ (l.length ≤ K)) (fun l => K - l.length) [] ⟨(Sp.lkS rfl str_nil.symm), (Sp.lkI rfl (by rw [← hKI]; simp)), rfl, trivial⟩ ⟨Lib.hid (D.out.mono (by simp)), Nat.zero_le _⟩ ?_
  clear D
  rintro l w2 ⟨D, hrel⟩
  refine Sp.Cd.sub (S' := [(5, _), (6, _), (0, _)]) ⟨rfl, rfl, rfl, trivial⟩ ?_
  by_cases hlt : l.length < K
  · refine Sp.Cd.seq fun K5 hK5 => ?_
    refine Sp.Cd.seq fun K6 hK6 => ?_
    refine Sp.Cd.region ?_
    refine Sp.L.pure (by kernel_rfl) (Sp.Runs.move rfl) ?_
    refine Sp.L.pure (by kernel_rfl) (Sp.Runs.gtIT rfl rfl (by omega)) ?_
    refine Sp.L.nil ?_
    refine hK6 _ _ (Sp.Cd.sub (S' := [(0, _), (5, _), (6, _), (12, _)]) ⟨rfl, rfl, rfl, rfl, trivial⟩ ?_)
    clear hK6 K6
    refine Sp.Cd.condT rfl ?_
    refine Sp.Cd.skip ?_
    refine hK5 _ _ (Sp.Cd.sub (S' := [(0, _), (5, _), (6, _)]) ⟨rfl, rfl, rfl, trivial⟩ ?_)
    clear hK5 K5
    refine Sp.Cd.seq fun K7 hK7 => ?_
    refine Sp.Cd.block ?_
    refine Sp.Cd.region ?_
    refine Sp.L.pure (by kernel_rfl) (Sp.Runs.move rfl) ?_
    refine Sp.L.pure (by kernel_rfl) (Sp.Runs.move rfl) ?_
    have CL := of_lit w0 w2 g (A + 2 * l.length + 2) 2 [(⟨#[60]⟩ : ByteArray), (⟨#[62]⟩ : ByteArray)] rfl (by omega) (by omega) (by omega) HG D.out
    simp only [List.map_cons, List.map_nil] at CL
    refine Sp.L.lits (v := .slice (some ⟨w2.heap.size, 0, none⟩) 2 2) (w' := w2.alloc (.cells #[.string ⟨#[60]⟩, .string ⟨#[62]⟩] 9)) rfl (by simp [go_sem]) (by kernel_rfl) ?_
    refine Sp.L.call (by kernel_rfl) (CL) rfl rfl (by kernel_rfl) ?_
    rintro e w3 ⟨x2, hx2, rfl, d⟩
    replace D : Hid (Drawn w0 w3 g (A + 2 * l.length + 4)) := Lib.hid ((d).mono (by omega))
    clear d
    clear CL
    refine ⟨_, rfl, ?_⟩
    refine Sp.L.pure (by kernel_rfl) (Sp.Runs.addS rfl rfl (by have h1 := Rw.size_str l; have h2 : x2.size ≤ 1 := one_of hx2; omega)) ?_
    refine Sp.L.pure (by kernel_rfl) (Sp.Runs.assign rfl) ?_
    refine Sp.L.nil ?_
    refine Sp.Nx.block ?_
    refine hK7 _ _ (Sp.Cd.sub (S' := [(0, _), (5, _), (6, _)]) ⟨rfl, rfl, rfl, trivial⟩ ?_)
    clear hK7 K7
    refine Sp.Cd.region ?_
    refine Sp.L.pure (by kernel_rfl) (Sp.Runs.move rfl) ?_
    refine Sp.L.pure (by kernel_rfl) (Sp.Runs.subI rfl rfl (Sp.wrapI (by omega) (by omega))) ?_
    refine Sp.L.pure (by kernel_rfl) (Sp.Runs.assign rfl) ?_
    refine Sp.L.nil ?_
    obtain ⟨b, hb⟩ : ∃ b, x2 = Rw.str [b] := by
      simp only [List.mem_cons, List.not_mem_nil, or_false] at hx2
      rcases hx2 with h | h
      · exact ⟨false, h⟩
      · exact ⟨true, h⟩
    have e1 : Rw.str l ++ x2 = Rw.str (l ++ [b]) := by rw [hb, Rw.str_append]
    have e2 : (l ++ [b]).length = l.length + 1 := by simp
    have hlen : (l ++ [b]).length ≤ K := by rw [e2]; omega
    refine Sp.Nx.again (l ++ [b]) ⟨(Sp.lkS rfl e1), (Sp.lkI rfl (by rw [e2]; omega)), rfl, trivial⟩ ⟨Lib.hid (D.out.mono (by rw [e2]; omega)), hlen⟩ (by rw [e2]; omega)
  · refine Sp.Cd.seq fun K8 hK8 => ?_
    refine Sp.Cd.seq fun K9 hK9 => ?_
    refine Sp.Cd.region ?_
    refine Sp.L.pure (by kernel_rfl) (Sp.Runs.move rfl) ?_
    refine Sp.L.pure (by kernel_rfl) (Sp.Runs.gtIF rfl rfl (by omega)) ?_
    refine Sp.L.nil ?_
    refine hK9 _ _ (Sp.Cd.sub (S' := [(0, _), (5, _), (6, _), (12, _)]) ⟨rfl, rfl, rfl, rfl, trivial⟩ ?_)
    clear hK9 K9
    refine Sp.Cd.condF rfl ?_
    refine Sp.Cd.exit ?_
    refine Sp.Ex.then ?_
    clear hK8 K8
    refine Sp.Ex.then ?_
    replace D : Hid (Drawn w0 w2 g (A + 2 * most + 2)) := Lib.hid (D.out.mono (by omega))
    refine Sp.Ex.hit ?_
    refine hK3 _ _ (Sp.Cd.sub (S' := [(5, _)]) ⟨rfl, trivial⟩ ?_)
    clear hK3 K3
    refine Sp.Cd.seq fun K10 hK10 => ?_
    have hl1 : 1 ≤ l.length := by omega
    have hl2 : l.length ≤ most := by omega
    refine Sp.Cd.region ?_
    refine Sp.L.pure (by kernel_rfl) (Sp.Runs.move rfl) ?_
    refine Sp.L.pure (by kernel_rfl) (Sp.Runs.assign rfl) ?_
    refine Sp.L.nil ?_
    refine hK10 _ _ (Sp.Cd.sub (S' := [(4, _)]) ⟨rfl, trivial⟩ ?_)
    clear hK10 K10
    refine Sp.Cd.ret ?_
    refine Sp.Rt.body rfl rfl ?_
    exact ⟨l, hl1, hl2, rfl, D.out.mono (by omega)⟩

def nest : Nat → ByteArray
  | 0 => ByteArray.empty
  | j + 1 => (⟨#[62]⟩ ++ nest j) ++ ⟨#[60]⟩
theorem nest_size : ∀ j, (nest j).size = 2 * j
  | 0 => rfl
  | j + 1 => by
    have h1 : (⟨#[62]⟩ : ByteArray).size = 1 := rfl
    have h2 : (⟨#[60]⟩ : ByteArray).size = 1 := rfl
    rw [nest, ByteArray.size_append, ByteArray.size_append, nest_size j, h1, h2]; omega

set_option maxRecDepth 20000 in
set_option maxHeartbeats 4000000 in
theorem row_p (w0 : World) (g A most : Nat) (hA : A ≤ 900000) (h1 : 1 ≤ most) (h2 : most ≤ 100) (hc : Cur w0 g A) :
    Calls Try.prog 85 #[.pointer (some ⟨g, 0, none⟩), .int .i64 (most : Nat)] w0 fun e w' => ∃ s : ByteArray, s.size ≤ 100 ∧ e = .returned (.string s) ∧ Drawn w0 w' g (A + 300) := by
  have D : Hid (Drawn w0 w0 g (A + 0)) := Lib.hid (drawn_refl hc)
  have HG : g < w0.heap.size := hc.lt
  refine Sp.enter (N := 34) (args := [.pointer (some ⟨g, 0, none⟩), .int .i64 (most : Nat)]) Try.func85 rfl rfl (by kernel_rfl) ?_
  refine Sp.Cd.seq fun K1 hK1 => ?_
  refine Sp.Cd.region ?_
  refine Sp.L.pure (by kernel_rfl) (Sp.Runs.assign rfl) ?_
  refine Sp.L.nil ?_
  refine hK1 _ _ (Sp.Cd.sub (S' := [(0, _), (1, _)]) ⟨rfl, rfl, trivial⟩ ?_)
  clear hK1 K1
  refine Sp.Cd.seq fun K2 hK2 => ?_
  refine Sp.Cd.seq fun K3 hK3 => ?_
  refine Sp.Cd.region ?_
  refine Sp.L.pure (by kernel_rfl) (Sp.Runs.move rfl) ?_
  refine Sp.L.call (by kernel_rfl) (pick_p w0 g (A + 0) 14 (by omega) (by omega) (by omega) D.out.cur) rfl rfl (by kernel_rfl) ?_
  rintro e w1 ⟨x1, hx1, rfl, d⟩
  replace D : Hid (Drawn w0 w1 g (A + 2)) := Lib.hid ((D.out.trans d).mono (by omega))
  clear d
  refine ⟨_, rfl, ?_⟩
  refine Sp.L.nil ?_
  refine hK3 _ _ (Sp.Cd.sub (S' := [(0, _), (1, _), (8, _)]) ⟨rfl, rfl, rfl, trivial⟩ ?_)
  clear hK3 K3
  refine Sp.Cd.block ?_
  by_cases c0 : x1 = 0
  · refine Sp.Cd.seq fun K4 hK4 => ?_
    refine Sp.Cd.region ?_
    refine Sp.L.pure (by kernel_rfl) (Sp.Runs.eqIT rfl rfl (by omega)) ?_
    refine Sp.L.pure (by kernel_rfl) (Sp.Runs.assign rfl) ?_
    refine Sp.L.nil ?_
    refine hK4 _ _ (Sp.Cd.sub (S' := [(0, _), (1, _), (8, _), (9, _)]) ⟨rfl, rfl, rfl, rfl, trivial⟩ ?_)
    clear hK4 K4
    refine Sp.Cd.condT rfl ?_
    refine Sp.Cd.seq fun K5 hK5 => ?_
    refine Sp.Cd.region ?_
    refine Sp.L.pure (by kernel_rfl) (Sp.Runs.move rfl) ?_
    have CL := of_lit w0 w1 g (A + 2) 6 [(⟨#[]⟩ : ByteArray), (⟨#[120]⟩ : ByteArray), (⟨#[60, 61]⟩ : ByteArray), (⟨#[62, 32]⟩ : ByteArray), (⟨#[60, 60, 60, 60, 60, 60, 60, 60, 60, 60, 60, 60, 60, 60, 60, 60, 60, 60, 60, 60, 60, 60, 60, 60, 60, 60, 60, 60, 60, 60, 60, 60, 60, 60, 60, 60, 60, 60, 60, 60, 60, 60, 60, 60, 60, 60, 60, 60, 60, 60, 60, 60, 60, 60, 60, 60, 60, 60, 60, 60, 60]⟩ : ByteArray), (⟨#[62, 62, 60, 60, 76, 82]⟩ : ByteArray)] rfl (by omega) (by omega) (by omega) HG D.out
    simp only [List.map_cons, List.map_nil] at CL
    refine Sp.L.lits (v := .slice (some ⟨w1.heap.size, 0, none⟩) 6 6) (w' := w1.alloc (.cells #[.string ⟨#[]⟩, .string ⟨#[120]⟩, .string ⟨#[60, 61]⟩, .string ⟨#[62, 32]⟩, .string ⟨#[60, 60, 60, 60, 60, 60, 60, 60, 60, 60, 60, 60, 60, 60, 60, 60, 60, 60, 60, 60, 60, 60, 60, 60, 60, 60, 60, 60, 60, 60, 60, 60, 60, 60, 60, 60, 60, 60, 60, 60, 60, 60, 60, 60, 60, 60, 60, 60, 60, 60, 60, 60, 60, 60, 60, 60, 60, 60, 60, 60, 60]⟩, .string ⟨#[62, 62, 60, 60, 76, 82]⟩] 9)) rfl (by simp [go_sem]) (by kernel_rfl) ?_
    refine Sp.L.call (by kernel_rfl) (CL) rfl rfl (by kernel_rfl) ?_
    rintro e w2 ⟨x2, hx2, rfl, d⟩
    replace D : Hid (Drawn w0 w2 g (A + 4)) := Lib.hid ((d).mono (by omega))
    clear d
    clear CL
    refine ⟨_, rfl, ?_⟩
    refine Sp.L.pure (by kernel_rfl) (Sp.Runs.assign rfl) ?_
    refine Sp.L.nil ?_
    refine hK5 _ _ (Sp.Cd.sub (S' := [(4, _)]) ⟨rfl, trivial⟩ ?_)
    clear hK5 K5
    refine Sp.Cd.ret ?_
    refine Sp.Rt.block ?_
    refine Sp.Rt.then ?_
    refine Sp.Rt.body rfl rfl ?_
    refine ⟨x2, ?_, rfl, D.out.mono (by omega)⟩
    simp only [List.mem_cons, List.not_mem_nil, or_false] at hx2
    rcases hx2 with h | h | h | h | h | h <;> rw [h] <;> decide
  · by_cases c1 : x1 = 1
    · refine Sp.Cd.seq fun K6 hK6 => ?_
      refine Sp.Cd.region ?_
      refine Sp.L.pure (by kernel_rfl) (Sp.Runs.eqIF rfl rfl (by omega)) ?_
      refine Sp.L.pure (by kernel_rfl) (Sp.Runs.assign rfl) ?_
      refine Sp.L.nil ?_
      refine hK6 _ _ (Sp.Cd.sub (S' := [(0, _), (1, _), (8, _), (9, _)]) ⟨rfl, rfl, rfl, rfl, trivial⟩ ?_)
      clear hK6 K6
      refine Sp.Cd.condF rfl ?_
      refine Sp.Cd.seq fun K7 hK7 => ?_
      refine Sp.Cd.region ?_
      refine Sp.L.pure (by kernel_rfl) (Sp.Runs.eqIT rfl rfl (by omega)) ?_
      refine Sp.L.pure (by kernel_rfl) (Sp.Runs.assign rfl) ?_
      refine Sp.L.nil ?_
      refine hK7 _ _ (Sp.Cd.sub (S' := [(0, _), (1, _), (14, _)]) ⟨rfl, rfl, rfl, trivial⟩ ?_)
      clear hK7 K7
      refine Sp.Cd.condT rfl ?_
      refine Sp.Cd.seq fun K8 hK8 => ?_
      refine Sp.Cd.region ?_
      refine Sp.L.pure (by kernel_rfl) (Sp.Runs.assign rfl) ?_
      refine Sp.L.nil ?_
      refine hK8 _ _ (Sp.Cd.sub (S' := [(0, _), (1, _), (5, _)]) ⟨rfl, rfl, rfl, trivial⟩ ?_)
      clear hK8 K8
      refine Sp.Cd.seq fun K9 hK9 => ?_
      refine Sp.Cd.seq fun K10 hK10 => ?_
      refine Sp.Cd.region ?_
      refine Sp.L.pure (by kernel_rfl) (Sp.Runs.move rfl) ?_
      refine Sp.L.call (by kernel_rfl) (pick_p w1 g (A + 2) 8 (by omega) (by omega) (by omega) D.out.cur) rfl rfl (by kernel_rfl) ?_
      rintro e w2 ⟨x2, hx2, rfl, d⟩
      replace D : Hid (Drawn w0 w2 g (A + 4)) := Lib.hid ((D.out.trans d).mono (by omega))
      clear d
      refine ⟨_, rfl, ?_⟩
      refine Sp.L.pure (by kernel_rfl) (Sp.Runs.addI rfl rfl (Sp.wrapI (by omega) (by omega))) ?_
      refine Sp.L.pure (by kernel_rfl) (Sp.Runs.assign rfl) ?_
      refine Sp.L.nil ?_
      refine hK10 _ _ (Sp.Cd.sub (S' := [(0, _), (1, _), (5, _), (6, _)]) ⟨rfl, rfl, rfl, rfl, trivial⟩ ?_)
      clear hK10 K10
      refine Sp.Cd.block ?_
      obtain ⟨K, hK⟩ : ∃ K : Nat, K = 2 + x2 := ⟨_, rfl⟩
      have hKI : (2 : Int) + (x2 : Int) = (K : Int) := by omega
      refine Sp.Cd.loop (ι := Nat) [(0, _), (1, _)] (fun j => [(5, .string (nest j)), (6, .int .i64 ((K : Int) - (j : Int)))]) (fun j w' => Hid (Drawn w0 w' g (A + 0 * j + 4)) ∧ (j ≤ K)) (fun j => K - j) 0 ⟨rfl, (Sp.lkI rfl (by rw [← hKI]; simp)), rfl, rfl, trivial⟩ ⟨Lib.hid (D.out.mono (by omega)), Nat.zero_le _⟩ ?_
      clear D
      rintro j w3 ⟨D, hrel⟩
      refine Sp.Cd.sub (S' := [(5, _), (6, _), (0, _), (1, _)]) ⟨rfl, rfl, rfl, rfl, trivial⟩ ?_
      have nz := nest_size j
      by_cases hlt : j < K
      · refine Sp.Cd.seq fun K11 hK11 => ?_
        refine Sp.Cd.seq fun K12 hK12 => ?_
        refine Sp.Cd.region ?_
        refine Sp.L.pure (by kernel_rfl) (Sp.Runs.move rfl) ?_
        refine Sp.L.pure (by kernel_rfl) (Sp.Runs.gtIT rfl rfl (by omega)) ?_
        refine Sp.L.nil ?_
        refine hK12 _ _ (Sp.Cd.sub (S' := [(0, _), (1, _), (5, _), (6, _), (20, _)]) ⟨rfl, rfl, rfl, rfl, rfl, trivial⟩ ?_)
        clear hK12 K12
        refine Sp.Cd.condT rfl ?_
        refine Sp.Cd.skip ?_
        refine hK11 _ _ (Sp.Cd.sub (S' := [(0, _), (1, _), (5, _), (6, _)]) ⟨rfl, rfl, rfl, rfl, trivial⟩ ?_)
        clear hK11 K11
        refine Sp.Cd.seq fun K13 hK13 => ?_
        refine Sp.Cd.block ?_
        refine Sp.Cd.region ?_
        refine Sp.L.pure (by kernel_rfl) (Sp.Runs.move rfl) ?_
        refine Sp.L.pure (by kernel_rfl) (Sp.Runs.addS rfl rfl (show 1 + _ ≤ 9223372036854775807 by omega)) ?_
        refine Sp.L.pure (by kernel_rfl) (Sp.Runs.addS rfl rfl (by rw [ByteArray.size_append]; show 1 + _ + 1 ≤ 9223372036854775807; omega)) ?_
        refine Sp.L.pure (by kernel_rfl) (Sp.Runs.assign rfl) ?_
        refine Sp.L.nil ?_
        refine Sp.Nx.block ?_
        refine hK13 _ _ (Sp.Cd.sub (S' := [(0, _), (1, _), (5, _), (6, _)]) ⟨rfl, rfl, rfl, rfl, trivial⟩ ?_)
        clear hK13 K13
        refine Sp.Cd.region ?_
        refine Sp.L.pure (by kernel_rfl) (Sp.Runs.move rfl) ?_
        refine Sp.L.pure (by kernel_rfl) (Sp.Runs.subI rfl rfl (Sp.wrapI (by omega) (by omega))) ?_
        refine Sp.L.pure (by kernel_rfl) (Sp.Runs.assign rfl) ?_
        refine Sp.L.nil ?_
        refine Sp.Nx.again (j + 1) ⟨rfl, (Sp.lkI rfl (by omega)), rfl, rfl, trivial⟩ ⟨Lib.hid (D.out.mono (by omega)), hlt⟩ (by omega)
      · by_cases c6 : 2 * j ≤ most
        · refine Sp.Cd.seq fun K14 hK14 => ?_
          refine Sp.Cd.seq fun K15 hK15 => ?_
          refine Sp.Cd.region ?_
          refine Sp.L.pure (by kernel_rfl) (Sp.Runs.move rfl) ?_
          refine Sp.L.pure (by kernel_rfl) (Sp.Runs.gtIF rfl rfl (by omega)) ?_
          refine Sp.L.nil ?_
          refine hK15 _ _ (Sp.Cd.sub (S' := [(0, _), (1, _), (5, _), (6, _), (20, _)]) ⟨rfl, rfl, rfl, rfl, rfl, trivial⟩ ?_)
          clear hK15 K15
          refine Sp.Cd.condF rfl ?_
          refine Sp.Cd.exit ?_
          refine Sp.Ex.then ?_
          clear hK14 K14
          refine Sp.Ex.then ?_
          replace D : Hid (Drawn w0 w3 g (A + 0 + 4)) := Lib.hid (D.out.mono (by omega))
          refine Sp.Ex.hit ?_
          refine hK9 _ _ (Sp.Cd.sub (S' := [(0, _), (1, _), (5, _)]) ⟨rfl, rfl, rfl, trivial⟩ ?_)
          clear hK9 K9
          refine Sp.Cd.seq fun K16 hK16 => ?_
          refine Sp.Cd.region ?_
          refine Sp.L.pure (by kernel_rfl) (Sp.Runs.move rfl) ?_
          refine Sp.L.pure (by kernel_rfl) (Sp.Runs.lenS Try.underlying9 rfl) ?_
          refine Sp.L.pure (by kernel_rfl) (Sp.Runs.move rfl) ?_
          refine Sp.L.pure (by kernel_rfl) (Sp.Runs.leIT rfl rfl (by omega)) ?_
          refine Sp.L.nil ?_
          refine hK16 _ _ (Sp.Cd.sub (S' := [(0, _), (1, _), (5, _), (29, _)]) ⟨rfl, rfl, rfl, rfl, trivial⟩ ?_)
          clear hK16 K16
          refine Sp.Cd.condT rfl ?_
          refine Sp.Cd.seq fun K17 hK17 => ?_
          refine Sp.Cd.region ?_
          refine Sp.L.pure (by kernel_rfl) (Sp.Runs.move rfl) ?_
          refine Sp.L.pure (by kernel_rfl) (Sp.Runs.assign rfl) ?_
          refine Sp.L.nil ?_
          refine hK17 _ _ (Sp.Cd.sub (S' := [(4, _)]) ⟨rfl, trivial⟩ ?_)
          clear hK17 K17
          refine Sp.Cd.ret ?_
          refine Sp.Rt.block ?_
          refine Sp.Rt.then ?_
          refine Sp.Rt.body rfl rfl ?_
          exact ⟨nest j, by omega, rfl, D.out.mono (by omega)⟩
        · refine Sp.Cd.seq fun K18 hK18 => ?_
          refine Sp.Cd.seq fun K19 hK19 => ?_
          refine Sp.Cd.region ?_
          refine Sp.L.pure (by kernel_rfl) (Sp.Runs.move rfl) ?_
          refine Sp.L.pure (by kernel_rfl) (Sp.Runs.gtIF rfl rfl (by omega)) ?_
          refine Sp.L.nil ?_
          refine hK19 _ _ (Sp.Cd.sub (S' := [(0, _), (1, _), (5, _), (6, _), (20, _)]) ⟨rfl, rfl, rfl, rfl, rfl, trivial⟩ ?_)
          clear hK19 K19
          refine Sp.Cd.condF rfl ?_
          refine Sp.Cd.exit ?_
          refine Sp.Ex.then ?_
          clear hK18 K18
          refine Sp.Ex.then ?_
          replace D : Hid (Drawn w0 w3 g (A + 0 + 4)) := Lib.hid (D.out.mono (by omega))
          refine Sp.Ex.hit ?_
          refine hK9 _ _ (Sp.Cd.sub (S' := [(0, _), (1, _), (5, _)]) ⟨rfl, rfl, rfl, trivial⟩ ?_)
          clear hK9 K9
          refine Sp.Cd.seq fun K20 hK20 => ?_
          refine Sp.Cd.region ?_
          refine Sp.L.pure (by kernel_rfl) (Sp.Runs.move rfl) ?_
          refine Sp.L.pure (by kernel_rfl) (Sp.Runs.lenS Try.underlying9 rfl) ?_
          refine Sp.L.pure (by kernel_rfl) (Sp.Runs.move rfl) ?_
          refine Sp.L.pure (by kernel_rfl) (Sp.Runs.leIF rfl rfl (by omega)) ?_
          refine Sp.L.nil ?_
          refine hK20 _ _ (Sp.Cd.sub (S' := [(0, _), (1, _), (5, _), (29, _)]) ⟨rfl, rfl, rfl, rfl, trivial⟩ ?_)
          clear hK20 K20
          refine Sp.Cd.condF rfl ?_
          refine Sp.Cd.skip ?_
          refine Sp.Nx.block ?_
          refine hK2 _ _ (Sp.Cd.sub (S' := [(0, _), (1, _)]) ⟨rfl, rfl, trivial⟩ ?_)
          clear hK2 K2
          refine Sp.Cd.seq fun K21 hK21 => ?_
          refine Sp.Cd.region ?_
          refine Sp.L.pure (by kernel_rfl) (Sp.Runs.move rfl) ?_
          refine Sp.L.pure (by kernel_rfl) (Sp.Runs.move rfl) ?_
          refine Sp.L.call (by kernel_rfl) (sureRow_p w3 g (A + 0 + 4) most (by omega) (by omega) (by omega) D.out.cur) rfl rfl (by kernel_rfl) ?_
          rintro e w4 ⟨l, hl1, hl2, rfl, d⟩
          replace D : Hid (Drawn w0 w4 g (A + 0 + 206)) := Lib.hid ((D.out.trans d).mono (by omega))
          clear d
          refine ⟨_, rfl, ?_⟩
          refine Sp.L.pure (by kernel_rfl) (Sp.Runs.assign rfl) ?_
          refine Sp.L.nil ?_
          refine hK21 _ _ (Sp.Cd.sub (S' := [(4, _)]) ⟨rfl, trivial⟩ ?_)
          clear hK21 K21
          refine Sp.Cd.ret ?_
          refine Sp.Rt.body rfl rfl ?_
          exact ⟨_, by rw [Rw.size_str]; omega, rfl, D.out.mono (by omega)⟩
    · refine Sp.Cd.seq fun K22 hK22 => ?_
      refine Sp.Cd.region ?_
      refine Sp.L.pure (by kernel_rfl) (Sp.Runs.eqIF rfl rfl (by omega)) ?_
      refine Sp.L.pure (by kernel_rfl) (Sp.Runs.assign rfl) ?_
      refine Sp.L.nil ?_
      refine hK22 _ _ (Sp.Cd.sub (S' := [(0, _), (1, _), (8, _), (9, _)]) ⟨rfl, rfl, rfl, rfl, trivial⟩ ?_)
      clear hK22 K22
      refine Sp.Cd.condF rfl ?_
      refine Sp.Cd.seq fun K23 hK23 => ?_
      refine Sp.Cd.region ?_
      refine Sp.L.pure (by kernel_rfl) (Sp.Runs.eqIF rfl rfl (by omega)) ?_
      refine Sp.L.pure (by kernel_rfl) (Sp.Runs.assign rfl) ?_
      refine Sp.L.nil ?_
      refine hK23 _ _ (Sp.Cd.sub (S' := [(0, _), (1, _), (14, _)]) ⟨rfl, rfl, rfl, trivial⟩ ?_)
      clear hK23 K23
      refine Sp.Cd.condF rfl ?_
      refine Sp.Cd.skip ?_
      refine Sp.Nx.block ?_
      refine hK2 _ _ (Sp.Cd.sub (S' := [(0, _), (1, _)]) ⟨rfl, rfl, trivial⟩ ?_)
      clear hK2 K2
      refine Sp.Cd.seq fun K24 hK24 => ?_
      refine Sp.Cd.region ?_
      refine Sp.L.pure (by kernel_rfl) (Sp.Runs.move rfl) ?_
      refine Sp.L.pure (by kernel_rfl) (Sp.Runs.move rfl) ?_
      refine Sp.L.call (by kernel_rfl) (sureRow_p w1 g (A + 2) most (by omega) (by omega) (by omega) D.out.cur) rfl rfl (by kernel_rfl) ?_
      rintro e w2 ⟨l, hl1, hl2, rfl, d⟩
      replace D : Hid (Drawn w0 w2 g (A + 204)) := Lib.hid ((D.out.trans d).mono (by omega))
      clear d
      refine ⟨_, rfl, ?_⟩
      refine Sp.L.pure (by kernel_rfl) (Sp.Runs.assign rfl) ?_
      refine Sp.L.nil ?_
      refine hK24 _ _ (Sp.Cd.sub (S' := [(4, _)]) ⟨rfl, trivial⟩ ?_)
      clear hK24 K24
      refine Sp.Cd.ret ?_
      refine Sp.Rt.body rfl rfl ?_
      exact ⟨_, by rw [Rw.size_str]; omega, rfl, D.out.mono (by omega)⟩

set_option maxRecDepth 20000 in
set_option maxHeartbeats 4000000 in
theorem drawIsRow_p (w0 : World) (a : Option Addr) (len cap : Nat) (hl : len ≤ 9223372036854775807) (hb : Bytes w0 a len) :
    Calls Try.prog 62 #[.slice a len cap] w0 fun e w' => ∃ s : ByteArray, s.size ≤ 100 ∧ e = .returned (.string s) ∧ Below w0.heap.size w0 w' := by
  refine Sp.enter (N := 9) (args := [.slice a len cap]) Try.func62 rfl rfl (by kernel_rfl) ?_
  refine Sp.Cd.seq fun K1 hK1 => ?_
  refine Sp.Cd.region ?_
  refine Sp.L.pure (by kernel_rfl) (Sp.Runs.assign rfl) ?_
  refine Sp.L.nil ?_
  refine hK1 _ _ (Sp.Cd.sub (S' := [(0, _)]) ⟨rfl, trivial⟩ ?_)
  clear hK1 K1
  refine Sp.Cd.seq fun K2 hK2 => ?_
  refine Sp.Cd.region ?_
  refine Sp.L.pure (by kernel_rfl) (Sp.Runs.move rfl) ?_
  refine Sp.L.build1 rfl Sp.build_cur (by kernel_rfl) ?_
  refine Sp.L.box rfl Sp.box_cur (by kernel_rfl) ?_
  have D0 := drawn_refl (cur_new w0 a len cap hl hb)
  have HG : w0.heap.size < (w0.alloc (.cells #[.slice a len cap, .int .i64 0, .int .u64 0] 79)).heap.size := by rw [alloc_size]; omega
  have hb0 : ∀ w', Drawn (w0.alloc (.cells #[.slice a len cap, .int .i64 0, .int .u64 0] 79)) w' w0.heap.size (0 + 0) → True := fun _ _ => trivial
  clear hb0
  obtain ⟨wS, hwS⟩ : ∃ x, x = w0.alloc (.cells #[.slice a len cap, .int .i64 0, .int .u64 0] 79) := ⟨_, rfl⟩
  rw [← hwS] at D0 HG
  rw [← hwS]
  have HE : ∀ w' A', Drawn wS w' w0.heap.size A' → Below w0.heap.size w0 w' := fun w' A' d => by rw [hwS] at d; exact drawn_end d
  obtain ⟨g, hgg⟩ : ∃ x, x = w0.heap.size := ⟨_, rfl⟩
  rw [← hgg] at D0 HG HE
  rw [← hgg]
  replace HE : ∀ w' A', Drawn wS w' g A' → Below w0.heap.size w0 w' := fun w' A' d => by have h := HE w' A' d; rw [hgg] at h; exact h
  obtain ⟨w1, hw1⟩ : ∃ x, x = wS := ⟨_, rfl⟩
  have D : Hid (Drawn wS w1 g (0 + 0)) := Lib.hid (by rw [hw1]; exact D0)
  rw [← hw1]
  clear D0 hwS hw1 hgg hb
  refine Sp.L.pure (by kernel_rfl) (Sp.Runs.assign rfl) ?_
  refine Sp.L.nil ?_
  refine hK2 _ _ (Sp.Cd.sub (S' := [(3, _)]) ⟨rfl, trivial⟩ ?_)
  clear hK2 K2
  refine Sp.Cd.seq fun K3 hK3 => ?_
  refine Sp.Cd.region ?_
  refine Sp.L.pure (by kernel_rfl) (Sp.Runs.move rfl) ?_
  refine Sp.L.call (by kernel_rfl) (row_p w1 g (0 + 0) 20 (by omega) (by omega) (by omega) D.out.cur) rfl rfl (by kernel_rfl) ?_
  rintro e w2 ⟨s1, hs1, rfl, d⟩
  replace D : Hid (Drawn wS w2 g (0 + 300)) := Lib.hid ((D.out.trans d).mono (by omega))
  clear d
  refine ⟨_, rfl, ?_⟩
  refine Sp.L.pure (by kernel_rfl) (Sp.Runs.assign rfl) ?_
  refine Sp.L.nil ?_
  refine hK3 _ _ (Sp.Cd.sub (S' := [(2, _)]) ⟨rfl, trivial⟩ ?_)
  clear hK3 K3
  refine Sp.Cd.ret ?_
  refine Sp.Rt.body rfl rfl ?_
  exact ⟨_, hs1, rfl, HE _ _ D.out⟩

set_option maxRecDepth 20000 in
set_option maxHeartbeats 4000000 in
theorem drawTicksToRest_p (w0 : World) (a : Option Addr) (len cap : Nat) (hl : len ≤ 9223372036854775807) (hb : Bytes w0 a len) :
    Calls Try.prog 8 #[.slice a len cap] w0 fun e w' => ∃ s : ByteArray, s.size ≤ 100 ∧ e = .returned (.string s) ∧ Below w0.heap.size w0 w' := by
  have B0 : Hid (Below w0.heap.size w0 w0) := Lib.hid (Below.refl _ _)
  refine Sp.enter (N := 5) (args := [.slice a len cap]) Try.func8 rfl rfl (by kernel_rfl) ?_
  refine Sp.Cd.seq fun K1 hK1 => ?_
  refine Sp.Cd.region ?_
  refine Sp.L.pure (by kernel_rfl) (Sp.Runs.assign rfl) ?_
  refine Sp.L.nil ?_
  refine hK1 _ _ (Sp.Cd.sub (S' := [(0, _)]) ⟨rfl, trivial⟩ ?_)
  clear hK1 K1
  refine Sp.Cd.seq fun K2 hK2 => ?_
  refine Sp.Cd.region ?_
  refine Sp.L.pure (by kernel_rfl) (Sp.Runs.move rfl) ?_
  refine Sp.L.call (by kernel_rfl) (drawIsRow_p w0 a len cap hl hb) rfl rfl (by kernel_rfl) ?_
  rintro e w1 ⟨s, hs, rfl, b⟩
  replace B0 := Lib.hid (B0.out.trans (b.mono B0.out.size))
  clear b
  refine ⟨_, rfl, ?_⟩
  refine Sp.L.pure (by kernel_rfl) (Sp.Runs.assign rfl) ?_
  refine Sp.L.nil ?_
  refine hK2 _ _ (Sp.Cd.sub (S' := [(2, _)]) ⟨rfl, trivial⟩ ?_)
  clear hK2 K2
  refine Sp.Cd.ret ?_
  refine Sp.Rt.body rfl rfl ?_
  exact ⟨s, hs, rfl, B0.out⟩

set_option maxRecDepth 20000 in
set_option maxHeartbeats 4000000 in
theorem drawNumberOfRow_p (w0 : World) (a : Option Addr) (len cap : Nat) (hl : len ≤ 9223372036854775807) (hb : Bytes w0 a len) :
    Calls Try.prog 40 #[.slice a len cap] w0 fun e w' => ∃ s : ByteArray, s.size ≤ 100 ∧ e = .returned (.string s) ∧ Below w0.heap.size w0 w' := by
  have B0 : Hid (Below w0.heap.size w0 w0) := Lib.hid (Below.refl _ _)
  refine Sp.enter (N := 5) (args := [.slice a len cap]) Try.func40 rfl rfl (by kernel_rfl) ?_
  refine Sp.Cd.seq fun K1 hK1 => ?_
  refine Sp.Cd.region ?_
  refine Sp.L.pure (by kernel_rfl) (Sp.Runs.assign rfl) ?_
  refine Sp.L.nil ?_
  refine hK1 _ _ (Sp.Cd.sub (S' := [(0, _)]) ⟨rfl, trivial⟩ ?_)
  clear hK1 K1
  refine Sp.Cd.seq fun K2 hK2 => ?_
  refine Sp.Cd.region ?_
  refine Sp.L.pure (by kernel_rfl) (Sp.Runs.move rfl) ?_
  refine Sp.L.call (by kernel_rfl) (drawIsRow_p w0 a len cap hl hb) rfl rfl (by kernel_rfl) ?_
  rintro e w1 ⟨s, hs, rfl, b⟩
  replace B0 := Lib.hid (B0.out.trans (b.mono B0.out.size))
  clear b
  refine ⟨_, rfl, ?_⟩
  refine Sp.L.pure (by kernel_rfl) (Sp.Runs.assign rfl) ?_
  refine Sp.L.nil ?_
  refine hK2 _ _ (Sp.Cd.sub (S' := [(2, _)]) ⟨rfl, trivial⟩ ?_)
  clear hK2 K2
  refine Sp.Cd.ret ?_
  refine Sp.Rt.body rfl rfl ?_
  exact ⟨s, hs, rfl, B0.out⟩

set_option maxRecDepth 20000 in
set_option maxHeartbeats 4000000 in
theorem drawRowAfter_p (w0 : World) (a : Option Addr) (len cap : Nat) (hl : len ≤ 9223372036854775807) (hb : Bytes w0 a len) :
    Calls Try.prog 35 #[.slice a len cap] w0 fun e w' => ∃ (s : ByteArray) (k : Int), s.size ≤ 100 ∧ (Lit.int .i64 k).wf = true ∧ e = .returned (.tuple #[.string s, .int .i64 k]) ∧ Below w0.heap.size w0 w' := by
  refine Sp.enter (N := 13) (args := [.slice a len cap]) Try.func35 rfl rfl (by kernel_rfl) ?_
  refine Sp.Cd.seq fun K1 hK1 => ?_
  refine Sp.Cd.region ?_
  refine Sp.L.pure (by kernel_rfl) (Sp.Runs.assign rfl) ?_
  refine Sp.L.pure (by kernel_rfl) (Sp.Runs.assign rfl) ?_
  refine Sp.L.nil ?_
  refine hK1 _ _ (Sp.Cd.sub (S' := [(0, _)]) ⟨rfl, trivial⟩ ?_)
  clear hK1 K1
  refine Sp.Cd.seq fun K2 hK2 => ?_
  refine Sp.Cd.region ?_
  refine Sp.L.pure (by kernel_rfl) (Sp.Runs.move rfl) ?_
  refine Sp.L.build1 rfl Sp.build_cur (by kernel_rfl) ?_
  refine Sp.L.box rfl Sp.box_cur (by kernel_rfl) ?_
  have D0 := drawn_refl (cur_new w0 a len cap hl hb)
  have HG : w0.heap.size < (w0.alloc (.cells #[.slice a len cap, .int .i64 0, .int .u64 0] 79)).heap.size := by rw [alloc_size]; omega
  have hb0 : ∀ w', Drawn (w0.alloc (.cells #[.slice a len cap, .int .i64 0, .int .u64 0] 79)) w' w0.heap.size (0 + 0) → True := fun _ _ => trivial
  clear hb0
  obtain ⟨wS, hwS⟩ : ∃ x, x = w0.alloc (.cells #[.slice a len cap, .int .i64 0, .int .u64 0] 79) := ⟨_, rfl⟩
  rw [← hwS] at D0 HG
  rw [← hwS]
  have HE : ∀ w' A', Drawn wS w' w0.heap.size A' → Below w0.heap.size w0 w' := fun w' A' d => by rw [hwS] at d; exact drawn_end d
  obtain ⟨g, hgg⟩ : ∃ x, x = w0.heap.size := ⟨_, rfl⟩
  rw [← hgg] at D0 HG HE
  rw [← hgg]
  replace HE : ∀ w' A', Drawn wS w' g A' → Below w0.heap.size w0 w' := fun w' A' d => by have h := HE w' A' d; rw [hgg] at h; exact h
  obtain ⟨w1, hw1⟩ : ∃ x, x = wS := ⟨_, rfl⟩
  have D : Hid (Drawn wS w1 g (0 + 0)) := Lib.hid (by rw [hw1]; exact D0)
  rw [← hw1]
  clear D0 hwS hw1 hgg hb
  refine Sp.L.pure (by kernel_rfl) (Sp.Runs.assign rfl) ?_
  refine Sp.L.nil ?_
  refine hK2 _ _ (Sp.Cd.sub (S' := [(4, _)]) ⟨rfl, trivial⟩ ?_)
  clear hK2 K2
  refine Sp.Cd.seq fun K3 hK3 => ?_
  refine Sp.Cd.region ?_
  refine Sp.L.pure (by kernel_rfl) (Sp.Runs.move rfl) ?_
  refine Sp.L.call (by kernel_rfl) (row_p w1 g (0 + 0) 20 (by omega) (by omega) (by omega) D.out.cur) rfl rfl (by kernel_rfl) ?_
  rintro e w2 ⟨s1, hs1, rfl, d⟩
  replace D : Hid (Drawn wS w2 g (0 + 300)) := Lib.hid ((D.out.trans d).mono (by omega))
  clear d
  refine ⟨_, rfl, ?_⟩
  refine Sp.L.pure (by kernel_rfl) (Sp.Runs.move rfl) ?_
  have CL := among_lit wS w2 g (0 + 300) 10 [0, 1, 2, 3, 5, 8, 30, 1000000, 1000001, (-1)] rfl (by omega) (by omega) (by omega) HG D.out
  simp only [List.map_cons, List.map_nil] at CL
  refine Sp.L.lits (v := .slice (some ⟨w2.heap.size, 0, none⟩) 10 10) (w' := w2.alloc (.cells #[.int .i64 0, .int .i64 1, .int .i64 2, .int .i64 3, .int .i64 5, .int .i64 8, .int .i64 30, .int .i64 1000000, .int .i64 1000001, .int .i64 (-1)] 3)) rfl (by simp [go_sem]) (by kernel_rfl) ?_
  refine Sp.L.call (by kernel_rfl) (CL) rfl rfl (by kernel_rfl) ?_
  rintro e w3 ⟨x2, hx2, rfl, d⟩
  replace D : Hid (Drawn wS w3 g (0 + 302)) := Lib.hid ((d).mono (by omega))
  clear d
  clear CL
  have wf2 := wf_mem (by decide) hx2
  refine ⟨_, rfl, ?_⟩
  refine Sp.L.pure (by kernel_rfl) (Sp.Runs.assign rfl) ?_
  refine Sp.L.pure (by kernel_rfl) (Sp.Runs.assign rfl) ?_
  refine Sp.L.nil ?_
  refine hK3 _ _ (Sp.Cd.sub (S' := [(2, _), (3, _)]) ⟨rfl, rfl, trivial⟩ ?_)
  clear hK3 K3
  refine Sp.Cd.ret ?_
  refine Sp.Rt.body2 rfl rfl ?_
  exact ⟨_, _, hs1, wf2, rfl, HE _ _ D.out⟩

set_option maxRecDepth 20000 in
set_option maxHeartbeats 4000000 in
theorem drawRowOfNumber_p (w0 : World) (a : Option Addr) (len cap : Nat) (hl : len ≤ 9223372036854775807) (hb : Bytes w0 a len) :
    Calls Try.prog 38 #[.slice a len cap] w0 fun e w' => ∃ x y : Int, (Lit.int .i64 x).wf = true ∧ (Lit.int .i64 y).wf = true ∧ e = .returned (.tuple #[.int .i64 x, .int .i64 y]) ∧ Below w0.heap.size w0 w' := by
  refine Sp.enter (N := 21) (args := [.slice a len cap]) Try.func38 rfl rfl (by kernel_rfl) ?_
  refine Sp.Cd.seq fun K1 hK1 => ?_
  refine Sp.Cd.region ?_
  refine Sp.L.pure (by kernel_rfl) (Sp.Runs.assign rfl) ?_
  refine Sp.L.pure (by kernel_rfl) (Sp.Runs.assign rfl) ?_
  refine Sp.L.nil ?_
  refine hK1 _ _ (Sp.Cd.sub (S' := [(0, _)]) ⟨rfl, trivial⟩ ?_)
  clear hK1 K1
  refine Sp.Cd.seq fun K2 hK2 => ?_
  refine Sp.Cd.region ?_
  refine Sp.L.pure (by kernel_rfl) (Sp.Runs.move rfl) ?_
  refine Sp.L.build1 rfl Sp.build_cur (by kernel_rfl) ?_
  refine Sp.L.box rfl Sp.box_cur (by kernel_rfl) ?_
  have D0 := drawn_refl (cur_new w0 a len cap hl hb)
  have HG : w0.heap.size < (w0.alloc (.cells #[.slice a len cap, .int .i64 0, .int .u64 0] 79)).heap.size := by rw [alloc_size]; omega
  have hb0 : ∀ w', Drawn (w0.alloc (.cells #[.slice a len cap, .int .i64 0, .int .u64 0] 79)) w' w0.heap.size (0 + 0) → True := fun _ _ => trivial
  clear hb0
  obtain ⟨wS, hwS⟩ : ∃ x, x = w0.alloc (.cells #[.slice a len cap, .int .i64 0, .int .u64 0] 79) := ⟨_, rfl⟩
  rw [← hwS] at D0 HG
  rw [← hwS]
  have HE : ∀ w' A', Drawn wS w' w0.heap.size A' → Below w0.heap.size w0 w' := fun w' A' d => by rw [hwS] at d; exact drawn_end d
  obtain ⟨g, hgg⟩ : ∃ x, x = w0.heap.size := ⟨_, rfl⟩
  rw [← hgg] at D0 HG HE
  rw [← hgg]
  replace HE : ∀ w' A', Drawn wS w' g A' → Below w0.heap.size w0 w' := fun w' A' d => by have h := HE w' A' d; rw [hgg] at h; exact h
  obtain ⟨w1, hw1⟩ : ∃ x, x = wS := ⟨_, rfl⟩
  have D : Hid (Drawn wS w1 g (0 + 0)) := Lib.hid (by rw [hw1]; exact D0)
  rw [← hw1]
  clear D0 hwS hw1 hgg hb
  refine Sp.L.pure (by kernel_rfl) (Sp.Runs.assign rfl) ?_
  refine Sp.L.nil ?_
  refine hK2 _ _ (Sp.Cd.sub (S' := [(4, _)]) ⟨rfl, trivial⟩ ?_)
  clear hK2 K2
  refine Sp.Cd.seq fun K3 hK3 => ?_
  refine Sp.Cd.seq fun K4 hK4 => ?_
  refine Sp.Cd.region ?_
  refine Sp.L.pure (by kernel_rfl) (Sp.Runs.move rfl) ?_
  refine Sp.L.call (by kernel_rfl) (one_p w1 g (0 + 0) 5 (by omega) (by omega) (by omega) D.out.cur) rfl rfl (by kernel_rfl) ?_
  rintro e w2 ⟨b1, rfl, d⟩
  replace D : Hid (Drawn wS w2 g (0 + 2)) := Lib.hid ((D.out.trans d).mono (by omega))
  clear d
  refine ⟨_, rfl, ?_⟩
  refine Sp.L.nil ?_
  refine hK4 _ _ (Sp.Cd.sub (S' := [(4, _), (9, _)]) ⟨rfl, rfl, trivial⟩ ?_)
  clear hK4 K4
  rcases b1 with _ | _
  · refine Sp.Cd.condF rfl ?_
    refine Sp.Cd.skip ?_
    refine hK3 _ _ (Sp.Cd.sub (S' := [(4, _)]) ⟨rfl, trivial⟩ ?_)
    clear hK3 K3
    refine Sp.Cd.seq fun K5 hK5 => ?_
    refine Sp.Cd.region ?_
    refine Sp.L.pure (by kernel_rfl) (Sp.Runs.move rfl) ?_
    refine Sp.L.call (by kernel_rfl) (pick_p w2 g (0 + 2) 12 (by omega) (by omega) (by omega) D.out.cur) rfl rfl (by kernel_rfl) ?_
    rintro e w3 ⟨x2, hx2, rfl, d⟩
    replace D : Hid (Drawn wS w3 g (0 + 4)) := Lib.hid ((D.out.trans d).mono (by omega))
    clear d
    refine ⟨_, rfl, ?_⟩
    refine Sp.L.pure (by kernel_rfl) (Sp.Runs.addI rfl rfl (Sp.wrapI (by omega) (by omega))) ?_
    refine Sp.L.pure (by kernel_rfl) (Sp.Runs.move rfl) ?_
    refine Sp.L.call (by kernel_rfl) (pick_p w3 g (0 + 4) 300 (by omega) (by omega) (by omega) D.out.cur) rfl rfl (by kernel_rfl) ?_
    rintro e w4 ⟨x3, hx3, rfl, d⟩
    replace D : Hid (Drawn wS w4 g (0 + 6)) := Lib.hid ((D.out.trans d).mono (by omega))
    clear d
    refine ⟨_, rfl, ?_⟩
    refine Sp.L.pure (by kernel_rfl) (Sp.Runs.assign rfl) ?_
    refine Sp.L.pure (by kernel_rfl) (Sp.Runs.assign rfl) ?_
    refine Sp.L.nil ?_
    refine hK5 _ _ (Sp.Cd.sub (S' := [(2, _), (3, _)]) ⟨rfl, rfl, trivial⟩ ?_)
    clear hK5 K5
    refine Sp.Cd.ret ?_
    refine Sp.Rt.body2 rfl rfl ?_
    exact ⟨_, _, wf_i64' (by omega) (by omega), wf_i64' (by omega) (by omega), rfl, HE _ _ D.out⟩
  · refine Sp.Cd.condT rfl ?_
    refine Sp.Cd.seq fun K6 hK6 => ?_
    refine Sp.Cd.region ?_
    refine Sp.L.pure (by kernel_rfl) (Sp.Runs.move rfl) ?_
    have CL := among_lit wS w2 g (0 + 2) 5 [0, 1, 60, 61, 3] rfl (by omega) (by omega) (by omega) HG D.out
    simp only [List.map_cons, List.map_nil] at CL
    refine Sp.L.lits (v := .slice (some ⟨w2.heap.size, 0, none⟩) 5 5) (w' := w2.alloc (.cells #[.int .i64 0, .int .i64 1, .int .i64 60, .int .i64 61, .int .i64 3] 3)) rfl (by simp [go_sem]) (by kernel_rfl) ?_
    refine Sp.L.call (by kernel_rfl) (CL) rfl rfl (by kernel_rfl) ?_
    rintro e w3 ⟨x2, hx2, rfl, d⟩
    replace D : Hid (Drawn wS w3 g (0 + 4)) := Lib.hid ((d).mono (by omega))
    clear d
    clear CL
    have wf2 := wf_mem (by decide) hx2
    refine ⟨_, rfl, ?_⟩
    refine Sp.L.pure (by kernel_rfl) (Sp.Runs.move rfl) ?_
    have CL := among_lit wS w3 g (0 + 4) 6 [0, (-1), 576460752303423488, 1152921504606846976, 4611686018427387904, 8] rfl (by omega) (by omega) (by omega) HG D.out
    simp only [List.map_cons, List.map_nil] at CL
    refine Sp.L.lits (v := .slice (some ⟨w3.heap.size, 0, none⟩) 6 6) (w' := w3.alloc (.cells #[.int .i64 0, .int .i64 (-1), .int .i64 576460752303423488, .int .i64 1152921504606846976, .int .i64 4611686018427387904, .int .i64 8] 3)) rfl (by simp [go_sem]) (by kernel_rfl) ?_
    refine Sp.L.call (by kernel_rfl) (CL) rfl rfl (by kernel_rfl) ?_
    rintro e w4 ⟨x3, hx3, rfl, d⟩
    replace D : Hid (Drawn wS w4 g (0 + 6)) := Lib.hid ((d).mono (by omega))
    clear d
    clear CL
    have wf3 := wf_mem (by decide) hx3
    refine ⟨_, rfl, ?_⟩
    refine Sp.L.pure (by kernel_rfl) (Sp.Runs.assign rfl) ?_
    refine Sp.L.pure (by kernel_rfl) (Sp.Runs.assign rfl) ?_
    refine Sp.L.nil ?_
    refine hK6 _ _ (Sp.Cd.sub (S' := [(2, _), (3, _)]) ⟨rfl, rfl, trivial⟩ ?_)
    clear hK6 K6
    refine Sp.Cd.ret ?_
    refine Sp.Rt.then ?_
    refine Sp.Rt.body2 rfl rfl ?_
    exact ⟨_, _, wf2, wf3, rfl, HE _ _ D.out⟩

set_option maxRecDepth 20000 in
set_option maxHeartbeats 4000000 in
theorem drawRowsBefore_p (w0 : World) (a : Option Addr) (len cap : Nat) (hl : len ≤ 9223372036854775807) (hb : Bytes w0 a len) :
    Calls Try.prog 42 #[.slice a len cap] w0 fun e w' => ∃ s : ByteArray, s.size ≤ 100 ∧ e = .returned (.string s) ∧ Below w0.heap.size w0 w' := by
  refine Sp.enter (N := 14) (args := [.slice a len cap]) Try.func42 rfl rfl (by kernel_rfl) ?_
  refine Sp.Cd.seq fun K1 hK1 => ?_
  refine Sp.Cd.region ?_
  refine Sp.L.pure (by kernel_rfl) (Sp.Runs.assign rfl) ?_
  refine Sp.L.nil ?_
  refine hK1 _ _ (Sp.Cd.sub (S' := [(0, _)]) ⟨rfl, trivial⟩ ?_)
  clear hK1 K1
  refine Sp.Cd.seq fun K2 hK2 => ?_
  refine Sp.Cd.region ?_
  refine Sp.L.pure (by kernel_rfl) (Sp.Runs.move rfl) ?_
  refine Sp.L.build1 rfl Sp.build_cur (by kernel_rfl) ?_
  refine Sp.L.box rfl Sp.box_cur (by kernel_rfl) ?_
  have D0 := drawn_refl (cur_new w0 a len cap hl hb)
  have HG : w0.heap.size < (w0.alloc (.cells #[.slice a len cap, .int .i64 0, .int .u64 0] 79)).heap.size := by rw [alloc_size]; omega
  have hb0 : ∀ w', Drawn (w0.alloc (.cells #[.slice a len cap, .int .i64 0, .int .u64 0] 79)) w' w0.heap.size (0 + 0) → True := fun _ _ => trivial
  clear hb0
  obtain ⟨wS, hwS⟩ : ∃ x, x = w0.alloc (.cells #[.slice a len cap, .int .i64 0, .int .u64 0] 79) := ⟨_, rfl⟩
  rw [← hwS] at D0 HG
  rw [← hwS]
  have HE : ∀ w' A', Drawn wS w' w0.heap.size A' → Below w0.heap.size w0 w' := fun w' A' d => by rw [hwS] at d; exact drawn_end d
  obtain ⟨g, hgg⟩ : ∃ x, x = w0.heap.size := ⟨_, rfl⟩
  rw [← hgg] at D0 HG HE
  rw [← hgg]
  replace HE : ∀ w' A', Drawn wS w' g A' → Below w0.heap.size w0 w' := fun w' A' d => by have h := HE w' A' d; rw [hgg] at h; exact h
  obtain ⟨w1, hw1⟩ : ∃ x, x = wS := ⟨_, rfl⟩
  have D : Hid (Drawn wS w1 g (0 + 0)) := Lib.hid (by rw [hw1]; exact D0)
  rw [← hw1]
  clear D0 hwS hw1 hgg hb
  refine Sp.L.pure (by kernel_rfl) (Sp.Runs.assign rfl) ?_
  refine Sp.L.nil ?_
  refine hK2 _ _ (Sp.Cd.sub (S' := [(3, _)]) ⟨rfl, trivial⟩ ?_)
  clear hK2 K2
  refine Sp.Cd.seq fun K3 hK3 => ?_
  refine Sp.Cd.seq fun K4 hK4 => ?_
  refine Sp.Cd.region ?_
  refine Sp.L.pure (by kernel_rfl) (Sp.Runs.move rfl) ?_
  refine Sp.L.call (by kernel_rfl) (one_p w1 g (0 + 0) 2 (by omega) (by omega) (by omega) D.out.cur) rfl rfl (by kernel_rfl) ?_
  rintro e w2 ⟨b1, rfl, d⟩
  replace D : Hid (Drawn wS w2 g (0 + 2)) := Lib.hid ((D.out.trans d).mono (by omega))
  clear d
  refine ⟨_, rfl, ?_⟩
  refine Sp.L.nil ?_
  refine hK4 _ _ (Sp.Cd.sub (S' := [(3, _), (8, _)]) ⟨rfl, rfl, trivial⟩ ?_)
  clear hK4 K4
  rcases b1 with _ | _
  · refine Sp.Cd.condF rfl ?_
    refine Sp.Cd.skip ?_
    refine hK3 _ _ (Sp.Cd.sub (S' := [(3, _)]) ⟨rfl, trivial⟩ ?_)
    clear hK3 K3
    refine Sp.Cd.seq fun K5 hK5 => ?_
    refine Sp.Cd.region ?_
    refine Sp.L.pure (by kernel_rfl) (Sp.Runs.move rfl) ?_
    refine Sp.L.call (by kernel_rfl) (row_p w2 g (0 + 2) 8 (by omega) (by omega) (by omega) D.out.cur) rfl rfl (by kernel_rfl) ?_
    rintro e w3 ⟨s2, hs2, rfl, d⟩
    replace D : Hid (Drawn wS w3 g (0 + 302)) := Lib.hid ((D.out.trans d).mono (by omega))
    clear d
    refine ⟨_, rfl, ?_⟩
    refine Sp.L.pure (by kernel_rfl) (Sp.Runs.assign rfl) ?_
    refine Sp.L.nil ?_
    refine hK5 _ _ (Sp.Cd.sub (S' := [(2, _)]) ⟨rfl, trivial⟩ ?_)
    clear hK5 K5
    refine Sp.Cd.ret ?_
    refine Sp.Rt.body rfl rfl ?_
    exact ⟨_, hs2, rfl, HE _ _ D.out⟩
  · refine Sp.Cd.condT rfl ?_
    refine Sp.Cd.seq fun K6 hK6 => ?_
    refine Sp.Cd.region ?_
    refine Sp.L.pure (by kernel_rfl) (Sp.Runs.move rfl) ?_
    refine Sp.L.call (by kernel_rfl) (sureRow_p w2 g (0 + 2) 8 (by omega) (by omega) (by omega) D.out.cur) rfl rfl (by kernel_rfl) ?_
    rintro e w3 ⟨l, hl1, hl2, rfl, d⟩
    replace D : Hid (Drawn wS w3 g (0 + 20)) := Lib.hid ((D.out.trans d).mono (by omega))
    clear d
    refine ⟨_, rfl, ?_⟩
    refine Sp.L.call (by kernel_rfl) (C1.rwTick_any l hl1 (by omega) w3) rfl rfl (by kernel_rfl) ?_
    rintro e w4 ⟨rfl, b⟩
    replace D : Hid (Drawn wS w4 g (0 + 20)) := Lib.hid (D.out.below (b.mono D.out.grown.size) HG)
    clear b
    refine ⟨_, rfl, ?_⟩
    refine Sp.L.pure (by kernel_rfl) (Sp.Runs.assign rfl) ?_
    refine Sp.L.nil ?_
    refine hK6 _ _ (Sp.Cd.sub (S' := [(2, _)]) ⟨rfl, trivial⟩ ?_)
    clear hK6 K6
    refine Sp.Cd.ret ?_
    refine Sp.Rt.then ?_
    refine Sp.Rt.body rfl rfl ?_
    exact ⟨_, by rw [Rw.size_str, Rw.length_tick]; omega, rfl, HE _ _ D.out⟩

set_option maxRecDepth 20000 in
set_option maxHeartbeats 4000000 in
theorem soldiers_p (w0 : World) (g A : Nat) (hA : A ≤ 1000000) (hc : Cur w0 g A) :
    Calls Try.prog 99 #[.pointer (some ⟨g, 0, none⟩)] w0 fun e w' => ∃ x : Int, (Lit.int .i64 x).wf = true ∧ e = .returned (.int .i64 x) ∧ Drawn w0 w' g (A + 2) := by
  have D : Hid (Drawn w0 w0 g (A + 0)) := Lib.hid (drawn_refl hc)
  have HG : g < w0.heap.size := hc.lt
  refine Sp.enter (N := 6) (args := [.pointer (some ⟨g, 0, none⟩)]) Try.func99 rfl rfl (by kernel_rfl) ?_
  refine Sp.Cd.seq fun K1 hK1 => ?_
  refine Sp.Cd.region ?_
  refine Sp.L.pure (by kernel_rfl) (Sp.Runs.assign rfl) ?_
  refine Sp.L.nil ?_
  refine hK1 _ _ (Sp.Cd.sub (S' := [(0, _)]) ⟨rfl, trivial⟩ ?_)
  clear hK1 K1
  refine Sp.Cd.seq fun K2 hK2 => ?_
  refine Sp.Cd.region ?_
  refine Sp.L.pure (by kernel_rfl) (Sp.Runs.move rfl) ?_
  have CL := among_lit w0 w0 g (A + 0) 11 [1, 2, 3, 4, 5, 6, 7, 8, 13, 0, (-1)] rfl (by omega) (by omega) (by omega) HG D.out
  simp only [List.map_cons, List.map_nil] at CL
  refine Sp.L.lits (v := .slice (some ⟨w0.heap.size, 0, none⟩) 11 11) (w' := w0.alloc (.cells #[.int .i64 1, .int .i64 2, .int .i64 3, .int .i64 4, .int .i64 5, .int .i64 6, .int .i64 7, .int .i64 8, .int .i64 13, .int .i64 0, .int .i64 (-1)] 3)) rfl (by simp [go_sem]) (by kernel_rfl) ?_
  refine Sp.L.call (by kernel_rfl) (CL) rfl rfl (by kernel_rfl) ?_
  rintro e w1 ⟨x1, hx1, rfl, d⟩
  replace D : Hid (Drawn w0 w1 g (A + 2)) := Lib.hid ((d).mono (by omega))
  clear d
  clear CL
  have wf1 := wf_mem (by decide) hx1
  refine ⟨_, rfl, ?_⟩
  refine Sp.L.pure (by kernel_rfl) (Sp.Runs.assign rfl) ?_
  refine Sp.L.nil ?_
  refine hK2 _ _ (Sp.Cd.sub (S' := [(2, _)]) ⟨rfl, trivial⟩ ?_)
  clear hK2 K2
  refine Sp.Cd.ret ?_
  refine Sp.Rt.body rfl rfl ?_
  exact ⟨x1, wf1, rfl, D.out.mono (by omega)⟩

set_option maxRecDepth 20000 in
set_option maxHeartbeats 4000000 in
theorem drawLongestTicks_p (w0 : World) (a : Option Addr) (len cap : Nat) (hl : len ≤ 9223372036854775807) (hb : Bytes w0 a len) :
    Calls Try.prog 49 #[.slice a len cap] w0 fun e w' => ∃ x : Int, (Lit.int .i64 x).wf = true ∧ e = .returned (.int .i64 x) ∧ Below w0.heap.size w0 w' := by
  refine Sp.enter (N := 9) (args := [.slice a len cap]) Try.func49 rfl rfl (by kernel_rfl) ?_
  refine Sp.Cd.seq fun K1 hK1 => ?_
  refine Sp.Cd.region ?_
  refine Sp.L.pure (by kernel_rfl) (Sp.Runs.assign rfl) ?_
  refine Sp.L.nil ?_
  refine hK1 _ _ (Sp.Cd.sub (S' := [(0, _)]) ⟨rfl, trivial⟩ ?_)
  clear hK1 K1
  refine Sp.Cd.seq fun K2 hK2 => ?_
  refine Sp.Cd.region ?_
  refine Sp.L.pure (by kernel_rfl) (Sp.Runs.move rfl) ?_
  refine Sp.L.build1 rfl Sp.build_cur (by kernel_rfl) ?_
  refine Sp.L.box rfl Sp.box_cur (by kernel_rfl) ?_
  have D0 := drawn_refl (cur_new w0 a len cap hl hb)
  have HG : w0.heap.size < (w0.alloc (.cells #[.slice a len cap, .int .i64 0, .int .u64 0] 79)).heap.size := by rw [alloc_size]; omega
  have hb0 : ∀ w', Drawn (w0.alloc (.cells #[.slice a len cap, .int .i64 0, .int .u64 0] 79)) w' w0.heap.size (0 + 0) → True := fun _ _ => trivial
  clear hb0
  obtain ⟨wS, hwS⟩ : ∃ x, x = w0.alloc (.cells #[.slice a len cap, .int .i64 0, .int .u64 0] 79) := ⟨_, rfl⟩
  rw [← hwS] at D0 HG
  rw [← hwS]
  have HE : ∀ w' A', Drawn wS w' w0.heap.size A' → Below w0.heap.size w0 w' := fun w' A' d => by rw [hwS] at d; exact drawn_end d
  obtain ⟨g, hgg⟩ : ∃ x, x = w0.heap.size := ⟨_, rfl⟩
  rw [← hgg] at D0 HG HE
  rw [← hgg]
  replace HE : ∀ w' A', Drawn wS w' g A' → Below w0.heap.size w0 w' := fun w' A' d => by have h := HE w' A' d; rw [hgg] at h; exact h
  obtain ⟨w1, hw1⟩ : ∃ x, x = wS := ⟨_, rfl⟩
  have D : Hid (Drawn wS w1 g (0 + 0)) := Lib.hid (by rw [hw1]; exact D0)
  rw [← hw1]
  clear D0 hwS hw1 hgg hb
  refine Sp.L.pure (by kernel_rfl) (Sp.Runs.assign rfl) ?_
  refine Sp.L.nil ?_
  refine hK2 _ _ (Sp.Cd.sub (S' := [(3, _)]) ⟨rfl, trivial⟩ ?_)
  clear hK2 K2
  refine Sp.Cd.seq fun K3 hK3 => ?_
  refine Sp.Cd.region ?_
  refine Sp.L.pure (by kernel_rfl) (Sp.Runs.move rfl) ?_
  refine Sp.L.call (by kernel_rfl) (soldiers_p w1 g (0 + 0) (by omega) D.out.cur) rfl rfl (by kernel_rfl) ?_
  rintro e w2 ⟨x1, wf1, rfl, d⟩
  replace D : Hid (Drawn wS w2 g (0 + 2)) := Lib.hid ((D.out.trans d).mono (by omega))
  clear d
  refine ⟨_, rfl, ?_⟩
  refine Sp.L.pure (by kernel_rfl) (Sp.Runs.assign rfl) ?_
  refine Sp.L.nil ?_
  refine hK3 _ _ (Sp.Cd.sub (S' := [(2, _)]) ⟨rfl, trivial⟩ ?_)
  clear hK3 K3
  refine Sp.Cd.ret ?_
  refine Sp.Rt.body rfl rfl ?_
  exact ⟨_, wf1, rfl, HE _ _ D.out⟩

set_option maxRecDepth 20000 in
set_option maxHeartbeats 4000000 in
theorem drawCountAtRest_p (w0 : World) (a : Option Addr) (len cap : Nat) (hl : len ≤ 9223372036854775807) (hb : Bytes w0 a len) :
    Calls Try.prog 59 #[.slice a len cap] w0 fun e w' => ∃ x : Int, (Lit.int .i64 x).wf = true ∧ e = .returned (.int .i64 x) ∧ Below w0.heap.size w0 w' := by
  refine Sp.enter (N := 10) (args := [.slice a len cap]) Try.func59 rfl rfl (by kernel_rfl) ?_
  refine Sp.Cd.seq fun K1 hK1 => ?_
  refine Sp.Cd.region ?_
  refine Sp.L.pure (by kernel_rfl) (Sp.Runs.assign rfl) ?_
  refine Sp.L.nil ?_
  refine hK1 _ _ (Sp.Cd.sub (S' := [(0, _)]) ⟨rfl, trivial⟩ ?_)
  clear hK1 K1
  refine Sp.Cd.seq fun K2 hK2 => ?_
  refine Sp.Cd.region ?_
  refine Sp.L.pure (by kernel_rfl) (Sp.Runs.move rfl) ?_
  refine Sp.L.build1 rfl Sp.build_cur (by kernel_rfl) ?_
  refine Sp.L.box rfl Sp.box_cur (by kernel_rfl) ?_
  have D0 := drawn_refl (cur_new w0 a len cap hl hb)
  have HG : w0.heap.size < (w0.alloc (.cells #[.slice a len cap, .int .i64 0, .int .u64 0] 79)).heap.size := by rw [alloc_size]; omega
  have hb0 : ∀ w', Drawn (w0.alloc (.cells #[.slice a len cap, .int .i64 0, .int .u64 0] 79)) w' w0.heap.size (0 + 0) → True := fun _ _ => trivial
  clear hb0
  obtain ⟨wS, hwS⟩ : ∃ x, x = w0.alloc (.cells #[.slice a len cap, .int .i64 0, .int .u64 0] 79) := ⟨_, rfl⟩
  rw [← hwS] at D0 HG
  rw [← hwS]
  have HE : ∀ w' A', Drawn wS w' w0.heap.size A' → Below w0.heap.size w0 w' := fun w' A' d => by rw [hwS] at d; exact drawn_end d
  obtain ⟨g, hgg⟩ : ∃ x, x = w0.heap.size := ⟨_, rfl⟩
  rw [← hgg] at D0 HG HE
  rw [← hgg]
  replace HE : ∀ w' A', Drawn wS w' g A' → Below w0.heap.size w0 w' := fun w' A' d => by have h := HE w' A' d; rw [hgg] at h; exact h
  obtain ⟨w1, hw1⟩ : ∃ x, x = wS := ⟨_, rfl⟩
  have D : Hid (Drawn wS w1 g (0 + 0)) := Lib.hid (by rw [hw1]; exact D0)
  rw [← hw1]
  clear D0 hwS hw1 hgg hb
  refine Sp.L.pure (by kernel_rfl) (Sp.Runs.assign rfl) ?_
  refine Sp.L.nil ?_
  refine hK2 _ _ (Sp.Cd.sub (S' := [(3, _)]) ⟨rfl, trivial⟩ ?_)
  clear hK2 K2
  refine Sp.Cd.seq fun K3 hK3 => ?_
  refine Sp.Cd.region ?_
  refine Sp.L.pure (by kernel_rfl) (Sp.Runs.move rfl) ?_
  have CL := among_lit wS w1 g (0 + 0) 8 [1, 2, 5, 12, 60, 61, 0, (-1)] rfl (by omega) (by omega) (by omega) HG D.out
  simp only [List.map_cons, List.map_nil] at CL
  refine Sp.L.lits (v := .slice (some ⟨w1.heap.size, 0, none⟩) 8 8) (w' := w1.alloc (.cells #[.int .i64 1, .int .i64 2, .int .i64 5, .int .i64 12, .int .i64 60, .int .i64 61, .int .i64 0, .int .i64 (-1)] 3)) rfl (by simp [go_sem]) (by kernel_rfl) ?_
  refine Sp.L.call (by kernel_rfl) (CL) rfl rfl (by kernel_rfl) ?_
  rintro e w2 ⟨x1, hx1, rfl, d⟩
  replace D : Hid (Drawn wS w2 g (0 + 2)) := Lib.hid ((d).mono (by omega))
  clear d
  clear CL
  have wf1 := wf_mem (by decide) hx1
  refine ⟨_, rfl, ?_⟩
  refine Sp.L.pure (by kernel_rfl) (Sp.Runs.assign rfl) ?_
  refine Sp.L.nil ?_
  refine hK3 _ _ (Sp.Cd.sub (S' := [(2, _)]) ⟨rfl, trivial⟩ ?_)
  clear hK3 K3
  refine Sp.Cd.ret ?_
  refine Sp.Rt.body rfl rfl ?_
  exact ⟨_, wf1, rfl, HE _ _ D.out⟩

set_option maxRecDepth 20000 in
set_option maxHeartbeats 4000000 in
theorem drawCountByTicks_p (w0 : World) (a : Option Addr) (len cap : Nat) (hl : len ≤ 9223372036854775807) (hb : Bytes w0 a len) :
    Calls Try.prog 56 #[.slice a len cap] w0 fun e w' => ∃ x y : Int, (Lit.int .i64 x).wf = true ∧ (Lit.int .i64 y).wf = true ∧ e = .returned (.tuple #[.int .i64 x, .int .i64 y]) ∧ Below w0.heap.size w0 w' := by
  refine Sp.enter (N := 13) (args := [.slice a len cap]) Try.func56 rfl rfl (by kernel_rfl) ?_
  refine Sp.Cd.seq fun K1 hK1 => ?_
  refine Sp.Cd.region ?_
  refine Sp.L.pure (by kernel_rfl) (Sp.Runs.assign rfl) ?_
  refine Sp.L.pure (by kernel_rfl) (Sp.Runs.assign rfl) ?_
  refine Sp.L.nil ?_
  refine hK1 _ _ (Sp.Cd.sub (S' := [(0, _)]) ⟨rfl, trivial⟩ ?_)
  clear hK1 K1
  refine Sp.Cd.seq fun K2 hK2 => ?_
  refine Sp.Cd.region ?_
  refine Sp.L.pure (by kernel_rfl) (Sp.Runs.move rfl) ?_
  refine Sp.L.build1 rfl Sp.build_cur (by kernel_rfl) ?_
  refine Sp.L.box rfl Sp.box_cur (by kernel_rfl) ?_
  have D0 := drawn_refl (cur_new w0 a len cap hl hb)
  have HG : w0.heap.size < (w0.alloc (.cells #[.slice a len cap, .int .i64 0, .int .u64 0] 79)).heap.size := by rw [alloc_size]; omega
  have hb0 : ∀ w', Drawn (w0.alloc (.cells #[.slice a len cap, .int .i64 0, .int .u64 0] 79)) w' w0.heap.size (0 + 0) → True := fun _ _ => trivial
  clear hb0
  obtain ⟨wS, hwS⟩ : ∃ x, x = w0.alloc (.cells #[.slice a len cap, .int .i64 0, .int .u64 0] 79) := ⟨_, rfl⟩
  rw [← hwS] at D0 HG
  rw [← hwS]
  have HE : ∀ w' A', Drawn wS w' w0.heap.size A' → Below w0.heap.size w0 w' := fun w' A' d => by rw [hwS] at d; exact drawn_end d
  obtain ⟨g, hgg⟩ : ∃ x, x = w0.heap.size := ⟨_, rfl⟩
  rw [← hgg] at D0 HG HE
  rw [← hgg]
  replace HE : ∀ w' A', Drawn wS w' g A' → Below w0.heap.size w0 w' := fun w' A' d => by have h := HE w' A' d; rw [hgg] at h; exact h
  obtain ⟨w1, hw1⟩ : ∃ x, x = wS := ⟨_, rfl⟩
  have D : Hid (Drawn wS w1 g (0 + 0)) := Lib.hid (by rw [hw1]; exact D0)
  rw [← hw1]
  clear D0 hwS hw1 hgg hb
  refine Sp.L.pure (by kernel_rfl) (Sp.Runs.assign rfl) ?_
  refine Sp.L.nil ?_
  refine hK2 _ _ (Sp.Cd.sub (S' := [(4, _)]) ⟨rfl, trivial⟩ ?_)
  clear hK2 K2
  refine Sp.Cd.seq fun K3 hK3 => ?_
  refine Sp.Cd.region ?_
  refine Sp.L.pure (by kernel_rfl) (Sp.Runs.move rfl) ?_
  refine Sp.L.call (by kernel_rfl) (soldiers_p w1 g (0 + 0) (by omega) D.out.cur) rfl rfl (by kernel_rfl) ?_
  rintro e w2 ⟨x1, wf1, rfl, d⟩
  replace D : Hid (Drawn wS w2 g (0 + 2)) := Lib.hid ((D.out.trans d).mono (by omega))
  clear d
  refine ⟨_, rfl, ?_⟩
  refine Sp.L.pure (by kernel_rfl) (Sp.Runs.move rfl) ?_
  have CL := among_lit wS w2 g (0 + 2) 10 [0, 1, 2, 3, 4, 5, 8, 1000, 1001, (-1)] rfl (by omega) (by omega) (by omega) HG D.out
  simp only [List.map_cons, List.map_nil] at CL
  refine Sp.L.lits (v := .slice (some ⟨w2.heap.size, 0, none⟩) 10 10) (w' := w2.alloc (.cells #[.int .i64 0, .int .i64 1, .int .i64 2, .int .i64 3, .int .i64 4, .int .i64 5, .int .i64 8, .int .i64 1000, .int .i64 1001, .int .i64 (-1)] 3)) rfl (by simp [go_sem]) (by kernel_rfl) ?_
  refine Sp.L.call (by kernel_rfl) (CL) rfl rfl (by kernel_rfl) ?_
  rintro e w3 ⟨x2, hx2, rfl, d⟩
  replace D : Hid (Drawn wS w3 g (0 + 4)) := Lib.hid ((d).mono (by omega))
  clear d
  clear CL
  have wf2 := wf_mem (by decide) hx2
  refine ⟨_, rfl, ?_⟩
  refine Sp.L.pure (by kernel_rfl) (Sp.Runs.assign rfl) ?_
  refine Sp.L.pure (by kernel_rfl) (Sp.Runs.assign rfl) ?_
  refine Sp.L.nil ?_
  refine hK3 _ _ (Sp.Cd.sub (S' := [(2, _), (3, _)]) ⟨rfl, rfl, trivial⟩ ?_)
  clear hK3 K3
  refine Sp.Cd.ret ?_
  refine Sp.Rt.body2 rfl rfl ?_
  exact ⟨_, _, wf1, wf2, rfl, HE _ _ D.out⟩
end Go.Proofs.Ytacchefmblfobaa
