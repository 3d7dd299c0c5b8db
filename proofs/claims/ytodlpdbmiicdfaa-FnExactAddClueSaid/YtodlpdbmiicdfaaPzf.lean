/- Chapter 9, the model: Solutions, CountSolutions, FirstSolution, IsSolved. -/
import Derived.Test.YtodlpdbmiicdfaaPze
namespace Go.Proofs.Ytodlpdbmiicdfaa
open Go.ChangeShapes Go.WideShapes Go.ChangeAt Go.RowKit
open Pz

def outSolutions_1 (s : Int) (cs : List RClue) : Bool := goodP s cs
def outSolutions_0 (s : Int) (cs : List RClue) : List ByteArray := if goodP s cs then solL s.toNat cs else []
theorem lenSolutions_0 (s : Int) (cs : List RClue) : (outSolutions_0 s cs).length ≤ 1048576 := by
  unfold outSolutions_0
  split
  · rename_i h
    obtain ⟨⟨n, rfl, _, h8⟩, _⟩ := pz_of h
    have := solL_le h8 cs
    rw [Int.toNat_natCast]; omega
  · simp
set_option maxHeartbeats 2000000 in
theorem specSolutions_any (w : World) (s : Int) (a : Option Addr) (len cap : Nat) (cs : List RClue) (hl : len ≤ 1048576) (hc : CameClue w a len cs) :
    Calls Try.prog 29 #[.agg #[.int .i64 s, .slice a len cap]] w fun e w' => ∃ v0, e = .returned (.tuple #[v0, .bool (outSolutions_1 s cs)]) ∧ OwnT w' w.heap.size v0 (outSolutions_0 s cs) ∧ Below w.heap.size w w' := by
  obtain ⟨w0, hw0⟩ : ∃ w0, w0 = w.alloc (.cells #[.int .i64 s, .slice a len cap] 35) := ⟨_, rfl⟩
  have HW0 : Hid (Below w.heap.size w w0) := Lib.hid (by rw [hw0]; exact (Below.refl _ _).alloc (Nat.le_refl _) _)
  obtain ⟨pb, hpb⟩ : ∃ pb, pb = w.heap.size := ⟨_, rfl⟩
  have HPC : Hid (∀ w2, Below w0.heap.size w0 w2 → w2.cell? ⟨pb, 0, none⟩ = some (.int .i64 s) ∧ w2.cell? ⟨pb, 1, none⟩ = some (.slice a len cap)) := Lib.hid (fun w2 h => by
    have c0 : w0.cell? ⟨pb, 0, none⟩ = some (.int .i64 s) := by rw [hw0, hpb, World.cell?_alloc_new]; rfl
    have c1 : w0.cell? ⟨pb, 1, none⟩ = some (.slice a len cap) := by rw [hw0, hpb, World.cell?_alloc_new]; rfl
    exact ⟨(h.cell (World.block_lt_of_cell? _ _ c0)).trans c0, (h.cell (World.block_lt_of_cell? _ _ c1)).trans c1⟩)
  have HC : Hid (CameClue w0 a len cs) := Lib.hid (hc.below HW0.out)
  have HZ : Hid (cs.length = len) := Lib.hid hc.1
  have HG := Lib.hid (pzGood_any w0 s a len cap cs hl HC.out)
  obtain ⟨c0, c1⟩ := HPC.out w0 (Below.refl _ _)
  clear hc
  rcases hb : goodP s cs with _ | _
  · have HE : Hid (outSolutions_1 s cs = false ∧ outSolutions_0 s cs = []) := Lib.hid (by unfold outSolutions_0 outSolutions_1; rw [hb]; exact ⟨rfl, rfl⟩)
    rw [hb] at HG
    clear hb
    go_enter Try.func29, Try.ntmps29
    go_wp2_with fail
    rw [← hw0, ← hpb]
    clear hw0 hpb
    go_at_call 47
    refine HG.out.mono ?_
    rintro e w2 ⟨rfl, b2⟩
    have B2 : Hid (Below w.heap.size w w2) := Lib.hid (HW0.out.trans (b2.mono HW0.out.size))
    clear b2
    go_wp2
    go_ret2
    exact ⟨_, by rw [HE.out.1]; exact rfl, by rw [HE.out.2]; exact ownT_nil _ _, B2.out⟩
  obtain ⟨⟨n, rfl, hn1, hn8⟩, hl6, hcl⟩ := pz_of hb
  have hl6' : len ≤ 6 := by have := HZ.out; omega
  have HE : Hid (outSolutions_1 (n : Int) cs = true ∧ outSolutions_0 (n : Int) cs = solL n cs) := Lib.hid (by unfold outSolutions_0 outSolutions_1; rw [hb]; exact ⟨rfl, rfl⟩)
  have HA := Lib.hid (fun w2 (h : Below w0.heap.size w0 w2) => pzAll_any w2 n hn1 hn8 a len cap cs hl6' hcl (HC.out.below h))
  have hsl := solL_le hn8 cs
  rw [hb] at HG
  clear hb hcl
  go_enter Try.func29, Try.ntmps29
  go_wp2_with fail
  rw [← hw0, ← hpb]
  clear hw0 hpb
  go_at_call 47
  refine HG.out.mono ?_
  rintro e w2 ⟨rfl, b2⟩
  have HAL := Lib.hid (HA.out w2 b2)
  clear c0 c1
  obtain ⟨c0, c1⟩ := HPC.out w2 b2
  have B2 : Hid (Below w.heap.size w w2) := Lib.hid (HW0.out.trans (b2.mono HW0.out.size))
  clear b2
  go_wp2_with fail
  go_at_call 60
  refine HAL.out.mono ?_
  rintro e w3 ⟨v, rfl, o3, b3⟩
  have B3 : Hid (Below w.heap.size w w3) := Lib.hid (B2.out.trans (b3.mono B2.out.size))
  have O3 := Lib.hid (o3.mono B2.out.size)
  clear o3 b3
  go_wp2
  go_ret2
  exact ⟨_, by rw [HE.out.1]; exact rfl, by rw [HE.out.2]; exact O3.out, B3.out⟩

def outCountSolutions_1 (s : Int) (cs : List RClue) : Bool := goodP s cs
def outCountSolutions_0 (s : Int) (cs : List RClue) : Int := if goodP s cs then ((solL s.toNat cs).length : Nat) else 0
set_option maxHeartbeats 2000000 in
theorem specCountSolutions_any (w : World) (s : Int) (a : Option Addr) (len cap : Nat) (cs : List RClue) (hl : len ≤ 1048576) (hc : CameClue w a len cs) :
    Calls Try.prog 34 #[.agg #[.int .i64 s, .slice a len cap]] w fun e w' => e = .returned (.tuple #[.int .i64 (outCountSolutions_0 s cs), .bool (outCountSolutions_1 s cs)]) ∧ Below w.heap.size w w' := by
  obtain ⟨w0, hw0⟩ : ∃ w0, w0 = w.alloc (.cells #[.int .i64 s, .slice a len cap] 35) := ⟨_, rfl⟩
  have HW0 : Hid (Below w.heap.size w w0) := Lib.hid (by rw [hw0]; exact (Below.refl _ _).alloc (Nat.le_refl _) _)
  obtain ⟨pb, hpb⟩ : ∃ pb, pb = w.heap.size := ⟨_, rfl⟩
  have HPC : Hid (∀ w2, Below w0.heap.size w0 w2 → w2.cell? ⟨pb, 0, none⟩ = some (.int .i64 s) ∧ w2.cell? ⟨pb, 1, none⟩ = some (.slice a len cap)) := Lib.hid (fun w2 h => by
    have c0 : w0.cell? ⟨pb, 0, none⟩ = some (.int .i64 s) := by rw [hw0, hpb, World.cell?_alloc_new]; rfl
    have c1 : w0.cell? ⟨pb, 1, none⟩ = some (.slice a len cap) := by rw [hw0, hpb, World.cell?_alloc_new]; rfl
    exact ⟨(h.cell (World.block_lt_of_cell? _ _ c0)).trans c0, (h.cell (World.block_lt_of_cell? _ _ c1)).trans c1⟩)
  have HC : Hid (CameClue w0 a len cs) := Lib.hid (hc.below HW0.out)
  have HZ : Hid (cs.length = len) := Lib.hid hc.1
  have HG := Lib.hid (pzGood_any w0 s a len cap cs hl HC.out)
  obtain ⟨c0, c1⟩ := HPC.out w0 (Below.refl _ _)
  clear hc
  rcases hb : goodP s cs with _ | _
  · have HE : Hid (outCountSolutions_1 s cs = false ∧ outCountSolutions_0 s cs = 0) := Lib.hid (by unfold outCountSolutions_0 outCountSolutions_1; rw [hb]; exact ⟨rfl, rfl⟩)
    rw [hb] at HG
    clear hb
    go_enter Try.func34, Try.ntmps34
    go_wp2_with fail
    rw [← hw0, ← hpb]
    clear hw0 hpb
    go_at_call 47
    refine HG.out.mono ?_
    rintro e w2 ⟨rfl, b2⟩
    have B2 : Hid (Below w.heap.size w w2) := Lib.hid (HW0.out.trans (b2.mono HW0.out.size))
    clear b2
    go_wp2
    go_ret2
    exact ⟨by rw [HE.out.1, HE.out.2]; exact rfl, B2.out⟩
  obtain ⟨⟨n, rfl, hn1, hn8⟩, hl6, hcl⟩ := pz_of hb
  have hl6' : len ≤ 6 := by have := HZ.out; omega
  have HE : Hid (outCountSolutions_1 (n : Int) cs = true ∧ outCountSolutions_0 (n : Int) cs = ((solL n cs).length : Nat)) := Lib.hid (by unfold outCountSolutions_0 outCountSolutions_1; rw [hb]; exact ⟨rfl, rfl⟩)
  have HA := Lib.hid (fun w2 (h : Below w0.heap.size w0 w2) => pzAll_any w2 n hn1 hn8 a len cap cs hl6' hcl (HC.out.below h))
  have hsl := solL_le hn8 cs
  rw [hb] at HG
  clear hb hcl
  go_enter Try.func34, Try.ntmps34
  go_wp2_with fail
  rw [← hw0, ← hpb]
  clear hw0 hpb
  go_at_call 47
  refine HG.out.mono ?_
  rintro e w2 ⟨rfl, b2⟩
  have HAL := Lib.hid (HA.out w2 b2)
  clear c0 c1
  obtain ⟨c0, c1⟩ := HPC.out w2 b2
  have B2 : Hid (Below w.heap.size w w2) := Lib.hid (HW0.out.trans (b2.mono HW0.out.size))
  clear b2
  go_wp2_with fail
  go_at_call 60
  refine HAL.out.mono ?_
  rintro e w3 ⟨v, rfl, o3, b3⟩
  have B3 : Hid (Below w.heap.size w w3) := Lib.hid (B2.out.trans (b3.mono B2.out.size))
  obtain ⟨ao, cp, rfl, _⟩ := o3.read
  clear o3 b3
  go_wp2
  go_ret2
  exact ⟨by rw [HE.out.1, HE.out.2]; exact rfl, B3.out⟩

def outFirstSolution_1 (s : Int) (cs : List RClue) : Bool := goodP s cs && decide (0 < (solL s.toNat cs).length)
def outFirstSolution_0 (s : Int) (cs : List RClue) : ByteArray := if outFirstSolution_1 s cs then (solL s.toNat cs).getD 0 ByteArray.empty else ByteArray.empty
set_option maxHeartbeats 2000000 in
theorem specFirstSolution_any (w : World) (s : Int) (a : Option Addr) (len cap : Nat) (cs : List RClue) (hl : len ≤ 1048576) (hc : CameClue w a len cs) :
    Calls Try.prog 36 #[.agg #[.int .i64 s, .slice a len cap]] w fun e w' => e = .returned (.tuple #[.string (outFirstSolution_0 s cs), .bool (outFirstSolution_1 s cs)]) ∧ Below w.heap.size w w' := by
  obtain ⟨w0, hw0⟩ : ∃ w0, w0 = w.alloc (.cells #[.int .i64 s, .slice a len cap] 35) := ⟨_, rfl⟩
  have HW0 : Hid (Below w.heap.size w w0) := Lib.hid (by rw [hw0]; exact (Below.refl _ _).alloc (Nat.le_refl _) _)
  obtain ⟨pb, hpb⟩ : ∃ pb, pb = w.heap.size := ⟨_, rfl⟩
  have HPC : Hid (∀ w2, Below w0.heap.size w0 w2 → w2.cell? ⟨pb, 0, none⟩ = some (.int .i64 s) ∧ w2.cell? ⟨pb, 1, none⟩ = some (.slice a len cap)) := Lib.hid (fun w2 h => by
    have c0 : w0.cell? ⟨pb, 0, none⟩ = some (.int .i64 s) := by rw [hw0, hpb, World.cell?_alloc_new]; rfl
    have c1 : w0.cell? ⟨pb, 1, none⟩ = some (.slice a len cap) := by rw [hw0, hpb, World.cell?_alloc_new]; rfl
    exact ⟨(h.cell (World.block_lt_of_cell? _ _ c0)).trans c0, (h.cell (World.block_lt_of_cell? _ _ c1)).trans c1⟩)
  have HC : Hid (CameClue w0 a len cs) := Lib.hid (hc.below HW0.out)
  have HZ : Hid (cs.length = len) := Lib.hid hc.1
  have HG := Lib.hid (pzGood_any w0 s a len cap cs hl HC.out)
  obtain ⟨c0, c1⟩ := HPC.out w0 (Below.refl _ _)
  clear hc
  rcases hb : goodP s cs with _ | _
  · have HE : Hid (outFirstSolution_1 s cs = false ∧ outFirstSolution_0 s cs = ByteArray.empty) := Lib.hid (by unfold outFirstSolution_0 outFirstSolution_1; rw [hb]; exact ⟨rfl, rfl⟩)
    rw [hb] at HG
    clear hb
    go_enter Try.func36, Try.ntmps36
    go_wp2_with fail
    rw [← hw0, ← hpb]
    clear hw0 hpb
    go_at_call 47
    refine HG.out.mono ?_
    rintro e w2 ⟨rfl, b2⟩
    have B2 : Hid (Below w.heap.size w w2) := Lib.hid (HW0.out.trans (b2.mono HW0.out.size))
    clear b2
    go_wp2
    go_ret2
    exact ⟨by rw [HE.out.1, HE.out.2]; exact rfl, B2.out⟩
  obtain ⟨⟨n, rfl, hn1, hn8⟩, hl6, hcl⟩ := pz_of hb
  have hl6' : len ≤ 6 := by have := HZ.out; omega
  have HE : Hid (outFirstSolution_1 (n : Int) cs = decide (0 < (solL n cs).length) ∧ outFirstSolution_0 (n : Int) cs = if decide (0 < (solL n cs).length) then (solL n cs).getD 0 ByteArray.empty else ByteArray.empty) := Lib.hid (by unfold outFirstSolution_0 outFirstSolution_1; rw [hb]; exact ⟨rfl, rfl⟩)
  have HA := Lib.hid (fun w2 (h : Below w0.heap.size w0 w2) => pzAll_any w2 n hn1 hn8 a len cap cs hl6' hcl (HC.out.below h))
  have hsl := solL_le hn8 cs
  rw [hb] at HG
  clear hb hcl
  go_enter Try.func36, Try.ntmps36
  go_wp2_with fail
  rw [← hw0, ← hpb]
  clear hw0 hpb
  go_at_call 47
  refine HG.out.mono ?_
  rintro e w2 ⟨rfl, b2⟩
  have HAL := Lib.hid (HA.out w2 b2)
  clear c0 c1
  obtain ⟨c0, c1⟩ := HPC.out w2 b2
  have B2 : Hid (Below w.heap.size w w2) := Lib.hid (HW0.out.trans (b2.mono HW0.out.size))
  clear b2
  go_wp2_with fail
  go_at_call 60
  refine HAL.out.mono ?_
  rintro e w3 ⟨v, rfl, o3, b3⟩
  have B3 : Hid (Below w.heap.size w w3) := Lib.hid (B2.out.trans (b3.mono B2.out.size))
  obtain ⟨ao, cp, rfl, hrd⟩ := o3.read
  have HRD := Lib.hid hrd
  clear o3 b3 hrd
  by_cases h0 : (solL n cs).length = 0
  · have HE2 : Hid (outFirstSolution_1 (n : Int) cs = false ∧ outFirstSolution_0 (n : Int) cs = ByteArray.empty) := Lib.hid (by rw [HE.out.1, HE.out.2, h0]; exact ⟨rfl, rfl⟩)
    rw [h0]
    clear h0 HE hsl
    go_wp2
    go_ret2
    exact ⟨by rw [HE2.out.1, HE2.out.2]; exact rfl, B3.out⟩
  · have hp : 0 < (solL n cs).length := by omega
    have HE2 : Hid (outFirstSolution_1 (n : Int) cs = true ∧ outFirstSolution_0 (n : Int) cs = (solL n cs).getD 0 ByteArray.empty) := Lib.hid (by rw [HE.out.1, HE.out.2, decide_eq_true hp]; exact ⟨rfl, rfl⟩)
    obtain ⟨g, rfl, _, _, hcell⟩ := HRD.out hp
    have e0 := hcell 0 hp
    obtain ⟨z, hz⟩ : ∃ z, z = (solL n cs).getD 0 ByteArray.empty := ⟨_, rfl⟩
    rw [← hz] at e0 HE2
    obtain ⟨m, hm⟩ : ∃ m, m = (solL n cs).length := ⟨_, rfl⟩
    rw [← hm] at hp hsl h0 ⊢
    have i1 : (0 : Int) < (m : Int) := by omega
    have i2 : ((m : Int) == 0) = false := by rw [beq_eq_false_iff_ne]; omega
    clear hcell hz hm HE h0
    go_wp2
    go_ret2
    exact ⟨by rw [HE2.out.1, HE2.out.2]; exact rfl, B3.out⟩

set_option maxHeartbeats 1000000 in
theorem pzSolved_any (w : World) (n : Nat) (h1 : 1 ≤ n) (h8 : n ≤ 8) (a : Option Addr) (len cap : Nat) (cs : List RClue) (hl : len ≤ 6) (hcl : ∀ k, k < cs.length → clueB (n : Int) (cs.getD k zClue) = true) (hc : CameClue w a len cs) :
    Calls Try.prog 67 #[.int .i64 (n : Int), .slice a len cap] w fun e w' => e = .returned (.bool (decide ((solL n cs).length = 1))) ∧ Below w.heap.size w w' := by
  have HA := Lib.hid (pzAll_any w n h1 h8 a len cap cs hl hcl hc)
  have hsl := solL_le h8 cs
  clear hc hcl
  go_enter Try.func67, Try.ntmps67
  go_wp2_with fail
  go_at_call 60
  refine HA.out.mono ?_
  rintro e w3 ⟨v, rfl, o3, b3⟩
  have B3 := Lib.hid b3
  obtain ⟨ao, cp, rfl, _⟩ := o3.read
  clear o3 b3
  obtain ⟨m, hm⟩ : ∃ m, m = (solL n cs).length := ⟨_, rfl⟩
  have HD0 : Hid (decide ((solL n cs).length = 1) = decide (m = 1)) := Lib.hid (by rw [hm])
  rw [← hm] at hsl ⊢
  clear hm
  by_cases h : m = 1
  · subst h
    go_wp2
    go_ret
    exact ⟨ret_bool (by rw [HD0.out]; rfl), B3.out⟩
  · have i1 : ((m : Int) == 1) = false := by rw [beq_eq_false_iff_ne]; omega
    have HD : Hid (decide (m = 1) = false) := Lib.hid (decide_eq_false h)
    go_wp2
    go_ret
    exact ⟨ret_bool (by rw [HD0.out, HD.out]), B3.out⟩

def outIsSolved_1 (s : Int) (cs : List RClue) : Bool := goodP s cs
def outIsSolved_0 (s : Int) (cs : List RClue) : Bool := goodP s cs && decide ((solL s.toNat cs).length = 1)
set_option maxHeartbeats 2000000 in
theorem specIsSolved_any (w : World) (s : Int) (a : Option Addr) (len cap : Nat) (cs : List RClue) (hl : len ≤ 1048576) (hc : CameClue w a len cs) :
    Calls Try.prog 40 #[.agg #[.int .i64 s, .slice a len cap]] w fun e w' => e = .returned (.tuple #[.bool (outIsSolved_0 s cs), .bool (outIsSolved_1 s cs)]) ∧ Below w.heap.size w w' := by
  obtain ⟨w0, hw0⟩ : ∃ w0, w0 = w.alloc (.cells #[.int .i64 s, .slice a len cap] 35) := ⟨_, rfl⟩
  have HW0 : Hid (Below w.heap.size w w0) := Lib.hid (by rw [hw0]; exact (Below.refl _ _).alloc (Nat.le_refl _) _)
  obtain ⟨pb, hpb⟩ : ∃ pb, pb = w.heap.size := ⟨_, rfl⟩
  have HPC : Hid (∀ w2, Below w0.heap.size w0 w2 → w2.cell? ⟨pb, 0, none⟩ = some (.int .i64 s) ∧ w2.cell? ⟨pb, 1, none⟩ = some (.slice a len cap)) := Lib.hid (fun w2 h => by
    have c0 : w0.cell? ⟨pb, 0, none⟩ = some (.int .i64 s) := by rw [hw0, hpb, World.cell?_alloc_new]; rfl
    have c1 : w0.cell? ⟨pb, 1, none⟩ = some (.slice a len cap) := by rw [hw0, hpb, World.cell?_alloc_new]; rfl
    exact ⟨(h.cell (World.block_lt_of_cell? _ _ c0)).trans c0, (h.cell (World.block_lt_of_cell? _ _ c1)).trans c1⟩)
  have HC : Hid (CameClue w0 a len cs) := Lib.hid (hc.below HW0.out)
  have HZ : Hid (cs.length = len) := Lib.hid hc.1
  have HG := Lib.hid (pzGood_any w0 s a len cap cs hl HC.out)
  obtain ⟨c0, c1⟩ := HPC.out w0 (Below.refl _ _)
  clear hc
  rcases hb : goodP s cs with _ | _
  · have HE : Hid (outIsSolved_1 s cs = false ∧ outIsSolved_0 s cs = false) := Lib.hid (by unfold outIsSolved_0 outIsSolved_1; rw [hb]; exact ⟨rfl, rfl⟩)
    rw [hb] at HG
    clear hb
    go_enter Try.func40, Try.ntmps40
    go_wp2_with fail
    rw [← hw0, ← hpb]
    clear hw0 hpb
    go_at_call 47
    refine HG.out.mono ?_
    rintro e w2 ⟨rfl, b2⟩
    have B2 : Hid (Below w.heap.size w w2) := Lib.hid (HW0.out.trans (b2.mono HW0.out.size))
    clear b2
    go_wp2
    go_ret2
    exact ⟨by rw [HE.out.1, HE.out.2]; exact rfl, B2.out⟩
  obtain ⟨⟨n, rfl, hn1, hn8⟩, hl6, hcl⟩ := pz_of hb
  have hl6' : len ≤ 6 := by have := HZ.out; omega
  have HE : Hid (outIsSolved_1 (n : Int) cs = true ∧ outIsSolved_0 (n : Int) cs = decide ((solL n cs).length = 1)) := Lib.hid (by unfold outIsSolved_0 outIsSolved_1; rw [hb]; exact ⟨rfl, rfl⟩)
  have HA := Lib.hid (fun w2 (h : Below w0.heap.size w0 w2) => pzSolved_any w2 n hn1 hn8 a len cap cs hl6' hcl (HC.out.below h))
  have hsl := solL_le hn8 cs
  rw [hb] at HG
  clear hb hcl
  go_enter Try.func40, Try.ntmps40
  go_wp2_with fail
  rw [← hw0, ← hpb]
  clear hw0 hpb
  go_at_call 47
  refine HG.out.mono ?_
  rintro e w2 ⟨rfl, b2⟩
  have HAL := Lib.hid (HA.out w2 b2)
  clear c0 c1
  obtain ⟨c0, c1⟩ := HPC.out w2 b2
  have B2 : Hid (Below w.heap.size w w2) := Lib.hid (HW0.out.trans (b2.mono HW0.out.size))
  clear b2
  go_wp2_with fail
  go_at_call 67
  refine HAL.out.mono ?_
  rintro e w3 ⟨rfl, b3⟩
  have B3 : Hid (Below w.heap.size w w3) := Lib.hid (B2.out.trans (b3.mono B2.out.size))
  clear b3
  go_wp2
  go_ret2
  exact ⟨by rw [HE.out.1, HE.out.2]; exact rfl, B3.out⟩

end Go.Proofs.Ytodlpdbmiicdfaa
