/- Chapter 9: the model's AddClue. -/
import Derived.Test.YtodlpdbmiicdfaaPzj
namespace Go.Proofs.Ytodlpdbmiicdfaa
open Go.ChangeShapes Go.WideShapes Go.ChangeAt Go.RowKit
open Pz

theorem below_likeC {B : Nat} {w0 w w' : World} (h : Below B w0 w) (e1 : w'.os = w.os) (e2 : w'.tape = w.tape) (e3 : w'.output = w.output) (e4 : w'.heap = w.heap) : Below B w0 w' :=
  ⟨e1.trans h.os, e2.trans h.tape, e3.trans h.output, by rw [e4]; exact h.size, fun k hk => by rw [e4]; exact h.block k hk⟩
theorem src_keepC {W w5 : World} {N : Nat} {r : Option Nat} {L : List Value} (h : ∀ j u, L[j]? = some u → W.cell? ((⟨N, 0, none⟩ : Addr).add j) = some u) (hG : W.grownBy w5 r) (hr : some N ≠ r) : ∀ j u, L[j]? = some u → w5.cell? ((⟨N, 0, none⟩ : Addr).add j) = some u := by
  intro j u hj
  have h1 := h j u hj
  rw [Addr.add_mid] at h1 ⊢
  exact (World.cell?_of_block (hG.block N (World.block_lt_of_cell? W _ h1) hr)).trans h1
/-- behind three boxes: a puzzle, a clue, a result -/
def KZ3 (w : World) (s : Int) (a : Option Addr) (len cap : Nat) (x0 x1 x2 x3 : Int) (w2 : World) : Prop := Below (((w.alloc (.cells #[.int .i64 s, .slice a len cap] 35)).alloc (.cells #[.int .i64 x0, .int .i64 x1, .int .i64 x2, .int .i64 x3] 25)).alloc (.cells #[.int .i64 0, .slice none 0 0] 35)).heap.size (((w.alloc (.cells #[.int .i64 s, .slice a len cap] 35)).alloc (.cells #[.int .i64 x0, .int .i64 x1, .int .i64 x2, .int .i64 x3] 25)).alloc (.cells #[.int .i64 0, .slice none 0 0] 35)) w2
theorem KZ3.more {w w2 w3 : World} {s : Int} {a : Option Addr} {len cap : Nat} {x0 x1 x2 x3 : Int} (h : KZ3 w s a len cap x0 x1 x2 x3 w2) (b : Below w2.heap.size w2 w3) : KZ3 w s a len cap x0 x1 x2 x3 w3 := Below.trans h (b.mono h.size)
theorem KZ3.one {w w2 : World} {s : Int} {a : Option Addr} {len cap : Nat} {x0 x1 x2 x3 : Int} (h : KZ3 w s a len cap x0 x1 x2 x3 w2) : KZ w s a len cap w2 :=
  (((Below.refl (w.alloc (.cells #[.int .i64 s, .slice a len cap] 35)).heap.size _).alloc (Nat.le_refl _) (.cells #[.int .i64 x0, .int .i64 x1, .int .i64 x2, .int .i64 x3] 25)).alloc (by simp only [pz_size1]; omega) (.cells #[.int .i64 0, .slice none 0 0] 35)).trans (h.mono (by simp only [pz_size1]; omega))
theorem KZ3.big {w w2 : World} {s : Int} {a : Option Addr} {len cap : Nat} {x0 x1 x2 x3 : Int} (h : KZ3 w s a len cap x0 x1 x2 x3 w2) : w.heap.size + 3 ≤ w2.heap.size := by
  have := Below.size h; simp only [pz_size1] at this; exact this
theorem KZ3.clue {w w2 : World} {s : Int} {a : Option Addr} {len cap : Nat} {x0 x1 x2 x3 : Int} (h : KZ3 w s a len cap x0 x1 x2 x3 w2) : w2.heap[w.heap.size + 1]? = some (.cells #[.int .i64 x0, .int .i64 x1, .int .i64 x2, .int .i64 x3] 25) := by
  have h1 := heap_alloc_new (w.alloc (.cells #[.int .i64 s, .slice a len cap] 35)) (.cells #[.int .i64 x0, .int .i64 x1, .int .i64 x2, .int .i64 x3] 25)
  rw [pz_size1] at h1
  refine (Below.block h (w.heap.size + 1) (by simp only [pz_size1]; omega)).trans ?_
  exact (heap_alloc_old _ _ (by simp only [pz_size1]; omega)).trans h1
theorem KZ3.res {w w2 : World} {s : Int} {a : Option Addr} {len cap : Nat} {x0 x1 x2 x3 : Int} (h : KZ3 w s a len cap x0 x1 x2 x3 w2) : w2.heap[w.heap.size + 2]? = some (.cells #[.int .i64 0, .slice none 0 0] 35) := by
  have h1 := heap_alloc_new ((w.alloc (.cells #[.int .i64 s, .slice a len cap] 35)).alloc (.cells #[.int .i64 x0, .int .i64 x1, .int .i64 x2, .int .i64 x3] 25)) (.cells #[.int .i64 0, .slice none 0 0] 35)
  simp only [pz_size1] at h1
  exact (Below.block h (w.heap.size + 2) (by simp only [pz_size1]; omega)).trans h1
theorem KZ3.held {w w2 : World} {s : Int} {a : Option Addr} {len cap : Nat} {x0 x1 x2 x3 : Int} (h : KZ3 w s a len cap x0 x1 x2 x3 w2) : w2.cell? ⟨w.heap.size, 0, none⟩ = some (.int .i64 s) ∧ w2.cell? ⟨w.heap.size, 1, none⟩ = some (.slice a len cap) ∧ w2.cell? ⟨w.heap.size + 1, 0, none⟩ = some (.int .i64 x0) ∧ w2.cell? ⟨w.heap.size + 1, 1, none⟩ = some (.int .i64 x1) ∧ w2.cell? ⟨w.heap.size + 1, 2, none⟩ = some (.int .i64 x2) ∧ w2.cell? ⟨w.heap.size + 1, 3, none⟩ = some (.int .i64 x3) :=
  ⟨h.one.c0, h.one.c1, by simp [World.cell?, h.clue], by simp [World.cell?, h.clue], by simp [World.cell?, h.clue], by simp [World.cell?, h.clue]⟩
theorem KZ3.ress {w w2 : World} {s : Int} {a : Option Addr} {len cap : Nat} {x0 x1 x2 x3 : Int} (h : KZ3 w s a len cap x0 x1 x2 x3 w2) : w2.cell? ⟨w.heap.size + 2, 0, none⟩ = some (.int .i64 0) ∧ w2.cell? ⟨w.heap.size + 2, 1, none⟩ = some (.slice none 0 0) ∧ w2.frozen? ⟨w.heap.size + 2, 0, none⟩ = false ∧ w2.frozen? ⟨w.heap.size + 2, 1, none⟩ = false :=
  ⟨by simp [World.cell?, h.res], by simp [World.cell?, h.res], by simp [World.frozen?, h.res], by simp [World.frozen?, h.res]⟩
theorem KZ3.far {w w2 : World} {s : Int} {a : Option Addr} {len cap : Nat} {x0 x1 x2 x3 : Int} (h : KZ3 w s a len cap x0 x1 x2 x3 w2) (u v : Value) :
    ((w2.setCell ⟨w.heap.size + 1 + 1, 0, none⟩ u).setCell ⟨w.heap.size + 1 + 1, 1, none⟩ v).cell? ⟨w.heap.size, 0, none⟩ = some (.int .i64 s) ∧ ((w2.setCell ⟨w.heap.size + 1 + 1, 0, none⟩ u).setCell ⟨w.heap.size + 1 + 1, 1, none⟩ v).cell? ⟨w.heap.size, 1, none⟩ = some (.slice a len cap) ∧ ((w2.setCell ⟨w.heap.size + 1 + 1, 0, none⟩ u).setCell ⟨w.heap.size + 1 + 1, 1, none⟩ v).cell? ⟨w.heap.size + 1, 0, none⟩ = some (.int .i64 x0) ∧ ((w2.setCell ⟨w.heap.size + 1 + 1, 0, none⟩ u).setCell ⟨w.heap.size + 1 + 1, 1, none⟩ v).cell? ⟨w.heap.size + 1, 1, none⟩ = some (.int .i64 x1) ∧ ((w2.setCell ⟨w.heap.size + 1 + 1, 0, none⟩ u).setCell ⟨w.heap.size + 1 + 1, 1, none⟩ v).cell? ⟨w.heap.size + 1, 2, none⟩ = some (.int .i64 x2) ∧ ((w2.setCell ⟨w.heap.size + 1 + 1, 0, none⟩ u).setCell ⟨w.heap.size + 1 + 1, 1, none⟩ v).cell? ⟨w.heap.size + 1, 3, none⟩ = some (.int .i64 x3) := by
  obtain ⟨c0, c1, d0, d1, d2, d3⟩ := h.held
  exact ⟨cell_far (cell_far c0 (by omega)) (by omega), cell_far (cell_far c1 (by omega)) (by omega), cell_far (cell_far d0 (by omega)) (by omega), cell_far (cell_far d1 (by omega)) (by omega), cell_far (cell_far d2 (by omega)) (by omega), cell_far (cell_far d3 (by omega)) (by omega)⟩

def okAddClue (s : Int) (cs : List RClue) (c : RClue) : Bool := goodP s cs && (clueB s c && !decide (cs.length = 6))
def outAddClue_0 (s : Int) (cs : List RClue) (c : RClue) : Int := if okAddClue s cs c then s else 0
def outAddClue_1 (s : Int) (cs : List RClue) (c : RClue) : List RClue := if okAddClue s cs c then cs ++ [c] else []
def outAddClue_2 (s : Int) (cs : List RClue) (c : RClue) : Bool := okAddClue s cs c
set_option maxHeartbeats 4000000 in
theorem specAddClue_any (w : World) (s : Int) (a : Option Addr) (len cap : Nat) (cs : List RClue) (x0 x1 x2 x3 : Int) (hl : len ≤ 1048576) (hc : CameClue w a len cs) (hcp : len ≤ cap ∧ cap ≤ 9223372036854775807) :
    Calls Try.prog 25 #[.agg #[.int .i64 s, .slice a len cap], .agg #[.int .i64 x0, .int .i64 x1, .int .i64 x2, .int .i64 x3]] w fun e w' => ∃ v0, e = .returned (.tuple #[.agg #[.int .i64 (outAddClue_0 s cs (x0, x1, x2, x3)), v0], .bool (outAddClue_2 s cs (x0, x1, x2, x3))]) ∧ OwnClue w' w.heap.size v0 (outAddClue_1 s cs (x0, x1, x2, x3)) ∧ Below w.heap.size w w' := by
  have HZ : Hid (cs.length = len) := Lib.hid hc.1
  have HG := Lib.hid (fun w2 (h : Below w.heap.size w w2) => pzGood_any w2 s a len cap cs hl (hc.below h))
  have HC := Lib.hid hc
  have HCP := Lib.hid hcp
  have HF : okAddClue s cs (x0, x1, x2, x3) = false → Hid (outAddClue_0 s cs (x0, x1, x2, x3) = 0 ∧ outAddClue_1 s cs (x0, x1, x2, x3) = [] ∧ outAddClue_2 s cs (x0, x1, x2, x3) = false) := fun h => Lib.hid (by unfold outAddClue_0 outAddClue_1 outAddClue_2; rw [h]; exact ⟨rfl, rfl, rfl⟩)
  have HST : Hid (KZ3 w s a len cap x0 x1 x2 x3 (((w.alloc (.cells #[.int .i64 s, .slice a len cap] 35)).alloc (.cells #[.int .i64 x0, .int .i64 x1, .int .i64 x2, .int .i64 x3] 25)).alloc (.cells #[.int .i64 0, .slice none 0 0] 35))) := Lib.hid (Below.refl _ _)
  clear hc hcp
  rcases hb : goodP s cs with _ | _
  · have HE := HF (by unfold okAddClue; rw [hb]; rfl)
    rw [hb] at HG
    clear hb HF
    go_enter Try.func25, Try.ntmps25
    go_wp2_with fail
    go_at_call 47
    refine (HG.out _ HST.out.one.down).mono ?_
    rintro e w2 ⟨rfl, b2⟩
    have K2 : Hid (KZ3 w s a len cap x0 x1 x2 x3 w2) := Lib.hid b2
    clear b2
    obtain ⟨r0, r1, f0, f1⟩ := K2.out.ress
    go_wp2
    (try simp only [Exit.inBlock, Exit.then])
    refine bodyPost_ret (results_cellZ rfl _ _ (w.heap.size + 2) 0 (.slice none 0 0) rfl rfl (setZ0 r0 r1) (setZ1 r0 r1)) rfl ?_
    exact ⟨.slice none 0 0, by rw [HE.out.1, HE.out.2.2]; exact rfl, by rw [HE.out.2.1]; exact ownClue_nil _ _, K2.out.one.down.setCell (by show w.heap.size ≤ w.heap.size + 2; omega) _ |>.setCell (by show w.heap.size ≤ w.heap.size + 2; omega) _⟩
  obtain ⟨⟨n, rfl, hn1, hn8⟩, hl6, hcl⟩ := pz_of hb
  have hl6' : len ≤ 6 := by have := HZ.out; omega
  have HCU := Lib.hid (fun w2 => pzClue_any n (by omega) x0 x1 x2 x3 w2)
  clear hcl
  rcases hb1 : clueB (n : Int) (x0, x1, x2, x3) with _ | _
  · have HE := HF (by unfold okAddClue; rw [hb1, Bool.false_and, Bool.and_false])
    rw [hb] at HG
    rw [hb1] at HCU
    clear hb hb1 HF
    go_enter Try.func25, Try.ntmps25
    go_wp2_with fail
    go_at_call 47
    refine (HG.out _ HST.out.one.down).mono ?_
    rintro e w2 ⟨rfl, b2⟩
    have K2 : Hid (KZ3 w n a len cap x0 x1 x2 x3 w2) := Lib.hid b2
    clear b2
    obtain ⟨c0, c1, d0, d1, d2, d3⟩ := K2.out.held
    go_wp2_with fail
    go_at_call 43
    refine (HCU.out _).mono ?_
    rintro e w3 ⟨rfl, b3⟩
    have K3 := Lib.hid (K2.out.more b3)
    clear b3 c0 c1 d0 d1 d2 d3
    obtain ⟨r0, r1, f0, f1⟩ := K3.out.ress
    go_wp2
    (try simp only [Exit.inBlock, Exit.then])
    refine bodyPost_ret (results_cellZ rfl _ _ (w.heap.size + 2) 0 (.slice none 0 0) rfl rfl (setZ0 r0 r1) (setZ1 r0 r1)) rfl ?_
    exact ⟨.slice none 0 0, by rw [HE.out.1, HE.out.2.2]; exact rfl, by rw [HE.out.2.1]; exact ownClue_nil _ _, K3.out.one.down.setCell (by show w.heap.size ≤ w.heap.size + 2; omega) _ |>.setCell (by show w.heap.size ≤ w.heap.size + 2; omega) _⟩
  by_cases hl66 : len = 6
  · have HE := HF (by unfold okAddClue; rw [HZ.out, decide_eq_true hl66]; simp)
    have hq : ((len : Int) == 6) = true := by rw [beq_iff_eq]; omega
    rw [hb] at HG
    rw [hb1] at HCU
    clear hb hb1 HF hl66
    go_enter Try.func25, Try.ntmps25
    go_wp2_with fail
    go_at_call 47
    refine (HG.out _ HST.out.one.down).mono ?_
    rintro e w2 ⟨rfl, b2⟩
    have K2 : Hid (KZ3 w n a len cap x0 x1 x2 x3 w2) := Lib.hid b2
    clear b2
    obtain ⟨c0, c1, d0, d1, d2, d3⟩ := K2.out.held
    go_wp2_with fail
    go_at_call 43
    refine (HCU.out _).mono ?_
    rintro e w3 ⟨rfl, b3⟩
    have K3 := Lib.hid (K2.out.more b3)
    clear b3 c0 c1 d0 d1 d2 d3
    obtain ⟨c0, c1, d0, d1, d2, d3⟩ := K3.out.held
    obtain ⟨r0, r1, f0, f1⟩ := K3.out.ress
    go_wp2
    (try simp only [Exit.inBlock, Exit.then])
    refine bodyPost_ret (results_cellZ rfl _ _ (w.heap.size + 2) 0 (.slice none 0 0) rfl rfl (setZ0 r0 r1) (setZ1 r0 r1)) rfl ?_
    exact ⟨.slice none 0 0, by rw [HE.out.1, HE.out.2.2]; exact rfl, by rw [HE.out.2.1]; exact ownClue_nil _ _, K3.out.one.down.setCell (by show w.heap.size ≤ w.heap.size + 2; omega) _ |>.setCell (by show w.heap.size ≤ w.heap.size + 2; omega) _⟩
  have hq : ((len : Int) == 6) = false := by rw [beq_eq_false_iff_ne]; omega
  have HE : Hid (outAddClue_0 (n : Int) cs (x0, x1, x2, x3) = n ∧ outAddClue_1 (n : Int) cs (x0, x1, x2, x3) = cs ++ [(x0, x1, x2, x3)] ∧ outAddClue_2 (n : Int) cs (x0, x1, x2, x3) = true) := Lib.hid (by
    have h : okAddClue (n : Int) cs (x0, x1, x2, x3) = true := by unfold okAddClue; rw [HZ.out, hb, hb1, decide_eq_false hl66]; rfl
    unfold outAddClue_0 outAddClue_1 outAddClue_2; rw [h]; exact ⟨rfl, rfl, rfl⟩)
  rw [hb] at HG
  rw [hb1] at HCU
  clear hb hb1 HF hl66 hl6
  go_enter Try.func25, Try.ntmps25
  go_wp2_with fail
  go_at_call 47
  refine (HG.out _ HST.out.one.down).mono ?_
  rintro e w2 ⟨rfl, b2⟩
  have K2 : Hid (KZ3 w n a len cap x0 x1 x2 x3 w2) := Lib.hid b2
  clear b2
  obtain ⟨c0, c1, d0, d1, d2, d3⟩ := K2.out.held
  go_wp2_with fail
  go_at_call 43
  refine (HCU.out _).mono ?_
  rintro e w3 ⟨rfl, b3⟩
  have K3 := Lib.hid (K2.out.more b3)
  clear b3 c0 c1 d0 d1 d2 d3
  obtain ⟨c0, c1, d0, d1, d2, d3⟩ := K3.out.held
  go_wp2_with fail
  have hz := K3.out.big
  have HBA : Hid (Below w3.heap.size w3 (w3.alloc (.cells #[] 25)).drew) := Lib.hid (below_drewC ((Below.refl _ _).alloc (Nat.le_refl _) _))
  have HBB : Hid (Below w3.heap.size w3 ((w3.alloc (.cells #[] 25)).alloc (.cells #[.int .i64 x0, .int .i64 x1, .int .i64 x2, .int .i64 x3] 25)).drew) := Lib.hid (below_drewC (((Below.refl _ _).alloc (Nat.le_refl _) _).alloc (by rw [pz_size1]; omega) _))
  have HBC : Hid (Below w3.heap.size w3 ((w3.alloc (.cells #[.int .i64 x0, .int .i64 x1, .int .i64 x2, .int .i64 x3] 25)).alloc (.cells #[] 25)).drew) := Lib.hid (below_drewC (((Below.refl _ _).alloc (Nat.le_refl _) _).alloc (by rw [pz_size1]; omega) _))
  have HKX : Hid (∀ w2, Below w3.heap.size w3 w2 → KZ3 w n a len cap x0 x1 x2 x3 w2) := Lib.hid (fun w2 h => K3.out.more h)
  have HOA : Hid (OwnClue (w3.alloc (.cells #[] 25)).drew w3.heap.size (.slice (some ⟨w3.heap.size, 0, none⟩) 0 0) []) := Lib.hid (show OwnClue (w3.alloc _) _ _ _ from ownClue_made w3)
  have HOB : Hid (OwnClue ((w3.alloc (.cells #[] 25)).alloc (.cells #[.int .i64 x0, .int .i64 x1, .int .i64 x2, .int .i64 x3] 25)).drew w3.heap.size (.slice (some ⟨w3.heap.size, 0, none⟩) 0 0) []) := Lib.hid (show OwnClue ((w3.alloc _).alloc _) _ _ _ from ownClue_alloc (ownClue_made w3) _)
  have HOC : Hid (OwnClue ((w3.alloc (.cells #[.int .i64 x0, .int .i64 x1, .int .i64 x2, .int .i64 x3] 25)).alloc (.cells #[] 25)).drew w3.heap.size (.slice (some ⟨w3.heap.size + 1, 0, none⟩) 0 0) []) := Lib.hid (by
    have h := (ownClue_made (w3.alloc (.cells #[.int .i64 x0, .int .i64 x1, .int .i64 x2, .int .i64 x3] 25))).mono (show w3.heap.size ≤ _ by rw [pz_size1]; omega)
    rw [pz_size1] at h
    exact h)
  have HSB : Hid (∀ j u, ([((x0, x1, x2, x3) : RClue)].flatMap cClue)[j]? = some u → ((w3.alloc (.cells #[] 25)).alloc (.cells #[.int .i64 x0, .int .i64 x1, .int .i64 x2, .int .i64 x3] 25)).drew.cell? ((⟨w3.heap.size + 1, 0, none⟩ : Addr).add j) = some u) := Lib.hid (src_oneC (w := w3.alloc (.cells #[] 25)) x0 x1 x2 x3 (pz_size1 _ _).symm)
  have HSC : Hid (∀ j u, ([((x0, x1, x2, x3) : RClue)].flatMap cClue)[j]? = some u → ((w3.alloc (.cells #[.int .i64 x0, .int .i64 x1, .int .i64 x2, .int .i64 x3] 25)).alloc (.cells #[] 25)).drew.cell? ((⟨w3.heap.size, 0, none⟩ : Addr).add j) = some u) := Lib.hid (fun j u hj => by
    have h1 := src_oneC (w := w3) x0 x1 x2 x3 rfl j u hj
    rw [Addr.add_mid] at h1 ⊢
    exact (World.cell?_alloc_lt _ _ _ (World.block_lt_of_cell? _ _ h1)).trans h1)
  have HRB : Hid (some (w3.heap.size + 1) ≠ (Value.slice (some ⟨w3.heap.size, 0, none⟩) 0 0).ownBlock) := Lib.hid (by simp [Value.ownBlock])
  have HRC : Hid (some w3.heap.size ≠ (Value.slice (some ⟨w3.heap.size + 1, 0, none⟩) 0 0).ownBlock) := Lib.hid (by simp [Value.ownBlock])
  rcases a with _ | ad
  · have hl0 : len = 0 := by
      rcases Nat.eq_zero_or_pos len with h | h
      · exact h
      · obtain ⟨b, off, h1, _⟩ := HC.out.2 h; cases h1
    subst hl0
    have hnil : cs = [] := List.eq_nil_of_length_eq_zero HZ.out
    subst hnil
    go_region_held_law (fun w' => w'.cell? ⟨w.heap.size, 0, none⟩ = some (.int .i64 (n : Int)) ∧ w'.cell? ⟨w.heap.size, 1, none⟩ = some (.slice none 0 cap) ∧ w'.cell? ⟨w.heap.size + 1, 0, none⟩ = some (.int .i64 x0) ∧ w'.cell? ⟨w.heap.size + 1, 1, none⟩ = some (.int .i64 x1) ∧ w'.cell? ⟨w.heap.size + 1, 2, none⟩ = some (.int .i64 x2) ∧ w'.cell? ⟨w.heap.size + 1, 3, none⟩ = some (.int .i64 x3)) (first | exact k6.far _ _ | exact k6.held | go_keep)
      (first
        | (refine step_appClue rfl _ _ rfl w3.heap.size _ [] [(x0, x1, x2, x3)] _ _ _ rfl rfl HOB.out rfl HSB.out HBB.out.size (by simp) ?_; intro v6 w6 hO6 hB6 hG6; obtain ⟨ao6, cp6, rfl⟩ := hO6.any; have k6 := HKX.out _ (HBB.out.trans hB6); obtain ⟨r0, r1, f0, f1⟩ := k6.ress)
        | (refine step_appClue rfl _ _ rfl w3.heap.size _ [] [(x0, x1, x2, x3)] _ _ _ rfl rfl HOC.out rfl HSC.out HBC.out.size (by simp) ?_; intro v6 w6 hO6 hB6 hG6; obtain ⟨ao6, cp6, rfl⟩ := hO6.any; have k6 := HKX.out _ (HBC.out.trans hB6); obtain ⟨r0, r1, f0, f1⟩ := k6.ress))
    all_goals
      (try simp only [List.getElem_toArray, List.getElem_cons_zero, List.getElem_cons_succ, List.setIfInBounds_toArray, List.set_cons_zero, List.set_cons_succ])
      have HK6 := Lib.hid k6
      have HO6 : Hid (OwnClue w6 (w.heap.size + 3) (.slice ao6 1 cp6) ([] ++ [(x0, x1, x2, x3)])) := Lib.hid (by simpa using hO6.mono hz)
      clear hO6 hB6 hG6 k6
      go_wp2
      (try simp only [Exit.inBlock, Exit.then])
      refine bodyPost_ret (results_cellZ rfl _ _ (w.heap.size + 1 + 1) (n : Int) (.slice ao6 1 cp6) rfl rfl (setZ0 r0 r1) (setZ1 r0 r1)) rfl ?_
      refine ⟨.slice ao6 1 cp6, by rw [HE.out.1, HE.out.2.2]; exact rfl, ?_, HK6.out.one.down.setCell (by show w.heap.size ≤ w.heap.size + 2; omega) _ |>.setCell (by show w.heap.size ≤ w.heap.size + 2; omega) _⟩
      rw [HE.out.2.1]
      exact (ownZ_set (ownZ_set HO6.out (by omega) 0 _) (by omega) 1 _).mono (by omega)
  have HS1 : Hid (∀ w2, Below w.heap.size w w2 → ∀ j u, (cs.flatMap cClue)[j]? = some u → w2.cell? (ad.add j) = some u) := Lib.hid (fun w2 h => by
    by_cases h0 : 0 < len
    · obtain ⟨b, off, he, _⟩ := HC.out.2 h0
      injection he with he
      subst he
      exact src_cameC (HC.out.below h)
    · have hnil : cs = [] := List.eq_nil_of_length_eq_zero (by rw [HZ.out]; omega)
      intro j u hj
      rw [hnil] at hj; simp at hj)
  have hlen : cs.length + 1 ≤ 1000000000 := by rw [HZ.out]; omega
  go_region_held_law (fun w' => w'.cell? ⟨w.heap.size, 0, none⟩ = some (.int .i64 (n : Int)) ∧ w'.cell? ⟨w.heap.size, 1, none⟩ = some (.slice (some ad) len cap) ∧ w'.cell? ⟨w.heap.size + 1, 0, none⟩ = some (.int .i64 x0) ∧ w'.cell? ⟨w.heap.size + 1, 1, none⟩ = some (.int .i64 x1) ∧ w'.cell? ⟨w.heap.size + 1, 2, none⟩ = some (.int .i64 x2) ∧ w'.cell? ⟨w.heap.size + 1, 3, none⟩ = some (.int .i64 x3)) (first | exact k6.far _ _ | exact k6.held | exact k5.held | go_keep)
    (first
      | (refine step_appClue rfl _ _ rfl w3.heap.size _ [] cs _ _ _ rfl rfl HOA.out HZ.out (HS1.out _ (HKX.out _ HBA.out).one.down) HBA.out.size (by simp; omega) ?_; intro v5 w5 hO5 hB5 hG5; have k5 := HKX.out _ (HBA.out.trans hB5))
      | (refine step_appClue rfl _ _ rfl w3.heap.size _ [] cs _ _ _ rfl rfl HOB.out HZ.out (HS1.out _ (HKX.out _ HBB.out).one.down) HBB.out.size (by simp; omega) ?_; intro v5 w5 hO5 hB5 hG5; have k5 := HKX.out _ (HBB.out.trans hB5))
      | (refine step_appClue rfl _ _ rfl w3.heap.size _ [] cs _ _ _ rfl rfl HOC.out HZ.out (HS1.out _ (HKX.out _ HBC.out).one.down) HBC.out.size (by simp; omega) ?_; intro v5 w5 hO5 hB5 hG5; have k5 := HKX.out _ (HBC.out.trans hB5))
      | (refine step_appClue rfl _ _ rfl w3.heap.size _ _ [(x0, x1, x2, x3)] _ _ _ rfl rfl (show OwnClue (w5.alloc _) _ _ _ from ownClue_alloc hO5 _) rfl (src_oneC (w := w5) x0 x1 x2 x3 rfl) (show w3.heap.size ≤ (w5.alloc _).heap.size by rw [pz_size1]; exact Nat.le_succ_of_le (HBA.out.trans hB5).size) (by rw [List.nil_append]; exact hlen) ?_; intro v6 w6 hO6 hB6 hG6; obtain ⟨ao6, cp6, rfl⟩ := hO6.any; have k6 := HKX.out _ (Below.trans (below_likeC ((HBA.out.trans hB5).alloc (HBA.out.trans hB5).size (.cells #[.int .i64 x0, .int .i64 x1, .int .i64 x2, .int .i64 x3] 25)) rfl rfl rfl rfl) hB6); obtain ⟨r0, r1, f0, f1⟩ := k6.ress)
      | (refine step_appClue rfl _ _ rfl w3.heap.size _ _ [(x0, x1, x2, x3)] _ _ _ rfl rfl hO5 rfl (src_keepC HSB.out hG5 HRB.out) (HBB.out.trans hB5).size (by rw [List.nil_append]; exact hlen) ?_; intro v6 w6 hO6 hB6 hG6; obtain ⟨ao6, cp6, rfl⟩ := hO6.any; have k6 := HKX.out _ ((HBB.out.trans hB5).trans hB6); obtain ⟨r0, r1, f0, f1⟩ := k6.ress)
      | (refine step_appClue rfl _ _ rfl w3.heap.size _ _ [(x0, x1, x2, x3)] _ _ _ rfl rfl hO5 rfl (src_keepC HSC.out hG5 HRC.out) (HBC.out.trans hB5).size (by rw [List.nil_append]; exact hlen) ?_; intro v6 w6 hO6 hB6 hG6; obtain ⟨ao6, cp6, rfl⟩ := hO6.any; have k6 := HKX.out _ ((HBC.out.trans hB5).trans hB6); obtain ⟨r0, r1, f0, f1⟩ := k6.ress))
  all_goals
    (try simp only [List.getElem_toArray, List.getElem_cons_zero, List.getElem_cons_succ, List.setIfInBounds_toArray, List.set_cons_zero, List.set_cons_succ])
    have HK6 := Lib.hid k6
    have HO6 : Hid (OwnClue w6 (w.heap.size + 3) (.slice ao6 (cs.length + 1) cp6) (cs ++ [(x0, x1, x2, x3)])) := Lib.hid (by simpa using hO6.mono hz)
    clear hO5 hB5 hG5 k5 hO6 hB6 hG6 k6
    go_wp2
    (try simp only [Exit.inBlock, Exit.then])
    refine bodyPost_ret (results_cellZ rfl _ _ (w.heap.size + 1 + 1) (n : Int) (.slice ao6 (cs.length + 1) cp6) rfl rfl (setZ0 r0 r1) (setZ1 r0 r1)) rfl ?_
    refine ⟨.slice ao6 (cs.length + 1) cp6, by rw [HE.out.1, HE.out.2.2]; exact rfl, ?_, HK6.out.one.down.setCell (by show w.heap.size ≤ w.heap.size + 2; omega) _ |>.setCell (by show w.heap.size ≤ w.heap.size + 2; omega) _⟩
    rw [HE.out.2.1]
    exact (ownZ_set (ownZ_set HO6.out (by omega) 0 _) (by omega) 1 _).mono (by omega)

end Go.Proofs.Ytodlpdbmiicdfaa
