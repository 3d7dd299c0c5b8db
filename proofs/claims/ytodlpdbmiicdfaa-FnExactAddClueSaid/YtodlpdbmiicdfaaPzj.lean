/- Chapter 9: a puzzle in a box of its own; a puzzle as a result; the model's DropClue, BestClue. -/
import Derived.Test.YtodlpdbmiicdfaaPzi
import Derived.Test.YtodlpdbmiicdfaaLw
namespace Go.Proofs.Ytodlpdbmiicdfaa
open Go.ChangeShapes Go.WideShapes Go.ChangeAt Go.RowKit
open Pz

/-- behind the one box that a call makes at first -/
def KZ (w : World) (s : Int) (a : Option Addr) (len cap : Nat) (w2 : World) : Prop := Below (w.alloc (.cells #[.int .i64 s, .slice a len cap] 35)).heap.size (w.alloc (.cells #[.int .i64 s, .slice a len cap] 35)) w2
theorem pz_size1 (w : World) (o : Obj) : (w.alloc o).heap.size = w.heap.size + 1 := Array.size_push _
theorem KZ.start (w : World) (s : Int) (a : Option Addr) (len cap : Nat) : KZ w s a len cap (w.alloc (.cells #[.int .i64 s, .slice a len cap] 35)) := Below.refl _ _
theorem KZ.more {w w2 w3 : World} {s : Int} {a : Option Addr} {len cap : Nat} (h : KZ w s a len cap w2) (b : Below w2.heap.size w2 w3) : KZ w s a len cap w3 := Below.trans h (b.mono h.size)
theorem KZ.c0 {w w2 : World} {s : Int} {a : Option Addr} {len cap : Nat} (h : KZ w s a len cap w2) : w2.cell? ⟨w.heap.size, 0, none⟩ = some (.int .i64 s) := by
  have c0 : (w.alloc (.cells #[.int .i64 s, .slice a len cap] 35)).cell? ⟨w.heap.size, 0, none⟩ = some (.int .i64 s) := by rw [World.cell?_alloc_new]; rfl
  exact (Below.cell h (World.block_lt_of_cell? _ _ c0)).trans c0
theorem KZ.c1 {w w2 : World} {s : Int} {a : Option Addr} {len cap : Nat} (h : KZ w s a len cap w2) : w2.cell? ⟨w.heap.size, 1, none⟩ = some (.slice a len cap) := by
  have c0 : (w.alloc (.cells #[.int .i64 s, .slice a len cap] 35)).cell? ⟨w.heap.size, 1, none⟩ = some (.slice a len cap) := by rw [World.cell?_alloc_new]; rfl
  exact (Below.cell h (World.block_lt_of_cell? _ _ c0)).trans c0
theorem KZ.down {w w2 : World} {s : Int} {a : Option Addr} {len cap : Nat} (h : KZ w s a len cap w2) : Below w.heap.size w w2 :=
  ((Below.refl w.heap.size w).alloc (Nat.le_refl _) (.cells #[.int .i64 s, .slice a len cap] 35)).trans (h.mono (by rw [pz_size1]; omega))
theorem KZ.big {w w2 : World} {s : Int} {a : Option Addr} {len cap : Nat} (h : KZ w s a len cap w2) : w.heap.size + 1 ≤ w2.heap.size := by
  have := Below.size h; rw [pz_size1] at this; exact this
/-- and behind the result's box too: both boxes' cells -/
def KZ2 (w : World) (s : Int) (a : Option Addr) (len cap : Nat) (w2 : World) : Prop := Below ((w.alloc (.cells #[.int .i64 s, .slice a len cap] 35)).alloc (.cells #[.int .i64 0, .slice none 0 0] 35)).heap.size ((w.alloc (.cells #[.int .i64 s, .slice a len cap] 35)).alloc (.cells #[.int .i64 0, .slice none 0 0] 35)) w2
theorem KZ2.start (w : World) (s : Int) (a : Option Addr) (len cap : Nat) : KZ2 w s a len cap ((w.alloc (.cells #[.int .i64 s, .slice a len cap] 35)).alloc (.cells #[.int .i64 0, .slice none 0 0] 35)) := Below.refl _ _
theorem KZ2.more {w w2 w3 : World} {s : Int} {a : Option Addr} {len cap : Nat} (h : KZ2 w s a len cap w2) (b : Below w2.heap.size w2 w3) : KZ2 w s a len cap w3 := Below.trans h (b.mono h.size)
theorem KZ2.one {w w2 : World} {s : Int} {a : Option Addr} {len cap : Nat} (h : KZ2 w s a len cap w2) : KZ w s a len cap w2 :=
  ((Below.refl (w.alloc (.cells #[.int .i64 s, .slice a len cap] 35)).heap.size _).alloc (Nat.le_refl _) (.cells #[.int .i64 0, .slice none 0 0] 35)).trans (h.mono (by simp only [pz_size1]; omega))
theorem KZ2.big {w w2 : World} {s : Int} {a : Option Addr} {len cap : Nat} (h : KZ2 w s a len cap w2) : w.heap.size + 2 ≤ w2.heap.size := by
  have := Below.size h; rw [pz_size1, pz_size1] at this; exact this
theorem KZ2.res {w w2 : World} {s : Int} {a : Option Addr} {len cap : Nat} (h : KZ2 w s a len cap w2) : w2.heap[w.heap.size + 1]? = some (.cells #[.int .i64 0, .slice none 0 0] 35) := by
  have h1 := heap_alloc_new (w.alloc (.cells #[.int .i64 s, .slice a len cap] 35)) (.cells #[.int .i64 0, .slice none 0 0] 35)
  rw [pz_size1] at h1
  exact (Below.block h (w.heap.size + 1) (by rw [pz_size1, pz_size1]; omega)).trans h1
theorem KZ2.r0 {w w2 : World} {s : Int} {a : Option Addr} {len cap : Nat} (h : KZ2 w s a len cap w2) : w2.cell? ⟨w.heap.size + 1, 0, none⟩ = some (.int .i64 0) := by simp [World.cell?, h.res]
theorem KZ2.r1 {w w2 : World} {s : Int} {a : Option Addr} {len cap : Nat} (h : KZ2 w s a len cap w2) : w2.cell? ⟨w.heap.size + 1, 1, none⟩ = some (.slice none 0 0) := by simp [World.cell?, h.res]
theorem KZ2.f0 {w w2 : World} {s : Int} {a : Option Addr} {len cap : Nat} (h : KZ2 w s a len cap w2) : w2.frozen? ⟨w.heap.size + 1, 0, none⟩ = false := by simp [World.frozen?, h.res]
theorem KZ2.f1 {w w2 : World} {s : Int} {a : Option Addr} {len cap : Nat} (h : KZ2 w s a len cap w2) : w2.frozen? ⟨w.heap.size + 1, 1, none⟩ = false := by simp [World.frozen?, h.res]
/-- a puzzle and a truth, as results -/
theorem results_cellZ {fn : Func} {t u : Tmp} {ty : TypeId} (h : fn.results = #[.cell t ty, .tmp u]) (tmps : Array Value) (w : World) (g : Nat) (x : Int) (v : Value) (hty : ty = 35)
    (ht : tmps[t]?.getD undef = .pointer (some ⟨g, 0, none⟩)) (h0 : w.cell? ⟨g, 0, none⟩ = some (.int .i64 x)) (h1 : w.cell? ⟨g, 1, none⟩ = some v) :
    (results fn tmps).run Try.prog w = .ok (.tuple #[.agg #[.int .i64 x, v], tmps.getD u undef]) w := by
  subst hty
  simp [results, h, ht, h0, h1, go_sem]
theorem setZ0 {w : World} {g : Nat} {x y u v : Value} (h0 : w.cell? ⟨g, 0, none⟩ = some u) (_h1 : w.cell? ⟨g, 1, none⟩ = some v) : ((w.setCell ⟨g, 0, none⟩ x).setCell ⟨g, 1, none⟩ y).cell? ⟨g, 0, none⟩ = some x := by
  have h2 : (w.setCell ⟨g, 0, none⟩ x).cell? ⟨g, 0, none⟩ = some x := by go_simp
  go_simp
theorem setZ1 {w : World} {g : Nat} {x y u v : Value} (_h0 : w.cell? ⟨g, 0, none⟩ = some u) (h1 : w.cell? ⟨g, 1, none⟩ = some v) : ((w.setCell ⟨g, 0, none⟩ x).setCell ⟨g, 1, none⟩ y).cell? ⟨g, 1, none⟩ = some y := by
  go_simp

theorem cell_far {w : World} {g b i j : Nat} {u v : Value} (h : w.cell? ⟨g, i, none⟩ = some u) (hne : b ≠ g) : (w.setCell ⟨b, j, none⟩ v).cell? ⟨g, i, none⟩ = some u := by
  have hb := (set_grown w b j v).block g (World.block_lt_of_cell? w _ h) (fun e => hne (Option.some.inj e).symm)
  rw [← h]; simp [World.cell?, hb]

theorem ownZ_set {w : World} {B g : Nat} {v : Value} {ps : List RClue} (h : OwnClue w B v ps) (hg : g < B) (j : Nat) (x : Value) : OwnClue (w.setCell ⟨g, j, none⟩ x) B v ps := by
  unfold OwnClue at h ⊢
  refine h.kept (set_grown w g j x) ?_
  rcases hv : v.ownBlock with _ | b
  · exact .inl rfl
  · refine .inr (fun e => ?_)
    have h1 := (World.ownsRow.lt h b hv).1
    have := Option.some.inj e
    omega

def okDropClue (s : Int) (cs : List RClue) (k : Int) : Bool := goodP s cs && inB k 0 ((cs.length : Int) - 1)
def outDropClue_0 (s : Int) (cs : List RClue) (k : Int) : Int := if okDropClue s cs k then s else 0
def outDropClue_1 (s : Int) (cs : List RClue) (k : Int) : List RClue := if okDropClue s cs k then without cs k.toNat else []
def outDropClue_2 (s : Int) (cs : List RClue) (k : Int) : Bool := okDropClue s cs k
set_option maxHeartbeats 4000000 in
theorem specDropClue_any (w : World) (s : Int) (a : Option Addr) (len cap : Nat) (cs : List RClue) (p : Int) (hl : len ≤ 1048576) (hc : CameClue w a len cs) (hcp : len ≤ cap ∧ cap ≤ 9223372036854775807) :
    Calls Try.prog 21 #[.agg #[.int .i64 s, .slice a len cap], .int .i64 p] w fun e w' => ∃ v0, e = .returned (.tuple #[.agg #[.int .i64 (outDropClue_0 s cs p), v0], .bool (outDropClue_2 s cs p)]) ∧ OwnClue w' w.heap.size v0 (outDropClue_1 s cs p) ∧ Below w.heap.size w w' := by
  have HZ : Hid (cs.length = len) := Lib.hid hc.1
  have HG := Lib.hid (fun w2 (h : Below w.heap.size w w2) => pzGood_any w2 s a len cap cs hl (hc.below h))
  have HC := Lib.hid hc
  have HI := Lib.hid (fun w2 => l1In_any p 0 ((len : Int) - 1) w2)
  have HF : okDropClue s cs p = false → Hid (outDropClue_0 s cs p = 0 ∧ outDropClue_1 s cs p = [] ∧ outDropClue_2 s cs p = false) := fun h => Lib.hid (by unfold outDropClue_0 outDropClue_1 outDropClue_2; rw [h]; exact ⟨rfl, rfl, rfl⟩)
  clear hc
  rcases hb : goodP s cs with _ | _
  · have HE := HF (by unfold okDropClue; rw [hb]; rfl)
    rw [hb] at HG
    clear hb HF
    go_enter Try.func21, Try.ntmps21
    go_wp2_with fail
    go_at_call 47
    refine (HG.out _ (KZ2.start ..).one.down).mono ?_
    rintro e w2 ⟨rfl, b2⟩
    have K2 : Hid (KZ2 w s a len cap w2) := Lib.hid b2
    clear b2
    have r0 := K2.out.r0
    have r1 := K2.out.r1
    have f0 := K2.out.f0
    have f1 := K2.out.f1
    go_wp2
    (try simp only [Exit.inBlock, Exit.then])
    refine bodyPost_ret (results_cellZ rfl _ _ (w.heap.size + 1) 0 (.slice none 0 0) rfl rfl (setZ0 r0 r1) (setZ1 r0 r1)) rfl ?_
    exact ⟨_, by rw [HE.out.1, HE.out.2.2]; exact rfl, by rw [HE.out.2.1]; exact ownClue_nil _ _, K2.out.one.down.setCell (Nat.le_succ _) _ |>.setCell (Nat.le_succ _) _⟩
  rcases hb1 : inB p 0 ((len : Int) - 1) with _ | _
  · have HE := HF (by unfold okDropClue; rw [HZ.out, hb1, Bool.and_false])
    rw [hb] at HG
    rw [hb1] at HI
    clear hb hb1 HF
    go_enter Try.func21, Try.ntmps21
    go_wp2_with fail
    go_at_call 47
    refine (HG.out _ (KZ2.start ..).one.down).mono ?_
    rintro e w2 ⟨rfl, b2⟩
    have K2 : Hid (KZ2 w s a len cap w2) := Lib.hid b2
    clear b2
    have c1 := K2.out.one.c1
    have r0 := K2.out.r0
    have r1 := K2.out.r1
    have f0 := K2.out.f0
    have f1 := K2.out.f1
    go_wp2_with fail
    go_at_call 50
    refine (HI.out _).mono ?_
    rintro e ww ⟨rfl, rfl⟩
    go_wp2
    (try simp only [Exit.inBlock, Exit.then])
    refine bodyPost_ret (results_cellZ rfl _ _ (w.heap.size + 1) 0 (.slice none 0 0) rfl rfl (setZ0 r0 r1) (setZ1 r0 r1)) rfl ?_
    exact ⟨_, by rw [HE.out.1, HE.out.2.2]; exact rfl, by rw [HE.out.2.1]; exact ownClue_nil _ _, K2.out.one.down.setCell (Nat.le_succ _) _ |>.setCell (Nat.le_succ _) _⟩
  obtain ⟨p1, p2⟩ := inB_yes hb1
  obtain ⟨T, rfl⟩ : ∃ T : Nat, p = (T : Int) := ⟨p.toNat, by omega⟩
  obtain ⟨⟨n, rfl, hn1, hn8⟩, hl6, hcl⟩ := pz_of hb
  have HE : Hid (outDropClue_0 (n : Int) cs T = n ∧ outDropClue_1 (n : Int) cs T = without cs T ∧ outDropClue_2 (n : Int) cs T = true) := Lib.hid (by
    have h : okDropClue (n : Int) cs T = true := by unfold okDropClue; rw [HZ.out, hb, hb1]; rfl
    unfold outDropClue_0 outDropClue_1 outDropClue_2; rw [h]; exact ⟨rfl, rfl, rfl⟩)
  have hl6' : len ≤ 6 := by have := HZ.out; omega
  have hTl : T < len := by omega
  have HWO := Lib.hid (fun w2 (h : Below w.heap.size w w2) => pzWithout_any w2 a len cap cs T hTl hl6' (HC.out.below h) hcp)
  rw [hb] at HG
  rw [hb1] at HI
  clear hb hb1 HF hcl hl6
  go_enter Try.func21, Try.ntmps21
  go_wp2_with fail
  go_at_call 47
  refine (HG.out _ (KZ2.start ..).one.down).mono ?_
  rintro e w2 ⟨rfl, b2⟩
  have K2 : Hid (KZ2 w n a len cap w2) := Lib.hid b2
  clear b2
  have c1 := K2.out.one.c1
  go_wp2_with fail
  go_at_call 50
  refine (HI.out _).mono ?_
  rintro e ww ⟨rfl, rfl⟩
  have c0 := K2.out.one.c0
  have r0 := K2.out.r0
  have r1 := K2.out.r1
  have f0 := K2.out.f0
  have f1 := K2.out.f1
  go_wp2_with fail
  go_region_held_law (fun w' => w'.cell? ⟨w.heap.size, 0, none⟩ = some (.int .i64 (n : Int)) ∧ w'.cell? ⟨w.heap.size, 1, none⟩ = some (.slice a len cap)) (first | go_keep | exact ⟨k5.one.c0, k5.one.c1⟩ | exact ⟨cell_far (cell_far k5.one.c0 (by omega)) (by omega), cell_far (cell_far k5.one.c1 (by omega)) (by omega)⟩)
    (first
      | (go_at_call 51; refine (HWO.out _ (by exact ⟨K2.out.one.down.os, K2.out.one.down.tape, K2.out.one.down.output, K2.out.one.down.size, K2.out.one.down.block⟩)).mono ?_; rintro e w5 ⟨v5, rfl, o5, b5⟩; obtain ⟨ao5, cp5, rfl⟩ := o5.any; have k5 : KZ2 w n a len cap w5 := K2.out.more ⟨b5.os, b5.tape, b5.output, b5.size, b5.block⟩; have s0 := k5.r0; have s1 := k5.r1; have g0 := k5.f0; have g1 := k5.f1))
  have HK5 : Hid (KZ2 w n a len cap w5) := Lib.hid k5
  have HO5 : Hid (OwnClue w5 (w.heap.size + 2) (.slice ao5 (without cs T).length cp5) (without cs T)) := Lib.hid (o5.mono K2.out.big)
  clear o5 b5 k5 g0 g1
  go_wp2
  (try simp only [Exit.inBlock, Exit.then])
  refine bodyPost_ret (results_cellZ rfl _ _ (w.heap.size + 1) (n : Int) (.slice ao5 (without cs T).length cp5) rfl rfl (setZ0 s0 s1) (setZ1 s0 s1)) rfl ?_
  refine ⟨.slice ao5 (without cs T).length cp5, by rw [HE.out.1, HE.out.2.2]; exact rfl, ?_, HK5.out.one.down.setCell (Nat.le_succ _) _ |>.setCell (Nat.le_succ _) _⟩
  rw [HE.out.2.1]
  exact (ownZ_set (ownZ_set HO5.out (by omega) 0 _) (by omega) 1 _).mono (by omega)

end Go.Proofs.Ytodlpdbmiicdfaa
