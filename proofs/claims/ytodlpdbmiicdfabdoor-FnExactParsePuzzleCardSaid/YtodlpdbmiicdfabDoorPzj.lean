/- Chapter 9: a puzzle in a box of its own; a puzzle as a result; the model's DropClue, BestClue. -/
import Derived.Test.YtodlpdbmiicdfabDoorPzi
import Derived.Test.YtodlpdbmiicdfabDoorLw
namespace Go.Proofs.YtodlpdbmiicdfabDoor
open Go.ChangeShapes Go.WideShapes Go.ChangeAt Go.RowKit
open Pz

/-- behind the one box that a call makes at first -/
def KZ (w : World) (s : Int) (a : Option Addr) (len cap : Nat) (w2 : World) : Prop := Below (w.alloc (.cells #[.int .i64 s, .slice a len cap] 30)).heap.size (w.alloc (.cells #[.int .i64 s, .slice a len cap] 30)) w2
theorem pz_size1 (w : World) (o : Obj) : (w.alloc o).heap.size = w.heap.size + 1 := Array.size_push _
theorem KZ.start (w : World) (s : Int) (a : Option Addr) (len cap : Nat) : KZ w s a len cap (w.alloc (.cells #[.int .i64 s, .slice a len cap] 30)) := Below.refl _ _
theorem KZ.more {w w2 w3 : World} {s : Int} {a : Option Addr} {len cap : Nat} (h : KZ w s a len cap w2) (b : Below w2.heap.size w2 w3) : KZ w s a len cap w3 := Below.trans h (b.mono h.size)
theorem KZ.c0 {w w2 : World} {s : Int} {a : Option Addr} {len cap : Nat} (h : KZ w s a len cap w2) : w2.cell? ⟨w.heap.size, 0, none⟩ = some (.int .i64 s) := by
  have c0 : (w.alloc (.cells #[.int .i64 s, .slice a len cap] 30)).cell? ⟨w.heap.size, 0, none⟩ = some (.int .i64 s) := by rw [World.cell?_alloc_new]; rfl
  exact (Below.cell h (World.block_lt_of_cell? _ _ c0)).trans c0
theorem KZ.c1 {w w2 : World} {s : Int} {a : Option Addr} {len cap : Nat} (h : KZ w s a len cap w2) : w2.cell? ⟨w.heap.size, 1, none⟩ = some (.slice a len cap) := by
  have c0 : (w.alloc (.cells #[.int .i64 s, .slice a len cap] 30)).cell? ⟨w.heap.size, 1, none⟩ = some (.slice a len cap) := by rw [World.cell?_alloc_new]; rfl
  exact (Below.cell h (World.block_lt_of_cell? _ _ c0)).trans c0
theorem KZ.down {w w2 : World} {s : Int} {a : Option Addr} {len cap : Nat} (h : KZ w s a len cap w2) : Below w.heap.size w w2 :=
  ((Below.refl w.heap.size w).alloc (Nat.le_refl _) (.cells #[.int .i64 s, .slice a len cap] 30)).trans (h.mono (by rw [pz_size1]; omega))
theorem KZ.big {w w2 : World} {s : Int} {a : Option Addr} {len cap : Nat} (h : KZ w s a len cap w2) : w.heap.size + 1 ≤ w2.heap.size := by
  have := Below.size h; rw [pz_size1] at this; exact this
/-- and behind the result's box too: both boxes' cells -/
def KZ2 (w : World) (s : Int) (a : Option Addr) (len cap : Nat) (w2 : World) : Prop := Below ((w.alloc (.cells #[.int .i64 s, .slice a len cap] 30)).alloc (.cells #[.int .i64 0, .slice none 0 0] 30)).heap.size ((w.alloc (.cells #[.int .i64 s, .slice a len cap] 30)).alloc (.cells #[.int .i64 0, .slice none 0 0] 30)) w2
theorem KZ2.start (w : World) (s : Int) (a : Option Addr) (len cap : Nat) : KZ2 w s a len cap ((w.alloc (.cells #[.int .i64 s, .slice a len cap] 30)).alloc (.cells #[.int .i64 0, .slice none 0 0] 30)) := Below.refl _ _
theorem KZ2.more {w w2 w3 : World} {s : Int} {a : Option Addr} {len cap : Nat} (h : KZ2 w s a len cap w2) (b : Below w2.heap.size w2 w3) : KZ2 w s a len cap w3 := Below.trans h (b.mono h.size)
theorem KZ2.one {w w2 : World} {s : Int} {a : Option Addr} {len cap : Nat} (h : KZ2 w s a len cap w2) : KZ w s a len cap w2 :=
  ((Below.refl (w.alloc (.cells #[.int .i64 s, .slice a len cap] 30)).heap.size _).alloc (Nat.le_refl _) (.cells #[.int .i64 0, .slice none 0 0] 30)).trans (h.mono (by simp only [pz_size1]; omega))
theorem KZ2.big {w w2 : World} {s : Int} {a : Option Addr} {len cap : Nat} (h : KZ2 w s a len cap w2) : w.heap.size + 2 ≤ w2.heap.size := by
  have := Below.size h; rw [pz_size1, pz_size1] at this; exact this
theorem KZ2.res {w w2 : World} {s : Int} {a : Option Addr} {len cap : Nat} (h : KZ2 w s a len cap w2) : w2.heap[w.heap.size + 1]? = some (.cells #[.int .i64 0, .slice none 0 0] 30) := by
  have h1 := heap_alloc_new (w.alloc (.cells #[.int .i64 s, .slice a len cap] 30)) (.cells #[.int .i64 0, .slice none 0 0] 30)
  rw [pz_size1] at h1
  exact (Below.block h (w.heap.size + 1) (by rw [pz_size1, pz_size1]; omega)).trans h1
theorem KZ2.r0 {w w2 : World} {s : Int} {a : Option Addr} {len cap : Nat} (h : KZ2 w s a len cap w2) : w2.cell? ⟨w.heap.size + 1, 0, none⟩ = some (.int .i64 0) := by simp [World.cell?, h.res]
theorem KZ2.r1 {w w2 : World} {s : Int} {a : Option Addr} {len cap : Nat} (h : KZ2 w s a len cap w2) : w2.cell? ⟨w.heap.size + 1, 1, none⟩ = some (.slice none 0 0) := by simp [World.cell?, h.res]
theorem KZ2.f0 {w w2 : World} {s : Int} {a : Option Addr} {len cap : Nat} (h : KZ2 w s a len cap w2) : w2.frozen? ⟨w.heap.size + 1, 0, none⟩ = false := by simp [World.frozen?, h.res]
theorem KZ2.f1 {w w2 : World} {s : Int} {a : Option Addr} {len cap : Nat} (h : KZ2 w s a len cap w2) : w2.frozen? ⟨w.heap.size + 1, 1, none⟩ = false := by simp [World.frozen?, h.res]
/-- a puzzle and a truth, as results -/
theorem results_cellZ {fn : Func} {t u : Tmp} {ty : TypeId} (h : fn.results = #[.cell t ty, .tmp u]) (tmps : Array Value) (w : World) (g : Nat) (x : Int) (v : Value) (hty : ty = 30)
    (ht : tmps[t]?.getD undef = .pointer (some ⟨g, 0, none⟩)) (h0 : w.cell? ⟨g, 0, none⟩ = some (.int .i64 x)) (h1 : w.cell? ⟨g, 1, none⟩ = some v) :
    (results fn tmps).run Tryd.prog w = .ok (.tuple #[.agg #[.int .i64 x, v], tmps.getD u undef]) w := by
  subst hty
  simp [results, h, ht, h0, h1, go_sem]
theorem setZ0 {w : World} {g : Nat} {x y u v : Value} (h0 : w.cell? ⟨g, 0, none⟩ = some u) (_h1 : w.cell? ⟨g, 1, none⟩ = some v) : ((w.setCell ⟨g, 0, none⟩ x).setCell ⟨g, 1, none⟩ y).cell? ⟨g, 0, none⟩ = some x := by
  have h2 : (w.setCell ⟨g, 0, none⟩ x).cell? ⟨g, 0, none⟩ = some x := by go_simp
  go_simp
theorem setZ1 {w : World} {g : Nat} {x y u v : Value} (_h0 : w.cell? ⟨g, 0, none⟩ = some u) (h1 : w.cell? ⟨g, 1, none⟩ = some v) : ((w.setCell ⟨g, 0, none⟩ x).setCell ⟨g, 1, none⟩ y).cell? ⟨g, 1, none⟩ = some y := by
  go_simp

theorem cell_far {w : World} {g b i j : Nat} {u v : Value} (h : w.cell? ⟨g, i, none⟩ = some u) (hne : b ≠ g) : (w.setCell ⟨b, j, none⟩ v).cell? ⟨g, i, none⟩ = some u := by
  have hb := (set_grown w b j v).block g (World.block_lt_of_cell? w _ h) (fun e => hne (Option.some.inj e).symm)
  rw [← h]; simp [World.cell?, hb]

theorem ownZ_set {w : World} {B g : Nat} {v : Value} {ps : List RClue} (h : OwnClue w B v ps) (hg : g < B) (j : Nat) (x : Value) : OwnClue (w.setCell ⟨g, j, none⟩ x) B v ps := by
  unfold OwnClue at h ⊢
  refine h.kept (set_grown w g j x) ?_
  rcases hv : v.ownBlock with _ | b
  · exact .inl rfl
  · refine .inr (fun e => ?_)
    have h1 := (World.ownsRow.lt h b hv).1
    have := Option.some.inj e
    omega


end Go.Proofs.YtodlpdbmiicdfabDoor
