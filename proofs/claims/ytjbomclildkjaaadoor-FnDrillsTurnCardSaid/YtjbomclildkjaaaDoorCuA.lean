/- The draws' cursor, on: what other steps leave of it; a new cursor; among on a list written out; big. -/
import Derived.Test.YtjbomclildkjaaaDoorCu
import Derived.Test.YtjbomclildkjaaaDoorHeSpec
import Derived.OpenShut
namespace Go.Proofs.YtjbomclildkjaaaDoor
open Go.ChangeShapes Go.WideShapes Go.ChangeAt Go.RowKit
open Cu

theorem alloc_size (w : World) (o : Obj) : (w.alloc o).heap.size = w.heap.size + 1 := Array.size_push _
theorem Cur.below {w w' : World} {g A B : Nat} (h : Cur w g A) (hb : Below B w w') (hg : g < B) : Cur w' g A := by
  obtain ⟨a, len, cap, k, sd, h1, h2, h3, h4, h5, h6, h7⟩ := h.has
  refine ⟨a, len, cap, k, sd, h1.below hb hg, h2, h3, h4, h5, fun hp => ?_, h7⟩
  obtain ⟨b, off, e, hc⟩ := h6 hp
  refine ⟨b, off, e, fun j hj => ?_⟩
  obtain ⟨x, hx, hx2⟩ := hc j hj
  have := h7 hp _ e
  exact ⟨x, hx, (World.cell?_of_block (hb.block b (Nat.lt_trans this hg))).trans hx2⟩
theorem Drawn.below {w w1 w2 : World} {g A : Nat} (h : Drawn w w1 g A) (hb : Below w.heap.size w1 w2) (hg : g < w.heap.size) : Drawn w w2 g A :=
  ⟨h.cur.below hb hg, hb.os.trans h.grown.os, hb.tape.trans h.grown.tape, hb.output.trans h.grown.output, Nat.le_trans h.grown.size hb.size, fun k hk hr => (hb.block k hk).trans (h.grown.block k hk hr)⟩
theorem Drawn.mono {w w1 : World} {g A A' : Nat} (h : Drawn w w1 g A) (hA : A ≤ A') : Drawn w w1 g A' := ⟨h.cur.mono hA, h.grown⟩
theorem drawn_refl {w : World} {g A : Nat} (h : Cur w g A) : Drawn w w g A := ⟨h, World.grownBy.refl _ _⟩
theorem Cu.bytes_of {w : World} {x : Addr} {len cap : Nat} {zs : List Int} (hz : zs.length = cap) (hl : len ≤ cap) (hcell : ∀ i, i < zs.length → w.cell? (x.add i) = some (.int .u8 (zs.getD i 0))) (hwf : ∀ n ∈ zs, (Lit.int .u8 n).wf = true) : Bytes w (some x) len := by
  intro hp
  obtain ⟨b, off, rfl, hc⟩ := Go.ints_at hcell (by omega)
  refine ⟨b, off, rfl, fun k hk => ?_⟩
  have hm : zs.getD k 0 ∈ zs := by
    rw [List.getD_eq_getElem?_getD, List.getElem?_eq_getElem (show k < zs.length by omega)]; exact List.getElem_mem _
  have hw := hwf _ hm
  have h0 : 0 ≤ zs.getD k 0 ∧ zs.getD k 0 ≤ 255 := by
    simp only [Lit.wf, Bool.and_eq_true, decide_eq_true_eq] at hw
    have e1 : IntKind.min .u8 = 0 := rfl
    have e2 : IntKind.max .u8 = 255 := rfl
    rw [e1, e2] at hw
    exact hw
  refine ⟨(zs.getD k 0).toNat, by omega, ?_⟩
  rw [hc k (by omega), show (((zs.getD k 0).toNat : Nat) : Int) = zs.getD k 0 by omega]

def bigB (la lb : Nat) : Bool := decide ((1048576 : Int) < (la : Int)) || decide ((1048576 : Int) - (la : Int) < (lb : Int))
set_option maxRecDepth 20000 in
theorem big_p (w : World) (a b : Option Addr) (la ca lb cb : Nat) (_h1 : la ≤ 9223372036854775807) (_h2 : lb ≤ 9223372036854775807) :
    Calls Tryd.prog 7 #[.slice a la ca, .slice b lb cb] w fun e w' => e = .returned (.bool (bigB la lb)) ∧ w = w' := by
  by_cases h : (1048576 : Int) < (la : Int)
  · have H0 : Hid (bigB la lb = true) := Lib.hid (by unfold bigB; rw [decide_eq_true h]; rfl)
    go_enter Tryd.func7, Tryd.ntmps7
    go_wp2
    go_ret
    exact ⟨ret_bool H0.out.symm, rfl⟩
  · have hd : decide ((1048576 : Int) < (la : Int)) = false := by simpa using h
    have H0 : Hid (bigB la lb = decide ((1048576 : Int) - (la : Int) < (lb : Int))) := Lib.hid (by unfold bigB; rw [hd]; rfl)
    have i1 : (la : Int) ≤ 1048576 := by omega
    go_enter Tryd.func7, Tryd.ntmps7
    go_wp2
    go_ret
    exact ⟨ret_bool H0.out.symm, rfl⟩
/-- a new cursor -/
theorem cur_new (w : World) (a : Option Addr) (len cap : Nat) (hl : len ≤ 9223372036854775807) (hb : Bytes w a len) : Cur (w.alloc (.cells #[.slice a len cap, .int .i64 0, .int .u64 0] 65)) w.heap.size 0 := by
  refine ⟨a, len, cap, 0, 0, heap_alloc_new w _, Nat.le_refl _, by omega, by omega, hl, fun hp => ?_, fun hp x hx => ?_⟩
  · obtain ⟨b, off, e, hc⟩ := hb hp
    refine ⟨b, off, e, fun k hk => ?_⟩
    obtain ⟨x, h1, h2⟩ := hc k hk
    exact ⟨x, h1, (World.cell?_of_block (heap_alloc_old _ _ (World.block_lt_of_cell? w _ h2))).trans h2⟩
  · obtain ⟨b, off, e, hc⟩ := hb hp
    obtain ⟨y, _, h2⟩ := hc 0 hp
    rw [e] at hx
    cases hx
    exact World.block_lt_of_cell? w _ h2
/-- one of the numbers of a list that has just been written out -/
theorem among_lit (wS w : World) (g A n : Nat) (xs : List Int) (hn : xs.length = n) (h1 : 1 ≤ n) (h2 : n ≤ 1000) (hA : A ≤ 100000000000) (hg : g < wS.heap.size) (hd : Drawn wS w g A) :
    Calls Tryd.prog 84 #[.pointer (some ⟨g, 0, none⟩), .slice (some ⟨w.heap.size, 0, none⟩) n n] (w.alloc (.cells (xs.map (Value.int .i64)).toArray 3)) fun e w' => ∃ x, x ∈ xs ∧ e = .returned (.int .i64 x) ∧ Drawn wS w' g (A + 2) := by
  have hgw : g < w.heap.size := Nat.lt_of_lt_of_le hg hd.grown.size
  have hd1 := hd.below (w2 := w.alloc (.cells (xs.map (Value.int .i64)).toArray 3)) ((Below.refl _ _).alloc hd.grown.size _) hg
  have hc : Came (w.alloc (.cells (xs.map (Value.int .i64)).toArray 3)) (some ⟨w.heap.size, 0, none⟩) n xs := ⟨hn, fun _ => ⟨w.heap.size, 0, rfl, fun k hk => by
    rw [World.cell?_alloc_new, Nat.zero_add, List.getElem?_toArray, List.getElem?_map, List.getElem?_eq_getElem (by omega), List.getD_eq_getElem?_getD, List.getElem?_eq_getElem (by omega)]; rfl⟩⟩
  refine (among_p _ g A (some ⟨w.heap.size, 0, none⟩) n n xs hA h1 h2 hc (fun x hx => by cases hx; exact (Nat.ne_of_lt hgw).symm) hd1.cur).mono ?_
  rintro e w' ⟨k, hk, rfl, d⟩
  refine ⟨xs.getD k 0, ?_, rfl, hd1.trans d⟩
  rw [List.getD_eq_getElem?_getD, List.getElem?_eq_getElem (by omega)]; exact List.getElem_mem _
end Go.Proofs.YtjbomclildkjaaaDoor
