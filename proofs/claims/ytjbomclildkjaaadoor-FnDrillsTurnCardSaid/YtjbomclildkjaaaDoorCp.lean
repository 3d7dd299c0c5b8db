/- One of a list of texts that is written out. -/
import Derived.Test.YtjbomclildkjaaaDoorCo
import Derived.Test.YtjbomclildkjaaaDoorCt
namespace Go.Proofs.YtjbomclildkjaaaDoor
open Go.ChangeShapes Go.WideShapes Go.ChangeAt Go.RowKit
open Cu
set_option maxRecDepth 20000 in
set_option maxHeartbeats 2000000 in
theorem of_p (w : World) (g A : Nat) (a : Option Addr) (n cap : Nat) (xs : List ByteArray) (hA : A ≤ 100000000000) (h1 : 1 ≤ n) (h2 : n ≤ 1000) (hx : CameT w a n xs) (hne : ∀ x, a = some x → x.block ≠ g) (hc : Cur w g A) :
    Calls Tryd.prog 71 #[.pointer (some ⟨g, 0, none⟩), .slice a n cap] w fun e w' => ∃ k : Nat, k < n ∧ e = .returned (.string (xs.getD k ByteArray.empty)) ∧ Drawn w w' g (A + 2) := by
  have C1 := Lib.hid (pick_p w g A n hA h1 (by omega) hc)
  obtain ⟨b, off, rfl, hcl⟩ := hx.2 (by omega)
  have HL : Hid (∀ w1, w.grownBy w1 (some g) → ∀ k, k < n → w1.cell? ⟨b, off + k, none⟩ = some (.string (xs.getD k ByteArray.empty))) :=
    Lib.hid (fun w1 hg k hk => (World.cell?_of_block (hg.block b (World.block_lt_of_cell? w _ (hcl k hk)) (fun h => hne _ rfl (Option.some.inj h)))).trans (hcl k hk))
  have q0 : (n : Int) ≤ 1000 := by omega
  clear hx hcl hne hc
  go_enter Tryd.func71, Tryd.ntmps71
  go_wp2_with fail
  go_at_call 68
  refine C1.out.mono ?_
  rintro e w1 ⟨r, hr, rfl, hd⟩
  have HD := Lib.hid hd
  have e1 := HL.out w1 hd.grown r hr
  have q1 : (0 : Int) ≤ (r : Int) := by omega
  have q2 : (r : Int) < (n : Int) := by omega
  clear hd
  go_wp2
  go_ret
  exact ⟨r, hr, rfl, HD.out⟩
set_option maxRecDepth 20000 in
theorem of_lit (wS w : World) (g A n : Nat) (xs : List ByteArray) (hn : xs.length = n) (h1 : 1 ≤ n) (h2 : n ≤ 1000) (hA : A ≤ 100000000000) (hg : g < wS.heap.size) (hd : Drawn wS w g A) :
    Calls Tryd.prog 71 #[.pointer (some ⟨g, 0, none⟩), .slice (some ⟨w.heap.size, 0, none⟩) n n] (w.alloc (.cells (xs.map Value.string).toArray 9)) fun e w' => ∃ x, x ∈ xs ∧ e = .returned (.string x) ∧ Drawn wS w' g (A + 2) := by
  have hgw : g < w.heap.size := Nat.lt_of_lt_of_le hg hd.grown.size
  have hd1 := hd.below (w2 := w.alloc (.cells (xs.map Value.string).toArray 9)) ((Below.refl _ _).alloc hd.grown.size _) hg
  have hc : CameT (w.alloc (.cells (xs.map Value.string).toArray 9)) (some ⟨w.heap.size, 0, none⟩) n xs := ⟨hn, fun _ => ⟨w.heap.size, 0, rfl, fun k hk => by
    rw [World.cell?_alloc_new, Nat.zero_add, List.getElem?_toArray, List.getElem?_map, List.getElem?_eq_getElem (by omega), List.getD_eq_getElem?_getD, List.getElem?_eq_getElem (by omega)]; rfl⟩⟩
  refine (of_p _ g A (some ⟨w.heap.size, 0, none⟩) n n xs hA h1 h2 hc (fun x hx => by cases hx; exact (Nat.ne_of_lt hgw).symm) hd1.cur).mono ?_
  rintro e w' ⟨k, hk, rfl, d⟩
  refine ⟨xs.getD k ByteArray.empty, ?_, rfl, hd1.trans d⟩
  rw [List.getD_eq_getElem?_getD, List.getElem?_eq_getElem (by omega)]; exact List.getElem_mem _
end Go.Proofs.YtjbomclildkjaaaDoor
