/- Chapter 5, the program: AddPace. -/
import Derived.Test.YthnbimfdodfhoaaJe
import Derived.Test.YthnbimfdodfhoaaPk
namespace Go.Proofs.Ythnbimfdodfhoaa
open Go.ChangeShapes Go.WideShapes Go.ChangeAt Go.RowKit
open Pa

set_option maxHeartbeats 4000000 in
theorem implAddPace_any (w : World) (a : Option Addr) (len cap : Nat) (ps : List RPace) (x y : Int) (hl : len ≤ 1048576) (hc : CamePace w a len ps) :
    Calls Try.prog 38 #[.slice a len cap, .agg #[.int .i64 x, .int .i64 y]] w fun e w' => ∃ v0, e = .returned (.tuple #[v0, .bool (outAddPace_1 ps (x, y))]) ∧ OwnPace w' w.heap.size v0 (outAddPace_0 ps (x, y)) ∧ Below w.heap.size w w' := by
  have HB1 : Hid (Below w.heap.size w (w.alloc (.cells #[.int .i64 x, .int .i64 y] 48))) := Lib.hid ((Below.refl _ _).alloc (Nat.le_refl _) _)
  have HG := Lib.hid (arePaces_any (w.alloc (.cells #[.int .i64 x, .int .i64 y] 48)) a len cap ps hl (hc.below HB1.out))
  have HP := Lib.hid (fun w2 => isValid_any x y w2)
  have HC := Lib.hid hc
  have HZ : Hid (ps.length = len) := Lib.hid hc.1
  have HK0 : Hid (∀ w2, Below (w.alloc (.cells #[.int .i64 x, .int .i64 y] 48)).heap.size (w.alloc (.cells #[.int .i64 x, .int .i64 y] 48)) w2 → w2.cell? ⟨w.heap.size, 0, none⟩ = some (.int .i64 x) ∧ w2.cell? ⟨w.heap.size, 1, none⟩ = some (.int .i64 y)) := Lib.hid (fun w2 h => by
    have h0 : (⟨w.heap.size, 0, none⟩ : Addr).block < (w.alloc (.cells #[.int .i64 x, .int .i64 y] 48)).heap.size := by rw [alloc_size1]; exact Nat.lt_succ_self _
    have h1 : (⟨w.heap.size, 1, none⟩ : Addr).block < (w.alloc (.cells #[.int .i64 x, .int .i64 y] 48)).heap.size := by rw [alloc_size1]; exact Nat.lt_succ_self _
    exact ⟨(h.cell h0).trans (by rw [World.cell?_alloc_new]; rfl), (h.cell h1).trans (by rw [World.cell?_alloc_new]; rfl)⟩)
  clear hc
  rcases hb : goodP ps with _ | _
  · have H0 : Hid (outAddPace_0 ps (x, y) = [] ∧ outAddPace_1 ps (x, y) = false) := Lib.hid (by unfold outAddPace_0 outAddPace_1 addB; rw [hb]; exact ⟨rfl, rfl⟩)
    rw [hb] at HG
    clear hb
    go_enter Try.func38, Try.ntmps38
    go_wp2_with (go_at_call 16; refine HG.out.mono ?_; rintro e w2 ⟨rfl, b2⟩; have B2 : Hid (Below w.heap.size w w2) := Lib.hid (HB1.out.trans (b2.mono HB1.out.size)); clear b2)
    go_ret2
    exact ⟨_, by rw [H0.out.2]; exact rfl, by rw [H0.out.1]; exact ownPace_nil _ _, B2.out⟩
  · have h6 : len ≤ 6 := by have := good_len hb; have := HZ.out; omega
    have h1 : 1 ≤ len := by have h := hb; unfold goodP at h; rw [Bool.and_eq_true] at h; have := inB_yes h.1; have := HZ.out; omega
    rw [hb] at HG
    rcases hb2 : paceB (x, y) with _ | _
    · have H0 : Hid (outAddPace_0 ps (x, y) = [] ∧ outAddPace_1 ps (x, y) = false) := Lib.hid (by unfold outAddPace_0 outAddPace_1 addB; rw [hb, hb2]; exact ⟨rfl, rfl⟩)
      rw [hb2] at HP
      clear hb hb2
      go_enter Try.func38, Try.ntmps38
      go_wp2_with fail
      go_at_call 16
      refine HG.out.mono ?_
      rintro e w2 ⟨rfl, b2⟩
      have B2 : Hid (Below w.heap.size w w2) := Lib.hid (HB1.out.trans (b2.mono HB1.out.size))
      obtain ⟨ec0, ec1⟩ := HK0.out w2 b2
      clear b2
      go_wp2_with fail
      go_at_call 46
      refine (HP.out _).mono ?_
      rintro e w3 ⟨rfl, b3⟩
      have B3 : Hid (Below w.heap.size w w3) := Lib.hid (B2.out.trans (b3.mono B2.out.size))
      clear b3 ec0 ec1
      go_wp2
      go_ret2
      exact ⟨_, by rw [H0.out.2]; exact rfl, by rw [H0.out.1]; exact ownPace_nil _ _, B3.out⟩
    · rw [hb2] at HP
      by_cases hone : len = 6
      · have H0 : Hid (outAddPace_0 ps (x, y) = [] ∧ outAddPace_1 ps (x, y) = false) := Lib.hid (by unfold outAddPace_0 outAddPace_1 addB; rw [hb, HZ.out, hb2, decide_eq_false (fun h => h hone)]; exact ⟨rfl, rfl⟩)
        have hq : ((len : Int) == 6) = true := by rw [beq_iff_eq]; omega
        clear hb hb2 hone
        go_enter Try.func38, Try.ntmps38
        go_wp2_with fail
        go_at_call 16
        refine HG.out.mono ?_
        rintro e w2 ⟨rfl, b2⟩
        have B2 : Hid (Below w.heap.size w w2) := Lib.hid (HB1.out.trans (b2.mono HB1.out.size))
        obtain ⟨ec0, ec1⟩ := HK0.out w2 b2
        clear b2
        go_wp2_with fail
        go_at_call 46
        refine (HP.out _).mono ?_
        rintro e w3 ⟨rfl, b3⟩
        have B3 : Hid (Below w.heap.size w w3) := Lib.hid (B2.out.trans (b3.mono B2.out.size))
        clear b3 ec0 ec1
        go_wp2
        go_ret2
        exact ⟨_, by rw [H0.out.2]; exact rfl, by rw [H0.out.1]; exact ownPace_nil _ _, B3.out⟩
      · have H0 : Hid (outAddPace_0 ps (x, y) = ps ++ [(x, y)] ∧ outAddPace_1 ps (x, y) = true) := Lib.hid (by unfold outAddPace_0 outAddPace_1 addB; rw [hb, HZ.out, hb2, decide_eq_true hone]; exact ⟨rfl, rfl⟩)
        have hq : ((len : Int) == 6) = false := by rw [beq_eq_false_iff_ne]; omega
        obtain ⟨b, off, rfl, hcell⟩ := HC.out.2 (by omega)
        have HCL := Lib.hid (fun w2 (h : Below w.heap.size w w2) => clonePaces_any w2 b off len cap ps (by omega) (HC.out.below h))
        clear hb hb2 hone hcell
        go_enter Try.func38, Try.ntmps38
        go_wp2_with fail
        go_at_call 16
        refine HG.out.mono ?_
        rintro e w2 ⟨rfl, b2⟩
        have B2 : Hid (Below w.heap.size w w2) := Lib.hid (HB1.out.trans (b2.mono HB1.out.size))
        obtain ⟨ec0, ec1⟩ := HK0.out w2 b2
        clear b2
        go_wp2_with fail
        go_at_call 46
        refine (HP.out _).mono ?_
        rintro e w3 ⟨rfl, b3⟩
        have B3 : Hid (Below w.heap.size w w3) := Lib.hid (B2.out.trans (b3.mono B2.out.size))
        have HD : Hid (w3.cell? ⟨w.heap.size, 0, none⟩ = some (.int .i64 x) ∧ w3.cell? ⟨w.heap.size, 1, none⟩ = some (.int .i64 y)) := Lib.hid ⟨(b3.cell (World.block_lt_of_cell? _ _ ec0)).trans ec0, (b3.cell (World.block_lt_of_cell? _ _ ec1)).trans ec1⟩
        clear b3 ec0 ec1
        go_wp2_with fail
        obtain ⟨g, hg⟩ : ∃ g, g = w.heap.size := ⟨_, rfl⟩
        have HGE := Lib.hid hg
        have hz := B3.out.size
        have HWW : Hid (∀ w2, Below w3.heap.size w3 w2 → Below w.heap.size w w2) := Lib.hid (fun w2 h => B3.out.trans (h.mono hz))
        rw [← hg] at HD ⊢
        clear hg
        obtain ⟨ec0, ec1⟩ := HD.out
        have HKA : Hid (∀ w2, Below w3.heap.size w3 w2 → w2.cell? ⟨g, 0, none⟩ = some (.int .i64 x) ∧ w2.cell? ⟨g, 1, none⟩ = some (.int .i64 y)) := Lib.hid (fun w2 h => ⟨(h.cell (World.block_lt_of_cell? w3 _ HD.out.1)).trans HD.out.1, (h.cell (World.block_lt_of_cell? w3 _ HD.out.2)).trans HD.out.2⟩)
        have HD1 : Hid (Below w3.heap.size w3 w3.drew) := Lib.hid (below_drew1 (Below.refl _ _))
        have HD2 : Hid (Below w3.heap.size w3 (w3.alloc (.cells #[.int .i64 x, .int .i64 y] 48)).drew) := Lib.hid (below_drew1 ((Below.refl _ _).alloc (Nat.le_refl _) _))
        have HCA : Hid (Calls Try.prog 57 #[.slice (some ⟨b, off, none⟩) len cap] w3.drew fun e w' => ∃ v, e = .returned v ∧ Hid (OwnPace w' w3.heap.size v ps) ∧ Hid (Below w3.heap.size w3 w')) := Lib.hid
          ((HCL.out _ (HWW.out _ HD1.out)).mono fun e w' ⟨v, he, ho, hb⟩ => ⟨v, he, Lib.hid ho, Lib.hid (HD1.out.trans (hb.mono HD1.out.size))⟩)
        have HCB : Hid (Calls Try.prog 57 #[.slice (some ⟨b, off, none⟩) len cap] (w3.alloc (.cells #[.int .i64 x, .int .i64 y] 48)).drew fun e w' => ∃ v, e = .returned v ∧ Hid (OwnPace w' w3.heap.size v ps) ∧ Hid (Below w3.heap.size w3 w') ∧ Hid (∀ j u, ([((x, y) : RPace)].flatMap cPace)[j]? = some u → w'.cell? ((⟨w3.heap.size, 0, none⟩ : Addr).add j) = some u)) := Lib.hid
          ((HCL.out _ (HWW.out _ HD2.out)).mono fun e w' ⟨v, he, ho, hb⟩ => ⟨v, he, Lib.hid (ho.mono HD2.out.size), Lib.hid (HD2.out.trans (hb.mono HD2.out.size)), Lib.hid (fun j u hj => by
            have h1 := src_one (w := w3) x y rfl j u hj
            have h2 : (w3.alloc (.cells #[.int .i64 x, .int .i64 y] 48)).drew.cell? ((⟨w3.heap.size, 0, none⟩ : Addr).add j) = some u := h1
            exact (hb.cell (World.block_lt_of_cell? _ _ h2)).trans h2)⟩)
        have hlen : ps.length + 1 ≤ 1000000000 := by rw [HZ.out]; omega
        clear hz
        go_region_held_law (fun w' => w'.cell? ⟨g, 0, none⟩ = some (.int .i64 x) ∧ w'.cell? ⟨g, 1, none⟩ = some (.int .i64 y)) (first | go_keep | exact HKA.out _ (Below.trans (below_like (b5.out.alloc b5.out.size (.cells #[.int .i64 x, .int .i64 y] 48)) rfl rfl rfl rfl) hB6) | exact HKA.out _ (b5.out.trans hB6) | exact HKA.out _ b5.out)
          (first
            | (go_at_call 57; refine HCA.out.mono ?_; rintro e w5 ⟨v5, rfl, o5, b5⟩)
            | (go_at_call 57; refine HCB.out.mono ?_; rintro e w5 ⟨v5, rfl, o5, b5, s5⟩)
            | (refine step_appPace rfl _ _ rfl w3.heap.size _ ps [(x, y)] _ _ _ rfl rfl (show OwnPace (w5.alloc _) _ _ _ from ownPace_alloc o5.out _) rfl (src_one (w := w5) x y rfl) (show w3.heap.size ≤ (w5.alloc _).heap.size by rw [alloc_size1]; exact Nat.le_succ_of_le b5.out.size) hlen ?_; intro v6 w6 hO6 hB6 hG6)
            | (refine step_appPace rfl _ _ rfl w3.heap.size _ ps [(x, y)] _ _ _ rfl rfl o5.out rfl s5.out b5.out.size hlen ?_; intro v6 w6 hO6 hB6 hG6))
        all_goals
          simp only [List.getElem_toArray, List.getElem_cons_zero, List.getElem_cons_succ, List.setIfInBounds_toArray, List.set_cons_zero, List.set_cons_succ]
          have HO6 : Hid (OwnPace w6 w3.heap.size v6 (ps ++ [(x, y)])) := Lib.hid hO6
          have HB6 : Hid (Below w3.heap.size w3 w6) := Lib.hid (by first | exact Below.trans (below_like (b5.out.alloc b5.out.size (.cells #[.int .i64 x, .int .i64 y] 48)) rfl rfl rfl rfl) hB6 | exact b5.out.trans hB6)
          clear hO6 hB6 hG6
          go_wp2
          go_ret2
          exact ⟨_, by rw [H0.out.2]; exact rfl, by rw [H0.out.1]; exact HO6.out.mono B3.out.size, HWW.out _ HB6.out⟩

end Go.Proofs.Ythnbimfdodfhoaa
