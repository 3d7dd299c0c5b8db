/- Chapter 5: the model's AddPace. -/
import Derived.Test.YthnbimfdodfhoaaPj
namespace Go.Proofs.Ythnbimfdodfhoaa
open Go.ChangeShapes Go.WideShapes Go.ChangeAt Go.RowKit
open Pa

/-- what lay in a block that an append does not turn -/
theorem src_keep {W w5 : World} {N : Nat} {r : Option Nat} {L : List Value} (h : ∀ j u, L[j]? = some u → W.cell? ((⟨N, 0, none⟩ : Addr).add j) = some u) (hG : W.grownBy w5 r) (hr : some N ≠ r) : ∀ j u, L[j]? = some u → w5.cell? ((⟨N, 0, none⟩ : Addr).add j) = some u := by
  intro j u hj
  have h1 := h j u hj
  rw [Addr.add_mid] at h1 ⊢
  exact (World.cell?_of_block (hG.block N (World.block_lt_of_cell? W _ h1) hr)).trans h1
theorem below_like {B : Nat} {w0 w w' : World} (h : Below B w0 w) (h1 : w'.os = w.os) (h2 : w'.tape = w.tape) (h3 : w'.output = w.output) (h4 : w'.heap = w.heap) : Below B w0 w' := ⟨h1.trans h.os, h2.trans h.tape, h3.trans h.output, by rw [h4]; exact h.size, fun k hk => by rw [h4]; exact h.block k hk⟩
namespace Pa
def addB (ps : List RPace) (p : RPace) : Bool := goodP ps && paceB p && decide (ps.length ≠ 6)
end Pa
def outAddPace_0 (ps : List RPace) (p : RPace) : List RPace := if addB ps p then ps ++ [p] else []
def outAddPace_1 (ps : List RPace) (p : RPace) : Bool := addB ps p
theorem lenAddPace_0 (ps : List RPace) (p : RPace) : (outAddPace_0 ps p).length ≤ 1048576 := by
  unfold outAddPace_0
  split
  · rename_i h
    unfold addB at h
    simp only [Bool.and_eq_true] at h
    have := good_len h.1.1
    rw [List.length_append, List.length_singleton]
    omega
  · simp

set_option maxHeartbeats 4000000 in
theorem specAddPace_any (w : World) (a : Option Addr) (len cap : Nat) (ps : List RPace) (x y : Int) (hl : len ≤ 1048576) (hc : CamePace w a len ps) :
    Calls Try.prog 36 #[.slice a len cap, .agg #[.int .i64 x, .int .i64 y]] w fun e w' => ∃ v0, e = .returned (.tuple #[v0, .bool (outAddPace_1 ps (x, y))]) ∧ OwnPace w' w.heap.size v0 (outAddPace_0 ps (x, y)) ∧ Below w.heap.size w w' := by
  have HB1 : Hid (Below w.heap.size w (w.alloc (.cells #[.int .i64 x, .int .i64 y] 48))) := Lib.hid ((Below.refl _ _).alloc (Nat.le_refl _) _)
  have HG := Lib.hid (spGood_any (w.alloc (.cells #[.int .i64 x, .int .i64 y] 48)) a len cap ps hl (hc.below HB1.out))
  have HP := Lib.hid (fun w2 => spPace_any x y w2)
  have HC := Lib.hid hc
  have HZ : Hid (ps.length = len) := Lib.hid hc.1
  have HK0 : Hid (∀ w2, Below (w.alloc (.cells #[.int .i64 x, .int .i64 y] 48)).heap.size (w.alloc (.cells #[.int .i64 x, .int .i64 y] 48)) w2 → w2.cell? ⟨w.heap.size, 0, none⟩ = some (.int .i64 x) ∧ w2.cell? ⟨w.heap.size, 1, none⟩ = some (.int .i64 y)) := Lib.hid (fun w2 h => by
    have h0 : (⟨w.heap.size, 0, none⟩ : Addr).block < (w.alloc (.cells #[.int .i64 x, .int .i64 y] 48)).heap.size := by rw [alloc_size1]; exact Nat.lt_succ_self _
    have h1 : (⟨w.heap.size, 1, none⟩ : Addr).block < (w.alloc (.cells #[.int .i64 x, .int .i64 y] 48)).heap.size := by rw [alloc_size1]; exact Nat.lt_succ_self _
    exact ⟨(h.cell h0).trans (by rw [World.cell?_alloc_new]; rfl), (h.cell h1).trans (by rw [World.cell?_alloc_new]; rfl)⟩)
  clear hc
  rcases hb : goodP ps with _ | _
  · have H0 : Hid (outAddPace_0 ps (x, y) = [] ∧ outAddPace_1 ps (x, y) = false) := Lib.hid (by unfold outAddPace_0 outAddPace_1 addB; rw [hb]; exact ⟨rfl, rfl⟩)
    rw [hb] at HG
    clear hb
    go_enter Try.func36, Try.ntmps36
    go_wp2_with (go_at_call 45; refine HG.out.mono ?_; rintro e w2 ⟨rfl, b2⟩; have B2 : Hid (Below w.heap.size w w2) := Lib.hid (HB1.out.trans (b2.mono HB1.out.size)); clear b2)
    go_ret2
    exact ⟨_, by rw [H0.out.2]; exact rfl, by rw [H0.out.1]; exact ownPace_nil _ _, B2.out⟩
  · have h6 : len ≤ 6 := by have := good_len hb; have := HZ.out; omega
    have h1 : 1 ≤ len := by have h := hb; unfold goodP at h; rw [Bool.and_eq_true] at h; have := inB_yes h.1; have := HZ.out; omega
    rw [hb] at HG
    rcases hb2 : paceB (x, y) with _ | _
    · have H0 : Hid (outAddPace_0 ps (x, y) = [] ∧ outAddPace_1 ps (x, y) = false) := Lib.hid (by unfold outAddPace_0 outAddPace_1 addB; rw [hb, hb2]; exact ⟨rfl, rfl⟩)
      rw [hb2] at HP
      clear hb hb2
      go_enter Try.func36, Try.ntmps36
      go_wp2_with fail
      go_at_call 45
      refine HG.out.mono ?_
      rintro e w2 ⟨rfl, b2⟩
      have B2 : Hid (Below w.heap.size w w2) := Lib.hid (HB1.out.trans (b2.mono HB1.out.size))
      obtain ⟨ec0, ec1⟩ := HK0.out w2 b2
      clear b2
      go_wp2_with fail
      go_at_call 58
      refine (HP.out _).mono ?_
      rintro e w3 ⟨rfl, b3⟩
      have B3 : Hid (Below w.heap.size w w3) := Lib.hid (B2.out.trans (b3.mono B2.out.size))
      clear b3 ec0 ec1
      go_wp2
      go_ret2
      exact ⟨_, by rw [H0.out.2]; exact rfl, by rw [H0.out.1]; exact ownPace_nil _ _, B3.out⟩
    · rw [hb2] at HP
      by_cases hone : len = 6
      · have H0 : Hid (outAddPace_0 ps (x, y) = [] ∧ outAddPace_1 ps (x, y) = false) := Lib.hid (by unfold outAddPace_0 outAddPace_1 addB; rw [hb, HZ.out, hb2, decide_eq_false (fun h => h hone)]; exact ⟨rfl, rfl⟩)
        have hq : ((len : Int) == 6) = true := by rw [beq_iff_eq]; omega
        clear hb hb2 hone
        go_enter Try.func36, Try.ntmps36
        go_wp2_with fail
        go_at_call 45
        refine HG.out.mono ?_
        rintro e w2 ⟨rfl, b2⟩
        have B2 : Hid (Below w.heap.size w w2) := Lib.hid (HB1.out.trans (b2.mono HB1.out.size))
        obtain ⟨ec0, ec1⟩ := HK0.out w2 b2
        clear b2
        go_wp2_with fail
        go_at_call 58
        refine (HP.out _).mono ?_
        rintro e w3 ⟨rfl, b3⟩
        have B3 : Hid (Below w.heap.size w w3) := Lib.hid (B2.out.trans (b3.mono B2.out.size))
        clear b3 ec0 ec1
        go_wp2
        go_ret2
        exact ⟨_, by rw [H0.out.2]; exact rfl, by rw [H0.out.1]; exact ownPace_nil _ _, B3.out⟩
      · have H0 : Hid (outAddPace_0 ps (x, y) = ps ++ [(x, y)] ∧ outAddPace_1 ps (x, y) = true) := Lib.hid (by unfold outAddPace_0 outAddPace_1 addB; rw [hb, HZ.out, hb2, decide_eq_true hone]; exact ⟨rfl, rfl⟩)
        have hq : ((len : Int) == 6) = false := by rw [beq_eq_false_iff_ne]; omega
        obtain ⟨b, off, rfl, hcell⟩ := HC.out.2 (by omega)
        have HS1 : Hid (∀ w2, Below w.heap.size w w2 → ∀ j u, (ps.flatMap cPace)[j]? = some u → w2.cell? ((⟨b, off, none⟩ : Addr).add j) = some u) := Lib.hid (fun w2 h => src_came (HC.out.below h))
        clear hb hb2 hone hcell
        go_enter Try.func36, Try.ntmps36
        go_wp2_with fail
        go_at_call 45
        refine HG.out.mono ?_
        rintro e w2 ⟨rfl, b2⟩
        have B2 : Hid (Below w.heap.size w w2) := Lib.hid (HB1.out.trans (b2.mono HB1.out.size))
        have HB2 := Lib.hid b2
        obtain ⟨ec0, ec1⟩ := HK0.out w2 b2
        clear b2
        go_wp2_with fail
        go_at_call 58
        refine (HP.out _).mono ?_
        rintro e w4 ⟨rfl, b3⟩
        have B4 : Hid (Below w.heap.size w w4) := Lib.hid (B2.out.trans (b3.mono B2.out.size))
        have HC4 : Hid (w4.cell? ⟨w.heap.size, 0, none⟩ = some (.int .i64 x) ∧ w4.cell? ⟨w.heap.size, 1, none⟩ = some (.int .i64 y)) := Lib.hid (HK0.out w4 (HB2.out.trans (b3.mono HB2.out.size)))
        clear b3 ec0 ec1
        go_wp2_with fail
        obtain ⟨g, hg⟩ : ∃ g, g = w.heap.size := ⟨_, rfl⟩
        have HGE := Lib.hid hg
        rw [← hg] at HC4 B4 HS1 ⊢
        clear hg
        have hz := B4.out.size
        obtain ⟨ec0, ec1⟩ := HC4.out
        have HBA : Hid (Below w4.heap.size w4 (w4.alloc (.cells #[] 48)).drew) := Lib.hid (below_drew1 ((Below.refl _ _).alloc (Nat.le_refl _) _))
        have HBB : Hid (Below w4.heap.size w4 ((w4.alloc (.cells #[] 48)).alloc (.cells #[.int .i64 x, .int .i64 y] 48)).drew) := Lib.hid (below_drew1 (((Below.refl _ _).alloc (Nat.le_refl _) _).alloc (by rw [alloc_size1]; omega) _))
        have HBC : Hid (Below w4.heap.size w4 ((w4.alloc (.cells #[.int .i64 x, .int .i64 y] 48)).alloc (.cells #[] 48)).drew) := Lib.hid (below_drew1 (((Below.refl _ _).alloc (Nat.le_refl _) _).alloc (by rw [alloc_size1]; omega) _))
        have HWW : Hid (∀ w2, Below w4.heap.size w4 w2 → Below g w w2) := Lib.hid (fun w2 h => B4.out.trans (h.mono (by have := HGE.out; omega)))
        have hgl : (⟨g, 0, none⟩ : Addr).block < w4.heap.size := World.block_lt_of_cell? w4 _ ec0
        have HKA : Hid (∀ w2, Below w4.heap.size w4 w2 → w2.cell? ⟨g, 0, none⟩ = some (.int .i64 x) ∧ w2.cell? ⟨g, 1, none⟩ = some (.int .i64 y)) := Lib.hid (fun w2 h => ⟨(h.cell hgl).trans HC4.out.1, (h.cell (World.block_lt_of_cell? w4 _ ec1)).trans HC4.out.2⟩)
        have HOA : Hid (OwnPace (w4.alloc (.cells #[] 48)).drew w4.heap.size (.slice (some ⟨w4.heap.size, 0, none⟩) 0 0) []) := Lib.hid (show OwnPace (w4.alloc _) _ _ _ from ownPace_made w4)
        have HOB : Hid (OwnPace ((w4.alloc (.cells #[] 48)).alloc (.cells #[.int .i64 x, .int .i64 y] 48)).drew w4.heap.size (.slice (some ⟨w4.heap.size, 0, none⟩) 0 0) []) := Lib.hid (show OwnPace ((w4.alloc _).alloc _) _ _ _ from ownPace_alloc (ownPace_made w4) _)
        have HOC : Hid (OwnPace ((w4.alloc (.cells #[.int .i64 x, .int .i64 y] 48)).alloc (.cells #[] 48)).drew w4.heap.size (.slice (some ⟨w4.heap.size + 1, 0, none⟩) 0 0) []) := Lib.hid (by
          have h := (ownPace_made (w4.alloc (.cells #[.int .i64 x, .int .i64 y] 48))).mono (show w4.heap.size ≤ _ by rw [alloc_size1]; omega)
          rw [alloc_size1] at h
          exact h)
        have HSB : Hid (∀ j u, ([((x, y) : RPace)].flatMap cPace)[j]? = some u → ((w4.alloc (.cells #[] 48)).alloc (.cells #[.int .i64 x, .int .i64 y] 48)).drew.cell? ((⟨w4.heap.size + 1, 0, none⟩ : Addr).add j) = some u) := Lib.hid (src_one (w := w4.alloc (.cells #[] 48)) x y (alloc_size1 _ _).symm)
        have HSC : Hid (∀ j u, ([((x, y) : RPace)].flatMap cPace)[j]? = some u → ((w4.alloc (.cells #[.int .i64 x, .int .i64 y] 48)).alloc (.cells #[] 48)).drew.cell? ((⟨w4.heap.size, 0, none⟩ : Addr).add j) = some u) := Lib.hid (fun j u hj => by
          have h1 := src_one (w := w4) x y rfl j u hj
          rw [Addr.add_mid] at h1 ⊢
          exact (World.cell?_alloc_lt _ _ _ (World.block_lt_of_cell? _ _ h1)).trans h1)
        have hrB : some (w4.heap.size + 1) ≠ (Value.slice (some ⟨w4.heap.size, 0, none⟩) 0 0).ownBlock := by simp [Value.ownBlock]
        have hrC : some w4.heap.size ≠ (Value.slice (some ⟨w4.heap.size + 1, 0, none⟩) 0 0).ownBlock := by simp [Value.ownBlock]
        have HRB := Lib.hid hrB
        have HRC := Lib.hid hrC
        have hlen : ps.length + 1 ≤ 1000000000 := by rw [HZ.out]; omega
        clear hrB hrC hgl
        go_region_held_law (fun w' => w'.cell? ⟨g, 0, none⟩ = some (.int .i64 x) ∧ w'.cell? ⟨g, 1, none⟩ = some (.int .i64 y)) (first | go_keep | exact HKA.out _ ((HBB.out.trans hB5).trans hB6) | exact HKA.out _ ((HBC.out.trans hB5).trans hB6) | exact HKA.out _ (Below.trans (below_like ((HBA.out.trans hB5).alloc (HBA.out.trans hB5).size (.cells #[.int .i64 x, .int .i64 y] 48)) rfl rfl rfl rfl) hB6) | exact HKA.out _ (HBA.out.trans hB5) | exact HKA.out _ (HBB.out.trans hB5) | exact HKA.out _ (HBC.out.trans hB5))
          (first
            | (refine step_appPace rfl _ _ rfl w4.heap.size _ [] ps _ _ _ rfl rfl HOA.out HZ.out (HS1.out _ (HWW.out _ HBA.out)) HBA.out.size (by simp; omega) ?_; intro v5 w5 hO5 hB5 hG5)
            | (refine step_appPace rfl _ _ rfl w4.heap.size _ [] ps _ _ _ rfl rfl HOB.out HZ.out (HS1.out _ (HWW.out _ HBB.out)) HBB.out.size (by simp; omega) ?_; intro v5 w5 hO5 hB5 hG5)
            | (refine step_appPace rfl _ _ rfl w4.heap.size _ [] ps _ _ _ rfl rfl HOC.out HZ.out (HS1.out _ (HWW.out _ HBC.out)) HBC.out.size (by simp; omega) ?_; intro v5 w5 hO5 hB5 hG5)
            | (refine step_appPace rfl _ _ rfl w4.heap.size _ _ [(x, y)] _ _ _ rfl rfl (show OwnPace (w5.alloc _) _ _ _ from ownPace_alloc hO5 _) rfl (src_one (w := w5) x y rfl) (show w4.heap.size ≤ (w5.alloc _).heap.size by rw [alloc_size1]; exact Nat.le_succ_of_le (HBA.out.trans hB5).size) (by rw [List.nil_append]; exact hlen) ?_; intro v6 w6 hO6 hB6 hG6)
            | (refine step_appPace rfl _ _ rfl w4.heap.size _ _ [(x, y)] _ _ _ rfl rfl hO5 rfl (src_keep HSB.out hG5 HRB.out) (HBB.out.trans hB5).size (by rw [List.nil_append]; exact hlen) ?_; intro v6 w6 hO6 hB6 hG6)
            | (refine step_appPace rfl _ _ rfl w4.heap.size _ _ [(x, y)] _ _ _ rfl rfl hO5 rfl (src_keep HSC.out hG5 HRC.out) (HBC.out.trans hB5).size (by rw [List.nil_append]; exact hlen) ?_; intro v6 w6 hO6 hB6 hG6))
        all_goals
          simp only [List.getElem_toArray, List.getElem_cons_zero, List.getElem_cons_succ, List.setIfInBounds_toArray, List.set_cons_zero, List.set_cons_succ]
          have HO6 : Hid (OwnPace w6 w4.heap.size v6 (ps ++ [(x, y)])) := Lib.hid hO6
          have HB6 : Hid (Below w4.heap.size w4 w6) := Lib.hid (by first | exact (HBB.out.trans hB5).trans hB6 | exact (HBC.out.trans hB5).trans hB6 | exact Below.trans (below_like ((HBA.out.trans hB5).alloc (HBA.out.trans hB5).size (.cells #[.int .i64 x, .int .i64 y] 48)) rfl rfl rfl rfl) hB6)
          clear hO5 hB5 hG5 hO6 hB6 hG6
          go_wp2
          go_ret2
          exact ⟨_, by rw [H0.out.2]; exact rfl, by rw [H0.out.1]; exact HO6.out.mono (by have := HGE.out; omega), by have h := HWW.out _ HB6.out; rw [HGE.out] at h; exact h⟩

end Go.Proofs.Ythnbimfdodfhoaa
