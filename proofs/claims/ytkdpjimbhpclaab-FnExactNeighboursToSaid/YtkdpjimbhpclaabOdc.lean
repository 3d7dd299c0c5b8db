/- Chapter 7, the model: odRuns; FewestRuns, RunsTo. -/
import Derived.Test.YtkdpjimbhpclaabOdb
import Derived.Test.YtkdpjimbhpclaabOwnSS
namespace Go.Proofs.Ytkdpjimbhpclaab
open Go.ChangeShapes Go.WideShapes Go.ChangeAt Go.RowKit
open Rx Od

namespace Od
def rd (zss : List (List Int)) (i : Nat) : List Int := zss.getD i []
/-- the parts among the first k -/
def runsTo (l m : List Bool) : Nat → List (List Int)
  | 0 => []
  | k + 1 =>
    if difB l m k then
      if 0 < (runsTo l m k).length ∧ (rd (runsTo l m k) ((runsTo l m k).length - 1)).getD 1 0 = (k : Int) - 1 then
        (runsTo l m k).set ((runsTo l m k).length - 1) ((rd (runsTo l m k) ((runsTo l m k).length - 1)).set 1 (k : Int))
      else runsTo l m k ++ [[(k : Int), (k : Int)]]
    else runsTo l m k
theorem runsTo_ok (l m : List Bool) : ∀ k, (runsTo l m k).length ≤ k ∧ ∀ x ∈ runsTo l m k, x.length = 2
  | 0 => ⟨Nat.le_refl _, by simp [runsTo]⟩
  | k + 1 => by
    have h := runsTo_ok l m k
    rw [runsTo]
    split
    · split
      · rename_i h2
        refine ⟨by rw [List.length_set]; omega, fun x hx => ?_⟩
        rcases List.mem_or_eq_of_mem_set hx with hx | hx
        · exact h.2 x hx
        · rw [hx, List.length_set]
          refine h.2 _ ?_
          unfold rd
          simp only [List.getD_eq_getElem?_getD, List.getElem?_eq_getElem (show (runsTo l m k).length - 1 < (runsTo l m k).length by omega), Option.getD_some]
          exact List.getElem_mem _
      · refine ⟨by rw [List.length_append, List.length_singleton]; omega, fun x hx => ?_⟩
        rw [List.mem_append, List.mem_singleton] at hx
        rcases hx with hx | hx
        · exact h.2 x hx
        · rw [hx]; rfl
    · exact ⟨by omega, h.2⟩
theorem rd_two {zss : List (List Int)} (h : ∀ x ∈ zss, x.length = 2) {i : Nat} (hi : i < zss.length) : (rd zss i).length = 2 := by
  refine h _ ?_
  unfold rd
  simp only [List.getD_eq_getElem?_getD, List.getElem?_eq_getElem hi, Option.getD_some]
  exact List.getElem_mem _
end Od

theorem OwnSS.iterBack {w : World} {B : Nat} {v : Value} {zss : List (List Int)} (h : OwnSS w B v zss) (g : Nat) (hg : g < B) (s : ByteArray) (pos : Nat) : OwnSS (w.iterAt g s pos) B v zss := by
  obtain ⟨vs, S⟩ := h
  refine ⟨vs, ?_⟩
  rw [Lib.iterAt_size]
  exact S.same fun k h1 _ => Lib.iterAt_other _ _ _ _ _ (by omega)
/-- a row of the call's own: where it lies, and how it is written -/
theorem OwnSS.rowAt {w : World} {B g n cap : Nat} {zss : List (List Int)} (h : OwnSS w B (.slice (some ⟨g, 0, none⟩) n cap) zss) (i : Nat) (hi : i < zss.length) (h2 : (rd zss i).length = 2) :
    ∃ gr cr, w.cell? ⟨g, i, none⟩ = some (.slice (some ⟨gr, 0, none⟩) 2 cr) ∧ B ≤ gr ∧ gr < w.heap.size ∧ w.cell? ⟨gr, 1, none⟩ = some (.int .i64 ((rd zss i).getD 1 0)) ∧ w.frozen? ⟨gr, 1, none⟩ = false ∧
      ∀ z : Int, OwnSS (w.setCell ⟨gr, 1, none⟩ (.int .i64 z)) B (.slice (some ⟨g, 0, none⟩) n cap) (zss.set i ((rd zss i).set 1 z)) := by
  obtain ⟨vs, S⟩ := h
  have hiv : i < vs.length := by rw [S.len]; exact hi
  have hc := S.cell i hi
  obtain ⟨ho, hlt⟩ := S.row i hiv
  rw [show zss.getD i [] = rd zss i from rfl] at ho
  obtain ⟨gr, cr, hv, hB, hl⟩ := ho.point (by omega)
  rw [hv] at ho hc
  rw [h2] at hv ho hc
  refine ⟨gr, cr, hc, hB, hl, ho.cell h2.symm 1 (by omega), ho.free h2.symm 1, fun z => ⟨vs, ?_⟩⟩
  have := S.setRow (w' := w.setCell ⟨gr, 1, none⟩ (.int .i64 z)) i hiv ((rd zss i).set 1 z) (by rw [hv]; exact ho.set h2.symm 1 z) (by rw [hv]; exact set_grown _ _ _ _)
  rw [show (w.setCell ⟨gr, 1, none⟩ (.int .i64 z)).heap.size = w.heap.size from by simp [World.setCell]]
  exact this


def outRunsTo_0 (a b : ByteArray) : List (List Int) := if twoB a b then runsTo (rowOf a) (rowOf b) (rowOf a).length else []
def outRunsTo_1 (a b : ByteArray) : Bool := twoB a b
theorem lenRunsTo_0 (a b : ByteArray) (_ha : a.size ≤ 1048576) (_hb : b.size ≤ 1048576) : (outRunsTo_0 a b).length ≤ 1000000000 ∧ total (outRunsTo_0 a b) ≤ 1000000000 := by
  unfold outRunsTo_0
  split
  · rename_i h
    obtain ⟨l, m, rfl, rfl, _, h3, _⟩ := two_rows h
    have := runsTo_ok (rowOf (Rw.str l)) (rowOf (Rw.str m)) (rowOf (Rw.str l)).length
    rw [rowOf_str] at this ⊢
    exact fits_twos (by omega) this.2
  · exact ⟨by simp, by simp [total, tot]⟩
def outFewestRuns_0 (a b : ByteArray) : Int := if twoB a b then ((runsTo (rowOf a) (rowOf b) (rowOf a).length).length : Nat) else 0
def outFewestRuns_1 (a b : ByteArray) : Bool := twoB a b



end Go.Proofs.Ytkdpjimbhpclaab
