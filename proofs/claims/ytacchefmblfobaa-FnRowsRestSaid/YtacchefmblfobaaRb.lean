/- Plain facts for the walk of FnRowsRestOfAll: all that holds of a good row's answers, and what each loop shows. -/
import Derived.Test.YtacchefmblfobaaRa
import Derived.Test.YtacchefmblfobaaQl
import Derived.Test.YtacchefmblfobaaQh
import Derived.Test.YtacchefmblfobaaHeSpec
namespace Go.Proofs.Ytacchefmblfobaa
open Go.ChangeShapes Go.WideShapes Go.ChangeAt Go.RowKit
open Qs

theorem strs_neR {q s : ByteArray} (h : ¬ q = s) : (q.toList == s.toList) = false := by
  rw [beq_eq_false_iff_ne]
  intro e
  apply h
  rw [ByteArray.toList_eq, ByteArray.toList_eq] at e
  exact ByteArray.ext (Array.toList_inj.1 e)

theorem below_iterR (w : World) (s : ByteArray) (k : Nat) : Below w.heap.size w (w.iter s k) := (Below.refl _ w).alloc (Nat.le_refl _) _

theorem iterPos_ofR {w : World} {k : Nat} {s : ByteArray} {p : Nat} (h : w.heap[k]? = some (.stringIter s p)) : w.iterPos k = p := by unfold World.iterPos; rw [h]
theorem go_next (c i : Nat) : Rw.str (Rw.goTo c (i + 1)) = Rw.str (Rw.goTo c i) ++ (if c ≤ i then ⟨#[62]⟩ else ⟨#[60]⟩) := by
  rw [Rw.goTo_succ, ← Rw.str_append]
  by_cases h : c ≤ i
  · rw [if_pos h, decide_eq_true h]; rfl
  · rw [if_neg h, decide_eq_false h]; rfl
theorem length_makeR : ∀ (n k : Nat), (Rw.make n k).length = n
  | 0, _ => rfl
  | n + 1, k => by simp [Rw.make, length_makeR n]

structure RestF (s : ByteArray) (l : List Bool) (tk tn : Int) (rs nx mr tu : ByteArray) (te pr : List Int) (st : Bool) : Prop where
  row : s = Rw.str l
  n1 : 1 ≤ l.length
  n2 : l.length ≤ 60
  tk : tk = (Rw.ticksOf l : Nat)
  tn : tn = (Rw.countOf l : Nat)
  rs : rs = Rw.str (Rw.restOf l)
  nx : nx = Rw.str (Rw.tick l)
  mr : mr = Rw.str (Rw.mir l)
  tu : tu = Rw.str (l.map (!·))
  te : te = asInts (turnsL l)
  pr : pr = asInts (Rw.pairs l)
  st : st = C1.restB l
theorem rest_facts {s : ByteArray} (h : C1.goodB s = true) : RestF s (bits s) (rowI Rw.ticksOf s) (rowI Rw.countOf s) (rowS Rw.restOf s) (rowS Rw.tick s) (rowS Rw.mir s) (rowS (fun l => l.map (!·)) s) (rowL turnsL s) (rowL Rw.pairs s) (rowB C1.restB s) where
  row := (row_of h).1
  n1 := (row_of h).2.1
  n2 := (row_of h).2.2
  tk := rowI_yes h
  tn := rowI_yes h
  rs := rowS_yes h
  nx := rowS_yes h
  mr := rowS_yes h
  tu := rowS_yes h
  te := rowL_yes h
  pr := rowL_yes h
  st := rowB_yes h
theorem lenTe (s : ByteArray) : (rowL turnsL s).length ≤ 4611686018427387904 := by
  rcases h : C1.goodB s with _ | _
  · unfold rowL; rw [h]; exact Nat.zero_le _
  · rw [rowL_yes h, asInts_len, turnsL, Rw.length_turnsOf, List.length_replicate]; have := (row_of h).2.2; omega
theorem lenPr (s : ByteArray) : (rowL Rw.pairs s).length ≤ 4611686018427387904 := by
  rcases h : C1.goodB s with _ | _
  · unfold rowL; rw [h]; exact Nat.zero_le _
  · rw [rowL_yes h, asInts_len]; have := (row_of h).2.2; have := Rw.pairs_le (bits s); omega

theorem strSz {s : ByteArray} {l : List Bool} (h : s = Rw.str l) : s.size = l.length := by rw [h, Rw.size_str]
/-- the byte that shows a soldier -/
def sgI (b : Bool) : Int := if b then 62 else 60
theorem byteI {s : ByteArray} {l : List Bool} (h : s = Rw.str l) (k : Nat) (hk : k < s.size) : ((s[k]).toNat : Int) = sgI (l.getD k false) := by
  subst h
  rw [Rw.str_get]
  cases l.getD k false <;> rfl
theorem byteA {s : ByteArray} {l : List Bool} (h : s = Rw.str l) (k : Nat) (hk : k < s.size) : (s[k]).toNat < 128 := by
  have e := byteI h k hk
  have : ((s[k]).toNat : Int) ≤ 62 := by rw [e]; cases l.getD k false <;> decide
  omega

variable {s : ByteArray} {l : List Bool} {tk tn : Int} {rs nx mr tu : ByteArray} {te pr : List Int} {st : Bool}
theorem RestF.small (h : RestF s l tk tn rs nx mr tu te pr st) : 0 ≤ tk ∧ tk ≤ 3600 ∧ 0 ≤ tn ∧ tn ≤ 3600 ∧ tk ≤ (l.length : Int) - 1 ∧ tk ≤ tn := by
  rw [h.tk, h.tn]
  have h1 := Rw.ticks_row l h.n2
  have h2 := Rw.count_row l h.n2
  have h3 := Rw.ticks_lt l h.n1
  have h4 := Rw.ticks_turns l
  have h5 := h.n1
  omega
theorem RestF.sums (h : RestF s l tk tn rs nx mr tu te pr st) : te.sum = 2 * tn ∧ ∀ j, j < te.length → 0 ≤ te.getD j 0 := by
  constructor
  · rw [h.te, h.tn]
    have e : ∀ c : List Nat, (asInts c).sum = (c.sum : Nat) := by
      intro c
      induction c with
      | nil => rfl
      | cons a t ih => simp only [asInts, List.map_cons, List.sum_cons] at ih ⊢; rw [ih]; omega
    rw [e, turnsL, Rw.sum_turnsOf _ _ (by simp)]
    have : (List.replicate l.length 0).sum = 0 := by simp
    omega
  · intro j _
    rw [h.te, getD_asInts]; omega
/-- at rest, all the ways to tell it -/
theorem RestF.yes (h : RestF s l tk tn rs nx mr tu te pr st) (h0 : tk = 0) : st = true ∧ pr = [] ∧ rs = s ∧ nx = s := by
  have e : Rw.pairs l = [] := (Rw.ticks_zero l).1 (by have := h.tk; omega)
  refine ⟨?_, ?_, ?_, ?_⟩
  · rw [h.st, C1.restB, e]; rfl
  · rw [h.pr, e]; rfl
  · rw [h.rs, h.row, (Rw.rest_self l).2 e]
  · rw [h.nx, h.row, Rw.tick_none e]
theorem RestF.no (h : RestF s l tk tn rs nx mr tu te pr st) (h0 : ¬ tk = 0) : st = false ∧ 1 ≤ pr.length ∧ ¬ s = rs := by
  have e : ¬ Rw.pairs l = [] := fun e => h0 (by rw [h.tk, (Rw.ticks_zero l).2 e]; rfl)
  have e1 : 1 ≤ (Rw.pairs l).length := by
    rcases hp : Rw.pairs l with _ | ⟨a, t⟩
    · exact absurd hp e
    · simp
  refine ⟨?_, ?_, ?_⟩
  · rw [h.st, C1.restB]; exact decide_eq_false (by omega)
  · rw [h.pr, asInts_len]; exact e1
  · intro hh
    rw [h.row, h.rs] at hh
    exact e ((Rw.rest_self l).1 (Rw.str_inj hh).symm)
theorem RestF.rise (h : RestF s l tk tn rs nx mr tu te pr st) : riseB pr = true := by
  refine riseB_of ?_
  rw [h.pr, asInts, List.pairwise_map]
  exact (Rw.pairs_rise l).imp (fun h => by omega)
/-- a pair in the list -/
theorem RestF.pair (h : RestF s l tk tn rs nx mr tu te pr st) (k : Nat) (hk : k < pr.length) : ∃ p : Nat, pr.getD k 0 = (p : Int) ∧ p + 1 < l.length ∧ l.getD p false = true ∧ l.getD (p + 1) false = false ∧ (Rw.tick l).getD p false = false ∧ (Rw.tick l).getD (p + 1) false = true := by
  have hk' : k < (Rw.pairs l).length := by rw [h.pr, asInts_len] at hk; exact hk
  refine ⟨(Rw.pairs l).getD k 0, by rw [h.pr, getD_asInts], ?_⟩
  have hm : (Rw.pairs l).getD k 0 ∈ Rw.pairs l := by rw [List.getD_eq_getElem?_getD, List.getElem?_eq_getElem hk']; exact List.getElem_mem _
  obtain ⟨h1, h2, h3⟩ := Rw.mem_pairs hm
  obtain ⟨h4, h5⟩ := Rw.tick_pair hm
  exact ⟨h1, h2, by rw [Rw.getD_ne l h1 false true]; exact h3, h4, h5⟩
theorem has_pairs (l : List Bool) (j : Nat) : hasL (asInts (Rw.pairs l)) (j : Int) = decide (j ∈ Rw.pairs l) := by
  unfold hasL asInts
  congr 1
  apply propext
  rw [List.mem_map]
  constructor
  · rintro ⟨a, ha, e⟩; rw [← show a = j by omega]; exact ha
  · intro hj; exact ⟨j, hj, rfl⟩
theorem has_before (l : List Bool) (j : Nat) : hasL (asInts (Rw.pairs l)) ((j : Int) - 1) = decide (1 ≤ j ∧ j - 1 ∈ Rw.pairs l) := by
  by_cases h : 1 ≤ j
  · rw [show (j : Int) - 1 = ((j - 1 : Nat) : Int) by omega, has_pairs]; simp [h]
  · have e : j = 0 := by omega
    subst e
    simp only [Nat.le_zero_eq, Nat.one_ne_zero, false_and, decide_false, hasL, asInts, decide_eq_false_iff_not, List.mem_map]
    rintro ⟨a, _, e⟩
    omega
/-- the soldier in place j: his sign before and after the tick, turned, and from the other end -/
theorem RestF.place (h : RestF s l tk tn rs nx mr tu te pr st) (j : Nat) (hj : j < l.length) :
    ∃ b c d e : Bool, l.getD j false = b ∧ (Rw.tick l).getD j false = c ∧ hasL pr (j : Int) = d ∧ hasL pr ((j : Int) - 1) = e ∧ (c != b) = (d || e) ∧ (l.map (!·)).getD j false = !b ∧ (Rw.mir l).getD j false = (l.map (!·)).getD (l.length - 1 - j) false := by
  refine ⟨_, _, _, _, rfl, rfl, rfl, rfl, ?_, ?_, ?_⟩
  · rw [h.pr, has_pairs, has_before]; exact Rw.tick_turns l j hj
  · simp [List.getD_eq_getElem?_getD, hj]
  · rw [Rw.mir_at l j hj false false]
    simp [List.getD_eq_getElem?_getD, show l.length - 1 - j < l.length by omega]
theorem RestF.next (h : RestF s l tk tn rs nx mr tu te pr st) : ((Rw.ticksOf (Rw.tick l) : Nat) : Int) = if tk = 0 then 0 else tk - 1 := by
  rw [Rw.ticks_next, h.tk]
  split <;> omega
end Go.Proofs.Ytacchefmblfobaa
