/- A region that draws its order, by one invariant that tells which operations have been done. -/
import Derived.Test.YtjbomclildkjaaaDoorOwn
import Derived.Orders
namespace Go.Proofs.YtjbomclildkjaaaDoor
open Go.ChangeShapes Go.WideShapes Go.ChangeAt Go.RowKit

theorem wpOp_of_list {P : Program} {ops : Array Oper} {Q : Exit → Act → World → Prop} {i : Nat} {o : Oper} {K : Act → World → Prop} {a : Act} {w : World} (ho : ops[i]? = some o) (h : wpList P ops (Exit.then K Q) [o] a w) : wpOp P ops Q i K a w := by
  unfold wpList at h
  unfold wpOp
  rw [ho]
  show if Region.wanted o (yielded ops a.tmps) = true then _ else _
  split
  · rename_i hw
    rw [if_pos hw] at h
    refine h.imp (fun h => ?_) (fun h => ⟨h.1, h.2⟩)
    unfold Oper.wp at h ⊢
    generalize (execOp a.eval o).run P w = r at *
    cases r with
    | ok n w' =>
      cases n <;> simp only [Oper.upon] at h ⊢ <;>
        first
          | exact h
          | exact Calls.mono h (fun e w'' he => by cases e <;> exact he)
          | exact Rows.mono h (fun _ _ he => he)
    | halt x w' => cases x <;> simp only [Oper.upon] at h ⊢ <;> exact h
  · rename_i hw
    rw [if_neg hw] at h
    exact h

def lacks (listed : Array Bool) : Nat := listed.toList.count false
theorem lacks_set {listed : Array Bool} {i : Nat} (h : listed.getD i true = false) : lacks (listed.setIfInBounds i true) + 1 = lacks listed := by
  obtain ⟨l⟩ := listed
  have hi : i < l.length := by
    apply Decidable.byContradiction
    intro hn
    simp [Array.getD, hn] at h
  have hf : l[i] = false := by simpa [Array.getD, hi] using h
  unfold lacks
  simp only [Array.toList_setIfInBounds]
  rw [List.count_set (by simpa using hi)]
  have : 0 < l.count false := List.count_pos_iff.2 (hf ▸ List.getElem_mem hi)
  simp [hf]
  omega
theorem lacks_zero {listed : Array Bool} (h : lacks listed = 0) (i : Nat) (hi : i < listed.size) : listed.getD i false = true := by
  obtain ⟨l⟩ := listed
  unfold lacks at h
  simp only [Array.size] at hi
  have hm : l[i] ∈ l := List.getElem_mem hi
  have := List.count_eq_zero.1 h
  have hf : l[i] ≠ false := fun e => this (e ▸ hm)
  simp [Array.getD, hi]
  simpa using hf
theorem getD_flip {listed : Array Bool} {i : Nat} (hi : i < listed.size) : listed.getD i true = listed.getD i false := by
  simp [Array.getD, hi]

theorem got {l : Array Bool} {i j : Nat} (h : i ≠ j) : (l.setIfInBounds i true).getD j false = l.getD j false := by
  simp only [Array.getD_eq_getD_getElem?, Array.getElem?_setIfInBounds, if_neg h]
theorem got_same {l : Array Bool} {i : Nat} (h : i < l.size) : (l.setIfInBounds i true).getD i false = true := by
  simp [Array.getD_eq_getD_getElem?, h]
theorem ung {l : Array Bool} {i j : Nat} (hij : i ≠ j) (h : (l.setIfInBounds i true).getD j false = true) : l.getD j false = true := by rwa [got hij] at h

theorem wpAny_inv {P : Program} {ops : Array Oper} {Q : Exit → Act → World → Prop} {md : Region.Mode} (I : Array Bool → Act → World → Prop)
    (hedge : ∀ (i : Nat) (o : Oper), ops[i]? = some o → ∀ e ∈ o.after, Region.binds md e = true → e.on < i)
    (hs : ∀ (i : Nat) (o : Oper) (listed : Array Bool) (a : Act) (w : World), ops[i]? = some o → listed.size = ops.size → listed.getD i true = false → (∀ e ∈ o.after, Region.binds md e = true → listed.getD e.on false = true) → I listed a w → wpOp P ops Q i (I (listed.setIfInBounds i true)) a w)
    (he : ∀ (listed : Array Bool) (a : Act) (w : World), (∀ i, i < ops.size → listed.getD i false = true) → I listed a w → Q .normal a w) :
    ∀ fuel listed a w, listed.size = ops.size → lacks listed ≤ fuel → I listed a w → wpAny P md ops Q fuel listed a w := by
  have hall : ∀ listed : Array Bool, listed.size = ops.size → Region.ready md ops listed = [] → ∀ i, i < ops.size → listed.getD i false = true := by
    intro listed hsz hr i
    induction i using Nat.strongRecOn with
    | _ i ih =>
      intro hi
      apply Decidable.byContradiction
      intro hn
      have hmem : i ∈ Region.ready md ops listed := by
        unfold Region.ready
        rw [List.mem_filter]
        refine ⟨List.mem_range.2 hi, ?_⟩
        have h1 : listed.getD i true = false := by rw [getD_flip (by omega)]; simpa using hn
        have h2 : ops[i]? = some ops[i] := Array.getElem?_eq_getElem hi
        rw [h1, h2]
        simp only [Bool.not_false, Bool.true_and, Option.map_some, Option.getD_some]
        rw [Array.all_eq_true_iff_forall_mem]
        intro e hme
        rcases hb : Region.binds md e with _ | _
        · rfl
        · have := hedge i _ h2 e hme hb
          rw [ih e.on this (by omega), Bool.or_true]
      rw [hr] at hmem
      cases hmem
  intro fuel
  induction fuel with
  | zero =>
    intro listed a w hsz hl hI
    have hz : lacks listed = 0 := by omega
    have hal : ∀ i, i < ops.size → listed.getD i false = true := fun i hi => lacks_zero hz i (by omega)
    refine ⟨?_, he listed a w hal hI⟩
    apply Decidable.byContradiction
    intro hne
    obtain ⟨i, hi⟩ := List.exists_mem_of_ne_nil _ hne
    unfold Region.ready at hi
    rw [List.mem_filter] at hi
    have hlt := List.mem_range.1 hi.1
    have h1 := hal i hlt
    rw [← getD_flip (by omega)] at h1
    simp [h1] at hi
  | succ fuel ih =>
    intro listed a w hsz hl hI
    refine ⟨fun hr => he listed a w (hall listed hsz hr) hI, fun i hi => ?_⟩
    unfold Region.ready at hi
    rw [List.mem_filter] at hi
    have hlt := List.mem_range.1 hi.1
    have h2 : ops[i]? = some ops[i] := Array.getElem?_eq_getElem hlt
    have h3 := hi.2
    rw [h2] at h3
    simp only [Bool.and_eq_true, Bool.not_eq_true', Option.map_some, Option.getD_some] at h3
    refine wpOp_mono (fun a w h => ih _ a w (by simpa using hsz) ?_ h) (hs i _ listed a w h2 hsz h3.1 ?_ hI)
    · have := lacks_set h3.1; omega
    · intro e hme hb
      have := (Array.all_eq_true_iff_forall_mem.1 h3.2) e hme
      simpa [hb] using this

theorem wp_region_inv {P : Program} {id : Nat} {ops : Array Oper} {Q : Exit → Act → World → Prop} {a : Act} {w : World} (hm : P.follows .mixedOrders = true) (I : Array Bool → Act → World → Prop)
    (hedge : (List.range ops.size).all (fun i => (ops[i]?.map fun o => o.after.all fun e => !Region.binds .any e || decide (e.on < i)).getD true) = true)
    (h0 : I (Array.replicate ops.size false) a w.drew)
    (hs : ∀ (i : Nat) (o : Oper) (listed : Array Bool) (a : Act) (w : World), ops[i]? = some o → listed.size = ops.size → listed.getD i true = false → (∀ e ∈ o.after, Region.binds .any e = true → listed.getD e.on false = true) → I listed a w → wpList P ops (Exit.then (I (listed.setIfInBounds i true)) Q) [o] a w)
    (he : ∀ (listed : Array Bool) (a : Act) (w : World), (∀ i, i < ops.size → listed.getD i false = true) → I listed a w → Q .normal a w) : (Code.region id ops true).wp P Q a w := by
  refine wp_region_any hm (wpAny_inv I ?_ (fun i o listed a w ho h1 h2 h3 h4 => wpOp_of_list ho (hs i o listed a w ho h1 h2 h3 h4)) he _ _ _ _ (by simp) ?_ h0)
  · intro i o ho e hme hb
    rw [List.all_eq_true] at hedge
    have hlt : i < ops.size := by
      rcases Nat.lt_or_ge i ops.size with h | h
      · exact h
      · rw [Array.getElem?_eq_none h] at ho; cases ho
    have := hedge i (List.mem_range.2 hlt)
    rw [ho] at this
    simp only [Option.map_some, Option.getD_some] at this
    have := (Array.all_eq_true_iff_forall_mem.1 this) e hme
    simpa [hb] using this
  · unfold lacks
    simp

end Go.Proofs.YtjbomclildkjaaaDoor
