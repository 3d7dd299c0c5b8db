/- A region that draws its order, all of whose operations but the last one read or call what makes memory of its own; the last one waits for all others and may write: one walk over the class of later worlds, then the last operation. -/
import Derived.Test.YtjbomclildkjaaaDoorAny
import Derived.Test.YtjbomclildkjaaaDoorLw
import Derived.StillTail
namespace Go.Proofs.YtjbomclildkjaaaDoor
open Go.ChangeShapes Go.WideShapes Go.ChangeAt Go.RowKit

theorem ready_alike {md : Region.Mode} {ops ops' : Array Oper} (hsz : ops'.size = ops.size) (h : ∀ i : Nat, (ops'[i]?).map (fun o : Oper => o.after) = (ops[i]?).map (fun o : Oper => o.after)) (listed : Array Bool) : Region.ready md ops' listed = Region.ready md ops listed := by
  unfold Region.ready
  rw [hsz]
  refine List.filter_congr fun i _ => ?_
  have h1 := h i
  congr 1
  cases h2 : ops'[i]? <;> cases h3 : ops[i]? <;> rw [h2, h3] at h1 <;> simp at h1 ⊢
  rw [h1]
theorem exit_then_same {Q : Exit → Act → World → Prop} : Exit.then (fun a w => Q .normal a w) Q = Q := by
  funext e a w
  cases e <;> rfl
theorem wp_region_tailed {P : Program} {id : Nat} {Q : Exit → Act → World → Prop} {C : World → Prop} {a : Act} {w : World} {h0 : List Oper} {st mv : Oper} (n : Nat) (hn : h0.length = n) (hm : P.follows .mixedOrders = true)
    (hmv : mv.op = .move (.const undef) ∧ mv.dst = none ∧ mv.guard = none ∧ mv.after = st.after) (hst : st.dst = none)
    (hB : Region.lexB .any (h0 ++ [mv]).toArray = true) (hs : Region.sinkB .any (h0 ++ [st]).toArray n = true) (hc : Region.chainB .any (h0 ++ [st]).toArray n = true)
    (hedge : (List.range (n + 1)).all (fun i => (((h0 ++ [st]).toArray)[i]?.map fun o => o.after.all fun e => !Region.binds .any e || decide (e.on < i)).getD true) = true)
    (hC : C { w with drawn := w.drawn + 1 })
    (h : wpQuiet P (h0 ++ [mv]).toArray C (fun a' => ∀ w', C w' → wpList P (h0 ++ [st]).toArray Q [st] a' w') (h0 ++ [mv]) a) : (Code.region id (h0 ++ [st]).toArray true).wp P Q a w := by
  have hsz : (h0 ++ [st]).toArray.size = n + 1 := by simp [hn]
  have hsz' : (h0 ++ [mv]).toArray.size = n + 1 := by simp [hn]
  have hlast : (h0 ++ [st]).toArray[n]? = some st := by simp [← hn]
  have hlast' : (h0 ++ [mv]).toArray[n]? = some mv := by simp [← hn]
  have hsame : ∀ i : Nat, i < n → (h0 ++ [mv]).toArray[i]? = (h0 ++ [st]).toArray[i]? := fun i hi => by
    simp [List.getElem?_append_left (show i < h0.length by omega)]
  have hnone : ∀ i : Nat, n < i → (h0 ++ [mv]).toArray[i]? = none ∧ (h0 ++ [st]).toArray[i]? = none := fun i hi => by
    simp [hn]; omega
  have hafter : ∀ i : Nat, ((h0 ++ [mv]).toArray[i]?).map (fun o : Oper => o.after) = ((h0 ++ [st]).toArray[i]?).map (fun o : Oper => o.after) := fun i => by
    rcases Nat.lt_trichotomy i n with h1 | rfl | h1
    · rw [hsame i h1]
    · rw [hlast, hlast']; simp [hmv.2.2.2]
    · rw [(hnone i h1).1, (hnone i h1).2]
  have hready := fun listed => ready_alike (md := .any) (hsz'.trans hsz.symm) hafter listed
  have hyield : ∀ tmps, yielded (h0 ++ [mv]).toArray tmps = yielded (h0 ++ [st]).toArray tmps := fun tmps => by
    funext j
    unfold yielded
    have : ((h0 ++ [mv]).toArray[j]?).bind (fun o : Oper => o.dst) = ((h0 ++ [st]).toArray[j]?).bind (fun o : Oper => o.dst) := by
      rcases Nat.lt_trichotomy j n with h1 | rfl | h1
      · rw [hsame j h1]
      · rw [hlast, hlast']; simp [hmv.2.1, hst]
      · rw [(hnone j h1).1, (hnone j h1).2]
    rw [this]
  simp only [Region.lexB, Bool.and_eq_true] at hB
  have hQ := wpAnyQ_lex (C := C) (md := .any) hB.1 (h0 ++ [mv]) 0 (Array.replicate (n + 1) false) a (by simp) (by have := hB.2; rw [hsz'] at this; simpa [hn] using this) h
  refine wp_region_any hm (wpAny_inv (fun listed a w => (listed.getD n false = true → (∀ j, j < n + 1 → listed.getD j false = true) ∧ Q .normal a w) ∧ (listed.getD n false = false → C w ∧ HeadInv .any (h0 ++ [st]).toArray n listed ∧ ∃ fuel, wpAnyQ P .any (h0 ++ [mv]).toArray C (fun a' => ∀ w', C w' → wpList P (h0 ++ [st]).toArray Q [st] a' w') fuel listed a)) ?_ ?_ ?_ _ _ _ _ (by simp) ?_ ?_)
  · intro i o ho e hme hb
    rw [List.all_eq_true] at hedge
    have hlt : i < n + 1 := by rw [← hsz]; exact (Array.getElem?_eq_some_iff.1 ho).1
    have := hedge i (List.mem_range.2 hlt)
    rw [ho] at this
    simp only [Option.map_some, Option.getD_some] at this
    have := (Array.all_eq_true_iff_forall_mem.1 this) e hme
    simpa [hb] using this
  · intro i o listed a w ho hls hun hdep hI
    have hlt : i < n + 1 := by rw [← hsz]; exact (Array.getElem?_eq_some_iff.1 ho).1
    have hunf : listed.getD i false = false := by rw [← getD_flip (by omega)]; exact hun
    have hnl : listed.getD n false = false := by
      cases hl : listed.getD n false with
      | false => rfl
      | true => rw [(hI.1 hl).1 i hlt] at hunf; cases hunf
    obtain ⟨hCw, hinv, fuel, hq⟩ := hI.2 hnl
    have hr : i ∈ Region.ready .any (h0 ++ [st]).toArray listed := mem_ready.2 ⟨hun, o, ho, hdep⟩
    have hr' : i ∈ Region.ready .any (h0 ++ [mv]).toArray listed := by rw [hready]; exact hr
    obtain ⟨fuel, rfl⟩ : ∃ f, fuel = f + 1 := by
      cases fuel with
      | zero => exact absurd hr' (by rw [hq.1]; simp)
      | succ f => exact ⟨f, rfl⟩
    have hq2 := hq.2 i hr'
    by_cases hin : i < n
    · have hq3 : qOp P (h0 ++ [st]).toArray C i (wpAnyQ P .any (h0 ++ [mv]).toArray C (fun a' => ∀ w', C w' → wpList P (h0 ++ [st]).toArray Q [st] a' w') fuel (listed.setIfInBounds i true)) a := by
        unfold qOp at hq2 ⊢
        rw [hsame i hin, hyield] at hq2
        exact hq2
      refine wpOp_of_qOp hCw (fun a' w' hw' hk => ⟨fun hl => ?_, fun _ => ⟨hw', hinv.set hr hin, fuel, hk⟩⟩) hq3
      rw [got (by omega)] at hl
      rw [hl] at hnl; cases hnl
    · obtain rfl : i = n := by omega
      obtain rfl : o = st := Option.some.inj (ho.symm.trans hlast)
      have hall : ∀ j, j < i → listed.getD j false = true := fun j hj => by
        apply Decidable.byContradiction
        intro hne
        have hf : listed.getD j false = false := by simpa using hne
        exact tail_waits hs hc (by omega) hinv _ j rfl hj (by rw [getD_flip (by omega)]; exact hf) i (Nat.le_refl _) hr
      have hnew : ∀ j, j < i + 1 → (listed.setIfInBounds i true).getD j false = true := fun j hj => by
        by_cases e : i = j
        · subst e; exact got_same (by omega)
        · rw [got e]; exact hall j (by omega)
      have hempty : Region.ready .any (h0 ++ [mv]).toArray (listed.setIfInBounds i true) = [] := by
        apply Decidable.byContradiction
        intro hne
        obtain ⟨j, hj⟩ := List.exists_mem_of_ne_nil _ hne
        obtain ⟨h1, o', ho', _⟩ := mem_ready.1 hj
        have hjl : j < i + 1 := by rw [← hsz']; exact (Array.getElem?_eq_some_iff.1 ho').1
        have h2 := hnew j hjl
        rw [← getD_flip (by simp; omega)] at h2
        rw [h2] at h1; cases h1
      have hfin : ∀ w', C w' → wpList P (h0 ++ [o]).toArray Q [o] a w' := by
        unfold qOp at hq2
        rw [hlast'] at hq2
        simp only [Region.wanted, hmv.2.2.1, if_true] at hq2
        obtain ⟨v, hv, hk⟩ := hq2
        have hk2 : wpAnyQ P .any (h0 ++ [mv]).toArray C (fun a' => ∀ w', C w' → wpList P (h0 ++ [o]).toArray Q [o] a' w') fuel (listed.setIfInBounds i true) a := by
          rw [hmv.2.1] at hk
          exact hk
        cases fuel with
        | zero => exact hk2.2
        | succ f => exact hk2.1 hempty
      refine wpOp_mono (fun a' w' hh => ⟨fun _ => ⟨hnew, hh⟩, fun hl => ?_⟩) (wpOp_of_list hlast (by rw [exit_then_same]; exact hfin w hCw))
      rw [hnew i (by omega)] at hl; cases hl
  · intro listed a w hl hI
    exact (hI.1 (hl n (by omega))).2
  · unfold lacks
    simp
  · refine ⟨fun hl => ?_, fun _ => ⟨hC, ⟨by simp, fun j oj _ hl => ?_, fun t _ ht => ?_⟩, _, by simpa [hn] using hQ⟩⟩
    · rw [getD_replicate_false] at hl; cases hl
    · rw [getD_replicate_false] at hl; cases hl
    · exact getD_in (by simpa using ht) (getD_replicate_false _ _)

def mvOf (st : Oper) : Oper := { dst := none, op := .move (.const undef), type := st.type, pos := st.pos, after := st.after, guard := none }
theorem wp_region_lwt {P : Program} {id : Nat} {Q : Exit → Act → World → Prop} {a : Act} {w : World} {l : List Oper} {st : Oper} (n : Nat) (hl : l = l.take n ++ [st]) (hn : (l.take n).length = n) (hm : P.follows .mixedOrders = true) (hst : st.dst = none)
    (hB : Region.lexB .any (l.take n ++ [mvOf st]).toArray = true) (hs : Region.sinkB .any l.toArray n = true) (hc : Region.chainB .any l.toArray n = true)
    (hedge : (List.range (n + 1)).all (fun i => ((l.toArray)[i]?.map fun o => o.after.all fun e => !Region.binds .any e || decide (e.on < i)).getD true) = true)
    (h : wpQuiet P (l.take n ++ [mvOf st]).toArray (fun w' => ∃ X : Lw w, w' = X.w) (fun a' => ∀ w', (∃ X : Lw w, w' = X.w) → wpList P l.toArray Q [st] a' w') (l.take n ++ [mvOf st]) a) : (Code.region id l.toArray true).wp P Q a w := by
  generalize l.take n = h0 at *
  subst hl
  exact wp_region_tailed (mv := mvOf st) (C := fun w' => ∃ X : Lw w, w' = X.w) n hn hm ⟨rfl, rfl, rfl, rfl⟩ hst hB hs hc hedge (lwC_start w) h

end Go.Proofs.YtjbomclildkjaaaDoor
