/- Walks over frames of which only some slots are known: what is known is a list of (slot, value); every step is one law, and no list of the whole frame is ever written. -/
import Derived.WalkKit
import Derived.BigQuiet
import Derived.Lib.Hide
import Derived.Below
import Derived.Laws.RangeString
import Derived.Laws.DeepStrings4
namespace Go.Proofs.YtjbomclildkjaaaDoor
open Go.RowKit
namespace Sp

abbrev St := List (Nat × Value)
def look : St → Nat → Option Value
  | [], _ => none
  | (k, v) :: r, t => bif Nat.beq k t then some v else look r t
def nth : List Value → Nat → Option Value
  | [], _ => none
  | v :: _, 0 => some v
  | _ :: r, k + 1 => nth r k
theorem nth_spec : ∀ {l : List Value} {i : Nat} {v : Value}, nth l i = some v → l[i]? = some v
  | [], _, _, h => by cases h
  | u :: _, 0, v, h => by simpa [nth] using h
  | u :: r, k + 1, v, h => by rw [List.getElem?_cons_succ]; exact nth_spec (l := r) h
def opn (S : St) : Operand → Option Value
  | .tmp t => look S t
  | .const v => some v
  | .global g => some (.pointer (some ⟨g, 0, none⟩))
  | .func f => some (.func (.func f) #[] #[])
def opns (S : St) : List Operand → Option (List Value)
  | [] => some []
  | x :: r => match opn S x with
    | some v => match opns S r with
      | some vs => some (v :: vs)
      | none => none
    | none => none

/-- what is known of a frame of N slots -/
structure Kn (N : Nat) (S : St) (a : Act) : Prop where
  size : a.tmps.size = N
  df : a.defers = []
  has : ∀ t v, look S t = some v → a.tmps[t]? = some v
variable {N : Nat} {S S' : St} {a : Act}
theorem Kn.eval (h : Kn N S a) {x : Operand} {v : Value} (hx : opn S x = some v) : a.eval x = v := by
  cases x with
  | tmp t =>
    have := h.has t v hx
    simp only [Act.eval, Array.getD_eq_getD_getElem?, this, Option.getD_some]
  | const c => simpa [opn, Act.eval] using hx
  | global g => simpa [opn, Act.eval] using hx
  | func f => simpa [opn, Act.eval] using hx
theorem Kn.evals (h : Kn N S a) : ∀ {xs : List Operand} {vs : List Value}, opns S xs = some vs → xs.map a.eval = vs
  | [], vs, e => by simp only [opns, Option.some.injEq] at e; subst e; rfl
  | x :: r, vs, e => by
    simp only [opns] at e
    split at e
    · rename_i v hv
      split at e
      · rename_i us hu
        simp only [Option.some.injEq] at e
        subst e
        rw [List.map_cons, h.eval hv, h.evals hu]
      · cases e
    · cases e
theorem Kn.put (h : Kn N S a) {d : Nat} (hd : Nat.blt d N = true) (v : Value) : Kn N ((d, v) :: S) (a.put (some d) v) where
  size := by simp only [Act.put, Array.size_setIfInBounds]; exact h.size
  df := h.df
  has := by
    intro t u hu
    have hlt : d < a.tmps.size := by rw [h.size]; exact Nat.le_of_ble_eq_true hd
    simp only [look] at hu
    by_cases e : d = t
    · subst e
      rw [show Nat.beq d d = true from Nat.beq_refl d, cond_true, Option.some.injEq] at hu
      simp only [Act.put, Array.getElem?_setIfInBounds_self_of_lt hlt, hu]
    · rw [show Nat.beq d t = false from (by rcases hb : Nat.beq d t with _ | _; rfl; exact absurd (Nat.eq_of_beq_eq_true hb) e), cond_false] at hu
      simp only [Act.put, Array.getElem?_setIfInBounds_ne e]
      exact h.has t u hu

def Sub (S : St) : St → Prop
  | [] => True
  | (k, v) :: r => look S k = some v ∧ Sub S r
theorem Sub.look : ∀ {S' : St}, Sub S S' → ∀ t v, look S' t = some v → look S t = some v
  | [], _, t, v, e => by cases e
  | p :: r, h, t, v, e => by
    simp only [Sp.look] at e
    rcases hb : Nat.beq p.1 t with _ | _
    · rw [hb, cond_false] at e; exact Sub.look h.2 t v e
    · rw [hb, cond_true] at e
      rw [← Nat.eq_of_beq_eq_true hb, ← e]; exact h.1
theorem Kn.sub (h : Kn N S a) (hs : Sub S S') : Kn N S' a := ⟨h.size, h.df, fun t v e => h.has t v (hs.look t v e)⟩

/-- is an operation wanted? -/
def want (S : St) (ops : Array Oper) : Option (Nat × Bool) → Option Bool
  | none => some true
  | some p => match (ops[p.1]?).bind (·.dst) with
    | some d => match look S d with
      | some (.bool c) => some (c == p.2)
      | some (.tuple _) => some false
      | _ => none
    | none => none
theorem want_spec (h : Kn N S a) {ops : Array Oper} {o : Oper} {b : Bool} (hw : want S ops o.guard = some b) : Region.wanted o (yielded ops a.tmps) = b := by
  unfold Region.wanted
  rcases hg : o.guard with _ | ⟨j, w⟩
  · rw [hg] at hw; simp only [want, Option.some.injEq] at hw; exact hw
  · rw [hg] at hw
    simp only [want] at hw
    split at hw
    · rename_i d hd
      split at hw
      · rename_i c hc
        have := h.has d _ hc
        simp only [yielded, hd, Option.bind_some, this]
        simp only [Option.some.injEq] at hw
        rw [← hw]
        cases c <;> cases w <;> rfl
      · rename_i c hc
        have := h.has d _ hc
        simp only [yielded, hd, Option.bind_some, this]
        simp only [Option.some.injEq] at hw
        rw [← hw]; rfl
      · cases hw
    · cases hw
def chk (N : Nat) (S : St) (ops : Array Oper) (d : Nat) (g : Option (Nat × Bool)) (b : Bool) : Bool :=
  Nat.blt d N && (match want S ops g with | some true => b | some false => !b | none => false)
theorem chk_spec {ops : Array Oper} {d : Nat} {g : Option (Nat × Bool)} {b : Bool} (h : chk N S ops d g b = true) : Nat.blt d N = true ∧ want S ops g = some b := by
  unfold chk at h
  rw [Bool.and_eq_true] at h
  refine ⟨h.1, ?_⟩
  have h2 := h.2
  split at h2
  · rename_i e; rw [e, h2]
  · rename_i e; rw [e]; cases b <;> simp_all
  · cases h2

/-- the region's list of operations, from what is known on -/
def L (P : Program) (N : Nat) (ops : Array Oper) (l : List Oper) (S : St) (w : World) (Q : Exit → Act → World → Prop) : Prop := ∀ a, Kn N S a → wpList P ops Q l a w
/-- the operation yields this value and leaves the world -/
def Runs (P : Program) (N : Nat) (S : St) (o : Oper) (w : World) (v : Value) : Prop := ∀ a, Kn N S a → (execOp a.eval o).run P w = .ok (.value v) w
/-- what comes behind -/
def Nx (N : Nat) (S : St) (w : World) (Q : Exit → Act → World → Prop) : Prop := ∀ a, Kn N S a → Q .normal a w
def Ex (N : Nat) (id : Nat) (S : St) (w : World) (Q : Exit → Act → World → Prop) : Prop := ∀ a, Kn N S a → Q (.exit id) a w
def Rt (N : Nat) (S : St) (w : World) (Q : Exit → Act → World → Prop) : Prop := ∀ a, Kn N S a → Q .ret a w
def Cd (P : Program) (N : Nat) (c : Code) (S : St) (w : World) (Q : Exit → Act → World → Prop) : Prop := ∀ a, Kn N S a → Code.wp P c Q a w

variable {P : Program} {ops : Array Oper} {rest : List Oper} {w : World} {Q : Exit → Act → World → Prop} {d : Nat} {op : Op} {ty : TypeId} {pos : String} {after : Array Edge} {g : Option (Nat × Bool)} {v : Value}
theorem L.want {o : Oper} (hw : Sp.want S ops o.guard = some true) (h : ∀ a, Kn N S a → o.wp P a w (wpList P ops Q rest) Q) : L P N ops (o :: rest) S w Q := by
  intro a ha
  unfold wpList
  rw [if_pos (want_spec ha hw)]
  exact .inl (h a ha)
theorem L.pure (hc : chk N S ops d g true = true) (hr : Runs P N S ⟨some d, op, ty, pos, after, g⟩ w v) (h : L P N ops rest ((d, v) :: S) w Q) :
    L P N ops (⟨some d, op, ty, pos, after, g⟩ :: rest) S w Q := by
  obtain ⟨h1, h2⟩ := chk_spec hc
  refine L.want h2 fun a ha => ?_
  unfold Oper.wp
  rw [hr a ha]
  exact h _ (ha.put h1 v)
theorem L.skip (hc : chk N S ops d g false = true) (h : L P N ops rest ((d, undef) :: S) w Q) : L P N ops (⟨some d, op, ty, pos, after, g⟩ :: rest) S w Q := by
  obtain ⟨h1, h2⟩ := chk_spec hc
  intro a ha
  unfold wpList
  rw [if_neg (by rw [want_spec ha h2]; exact Bool.false_ne_true)]
  exact h _ (ha.put h1 undef)
theorem L.nil (h : Nx N S w Q) : L P N ops [] S w Q := h
theorem L.sub (hs : Sub S S') {l : List Oper} (h : L P N ops l S' w Q) : L P N ops l S w Q := fun a ha => h a (ha.sub hs)
/-- a step that moves the world, of a known value -/
theorem L.step {w' : World} (hc : chk N S ops d g true = true) (hr : ∀ a, Kn N S a → (execOp a.eval ⟨some d, op, ty, pos, after, g⟩).run P w = .ok (.value v) w') (h : L P N ops rest ((d, v) :: S) w' Q) :
    L P N ops (⟨some d, op, ty, pos, after, g⟩ :: rest) S w Q := by
  obtain ⟨h1, h2⟩ := chk_spec hc
  refine L.want h2 fun a ha => ?_
  unfold Oper.wp
  rw [hr a ha]
  exact h _ (ha.put h1 v)

/-- may the function be called? -/
def callOk (P : Program) (f : FuncId) : Bool := match P.funcs[f]? with
  | some fn => !(fn.name == "runtime.NumGoroutine") && !fn.body.isNone
  | none => false
theorem run_call {ρ : Operand → Value} {c : Operand} {xs : Array Operand} {ats : Array TypeId} {dst : Option Tmp} {f : FuncId} (hf : callOk P f = true) (hρ : ρ c = .func (.func f) #[] #[]) :
    (execOp ρ ⟨dst, .call { callee := .value c, args := xs, argTypes := ats }, ty, pos, after, g⟩).run P w = .ok (.enter f (xs.map ρ)) w := by
  unfold callOk at hf
  split at hf
  · rename_i fn hfn
    simp only [Bool.and_eq_true, Bool.not_eq_true'] at hf
    have h1 : ¬ fn.name = "runtime.NumGoroutine" := fun e => by rw [e] at hf; simp at hf
    have h2 : ¬ fn.body = none := fun e => by rw [e] at hf; simp at hf
    simp [go_sem, callFunc, hρ, hfn, h1, h2]
  · cases hf
set_option maxRecDepth 20000 in
theorem L.call {f : FuncId} {c : Operand} {xs : List Operand} {vs : List Value} {ats : Array TypeId} {R : Ending → World → Prop} (hk : callOk P f = true) (C : Calls P f vs.toArray w R)
    (hf : opn S c = some (.func (.func f) #[] #[])) (hx : opns S xs = some vs) (hc : chk N S ops d g true = true)
    (h : ∀ e w', R e w' → ∃ v, e = .returned v ∧ L P N ops rest ((d, v) :: S) w' Q) :
    L P N ops (⟨some d, .call { callee := .value c, args := xs.toArray, argTypes := ats }, ty, pos, after, g⟩ :: rest) S w Q := by
  obtain ⟨h1, h2⟩ := chk_spec hc
  refine L.want h2 fun a ha => ?_
  unfold Oper.wp
  rw [run_call hk (ha.eval hf), show xs.toArray.map a.eval = vs.toArray by rw [List.map_toArray, ha.evals hx]]
  exact C.mono fun e w' hR => by
    obtain ⟨v, rfl, hl⟩ := h e w' hR
    exact hl _ (ha.put h1 v)

/-! ### the code around -/
theorem Cd.seq {x y : Code} (h : ∀ K : Act → World → Prop, (∀ S w, Cd P N y S w Q → Nx N S w (Exit.then K Q)) → Cd P N x S w (Exit.then K Q)) : Cd P N (.seq x y) S w Q := by
  intro a ha
  refine wp_seq_k fun K hK => ?_
  exact h K (fun S w hy a ha => hK a w (hy a ha)) a ha
theorem Cd.region {id : Nat} {l : List Oper} (h : L P N l.toArray l S w Q) : Cd P N (.region id l.toArray false) S w Q := fun a ha => wp_region_lit (h a ha)
theorem Cd.sub {c : Code} (hs : Sub S S') (h : Cd P N c S' w Q) : Cd P N c S w Q := fun a ha => h a (ha.sub hs)
theorem Cd.condT {c : Operand} {x y : Code} (hc : opn S c = some (.bool true)) (h : Cd P N x S w Q) : Cd P N (.cond c x y) S w Q := fun a ha => wp_cond_true (ha.eval hc) (h a ha)
theorem Cd.condF {c : Operand} {x y : Code} (hc : opn S c = some (.bool false)) (h : Cd P N y S w Q) : Cd P N (.cond c x y) S w Q := fun a ha => wp_cond_false (ha.eval hc) (h a ha)
theorem Cd.block {id : Nat} {c : Code} (h : Cd P N c S w (Exit.inBlock id Q)) : Cd P N (.block id c) S w Q := fun a ha => wp_block (h a ha)
theorem Cd.skip (h : Nx N S w Q) : Cd P N .skip S w Q := fun a ha => wp_skip (h a ha)
theorem Cd.exit {id : Nat} (h : Ex N id S w Q) : Cd P N (.exit id) S w Q := fun a ha => wp_exit (h a ha)
theorem Cd.ret (h : Rt N S w Q) : Cd P N .ret S w Q := fun a ha => wp_ret (h a ha)
theorem Nx.block {id : Nat} (h : Nx N S w Q) : Nx N S w (Exit.inBlock id Q) := h
theorem Nx.sub (hs : Sub S S') (h : Nx N S' w Q) : Nx N S w Q := fun a ha => h a (ha.sub hs)
theorem Ex.then {id : Nat} {K : Act → World → Prop} (h : Ex N id S w Q) : Ex N id S w (Exit.then K Q) := h
theorem Ex.hit {id : Nat} (h : Nx N S w Q) : Ex N id S w (Exit.inBlock id Q) := fun a ha => by simp only [Exit.inBlock, if_true]; exact h a ha
theorem Ex.miss {id j : Nat} (hn : Nat.beq j id = false) (h : Ex N j S w Q) : Ex N j S w (Exit.inBlock id Q) := fun a ha => by
  have : ¬ j = id := fun e => by rw [e, show Nat.beq id id = true from Nat.beq_refl id] at hn; cases hn
  simp only [Exit.inBlock, if_neg this]; exact h a ha
theorem Rt.then {K : Act → World → Prop} (h : Rt N S w Q) : Rt N S w (Exit.then K Q) := h
theorem Rt.block {id : Nat} (h : Rt N S w Q) : Rt N S w (Exit.inBlock id Q) := h
theorem Rt.body {fn : Func} {t : Tmp} {R : Ending → World → Prop} (hr : fn.results = #[.tmp t]) (hl : look S t = some v) (h : R (.returned v) w) : Rt N S w (bodyPost P fn R) := fun a ha =>
  bodyPost_ret (v := v) (by rw [results_tmp hr]; rw [Array.getD_eq_getD_getElem?, ha.has t v hl]; rfl) ha.df h
/-- several results -/
def looks (S : St) : List Tmp → Option (List Value)
  | [] => some []
  | t :: r => match look S t with
    | some v => match looks S r with
      | some vs => some (v :: vs)
      | none => none
    | none => none
theorem looks_spec (h : Kn N S a) : ∀ {ts : List Tmp} {vs : List Value}, looks S ts = some vs → ts.map (fun t => a.tmps.getD t undef) = vs
  | [], vs, e => by simp only [looks, Option.some.injEq] at e; subst e; rfl
  | t :: r, vs, e => by
    simp only [looks] at e
    split at e
    · rename_i v hv
      split at e
      · rename_i us hu
        simp only [Option.some.injEq] at e
        subst e
        rw [List.map_cons, looks_spec h hu, Array.getD_eq_getD_getElem?, h.has t v hv]
        rfl
      · cases e
    · cases e
theorem Rt.body2 {fn : Func} {t u : Tmp} {x y : Value} {R : Ending → World → Prop} (hr : fn.results = #[.tmp t, .tmp u]) (hl : looks S [t, u] = some [x, y]) (h : R (.returned (.tuple #[x, y])) w) : Rt N S w (bodyPost P fn R) := fun a ha => by
  have e := looks_spec ha hl
  simp only [List.map_cons, List.map_nil, List.cons.injEq, and_true] at e
  exact bodyPost_ret (by rw [results_tmp2 hr, e.1, e.2]) ha.df h
theorem Rt.body3 {fn : Func} {t u r : Tmp} {x y z : Value} {R : Ending → World → Prop} (hr : fn.results = #[.tmp t, .tmp u, .tmp r]) (hl : looks S [t, u, r] = some [x, y, z]) (h : R (.returned (.tuple #[x, y, z])) w) : Rt N S w (bodyPost P fn R) := fun a ha => by
  have e := looks_spec ha hl
  simp only [List.map_cons, List.map_nil, List.cons.injEq, and_true] at e
  refine bodyPost_ret (v := .tuple #[x, y, z]) ?_ ha.df h
  simp only [Array.getD_eq_getD_getElem?] at e
  simp [results, hr, e.1, e.2.1, e.2.2]
/-- what a piece of code leaves: for what follows, and for nothing else -/
def Post (N : Nat) {ι : Type} (Sx : ι → St) (R : ι → World → Prop) : Exit → Act → World → Prop := fun e a w => e = .normal ∧ ∃ x, Kn N (Sx x) a ∧ R x w
theorem Nx.post {ι : Type} {Sx : ι → St} {R : ι → World → Prop} (x : ι) (hs : Sub S (Sx x)) (hr : R x w) : Nx N S w (Post N Sx R) := fun _ ha => ⟨rfl, x, ha.sub hs, hr⟩
theorem Cd.cut {x y : Code} {ι : Type} (Sx : ι → St) (R : ι → World → Prop) (h1 : Cd P N x S w (Post N Sx R)) (h2 : ∀ i w', R i w' → Cd P N y (Sx i) w' Q) : Cd P N (.seq x y) S w Q := fun a ha =>
  wp_seq (wp_mono (h1 a ha) fun e a' w' ⟨he, i, hk, hr⟩ => by subst he; exact h2 i w' hr a' hk)
/-- a code alone, cut -/
theorem Cd.via {x : Code} {ι : Type} (Sx : ι → St) (R : ι → World → Prop) (h1 : Cd P N x S w (Post N Sx R)) (h2 : ∀ i w', R i w' → Nx N (Sx i) w' Q) : Cd P N x S w Q := fun a ha =>
  wp_mono (h1 a ha) fun e a' w' ⟨he, i, hk, hr⟩ => by subst he; exact h2 i w' hr a' hk

/-- a condition that comes out false: what is known stays -/
theorem Cd.cutB {x y : Code} (c : Nat) (h1 : Cd P N x S w (Post N (fun _ : Unit => (c, .bool false) :: S) (fun _ w' => Below w.heap.size w w')))
    (h2 : ∀ w', Below w.heap.size w w' → Cd P N y ((c, .bool false) :: S) w' Q) : Cd P N (.seq x y) S w Q := Cd.cut _ _ h1 fun _ => h2
/-- a piece of code that leaves what is told -/
theorem Cd.cutK {x y : Code} (S' : St) (hs : Sub S S') (h1 : Cd P N x S w (Post N (fun _ : Unit => S') (fun _ w' => Below w.heap.size w w')))
    (h2 : ∀ w', Below w.heap.size w w' → Cd P N y S' w' Q) : Cd P N (.seq x y) S w Q := by
  have _ := hs
  exact Cd.cut _ _ h1 fun _ => h2

theorem Cd.viaK {x : Code} (S' : St) (hs : Sub S S') (h1 : Cd P N x S w (Post N (fun _ : Unit => S') (fun _ w' => Below w.heap.size w w')))
    (h2 : ∀ w', Below w.heap.size w w' → Nx N S' w' Q) : Cd P N x S w Q := by
  have _ := hs
  exact Cd.via _ _ h1 fun _ => h2

/-! ### loops, by a measure of what is behind them -/
theorem wp_loop_ghost {c : Code} {ι : Type} (I : ι → Act → World → Prop) (μ : ι → Nat) (x0 : ι) {a0 : Act} (h0 : I x0 a0 w)
    (round : ∀ x a w, I x a w → c.wp P (Exit.then (fun a' w' => ∃ x', I x' a' w' ∧ μ x' < μ x) Q) a w) : (Code.loop c).wp P Q a0 w := by
  classical
  have least : ∀ (n : Nat) (a : Act) (w : World), (∃ x, μ x ≤ n ∧ I x a w) → ∃ x, I x a w ∧ ∀ y, I y a w → μ x ≤ μ y := by
    intro n
    induction n with
    | zero => rintro a w ⟨x, hx, hi⟩; exact ⟨x, hi, fun y _ => by omega⟩
    | succ n ih =>
      rintro a w ⟨x, hx, hi⟩
      by_cases h : ∃ y, μ y ≤ n ∧ I y a w
      · exact ih a w h
      · refine ⟨x, hi, fun y hy => ?_⟩
        have : ¬ μ y ≤ n := fun h' => h ⟨y, h', hy⟩
        omega
  let M : Act → World → Nat := fun a w => if h : ∃ x, I x a w ∧ ∀ y, I y a w → μ x ≤ μ y then μ (Classical.choose h) else 0
  refine wp_loop (fun a w => ∃ x, I x a w) M ⟨x0, h0⟩ fun a w ⟨x, hx⟩ => ?_
  have hm := least (μ x) a w ⟨x, Nat.le_refl _, hx⟩
  have hM : M a w = μ (Classical.choose hm) := dif_pos hm
  obtain ⟨h1, h2⟩ := Classical.choose_spec hm
  refine wp_mono (round _ a w h1) fun e a' w' hq => ?_
  cases e with
  | normal =>
    obtain ⟨x', hi', hlt⟩ := hq
    refine ⟨⟨x', hi'⟩, ?_⟩
    have hm' := least (μ x') a' w' ⟨x', Nat.le_refl _, hi'⟩
    have hM' : M a' w' = μ (Classical.choose hm') := dif_pos hm'
    have := (Classical.choose_spec hm').2 x' hi'
    rw [hM, hM']
    omega
  | _ => exact hq
def Again (N : Nat) {ι : Type} (S0 : St) (Sx : ι → St) (R : ι → World → Prop) (μ : ι → Nat) (x : ι) : Act → World → Prop := fun a w => ∃ x', (Kn N (Sx x' ++ S0) a ∧ R x' w) ∧ μ x' < μ x
theorem Cd.loop {c : Code} {ι : Type} (S0 : St) (Sx : ι → St) (R : ι → World → Prop) (μ : ι → Nat) (x0 : ι) (hs : Sub S (Sx x0 ++ S0)) (h0 : R x0 w)
    (round : ∀ x w, R x w → Cd P N c (Sx x ++ S0) w (Exit.then (Again N S0 Sx R μ x) Q)) : Cd P N (.loop c) S w Q := fun _ ha =>
  wp_loop_ghost (fun x a w => Kn N (Sx x ++ S0) a ∧ R x w) μ x0 ⟨ha.sub hs, h0⟩ fun x a w ⟨hk, hr⟩ => round x w hr a hk
theorem Nx.again {ι : Type} {S0 : St} {Sx : ι → St} {R : ι → World → Prop} {μ : ι → Nat} {x : ι} (x' : ι) (hs : Sub S (Sx x' ++ S0)) (hr : R x' w) (hm : μ x' < μ x) : Nx N S w (Exit.then (Again N S0 Sx R μ x) Q) := fun _ ha =>
  ⟨x', ⟨ha.sub hs, hr⟩, hm⟩
theorem lkI {t : Nat} {k : IntKind} {m n : Int} (h : look S t = some (.int k m)) (e : m = n) : look S t = some (.int k n) := e ▸ h
theorem lkS {t : Nat} {m n : ByteArray} (h : look S t = some (.string m)) (e : m = n) : look S t = some (.string n) := e ▸ h
theorem lkB {t : Nat} {m n : Bool} (h : look S t = some (.bool m)) (e : m = n) : look S t = some (.bool n) := e ▸ h
theorem wrapI {z : Int} (h1 : -9223372036854775808 ≤ z) (h2 : z ≤ 9223372036854775807) : IntKind.i64.wrap z = z := IntWalk.i64_in z ⟨h1, h2⟩

/-! ### the beginning -/
def num : Nat → List Value → St
  | _, [] => []
  | k, v :: r => (k, v) :: num (k + 1) r
theorem num_look : ∀ (k : Nat) (vs : List Value) (t : Nat) (v : Value), look (num k vs) t = some v → k ≤ t ∧ vs[t - k]? = some v
  | k, [], t, v, h => by cases h
  | k, u :: r, t, v, h => by
    simp only [num, look] at h
    rcases hb : Nat.beq k t with _ | _
    · rw [hb, cond_false] at h
      obtain ⟨h1, h2⟩ := num_look (k + 1) r t v h
      refine ⟨by omega, ?_⟩
      rw [show t - k = (t - (k + 1)) + 1 by omega, List.getElem?_cons_succ]; exact h2
    · rw [hb, cond_true] at h
      rw [← Nat.eq_of_beq_eq_true hb]
      simpa using h
set_option maxRecDepth 20000 in
theorem enter {fn : Func} {c : Code} {f : FuncId} {args : List Value} {R : Ending → World → Prop} (hf : P.funcs[f]? = some fn) (hb : fn.body = some c) (hn : fn.ntmps = N) (hl : Nat.ble args.length N = true)
    (h : Cd P N c (num 0 args) w (bodyPost P fn R)) : Calls P f args.toArray w R := by
  have hl := Nat.le_of_ble_eq_true hl
  refine calls_of_wp hf hb (h _ ⟨?_, rfl, ?_⟩)
  · simp [hn]; omega
  · intro t v e
    obtain ⟨_, h2⟩ := num_look 0 args t v e
    have hlt : t < args.length := by
      rcases Nat.lt_or_ge t args.length with h | h
      · exact h
      · rw [Nat.sub_zero, List.getElem?_eq_none h] at h2; cases h2
    simp only [Nat.sub_zero] at h2
    rw [Array.getElem?_append_left (by simpa using hlt)]
    simpa using h2
end Sp
end Go.Proofs.YtjbomclildkjaaaDoor

namespace Go.Proofs.YtjbomclildkjaaaDoor
namespace Sp
theorem run_under {P : Program} {t : TypeId} {w : World} {e : TypeDesc} (h : P.underlying t = some e) : (underlying t).run P w = .ok e w := by
  unfold underlying
  simp [go_sem, h]
theorem strs_ne {q s : ByteArray} (h : ¬ q = s) : (q.toList == s.toList) = false := by
  rw [beq_eq_false_iff_ne]
  intro e
  apply h
  rw [ByteArray.toList_eq, ByteArray.toList_eq] at e
  exact ByteArray.ext (Array.toList_inj.1 e)
variable {P : Program} {N : Nat} {S : St} {w : World} {d : Nat} {ty : TypeId} {pos : String} {after : Array Edge} {g : Option (Nat × Bool)} {x y : Operand} {t t' : TypeId}

theorem Runs.move {v : Value} (hx : opn S x = some v) : Runs P N S ⟨some d, .move x, ty, pos, after, g⟩ w v := fun a ha => by
  have h1 := ha.eval hx
  generalize a.eval = ρ at h1 ⊢
  simp [go_sem, h1]
theorem Runs.assign {v : Value} (hx : opn S x = some v) : Runs P N S ⟨some d, .assign x, ty, pos, after, g⟩ w v := fun a ha => by
  have h1 := ha.eval hx
  generalize a.eval = ρ at h1 ⊢
  simp [go_sem, h1]
theorem Runs.pickT {c : Operand} {v : Value} (hc : opn S c = some (.bool true)) (hx : opn S x = some v) : Runs P N S ⟨some d, .pick c x y, ty, pos, after, g⟩ w v := fun a ha => by
  have h1 := ha.eval hc
  have h2 := ha.eval hx
  generalize a.eval = ρ at h1 h2 ⊢
  simp [go_sem, h1, h2]
theorem Runs.pickF {c : Operand} {v : Value} (hc : opn S c = some (.bool false)) (hx : opn S y = some v) : Runs P N S ⟨some d, .pick c x y, ty, pos, after, g⟩ w v := fun a ha => by
  have h1 := ha.eval hc
  have h2 := ha.eval hx
  generalize a.eval = ρ at h1 h2 ⊢
  simp [go_sem, h1, h2]
theorem Runs.not {b : Bool} (hx : opn S x = some (.bool b)) : Runs P N S ⟨some d, .unOp .not t x, ty, pos, after, g⟩ w (.bool (!b)) := fun a ha => by
  have h1 := ha.eval hx
  generalize a.eval = ρ at h1 ⊢
  simp [go_sem, h1]
theorem Runs.notT (hx : opn S x = some (.bool false)) : Runs P N S ⟨some d, .unOp .not t x, ty, pos, after, g⟩ w (.bool true) := Runs.not hx
theorem Runs.notF (hx : opn S x = some (.bool true)) : Runs P N S ⟨some d, .unOp .not t x, ty, pos, after, g⟩ w (.bool false) := Runs.not hx
theorem Runs.extract {vs : List Value} {i : Nat} {v : Value} (hx : opn S x = some (.tuple vs.toArray)) (hi : nth vs i = some v) : Runs P N S ⟨some d, .extract x i, ty, pos, after, g⟩ w v := fun a ha => by
  have h1 := ha.eval hx
  generalize a.eval = ρ at h1 ⊢
  have h2 : vs.toArray[i]? = some v := by rw [List.getElem?_toArray]; exact nth_spec hi
  simp [go_sem, h1, nth_spec hi]
theorem Runs.lenS {s : ByteArray} (ht : P.underlying t = some .string) (hx : opn S x = some (.string s)) : Runs P N S ⟨some d, .call { callee := .builtin .len, args := [x].toArray, argTypes := [t].toArray }, ty, pos, after, g⟩ w (.int .i64 s.size) := fun a ha => by
  have h1 := ha.eval hx
  generalize a.eval = ρ at h1 ⊢
  simp [go_sem, Builtin.len_, h1, run_under ht]
theorem Runs.lenL {p : Option Addr} {l c : Nat} {e : TypeId} (ht : P.underlying t = some (.slice e)) (hx : opn S x = some (.slice p l c)) : Runs P N S ⟨some d, .call { callee := .builtin .len, args := [x].toArray, argTypes := [t].toArray }, ty, pos, after, g⟩ w (.int .i64 l) := fun a ha => by
  have h1 := ha.eval hx
  generalize a.eval = ρ at h1 ⊢
  simp [go_sem, Builtin.len_, h1, run_under ht]

section ints
variable {k : IntKind} {m n : Int} (hx : opn S x = some (.int k m)) (hy : opn S y = some (.int k n))
include hx hy
theorem Runs.eqI : Runs P N S ⟨some d, .binOp .eql t x y t', ty, pos, after, g⟩ w (.bool (m == n)) := fun a ha => by
  have h1 := ha.eval hx
  have h2 := ha.eval hy
  generalize a.eval = ρ at h1 h2 ⊢
  simp [go_sem, h1, h2]
theorem Runs.neI : Runs P N S ⟨some d, .binOp .neq t x y t', ty, pos, after, g⟩ w (.bool (m != n)) := fun a ha => by
  have h1 := ha.eval hx
  have h2 := ha.eval hy
  generalize a.eval = ρ at h1 h2 ⊢
  simp [go_sem, h1, h2]
theorem Runs.ltI : Runs P N S ⟨some d, .binOp .lss t x y t', ty, pos, after, g⟩ w (.bool (decide (m < n))) := fun a ha => by
  have h1 := ha.eval hx
  have h2 := ha.eval hy
  generalize a.eval = ρ at h1 h2 ⊢
  simp [go_sem, h1, h2]
theorem Runs.leI : Runs P N S ⟨some d, .binOp .leq t x y t', ty, pos, after, g⟩ w (.bool (decide (m ≤ n))) := fun a ha => by
  have h1 := ha.eval hx
  have h2 := ha.eval hy
  generalize a.eval = ρ at h1 h2 ⊢
  simp [go_sem, h1, h2]
theorem Runs.gtI : Runs P N S ⟨some d, .binOp .gtr t x y t', ty, pos, after, g⟩ w (.bool (decide (n < m))) := fun a ha => by
  have h1 := ha.eval hx
  have h2 := ha.eval hy
  generalize a.eval = ρ at h1 h2 ⊢
  simp [go_sem, h1, h2]
theorem Runs.geI : Runs P N S ⟨some d, .binOp .geq t x y t', ty, pos, after, g⟩ w (.bool (decide (n ≤ m))) := fun a ha => by
  have h1 := ha.eval hx
  have h2 := ha.eval hy
  generalize a.eval = ρ at h1 h2 ⊢
  simp [go_sem, h1, h2]
theorem Runs.eqIT (h : m = n) : Runs P N S ⟨some d, .binOp .eql t x y t', ty, pos, after, g⟩ w (.bool true) := by
  have := @Runs.eqI P N S w d ty pos after g x y t t' k m n hx hy; rwa [show (m == n) = true from by simpa using h] at this
theorem Runs.eqIF (h : ¬ m = n) : Runs P N S ⟨some d, .binOp .eql t x y t', ty, pos, after, g⟩ w (.bool false) := by
  have := @Runs.eqI P N S w d ty pos after g x y t t' k m n hx hy; rwa [show (m == n) = false from by simpa using h] at this
theorem Runs.neIT (h : ¬ m = n) : Runs P N S ⟨some d, .binOp .neq t x y t', ty, pos, after, g⟩ w (.bool true) := by
  have := @Runs.neI P N S w d ty pos after g x y t t' k m n hx hy; rwa [show (m != n) = true from by simpa using h] at this
theorem Runs.neIF (h : m = n) : Runs P N S ⟨some d, .binOp .neq t x y t', ty, pos, after, g⟩ w (.bool false) := by
  have := @Runs.neI P N S w d ty pos after g x y t t' k m n hx hy; rwa [show (m != n) = false from by simpa using h] at this
theorem Runs.ltIT (h : m < n) : Runs P N S ⟨some d, .binOp .lss t x y t', ty, pos, after, g⟩ w (.bool true) := by
  have := @Runs.ltI P N S w d ty pos after g x y t t' k m n hx hy; rwa [decide_eq_true h] at this
theorem Runs.ltIF (h : ¬ m < n) : Runs P N S ⟨some d, .binOp .lss t x y t', ty, pos, after, g⟩ w (.bool false) := by
  have := @Runs.ltI P N S w d ty pos after g x y t t' k m n hx hy; rwa [decide_eq_false h] at this
theorem Runs.leIT (h : m ≤ n) : Runs P N S ⟨some d, .binOp .leq t x y t', ty, pos, after, g⟩ w (.bool true) := by
  have := @Runs.leI P N S w d ty pos after g x y t t' k m n hx hy; rwa [decide_eq_true h] at this
theorem Runs.leIF (h : ¬ m ≤ n) : Runs P N S ⟨some d, .binOp .leq t x y t', ty, pos, after, g⟩ w (.bool false) := by
  have := @Runs.leI P N S w d ty pos after g x y t t' k m n hx hy; rwa [decide_eq_false h] at this
theorem Runs.gtIT (h : n < m) : Runs P N S ⟨some d, .binOp .gtr t x y t', ty, pos, after, g⟩ w (.bool true) := by
  have := @Runs.gtI P N S w d ty pos after g x y t t' k m n hx hy; rwa [decide_eq_true h] at this
theorem Runs.gtIF (h : ¬ n < m) : Runs P N S ⟨some d, .binOp .gtr t x y t', ty, pos, after, g⟩ w (.bool false) := by
  have := @Runs.gtI P N S w d ty pos after g x y t t' k m n hx hy; rwa [decide_eq_false h] at this
theorem Runs.geIT (h : n ≤ m) : Runs P N S ⟨some d, .binOp .geq t x y t', ty, pos, after, g⟩ w (.bool true) := by
  have := @Runs.geI P N S w d ty pos after g x y t t' k m n hx hy; rwa [decide_eq_true h] at this
theorem Runs.geIF (h : ¬ n ≤ m) : Runs P N S ⟨some d, .binOp .geq t x y t', ty, pos, after, g⟩ w (.bool false) := by
  have := @Runs.geI P N S w d ty pos after g x y t t' k m n hx hy; rwa [decide_eq_false h] at this
theorem Runs.addI {r : Int} (h : k.wrap (m + n) = r) : Runs P N S ⟨some d, .binOp .add t x y t', ty, pos, after, g⟩ w (.int k r) := fun a ha => by
  have h1 := ha.eval hx
  have h2 := ha.eval hy
  generalize a.eval = ρ at h1 h2 ⊢
  simp [go_sem, h1, h2, h]
theorem Runs.subI {r : Int} (h : k.wrap (m - n) = r) : Runs P N S ⟨some d, .binOp .sub t x y t', ty, pos, after, g⟩ w (.int k r) := fun a ha => by
  have h1 := ha.eval hx
  have h2 := ha.eval hy
  generalize a.eval = ρ at h1 h2 ⊢
  simp [go_sem, h1, h2, h]
theorem Runs.mulI {r : Int} (h : k.wrap (m * n) = r) : Runs P N S ⟨some d, .binOp .mul t x y t', ty, pos, after, g⟩ w (.int k r) := fun a ha => by
  have h1 := ha.eval hx
  have h2 := ha.eval hy
  generalize a.eval = ρ at h1 h2 ⊢
  simp [go_sem, h1, h2, h]
theorem Runs.remI {r : Int} (h0 : ¬ n = 0) (h : m.tmod n = r) : Runs P N S ⟨some d, .binOp .rem t x y t', ty, pos, after, g⟩ w (.int k r) := fun a ha => by
  have h1 := ha.eval hx
  have h2 := ha.eval hy
  generalize a.eval = ρ at h1 h2 ⊢
  have e : (Op.intDiv .rem k m n).run P w = .ok (.int k r) w := by unfold Op.intDiv; rw [if_neg h0, h]; rfl
  simp [execOp, h1, h2, eqGuard, binOp, e]
theorem Runs.quoI {r : Int} (h0 : ¬ n = 0) (h : k.wrap (m.tdiv n) = r) : Runs P N S ⟨some d, .binOp .quo t x y t', ty, pos, after, g⟩ w (.int k r) := fun a ha => by
  have h1 := ha.eval hx
  have h2 := ha.eval hy
  generalize a.eval = ρ at h1 h2 ⊢
  have e : (Op.intDiv .quo k m n).run P w = .ok (.int k r) w := by unfold Op.intDiv; rw [if_neg h0, h]; rfl
  simp [execOp, h1, h2, eqGuard, binOp, e]
end ints
theorem mulbd {a b A B : Int} (h1 : 0 ≤ a) (h2 : a ≤ A) (h3 : 0 ≤ b) (h4 : b ≤ B) : 0 ≤ a * b ∧ a * b ≤ A * B :=
  ⟨Int.mul_nonneg h1 h3, Int.mul_le_mul h2 h4 h3 (Int.le_trans h1 h2)⟩
theorem sq_bd {a A : Int} (h1 : -A ≤ a) (h2 : a ≤ A) (_h3 : 0 ≤ A) : 0 ≤ a * a ∧ a * a ≤ A * A := by
  rcases Int.le_total 0 a with h | h
  · exact mulbd h h2 h h2
  · have := mulbd (a := -a) (b := -a) (A := A) (B := A) (by omega) (by omega) (by omega) (by omega)
    rwa [Int.neg_mul_neg] at this
theorem tmod_nn {m n : Int} (h : 0 ≤ m) : m.tmod n = m % n := by rw [Int.tmod_eq_emod_of_nonneg h]
theorem tdiv_nn {m n : Int} (h : 0 ≤ m) : m.tdiv n = m / n := by rw [Int.tdiv_eq_ediv_of_nonneg h]

section bools
variable {m n : Bool} (ht : P.underlying t = some .bool) (hx : opn S x = some (.bool m)) (hy : opn S y = some (.bool n))
include ht hx hy
theorem Runs.eqB : Runs P N S ⟨some d, .binOp .eql t x y t', ty, pos, after, g⟩ w (.bool (m == n)) := fun a ha => by
  have h1 := ha.eval hx
  have h2 := ha.eval hy
  generalize a.eval = ρ at h1 h2 ⊢
  simp [go_sem, h1, h2, ht]
theorem Runs.neB : Runs P N S ⟨some d, .binOp .neq t x y t', ty, pos, after, g⟩ w (.bool (!(m == n))) := fun a ha => by
  have h1 := ha.eval hx
  have h2 := ha.eval hy
  generalize a.eval = ρ at h1 h2 ⊢
  simp [go_sem, h1, h2, ht]
theorem Runs.neBF (h : m = n) : Runs P N S ⟨some d, .binOp .neq t x y t', ty, pos, after, g⟩ w (.bool false) := by
  have := @Runs.neB P N S w d ty pos after g x y t t' m n ht hx hy; rwa [show (!(m == n)) = false from by rw [h]; simp] at this
theorem Runs.neBT (h : ¬ m = n) : Runs P N S ⟨some d, .binOp .neq t x y t', ty, pos, after, g⟩ w (.bool true) := by
  have := @Runs.neB P N S w d ty pos after g x y t t' m n ht hx hy; rwa [show (!(m == n)) = true from by simpa using h] at this
end bools

section strs
variable {p q : ByteArray} (hx : opn S x = some (.string p)) (hy : opn S y = some (.string q))
include hx hy
theorem Runs.eqS : Runs P N S ⟨some d, .binOp .eql t x y t', ty, pos, after, g⟩ w (.bool (p.toList == q.toList)) := fun a ha => by
  have h1 := ha.eval hx
  have h2 := ha.eval hy
  generalize a.eval = ρ at h1 h2 ⊢
  simp [go_sem, h1, h2]
theorem Runs.neS : Runs P N S ⟨some d, .binOp .neq t x y t', ty, pos, after, g⟩ w (.bool (!(p.toList == q.toList))) := fun a ha => by
  have h1 := ha.eval hx
  have h2 := ha.eval hy
  generalize a.eval = ρ at h1 h2 ⊢
  simp [go_sem, h1, h2]
theorem Runs.addS (h : p.size + q.size ≤ 9223372036854775807) : Runs P N S ⟨some d, .binOp .add t x y t', ty, pos, after, g⟩ w (.string (p ++ q)) := fun a ha => by
  have h1 := ha.eval hx
  have h2 := ha.eval hy
  generalize a.eval = ρ at h1 h2 ⊢
  simp [go_sem, h1, h2, h]
theorem Runs.eqST (h : p = q) : Runs P N S ⟨some d, .binOp .eql t x y t', ty, pos, after, g⟩ w (.bool true) := by
  have := @Runs.eqS P N S w d ty pos after g x y t t' p q hx hy; subst h; rwa [show (p.toList == p.toList) = true from by simp] at this
theorem Runs.neSF (h : p = q) : Runs P N S ⟨some d, .binOp .neq t x y t', ty, pos, after, g⟩ w (.bool false) := by
  have := @Runs.neS P N S w d ty pos after g x y t t' p q hx hy; subst h; rwa [show (!(p.toList == p.toList)) = false from by simp] at this
theorem Runs.eqSF (h : ¬ p = q) : Runs P N S ⟨some d, .binOp .eql t x y t', ty, pos, after, g⟩ w (.bool false) := by
  have := @Runs.eqS P N S w d ty pos after g x y t t' p q hx hy; rwa [strs_ne h] at this
theorem Runs.neST (h : ¬ p = q) : Runs P N S ⟨some d, .binOp .neq t x y t', ty, pos, after, g⟩ w (.bool true) := by
  have := @Runs.neS P N S w d ty pos after g x y t t' p q hx hy; rwa [strs_ne h] at this
end strs

/-! ### memory -/
theorem Runs.indexS {p : ByteArray} {k : IntKind} {n z : Int} (ht : P.underlying t = some .string) (hx : opn S x = some (.string p)) (hy : opn S y = some (.int k n)) (j : Nat) (hn : n = (j : Int)) (hj : j < p.size) (hz : ((p[j]'hj).toNat : Int) = z) :
    Runs P N S ⟨some d, .index t x y, ty, pos, after, g⟩ w (.int .u8 z) := fun a ha => by
  have h1 := ha.eval hx
  have h2 := ha.eval hy
  subst hn hz
  generalize a.eval = ρ at h1 h2 ⊢
  have h3 : p[j]? = some p[j] := getElem?_pos p j hj
  simp [go_sem, Instr.index, h1, h2, run_under ht, hj]
theorem Runs.indexAddr {u v r : Value} (hx : opn S x = some u) (hy : opn S y = some v) (h : (Instr.indexAt t u v).run P w = .ok r w) : Runs P N S ⟨some d, .indexAddr t x y, ty, pos, after, g⟩ w r := fun a ha => by
  have h1 := ha.eval hx
  have h2 := ha.eval hy
  generalize a.eval = ρ at h1 h2 ⊢
  simp [execOp, h1, h2, h]
theorem Runs.load {u r : Value} (hx : opn S x = some u) (h : (Instr.loadAt t u).run P w = .ok r w) : Runs P N S ⟨some d, .load t x, ty, pos, after, g⟩ w r := fun a ha => by
  have h1 := ha.eval hx
  generalize a.eval = ρ at h1 ⊢
  simp [execOp, h1, h]
/-- bounds of a slice expression -/
def opo (S : St) : Option Operand → Option (Option Value)
  | none => some none
  | some x => match opn S x with
    | some v => some (some v)
    | none => none
theorem Kn.evalo {a : Act} (h : Kn N S a) {x : Option Operand} {v : Option Value} (hx : opo S x = some v) : x.map a.eval = v := by
  cases x with
  | none => simpa [opo] using hx
  | some x =>
    simp only [opo] at hx
    split at hx
    · rename_i u hu
      simp only [Option.some.injEq] at hx
      rw [← hx, Option.map_some, h.eval hu]
    · cases hx
theorem Runs.slice {lo hi mx : Option Operand} {u r : Value} {lv hv mv : Option Value} (hx : opn S x = some u) (h1 : opo S lo = some lv) (h2 : opo S hi = some hv) (h3 : opo S mx = some mv)
    (h : (Instr.sliceAt t u lv hv mv).run P w = .ok r w) : Runs P N S ⟨some d, .slice t x lo hi mx, ty, pos, after, g⟩ w r := fun a ha => by
  have e0 := ha.eval hx
  have e1 := ha.evalo h1
  have e2 := ha.evalo h2
  have e3 := ha.evalo h3
  simp [execOp, e0, e1, e2, e3, h]
theorem slice_str {s : ByteArray} {k1 k2 : IntKind} {m n : Int} (ht : P.underlying t = some .string) (i j : Nat) (hm : m = (i : Int)) (hn : n = (j : Int)) (hij : i ≤ j) (hj : j ≤ s.size) :
    (Instr.sliceAt t (.string s) (some (.int k1 m)) (some (.int k2 n)) none).run P w = .ok (.string (s.extract i j)) w := by
  subst hm hn
  have h1 : (0 : Int) ≤ (j : Int) ∧ (j : Int) ≤ (s.size : Int) := by omega
  have h2 : (0 : Int) ≤ (i : Int) ∧ (i : Int) ≤ (j : Int) := by omega
  have e := run_slice_string_if (P := P) (w := w) t s k1 k2 i j ht
  rw [if_pos h1, if_pos h2, Int.toNat_natCast, Int.toNat_natCast] at e
  simp [Instr.sliceAt, run_under ht, e]
variable {ops : Array Oper} {rest : List Oper} {Q : Exit → Act → World → Prop}
/-- a range over a text makes an iterator -/
theorem L.rangeS {p : ByteArray} (ht : P.underlying t = some .string) (hx : opn S x = some (.string p)) (hc : chk N S ops d g true = true) (h : L P N ops rest ((d, .pointer (some ⟨w.heap.size, 0, none⟩)) :: S) (w.iter p 0) Q) :
    L P N ops (⟨some d, .range t x, ty, pos, after, g⟩ :: rest) S w Q := by
  refine L.step hc (fun a ha => ?_) h
  have h1 := ha.eval hx
  generalize a.eval = ρ at h1 ⊢
  simp [execOp, h1, run_range_string (P := P) w t p ht]
theorem L.next {u r : Value} {w' : World} {b : Bool} (hx : opn S x = some u) (hr : (Instr.next u b ty).run P w = .ok r w') (hc : chk N S ops d g true = true) (h : L P N ops rest ((d, r) :: S) w' Q) :
    L P N ops (⟨some d, .next x b, ty, pos, after, g⟩ :: rest) S w Q := by
  refine L.step hc (fun a ha => ?_) h
  have h1 := ha.eval hx
  generalize a.eval = ρ at h1 ⊢
  simp [execOp, h1, hr]
end Sp
end Go.Proofs.YtjbomclildkjaaaDoor
