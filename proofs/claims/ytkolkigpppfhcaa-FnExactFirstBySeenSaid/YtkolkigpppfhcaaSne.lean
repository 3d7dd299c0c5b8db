/- Chapter 2, the program: maps with pairs as keys: reading, ranging, sums on the way. -/
import Derived.Test.YtkolkigpppfhcaaSnd
import Derived.Test.YtkolkigpppfhcaaDrew
namespace Go.Proofs.Ytkolkigpppfhcaa
open Go.ChangeShapes Go.WideShapes Go.ChangeAt Go.RowKit
open Go.ChangeMaps (setBlock)

namespace Sn
theorem wfN {n : Nat} (h : n ≤ 1000000) : (Lit.int .i64 (n : Int)).wf = true := WalkArith.wf_i64 (by omega)
theorem keyN_inj {l r l' r' : Nat} (h1 : l ≤ 20) (h2 : r ≤ 20) (h3 : l' ≤ 20) (h4 : r' ≤ 20) (h : keyL (l : Int) (r : Int) = keyL (l' : Int) (r' : Int)) : l = l' ∧ r = r' := by
  have := keyL_inj (wfN (by omega)) (wfN (by omega)) (wfN (by omega)) (wfN (by omega)) h
  omega
/-- D reads as f, with pairs up to n as keys -/
def ReadP (D : DataW Unit) (n : Nat) (f : Nat → Nat → Nat) : Prop :=
  (∀ l r : Nat, l ≤ 20 → r ≤ 20 → D.atKey (keyL l r) (.lit (.int .i64 0)) = .lit (.int .i64 ((f l r : Nat) : Int))) ∧ (∀ kl, Maps.has D kl = true → ∃ l r : Nat, 1 ≤ l ∧ l ≤ n ∧ 1 ≤ r ∧ r ≤ n ∧ kl = keyL l r)
def MapP (w : World) (b N n : Nat) (f : Nat → Nat → Nat) : Prop := ∃ D : DataW Unit, w.ownsMap Try.prog 35 (plainElem Try.prog 3) b N D ∧ ReadP D n f
def RngP (w : World) (b g N n : Nat) (f : Nat → Nat → Nat) (left : Lit → Bool) (cnt : Nat) : Prop := ∃ D : DataW Unit, w.ranges Try.prog 35 (plainElem Try.prog 3) b g N D left cnt ∧ ReadP D n f
theorem MapP.lt {w : World} {b N n : Nat} {f : Nat → Nat → Nat} (h : MapP w b N n f) : b < w.heap.size := by obtain ⟨D, h1, _⟩ := h; exact h1.lt
theorem MapP.kept {w w' : World} {b N n : Nat} {f : Nat → Nat → Nat} {row : Option Nat} (h : MapP w b N n f) (hg : w.grownBy w' row) (hne : some b ≠ row) : MapP w' b N n f := by obtain ⟨D, h1, h2⟩ := h; exact ⟨D, h1.kept hg hne, h2⟩
theorem MapP.mono {w : World} {b N M n : Nat} {f : Nat → Nat → Nat} (h : MapP w b N n f) (hh : N ≤ M) : MapP w b M n f := by obtain ⟨D, h1, h2⟩ := h; exact ⟨D, h1.mono hh, h2⟩
theorem MapP.congr {w : World} {b N n : Nat} {f g : Nat → Nat → Nat} (h : MapP w b N n f) (e : ∀ l r, l ≤ 20 → r ≤ 20 → f l r = g l r) : MapP w b N n g := by
  obtain ⟨D, h1, h2, h3⟩ := h; exact ⟨D, h1, fun l r hl hr => by rw [← e l r hl hr]; exact h2 l r hl hr, h3⟩
theorem MapP.made (w : World) (n : Nat) : MapP (w.alloc (.map #[] 0)) w.heap.size 0 n (fun _ _ => 0) := ⟨.map [], World.ownsMap_made _ _ _ _, fun _ _ _ _ => rfl, fun _ h => by cases h⟩
theorem isKeyL (l r : Int) : WideAt.IsKeyLit (keyL l r) := trivial
theorem ReadP.put {D : DataW Unit} {n n' : Nat} {f : Nat → Nat → Nat} (h : ReadP D n f) (hm : Maps.IsMap D) {l r x : Nat} (hl1 : 1 ≤ l) (hl : l ≤ n') (hr1 : 1 ≤ r) (hr : r ≤ n') (hn : n ≤ n') (h20 : n' ≤ 20) : ReadP (D.put (keyL l r) (.lit (.int .i64 (x : Int)))) n' (updF f l r x) := by
  refine ⟨fun a b ha hb => ?_, fun kl hk => ?_⟩
  · unfold updF
    by_cases e : a = l ∧ b = r
    · rw [if_pos e, e.1, e.2, Maps.atKey_put_same hm (isKeyL l r)]
    · rw [if_neg e, Maps.atKey_put_other (fun k => e (keyN_inj ha hb (by omega) (by omega) k))]
      exact h.1 a b ha hb
  · by_cases e : kl = keyL l r
    · exact ⟨l, r, hl1, hl, hr1, hr, e⟩
    · rw [Maps.has_put_other e] at hk
      obtain ⟨a, b, h1, h2, h3, h4, h5⟩ := h.2 kl hk
      exact ⟨a, b, h1, by omega, h3, by omega, h5⟩
theorem RngP.owns {w : World} {b g N n cnt : Nat} {f : Nat → Nat → Nat} {left : Lit → Bool} (h : RngP w b g N n f left cnt) : MapP w b N n f := by obtain ⟨D, h1, h2⟩ := h; exact ⟨D, h1.owns, h2⟩
theorem RngP.left_eq {w : World} {b g N n cnt : Nat} {f : Nat → Nat → Nat} {left : Lit → Bool} (h : RngP w b g N n f left cnt) : w.rangeLeft b g = cnt := by obtain ⟨D, h1, _⟩ := h; exact h1.left_eq
theorem RngP.lt {w : World} {b g N n cnt : Nat} {f : Nat → Nat → Nat} {left : Lit → Bool} (h : RngP w b g N n f left cnt) : g < w.heap.size := by obtain ⟨D, h1, _⟩ := h; exact h1.lt
theorem RngP.ne {w : World} {b g N n cnt : Nat} {f : Nat → Nat → Nat} {left : Lit → Bool} (h : RngP w b g N n f left cnt) : g ≠ b := by obtain ⟨D, h1, _⟩ := h; exact h1.ne
theorem RngP.kept {w w' : World} {b g N n cnt : Nat} {f : Nat → Nat → Nat} {left : Lit → Bool} {row : Option Nat} (h : RngP w b g N n f left cnt) (hg : w.grownBy w' row) (hb : some b ≠ row) (hr : some g ≠ row) : RngP w' b g N n f left cnt := by obtain ⟨D, h1, h2⟩ := h; exact ⟨D, h1.kept hg hb hr, h2⟩
theorem sameKey_keyL {l r l' r' : Nat} (h1 : l ≤ 20) (h2 : r ≤ 20) (h3 : l' ≤ 20) (h4 : r' ≤ 20) : (keyL (l : Int) (r : Int)).sameKey (keyL (l' : Int) (r' : Int)) = decide (l = l' ∧ r = r') := by
  by_cases e : l = l' ∧ r = r'
  · rw [e.1, e.2, decide_eq_true ⟨rfl, rfl⟩]
    unfold keyL
    simp [Lit.sameKey]
  · rw [decide_eq_false e]
    exact Maps.sameKey_ne (fun k => e (keyN_inj h1 h2 h3 h4 k))

/-- the pair l, r is left no longer -/
def GoneL (left left' : Lit → Bool) (l r : Nat) : Prop := ∀ l' r' : Nat, l' ≤ 20 → r' ≤ 20 → left' (keyL l' r') = (left (keyL l' r') && !decide (l' = l ∧ r' = r))
section
variable (w : World) {ops : Array Oper} {rest : List Oper} {o : Oper} {a : Act} {Q : Exit → Act → World → Prop}
theorem wpList_rangeP (hg : o.guard = none) (m : Operand) (hop : o.op = Op.range 32 m) {b N n : Nat} {f : Nat → Nat → Nat} (hm : a.eval m = .map (some b)) (h : MapP w b N n f)
    (hK : ∀ w' left cnt, RngP w' b w.heap.size N n f left cnt → (∀ l r : Nat, l ≤ 20 → r ≤ 20 → left (keyL l r) = false → f l r = 0) → cnt ≤ N → w.grownBy w' none → w'.heap.size = w.heap.size + 1 → wpList Try.prog ops Q rest (a.put o.dst (.pointer (some ⟨w.heap.size, 0, none⟩))) w') : wpList Try.prog ops Q (o :: rest) a w := by
  obtain ⟨D, hown, hR⟩ := h
  refine wpList_range_own w hg m _ hop 35 3 lawS Try.underlying32 _ b N D hm hown fun w' h1 h2 h3 => hK w' _ _ ⟨D, h1, hR⟩ (fun l r hl hr hh => ?_) hown.size_le h2 h3
  have h4 := hR.1 l r hl hr
  rw [Maps.atKey_of_not_has hh] at h4
  injection h4 with h4
  injection h4 with _ h4
  omega
theorem wpList_nextP (hg : o.guard = none) (it : Operand) (hop : o.op = Op.next it false) {b g N n cnt : Nat} {f : Nat → Nat → Nat} {left : Lit → Bool} (hn : n ≤ 20) (hit : a.eval it = .pointer (some ⟨g, 0, none⟩)) (h : RngP w b g N n f left cnt)
    (hDone : (∀ l r : Nat, left (keyL l r) = false) → wpList Try.prog ops Q rest (a.put o.dst (.tuple #[.bool false])) w)
    (hMore : ∀ (l r : Nat) (w' : World) (left' : Lit → Bool) (cnt' : Nat), 1 ≤ l → l ≤ n → 1 ≤ r → r ≤ n → left (keyL l r) = true → RngP w' b g N n f left' cnt' → Hid (GoneL left left' l r) → cnt' < cnt → w.grownBy w' (some g) → w'.heap.size = w.heap.size →
      (Instr.entry (.pointer (some ⟨g, 0, none⟩))).run Try.prog w' = .ok (.tuple #[.agg #[.int .i64 (l : Int), .int .i64 (r : Int)], .int .i64 ((f l r : Nat) : Int)]) w' → wpList Try.prog ops Q rest (a.put o.dst (.tuple #[.bool true, .agg #[.int .i64 (l : Int), .int .i64 (r : Int)], .int .i64 ((f l r : Nat) : Int)])) w') :
    wpList Try.prog ops Q (o :: rest) a w := by
  obtain ⟨D, hr, hR⟩ := h
  refine wpList_next_ranges w hg it hop 35 lawS (plainElem Try.prog 3) (fun p : Int × Int => keyV p.1 p.2) (Value.int .i64) (fun key kl hk => by obtain ⟨l, r, rfl, _⟩ := keyOf_inv hk; exact ⟨(l, r), rfl⟩)
    (fun v y hv => by obtain ⟨c, rfl, _⟩ := plainElem_int_inv Try.underlying3 hv; exact ⟨c, rfl⟩) b g N D left cnt hit hr (fun _ hl => hDone fun l r => hl _) ?_
  rintro ⟨x1, x2⟩ c kl y w' cnt' hkey hlk hv hat hrg hlt hgr hsz hen
  obtain ⟨l, r, h1, h2, h3, h4, h5⟩ := hR.2 kl (Maps.has_true_of_atKey hat)
  subst h5
  have hv2 : keyV x1 x2 = keyV l r := lawS.inj hkey (keyOf_mk (wfN (by omega)) (wfN (by omega)))
  have hx : x1 = (l : Int) ∧ x2 = (r : Int) := by unfold keyV at hv2; simpa using hv2
  obtain ⟨rfl, rfl⟩ := hx
  obtain ⟨c', ec, hy, _⟩ := plainElem_int_inv Try.underlying3 hv
  cases ec
  have hc : c = ((f l r : Nat) : Int) := by
    have h6 := hat (.lit (.int .i64 0))
    rw [hR.1 l r (by omega) (by omega), hy] at h6
    injection h6 with h6
    injection h6 with _ h6
    exact h6.symm
  subst hc
  exact hMore l r w' _ cnt' h1 h2 h3 h4 hlk ⟨D, hrg, hR⟩ (Lib.hid (fun l' r' hl' hr' => by show (left _ && !(Lit.sameKey _ _)) = _; rw [sameKey_keyL hl' hr' (by omega) (by omega)])) hlt hgr hsz hen
end

/-- one increment -/
theorem MapP.incr {X : World} {b N n : Nat} {f : Nat → Nat → Nat} (h : MapP X b N n f) (hN : N ≤ 100000000) (l r n' : Nat) (hl1 : 1 ≤ l) (hl : l ≤ n') (hr1 : 1 ≤ r) (hr : r ≤ n') (hn : n ≤ n') (h20 : n' ≤ 20) :
    ∃ (v0 : Value) (st : Nat) (o1 : Obj),
      (∀ m, (Instr.mapEntry 32 (.map (some b)) (.agg #[.int .i64 (l : Int), .int .i64 (r : Int)])).run Try.prog (X.drewN m) = .ok (.tuple #[v0, .int .i64 (st : Int)]) (setBlock (X.drewN m) b o1)) ∧
      (∀ m, (Instr.lookup 32 (.map (some b)) (.agg #[.int .i64 (l : Int), .int .i64 (r : Int)]) false).run Try.prog (X.drewN m) = .ok (.int .i64 ((f l r : Nat) : Int)) (X.drewN m)) ∧
      (∀ m, (Instr.lookup 32 (.map (some b)) (.agg #[.int .i64 (l : Int), .int .i64 (r : Int)]) false).run Try.prog (setBlock (X.drewN m) b o1) = .ok (.int .i64 ((f l r : Nat) : Int)) (setBlock (X.drewN m) b o1)) ∧
      (∀ x : Nat, x ≤ 1000000000000000 → ∃ o2, (∀ m, (Instr.entryStore 32 (.map (some b)) (.int .i64 (st : Int)) (.int .i64 (x : Int))).run Try.prog (setBlock (X.drewN m) b o1) = .ok () (setBlock (setBlock (X.drewN m) b o1) b o2)) ∧
        (∀ m, MapP (setBlock (setBlock (X.drewN m) b o1) b o2) b (N + 1) n' (updF f l r x))) := by
  obtain ⟨D, hown, hR⟩ := h
  obtain ⟨v0, st, o1, h1, h2, h3, h4⟩ := incr_facts X b N D hown (by omega) (keyOf_mk (l := (l : Int)) (r := (r : Int)) (wfN (by omega)) (wfN (by omega))) _ (hR.1 l r (by omega) (by omega))
  refine ⟨v0, st, o1, h1, h2, h3, fun x hx => ?_⟩
  obtain ⟨o2, h5, h6⟩ := h4 (x : Int) (WalkArith.wf_i64 (by omega))
  exact ⟨o2, h5, fun m => ⟨_, h6 m, hR.put hown.isMap hl1 hl hr1 hr hn h20⟩⟩
/-- the same in a region that draws -/
theorem MapP.incr1 {X : World} {b N n : Nat} {f : Nat → Nat → Nat} (h : MapP X b N n f) (hN : N ≤ 100000000) (l r n' : Nat) (hl1 : 1 ≤ l) (hl : l ≤ n') (hr1 : 1 ≤ r) (hr : r ≤ n') (hn : n ≤ n') (h20 : n' ≤ 20) :
    ∃ (v0 : Value) (st : Nat) (o1 : Obj),
      (Instr.mapEntry 32 (.map (some b)) (.agg #[.int .i64 (l : Int), .int .i64 (r : Int)])).run Try.prog X.drew = .ok (.tuple #[v0, .int .i64 (st : Int)]) (setBlock X.drew b o1) ∧
      (Instr.lookup 32 (.map (some b)) (.agg #[.int .i64 (l : Int), .int .i64 (r : Int)]) false).run Try.prog X.drew = .ok (.int .i64 ((f l r : Nat) : Int)) X.drew ∧
      (Instr.lookup 32 (.map (some b)) (.agg #[.int .i64 (l : Int), .int .i64 (r : Int)]) false).run Try.prog (setBlock X.drew b o1) = .ok (.int .i64 ((f l r : Nat) : Int)) (setBlock X.drew b o1) ∧
      (∀ x : Nat, x ≤ 1000000000000000 → ∃ o2, (Instr.entryStore 32 (.map (some b)) (.int .i64 (st : Int)) (.int .i64 (x : Int))).run Try.prog (setBlock X.drew b o1) = .ok () (setBlock (setBlock X.drew b o1) b o2) ∧
        MapP (setBlock (setBlock X.drew b o1) b o2) b (N + 1) n' (updF f l r x)) := by
  obtain ⟨v0, st, o1, h1, h2, h3, h4⟩ := h.incr hN l r n' hl1 hl hr1 hr hn h20
  exact ⟨v0, st, o1, h1 1, h2 1, h3 1, fun x hx => by obtain ⟨o2, h5, h6⟩ := h4 x hx; exact ⟨o2, h5 1, h6 1⟩⟩
theorem set2_grown (w : World) (b m : Nat) (o1 o2 : Obj) : w.grownBy (setBlock (setBlock (w.drewN m) b o1) b o2) (some b) :=
  ⟨rfl, rfl, rfl, by simp [setBlock], fun i _ hi => by
    have : b ≠ i := fun e => hi (by rw [e])
    simp [setBlock, this]⟩

/-- what the sums hold on the way -/
def dn (n : Nat) (left : Lit → Bool) (l r : Nat) : Nat := if left (keyL l r) then 0 else T n l r
def ps (n : Nat) (left : Lit → Bool) (l r : Nat) : Nat := (n - 1) * dn n left l r + ((if l = 0 then 0 else dn n left (l - 1) r) + (if r = 0 then 0 else dn n left l (r - 1)))
theorem ps_start (n : Nat) (left : Lit → Bool) (h : ∀ l r : Nat, l ≤ 20 → r ≤ 20 → left (keyL l r) = false → T n l r = 0) (l r : Nat) (hl : l ≤ 20) (hr : r ≤ 20) : 0 = ps n left l r := by
  have hd : ∀ a b, a ≤ 20 → b ≤ 20 → dn n left a b = 0 := fun a b ha hb => by
    unfold dn
    split
    · rfl
    · rename_i hh
      exact h a b ha hb (by simpa using hh)
  unfold ps
  rw [hd l r hl hr, hd (l - 1) r (by omega) hr, hd l (r - 1) hl (by omega)]
  simp
theorem ps_end (n : Nat) (h1 : 1 ≤ n) (left : Lit → Bool) (h : ∀ l r : Nat, left (keyL l r) = false) (l r : Nat) : ps n left l r = T (n + 1) l r := by
  obtain ⟨m, rfl⟩ : ∃ m, n = m + 1 := ⟨n - 1, by omega⟩
  have hd : ∀ a b, dn (m + 1) left a b = T (m + 1) a b := fun a b => by unfold dn; rw [h]; rfl
  unfold ps
  rw [hd, hd, hd, T, Nat.add_sub_cancel]
theorem ps_step (n : Nat) (left left' : Lit → Bool) (l r : Nat) (hl1 : 1 ≤ l) (hl : l ≤ 16) (hr1 : 1 ≤ r) (hr : r ≤ 16) (hk : left (keyL l r) = true) (hL : GoneL left left' l r) (a b : Nat) (ha : a ≤ 20) (hb : b ≤ 20) :
    ps n left' a b = ps n left a b + ((if a = l + 1 ∧ b = r then T n l r else 0) + (if a = l ∧ b = r + 1 then T n l r else 0) + (if a = l ∧ b = r then T n l r * (n - 1) else 0)) := by
  have hd : ∀ a b : Nat, a ≤ 20 → b ≤ 20 → dn n left' a b = dn n left a b + (if a = l ∧ b = r then T n l r else 0) := fun a b ha hb => by
    unfold dn
    rw [hL a b ha hb]
    by_cases e : a = l ∧ b = r
    · obtain ⟨rfl, rfl⟩ := e
      rw [hk]; simp
    · rw [decide_eq_false e, if_neg e]; simp
  unfold ps
  rw [hd a b ha hb, hd (a - 1) b (by omega) hb, hd a (b - 1) ha (by omega), Nat.mul_add]
  have e1 : (if a = 0 then 0 else dn n left (a - 1) b + (if a - 1 = l ∧ b = r then T n l r else 0)) = (if a = 0 then 0 else dn n left (a - 1) b) + (if a = l + 1 ∧ b = r then T n l r else 0) := by
    by_cases h0 : a = 0
    · rw [if_pos h0, if_pos h0, if_neg (by omega)]
    · rw [if_neg h0, if_neg h0]
      by_cases h2 : a - 1 = l ∧ b = r
      · rw [if_pos h2, if_pos (by omega)]
      · rw [if_neg h2, if_neg (by omega)]
  have e2 : (if b = 0 then 0 else dn n left a (b - 1) + (if a = l ∧ b - 1 = r then T n l r else 0)) = (if b = 0 then 0 else dn n left a (b - 1)) + (if a = l ∧ b = r + 1 then T n l r else 0) := by
    by_cases h0 : b = 0
    · rw [if_pos h0, if_pos h0, if_neg (by omega)]
    · rw [if_neg h0, if_neg h0]
      by_cases h2 : a = l ∧ b - 1 = r
      · rw [if_pos h2, if_pos (by omega)]
      · rw [if_neg h2, if_neg (by omega)]
  have e3 : (n - 1) * (if a = l ∧ b = r then T n l r else 0) = if a = l ∧ b = r then T n l r * (n - 1) else 0 := by
    split
    · exact Nat.mul_comm _ _
    · rfl
  rw [e1, e2, e3]
  omega
theorem dn_le (n : Nat) (left : Lit → Bool) (l r : Nat) (h : n ≤ 15) : dn n left l r ≤ 1307674368000 := by
  unfold dn
  split
  · exact Nat.zero_le _
  · exact T_le n l r h
theorem ps_le (n : Nat) (left : Lit → Bool) (l r : Nat) (h : n ≤ 15) : ps n left l r ≤ 20922789888000 := by
  unfold ps
  have h1 := dn_le n left l r h
  have h2 : (if l = 0 then 0 else dn n left (l - 1) r) ≤ 1307674368000 := by split; exact Nat.zero_le _; exact dn_le n left _ _ h
  have h3 : (if r = 0 then 0 else dn n left l (r - 1)) ≤ 1307674368000 := by split; exact Nat.zero_le _; exact dn_le n left _ _ h
  have h4 : (n - 1) * dn n left l r ≤ 14 * 1307674368000 := Nat.mul_le_mul (by omega) h1
  omega
end Sn

end Go.Proofs.Ytkolkigpppfhcaa
