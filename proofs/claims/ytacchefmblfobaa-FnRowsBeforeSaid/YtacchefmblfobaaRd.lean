/- Plain facts for the walk of FnRowsBeforeOfAll: rows before in order, rows by their ticks. -/
import Derived.Test.YtacchefmblfobaaRc
import Derived.Test.YtacchefmblfobaaCt
namespace Go.Proofs.Ytacchefmblfobaa
open Go.ChangeShapes Go.WideShapes Go.ChangeAt Go.RowKit
open Qs

/-! ### texts in order -/
theorem less_self : ∀ x : List UInt8, Op.bytesLess x x = false
  | [] => rfl
  | a :: x => by simp [Op.bytesLess, less_self x]
theorem less_app : ∀ (x y u v : List UInt8), x.length = y.length → Op.bytesLess x y = true → Op.bytesLess (x ++ u) (y ++ v) = true
  | [], [], _, _, _, h => by simp [Op.bytesLess] at h
  | a :: x, b :: y, u, v, hl, h => by
    simp only [Op.bytesLess, List.cons_append, Bool.or_eq_true, Bool.and_eq_true] at h ⊢
    rcases h with h | h
    · exact .inl h
    · exact .inr ⟨h.1, less_app x y u v (by simpa using hl) h.2⟩
  | [], _ :: _, _, _, hl, _ => by simp at hl
  | _ :: _, [], _, _, hl, _ => by simp at hl
theorem less_pre : ∀ (x u v : List UInt8), Op.bytesLess u v = true → Op.bytesLess (x ++ u) (x ++ v) = true
  | [], _, _, h => h
  | a :: x, u, v, h => by simp [Op.bytesLess, less_pre x u v h]
theorem less_make : ∀ (n j k : Nat), j < k → k < 2 ^ n → Op.bytesLess ((Rw.make n j).map Rw.sgn) ((Rw.make n k).map Rw.sgn) = true
  | 0, j, k, h, hk => by simp at hk; omega
  | n + 1, j, k, h, hk => by
    simp only [Rw.make, List.map_append, List.map_cons, List.map_nil]
    by_cases e : j / 2 = k / 2
    · rw [e]
      refine less_pre _ _ _ ?_
      have h0 : j % 2 = 0 := by omega
      have h1 : k % 2 = 1 := by omega
      rw [h0, h1]; decide
    · exact less_app _ _ _ _ (by simp) (less_make n (j / 2) (k / 2) (by omega) (by rw [Nat.pow_succ] at hk; omega))
def lessS (p q : ByteArray) : Bool := Op.bytesLess p.toList q.toList
theorem less_str (n j k : Nat) (h : j < k) (hk : k < 2 ^ n) : lessS (Rw.str (Rw.make n j)) (Rw.str (Rw.make n k)) = true := by
  unfold lessS
  rw [ByteArray.toList_eq, ByteArray.toList_eq]
  exact less_make n j k h hk
theorem bef_mem {l : List Bool} {s : ByteArray} (h : s ∈ C1.befAll l) : ∃ k, k < 2 ^ l.length ∧ s = Rw.str (Rw.make l.length k) ∧ Rw.tick (Rw.make l.length k) = l := by
  unfold C1.befAll C1.befTo C1.p2 at h
  obtain ⟨r, hr, rfl⟩ := List.mem_map.1 h
  obtain ⟨h1, h2⟩ := List.mem_filter.1 hr
  obtain ⟨k, hk, rfl⟩ := List.mem_map.1 h1
  exact ⟨k, List.mem_range.1 hk, rfl, by simpa using h2⟩
theorem bef_sorted (l : List Bool) : (C1.befAll l).Pairwise fun a b => lessS a b = true := by
  unfold C1.befAll C1.befTo C1.p2
  rw [List.pairwise_map]
  refine List.Pairwise.filter _ ?_
  rw [List.pairwise_map, List.pairwise_iff_getElem]
  intro i j hi hj hij
  rw [List.length_range] at hi hj
  simp only [List.getElem_range]
  exact less_str _ i j hij hj
theorem bef_next (l : List Bool) (i : Nat) (h : i + 1 < (C1.befAll l).length) : lessS ((C1.befAll l).getD i ByteArray.empty) ((C1.befAll l).getD (i + 1) ByteArray.empty) = true := by
  have := (List.pairwise_iff_getElem.1 (bef_sorted l)) i (i + 1) (by omega) h (by omega)
  simpa [List.getD_eq_getElem?_getD, List.getElem?_eq_getElem h, List.getElem?_eq_getElem (show i < (C1.befAll l).length by omega)] using this
theorem bef_get (l : List Bool) (i : Nat) (h : i < (C1.befAll l).length) : ∃ k, k < 2 ^ l.length ∧ (C1.befAll l).getD i ByteArray.empty = Rw.str (Rw.make l.length k) ∧ Rw.tick (Rw.make l.length k) = l :=
  bef_mem (by rw [List.getD_eq_getElem?_getD, List.getElem?_eq_getElem h, Option.getD_some]; exact List.getElem_mem h)
theorem number_lt (l : List Bool) : Rw.numberOf l < 2 ^ l.length := Rw.numberOf_lt l
theorem bef_rest (l : List Bool) (h : Rw.pairs l = []) : ∃ i, i < (C1.befAll l).length ∧ (C1.befAll l).getD i ByteArray.empty = Rw.str l := by
  have hm : Rw.str l ∈ C1.befAll l := by
    unfold C1.befAll C1.befTo C1.p2
    refine List.mem_map.2 ⟨l, List.mem_filter.2 ⟨List.mem_map.2 ⟨Rw.numberOf l, List.mem_range.2 (Rw.numberOf_lt l), Rw.make_numberOf _ l rfl⟩, ?_⟩, rfl⟩
    rw [decide_eq_true_eq]; exact Rw.tick_none h
  obtain ⟨i, hi, e⟩ := List.getElem_of_mem hm
  exact ⟨i, hi, by rw [List.getD_eq_getElem?_getD, List.getElem?_eq_getElem hi, Option.getD_some, e]⟩

/-! ### all rows by their ticks -/
def cntTo (n : Nat) : Nat → Nat := Rw.sumF (fun t => C1.countTicks n t)
def wgtTo (n : Nat) : Nat → Nat := Rw.sumF (fun t => t * C1.countTicks n t)
theorem sumF_mono (f : Nat → Nat) {a b : Nat} (h : a ≤ b) : Rw.sumF f a ≤ Rw.sumF f b := by
  induction b with
  | zero => rw [show a = 0 by omega]; exact Nat.le_refl _
  | succ b ih =>
    by_cases e : a = b + 1
    · rw [e]; exact Nat.le_refl _
    · have := ih (by omega); simp only [Rw.sumF]; omega
theorem ticks_bound {n x : Nat} (h1 : 1 ≤ n) (h : x ∈ Rw.ticksAll n) : x ≤ n := by have := Rw.ticksAll_le h1 h; omega
theorem cntTo_all (n : Nat) (h1 : 1 ≤ n) : cntTo n (n + 1) = 2 ^ n := by
  unfold cntTo C1.countTicks
  rw [Rw.count_sum _ n (fun x hx => ticks_bound h1 hx), Rw.length_ticksAll]
theorem wgtTo_all (n : Nat) (h1 : 1 ≤ n) : wgtTo n (n + 1) = C1.sumTicks n := by
  unfold wgtTo C1.countTicks C1.sumTicks
  exact Rw.weigh_sum _ n (fun x hx => ticks_bound h1 hx)
theorem pow12 (n : Nat) (h : n ≤ 12) : 2 ^ n ≤ 4096 := Nat.le_trans (Nat.pow_le_pow_right (by omega) h) (by decide)
theorem cntTo_le (n t : Nat) (h1 : 1 ≤ n) (h2 : n ≤ 12) (ht : t ≤ n + 1) : cntTo n t ≤ 4096 := by
  have h3 := sumF_mono (fun t => C1.countTicks n t) ht
  have h4 := cntTo_all n h1
  have h5 := pow12 n h2
  unfold cntTo at h4 ⊢
  omega
theorem wgtTo_le (n t : Nat) (h1 : 1 ≤ n) (h2 : n ≤ 12) (ht : t ≤ n + 1) : wgtTo n t ≤ 14745600 := by
  have h3 := sumF_mono (fun t => t * C1.countTicks n t) ht
  have h4 := wgtTo_all n h1
  have h5 := C1.sumTicks_le n h2
  unfold wgtTo at h4 ⊢
  omega
theorem cnt_le (n t : Nat) (h2 : n ≤ 12) : C1.countTicks n t ≤ 4096 := by
  have := List.count_le_length (a := t) (l := Rw.ticksAll n)
  have h5 := pow12 n h2
  rw [Rw.length_ticksAll] at this
  unfold C1.countTicks; omega
theorem cnt_over (n t : Nat) (h : C1.longest n < t) : C1.countTicks n t = 0 := by
  unfold C1.countTicks
  rw [List.count_eq_zero]
  intro hm
  obtain ⟨k, hk, e⟩ := List.getElem_of_mem hm
  have := (C1.longest_max n).2 t hm
  omega
theorem cnt_most (n : Nat) : 1 ≤ C1.countTicks n (C1.longest n) := by
  unfold C1.countTicks
  exact List.count_pos_iff.2 (C1.longest_max n).1
theorem longest_le (n : Nat) (h1 : 1 ≤ n) : C1.longest n ≤ n := ticks_bound h1 (C1.longest_max n).1
theorem first_ticks (n : Nat) : Rw.ticksOf (Rw.make n (firstK n)) = C1.longest n := by
  obtain ⟨h1, h2, _⟩ := firstK_is n
  rw [← h2, Rw.getD_ticksAll n _ h1]
namespace Sp
variable {P : Program} {N : Nat} {S : St} {w : World} {d : Nat} {ty : TypeId} {pos : String} {after : Array Edge} {g : Option (Nat × Bool)} {x y : Operand} {t t' : TypeId}
theorem execOp_shl {m n : Int} (ρ : Operand → Value) (hx : ρ x = .int .i64 m) (hy : ρ y = .int .i64 n) : (execOp ρ ⟨some d, .binOp .shl t x y t', ty, pos, after, g⟩).run P w = ((Op.shift .shl .i64 m .i64 n).run P w).andThen (fun v w' => .ok (.value v) w') := by
  simp [execOp, hx, hy, binOp, eqGuard]
theorem wrap1 (n : Nat) (h : n ≤ 12) : IntKind.i64.wrap (1 * 2 ^ ((n : Int)).toNat) = ((2 ^ n : Nat) : Int) := by
  have h3 := pow12 n h
  rw [Int.toNat_natCast, Int.one_mul, show (2 : Int) ^ n = ((2 ^ n : Nat) : Int) by push_cast; rfl]
  obtain ⟨q, hq⟩ : ∃ q : Nat, q = 2 ^ n := ⟨_, rfl⟩
  rw [← hq] at h3 ⊢
  exact wrapI (by omega) (by omega)
theorem Runs.shlI {m n : Int} (hx : opn S x = some (.int .i64 m)) (hy : opn S y = some (.int .i64 n)) (h0 : 0 ≤ n) (h1 : n ≤ 64) {r : Int} (h : IntKind.i64.wrap (m * 2 ^ n.toNat) = r) : Runs P N S ⟨some d, .binOp .shl t x y t', ty, pos, after, g⟩ w (.int .i64 r) := fun a ha => by
  have h2 := ha.eval hx
  have h3 := ha.eval hy
  subst h
  generalize a.eval = ρ at h2 h3 ⊢
  have e : Op.shift .shl .i64 m .i64 n = pure (.int .i64 (IntKind.i64.wrap (m * 2 ^ n.toNat))) := shift_shl .i64 .i64 m n h0 h1
  have q := execOp_shl (P := P) (w := w) (ty := ty) (pos := pos) (after := after) (g := g) (t := t) (t' := t') (d := d) ρ h2 h3
  rw [q, e]; rfl
theorem Runs.geSF {p q : ByteArray} (hx : opn S x = some (.string p)) (hy : opn S y = some (.string q)) (h : lessS p q = true) : Runs P N S ⟨some d, .binOp .geq t x y t', ty, pos, after, g⟩ w (.bool false) := fun a ha => by
  have h1 := ha.eval hx
  have h2 := ha.eval hy
  unfold lessS at h
  generalize a.eval = ρ at h1 h2 ⊢
  simp [go_sem, h1, h2, h]
end Sp
theorem ownS_came {w : World} {B : Nat} {v : Value} {zs : List ByteArray} (h : C1.OwnS w B v zs) : ∃ ao cap, v = .slice ao zs.length cap ∧ CameT w ao zs.length zs ∧ True ∧ True := by
  by_cases h0 : 0 < zs.length
  · obtain ⟨g, cap, rfl, _, _⟩ := h.point h0
    exact ⟨_, cap, rfl, ⟨rfl, fun _ => ⟨g, 0, rfl, fun j hj => by rw [Nat.zero_add]; exact h.cell rfl j hj⟩⟩, trivial, trivial⟩
  · obtain ⟨ao, cap, rfl⟩ := h.any
    exact ⟨ao, cap, rfl, ⟨rfl, fun hp => absurd hp h0⟩, trivial, trivial⟩
end Go.Proofs.Ytacchefmblfobaa
