/- Walks over frames of which only some slots are known, on: what each operation yields. -/
import Derived.Test.YtjdbmkphakpmbaaSp
import Derived.Laws.RangeString
import Derived.Laws.DeepStrings4
namespace Go.Proofs.Ytjdbmkphakpmbaa
namespace Sp
theorem run_under {P : Program} {t : TypeId} {w : World} {e : TypeDesc} (h : P.underlying t = some e) : (underlying t).run P w = .ok e w := by
  unfold underlying
  simp [go_sem, h]
theorem strs_ne {q s : ByteArray} (h : ¬ q = s) : (q.toList == s.toList) = false := by
  rw [beq_eq_false_iff_ne]
  intro e
  apply h
  rw [ByteArray.toList_eq, ByteArray.toList_eq] at e
  exact ByteArray.ext (Array.toList_inj.1 e)
variable {P : Program} {N : Nat} {S : St} {w : World} {d : Nat} {ty : TypeId} {pos : String} {after : Array Edge} {g : Option (Nat × Bool)} {x y : Operand} {t t' : TypeId}

theorem Runs.move {v : Value} (hx : opn S x = some v) : Runs P N S ⟨some d, .move x, ty, pos, after, g⟩ w v := fun a ha => by
  have h1 := ha.eval hx
  generalize a.eval = ρ at h1 ⊢
  simp [go_sem, h1]
theorem Runs.assign {v : Value} (hx : opn S x = some v) : Runs P N S ⟨some d, .assign x, ty, pos, after, g⟩ w v := fun a ha => by
  have h1 := ha.eval hx
  generalize a.eval = ρ at h1 ⊢
  simp [go_sem, h1]
theorem Runs.pickT {c : Operand} {v : Value} (hc : opn S c = some (.bool true)) (hx : opn S x = some v) : Runs P N S ⟨some d, .pick c x y, ty, pos, after, g⟩ w v := fun a ha => by
  have h1 := ha.eval hc
  have h2 := ha.eval hx
  generalize a.eval = ρ at h1 h2 ⊢
  simp [go_sem, h1, h2]
theorem Runs.pickF {c : Operand} {v : Value} (hc : opn S c = some (.bool false)) (hx : opn S y = some v) : Runs P N S ⟨some d, .pick c x y, ty, pos, after, g⟩ w v := fun a ha => by
  have h1 := ha.eval hc
  have h2 := ha.eval hx
  generalize a.eval = ρ at h1 h2 ⊢
  simp [go_sem, h1, h2]
theorem Runs.not {b : Bool} (hx : opn S x = some (.bool b)) : Runs P N S ⟨some d, .unOp .not t x, ty, pos, after, g⟩ w (.bool (!b)) := fun a ha => by
  have h1 := ha.eval hx
  generalize a.eval = ρ at h1 ⊢
  simp [go_sem, h1]
theorem Runs.notT (hx : opn S x = some (.bool false)) : Runs P N S ⟨some d, .unOp .not t x, ty, pos, after, g⟩ w (.bool true) := Runs.not hx
theorem Runs.notF (hx : opn S x = some (.bool true)) : Runs P N S ⟨some d, .unOp .not t x, ty, pos, after, g⟩ w (.bool false) := Runs.not hx
theorem Runs.extract {vs : List Value} {i : Nat} {v : Value} (hx : opn S x = some (.tuple vs.toArray)) (hi : nth vs i = some v) : Runs P N S ⟨some d, .extract x i, ty, pos, after, g⟩ w v := fun a ha => by
  have h1 := ha.eval hx
  generalize a.eval = ρ at h1 ⊢
  have h2 : vs.toArray[i]? = some v := by rw [List.getElem?_toArray]; exact nth_spec hi
  simp [go_sem, h1, nth_spec hi]
theorem Runs.lenS {s : ByteArray} (ht : P.underlying t = some .string) (hx : opn S x = some (.string s)) : Runs P N S ⟨some d, .call { callee := .builtin .len, args := [x].toArray, argTypes := [t].toArray }, ty, pos, after, g⟩ w (.int .i64 s.size) := fun a ha => by
  have h1 := ha.eval hx
  generalize a.eval = ρ at h1 ⊢
  simp [go_sem, Builtin.len_, h1, run_under ht]
theorem Runs.lenL {p : Option Addr} {l c : Nat} {e : TypeId} (ht : P.underlying t = some (.slice e)) (hx : opn S x = some (.slice p l c)) : Runs P N S ⟨some d, .call { callee := .builtin .len, args := [x].toArray, argTypes := [t].toArray }, ty, pos, after, g⟩ w (.int .i64 l) := fun a ha => by
  have h1 := ha.eval hx
  generalize a.eval = ρ at h1 ⊢
  simp [go_sem, Builtin.len_, h1, run_under ht]

section ints
variable {k : IntKind} {m n : Int} (hx : opn S x = some (.int k m)) (hy : opn S y = some (.int k n))
include hx hy
theorem Runs.eqI : Runs P N S ⟨some d, .binOp .eql t x y t', ty, pos, after, g⟩ w (.bool (m == n)) := fun a ha => by
  have h1 := ha.eval hx
  have h2 := ha.eval hy
  generalize a.eval = ρ at h1 h2 ⊢
  simp [go_sem, h1, h2]
theorem Runs.neI : Runs P N S ⟨some d, .binOp .neq t x y t', ty, pos, after, g⟩ w (.bool (m != n)) := fun a ha => by
  have h1 := ha.eval hx
  have h2 := ha.eval hy
  generalize a.eval = ρ at h1 h2 ⊢
  simp [go_sem, h1, h2]
theorem Runs.ltI : Runs P N S ⟨some d, .binOp .lss t x y t', ty, pos, after, g⟩ w (.bool (decide (m < n))) := fun a ha => by
  have h1 := ha.eval hx
  have h2 := ha.eval hy
  generalize a.eval = ρ at h1 h2 ⊢
  simp [go_sem, h1, h2]
theorem Runs.leI : Runs P N S ⟨some d, .binOp .leq t x y t', ty, pos, after, g⟩ w (.bool (decide (m ≤ n))) := fun a ha => by
  have h1 := ha.eval hx
  have h2 := ha.eval hy
  generalize a.eval = ρ at h1 h2 ⊢
  simp [go_sem, h1, h2]
theorem Runs.gtI : Runs P N S ⟨some d, .binOp .gtr t x y t', ty, pos, after, g⟩ w (.bool (decide (n < m))) := fun a ha => by
  have h1 := ha.eval hx
  have h2 := ha.eval hy
  generalize a.eval = ρ at h1 h2 ⊢
  simp [go_sem, h1, h2]
theorem Runs.geI : Runs P N S ⟨some d, .binOp .geq t x y t', ty, pos, after, g⟩ w (.bool (decide (n ≤ m))) := fun a ha => by
  have h1 := ha.eval hx
  have h2 := ha.eval hy
  generalize a.eval = ρ at h1 h2 ⊢
  simp [go_sem, h1, h2]
theorem Runs.eqIT (h : m = n) : Runs P N S ⟨some d, .binOp .eql t x y t', ty, pos, after, g⟩ w (.bool true) := by
  have := @Runs.eqI P N S w d ty pos after g x y t t' k m n hx hy; rwa [show (m == n) = true from by simpa using h] at this
theorem Runs.eqIF (h : ¬ m = n) : Runs P N S ⟨some d, .binOp .eql t x y t', ty, pos, after, g⟩ w (.bool false) := by
  have := @Runs.eqI P N S w d ty pos after g x y t t' k m n hx hy; rwa [show (m == n) = false from by simpa using h] at this
theorem Runs.neIT (h : ¬ m = n) : Runs P N S ⟨some d, .binOp .neq t x y t', ty, pos, after, g⟩ w (.bool true) := by
  have := @Runs.neI P N S w d ty pos after g x y t t' k m n hx hy; rwa [show (m != n) = true from by simpa using h] at this
theorem Runs.neIF (h : m = n) : Runs P N S ⟨some d, .binOp .neq t x y t', ty, pos, after, g⟩ w (.bool false) := by
  have := @Runs.neI P N S w d ty pos after g x y t t' k m n hx hy; rwa [show (m != n) = false from by simpa using h] at this
theorem Runs.ltIT (h : m < n) : Runs P N S ⟨some d, .binOp .lss t x y t', ty, pos, after, g⟩ w (.bool true) := by
  have := @Runs.ltI P N S w d ty pos after g x y t t' k m n hx hy; rwa [decide_eq_true h] at this
theorem Runs.ltIF (h : ¬ m < n) : Runs P N S ⟨some d, .binOp .lss t x y t', ty, pos, after, g⟩ w (.bool false) := by
  have := @Runs.ltI P N S w d ty pos after g x y t t' k m n hx hy; rwa [decide_eq_false h] at this
theorem Runs.leIT (h : m ≤ n) : Runs P N S ⟨some d, .binOp .leq t x y t', ty, pos, after, g⟩ w (.bool true) := by
  have := @Runs.leI P N S w d ty pos after g x y t t' k m n hx hy; rwa [decide_eq_true h] at this
theorem Runs.leIF (h : ¬ m ≤ n) : Runs P N S ⟨some d, .binOp .leq t x y t', ty, pos, after, g⟩ w (.bool false) := by
  have := @Runs.leI P N S w d ty pos after g x y t t' k m n hx hy; rwa [decide_eq_false h] at this
theorem Runs.gtIT (h : n < m) : Runs P N S ⟨some d, .binOp .gtr t x y t', ty, pos, after, g⟩ w (.bool true) := by
  have := @Runs.gtI P N S w d ty pos after g x y t t' k m n hx hy; rwa [decide_eq_true h] at this
theorem Runs.gtIF (h : ¬ n < m) : Runs P N S ⟨some d, .binOp .gtr t x y t', ty, pos, after, g⟩ w (.bool false) := by
  have := @Runs.gtI P N S w d ty pos after g x y t t' k m n hx hy; rwa [decide_eq_false h] at this
theorem Runs.geIT (h : n ≤ m) : Runs P N S ⟨some d, .binOp .geq t x y t', ty, pos, after, g⟩ w (.bool true) := by
  have := @Runs.geI P N S w d ty pos after g x y t t' k m n hx hy; rwa [decide_eq_true h] at this
theorem Runs.geIF (h : ¬ n ≤ m) : Runs P N S ⟨some d, .binOp .geq t x y t', ty, pos, after, g⟩ w (.bool false) := by
  have := @Runs.geI P N S w d ty pos after g x y t t' k m n hx hy; rwa [decide_eq_false h] at this
theorem Runs.addI {r : Int} (h : k.wrap (m + n) = r) : Runs P N S ⟨some d, .binOp .add t x y t', ty, pos, after, g⟩ w (.int k r) := fun a ha => by
  have h1 := ha.eval hx
  have h2 := ha.eval hy
  generalize a.eval = ρ at h1 h2 ⊢
  simp [go_sem, h1, h2, h]
theorem Runs.subI {r : Int} (h : k.wrap (m - n) = r) : Runs P N S ⟨some d, .binOp .sub t x y t', ty, pos, after, g⟩ w (.int k r) := fun a ha => by
  have h1 := ha.eval hx
  have h2 := ha.eval hy
  generalize a.eval = ρ at h1 h2 ⊢
  simp [go_sem, h1, h2, h]
theorem Runs.mulI {r : Int} (h : k.wrap (m * n) = r) : Runs P N S ⟨some d, .binOp .mul t x y t', ty, pos, after, g⟩ w (.int k r) := fun a ha => by
  have h1 := ha.eval hx
  have h2 := ha.eval hy
  generalize a.eval = ρ at h1 h2 ⊢
  simp [go_sem, h1, h2, h]
theorem Runs.remI {r : Int} (h0 : ¬ n = 0) (h : m.tmod n = r) : Runs P N S ⟨some d, .binOp .rem t x y t', ty, pos, after, g⟩ w (.int k r) := fun a ha => by
  have h1 := ha.eval hx
  have h2 := ha.eval hy
  generalize a.eval = ρ at h1 h2 ⊢
  have e : (Op.intDiv .rem k m n).run P w = .ok (.int k r) w := by unfold Op.intDiv; rw [if_neg h0, h]; rfl
  simp [execOp, h1, h2, eqGuard, binOp, e]
theorem Runs.quoI {r : Int} (h0 : ¬ n = 0) (h : k.wrap (m.tdiv n) = r) : Runs P N S ⟨some d, .binOp .quo t x y t', ty, pos, after, g⟩ w (.int k r) := fun a ha => by
  have h1 := ha.eval hx
  have h2 := ha.eval hy
  generalize a.eval = ρ at h1 h2 ⊢
  have e : (Op.intDiv .quo k m n).run P w = .ok (.int k r) w := by unfold Op.intDiv; rw [if_neg h0, h]; rfl
  simp [execOp, h1, h2, eqGuard, binOp, e]
end ints
theorem mulbd {a b A B : Int} (h1 : 0 ≤ a) (h2 : a ≤ A) (h3 : 0 ≤ b) (h4 : b ≤ B) : 0 ≤ a * b ∧ a * b ≤ A * B :=
  ⟨Int.mul_nonneg h1 h3, Int.mul_le_mul h2 h4 h3 (Int.le_trans h1 h2)⟩
theorem sq_bd {a A : Int} (h1 : -A ≤ a) (h2 : a ≤ A) (_h3 : 0 ≤ A) : 0 ≤ a * a ∧ a * a ≤ A * A := by
  rcases Int.le_total 0 a with h | h
  · exact mulbd h h2 h h2
  · have := mulbd (a := -a) (b := -a) (A := A) (B := A) (by omega) (by omega) (by omega) (by omega)
    rwa [Int.neg_mul_neg] at this
theorem tmod_nn {m n : Int} (h : 0 ≤ m) : m.tmod n = m % n := by rw [Int.tmod_eq_emod_of_nonneg h]
theorem tdiv_nn {m n : Int} (h : 0 ≤ m) : m.tdiv n = m / n := by rw [Int.tdiv_eq_ediv_of_nonneg h]

section bools
variable {m n : Bool} (ht : P.underlying t = some .bool) (hx : opn S x = some (.bool m)) (hy : opn S y = some (.bool n))
include ht hx hy
theorem Runs.eqB : Runs P N S ⟨some d, .binOp .eql t x y t', ty, pos, after, g⟩ w (.bool (m == n)) := fun a ha => by
  have h1 := ha.eval hx
  have h2 := ha.eval hy
  generalize a.eval = ρ at h1 h2 ⊢
  simp [go_sem, h1, h2, ht]
theorem Runs.neB : Runs P N S ⟨some d, .binOp .neq t x y t', ty, pos, after, g⟩ w (.bool (!(m == n))) := fun a ha => by
  have h1 := ha.eval hx
  have h2 := ha.eval hy
  generalize a.eval = ρ at h1 h2 ⊢
  simp [go_sem, h1, h2, ht]
theorem Runs.neBF (h : m = n) : Runs P N S ⟨some d, .binOp .neq t x y t', ty, pos, after, g⟩ w (.bool false) := by
  have := @Runs.neB P N S w d ty pos after g x y t t' m n ht hx hy; rwa [show (!(m == n)) = false from by rw [h]; simp] at this
theorem Runs.neBT (h : ¬ m = n) : Runs P N S ⟨some d, .binOp .neq t x y t', ty, pos, after, g⟩ w (.bool true) := by
  have := @Runs.neB P N S w d ty pos after g x y t t' m n ht hx hy; rwa [show (!(m == n)) = true from by simpa using h] at this
end bools

section strs
variable {p q : ByteArray} (hx : opn S x = some (.string p)) (hy : opn S y = some (.string q))
include hx hy
theorem Runs.eqS : Runs P N S ⟨some d, .binOp .eql t x y t', ty, pos, after, g⟩ w (.bool (p.toList == q.toList)) := fun a ha => by
  have h1 := ha.eval hx
  have h2 := ha.eval hy
  generalize a.eval = ρ at h1 h2 ⊢
  simp [go_sem, h1, h2]
theorem Runs.neS : Runs P N S ⟨some d, .binOp .neq t x y t', ty, pos, after, g⟩ w (.bool (!(p.toList == q.toList))) := fun a ha => by
  have h1 := ha.eval hx
  have h2 := ha.eval hy
  generalize a.eval = ρ at h1 h2 ⊢
  simp [go_sem, h1, h2]
theorem Runs.addS (h : p.size + q.size ≤ 9223372036854775807) : Runs P N S ⟨some d, .binOp .add t x y t', ty, pos, after, g⟩ w (.string (p ++ q)) := fun a ha => by
  have h1 := ha.eval hx
  have h2 := ha.eval hy
  generalize a.eval = ρ at h1 h2 ⊢
  simp [go_sem, h1, h2, h]
theorem Runs.eqST (h : p = q) : Runs P N S ⟨some d, .binOp .eql t x y t', ty, pos, after, g⟩ w (.bool true) := by
  have := @Runs.eqS P N S w d ty pos after g x y t t' p q hx hy; subst h; rwa [show (p.toList == p.toList) = true from by simp] at this
theorem Runs.neSF (h : p = q) : Runs P N S ⟨some d, .binOp .neq t x y t', ty, pos, after, g⟩ w (.bool false) := by
  have := @Runs.neS P N S w d ty pos after g x y t t' p q hx hy; subst h; rwa [show (!(p.toList == p.toList)) = false from by simp] at this
theorem Runs.eqSF (h : ¬ p = q) : Runs P N S ⟨some d, .binOp .eql t x y t', ty, pos, after, g⟩ w (.bool false) := by
  have := @Runs.eqS P N S w d ty pos after g x y t t' p q hx hy; rwa [strs_ne h] at this
theorem Runs.neST (h : ¬ p = q) : Runs P N S ⟨some d, .binOp .neq t x y t', ty, pos, after, g⟩ w (.bool true) := by
  have := @Runs.neS P N S w d ty pos after g x y t t' p q hx hy; rwa [strs_ne h] at this
end strs

/-! ### memory -/
theorem Runs.indexS {p : ByteArray} {k : IntKind} {n z : Int} (ht : P.underlying t = some .string) (hx : opn S x = some (.string p)) (hy : opn S y = some (.int k n)) (j : Nat) (hn : n = (j : Int)) (hj : j < p.size) (hz : ((p[j]'hj).toNat : Int) = z) :
    Runs P N S ⟨some d, .index t x y, ty, pos, after, g⟩ w (.int .u8 z) := fun a ha => by
  have h1 := ha.eval hx
  have h2 := ha.eval hy
  subst hn hz
  generalize a.eval = ρ at h1 h2 ⊢
  have h3 : p[j]? = some p[j] := getElem?_pos p j hj
  simp [go_sem, Instr.index, h1, h2, run_under ht, hj]
theorem Runs.indexAddr {u v r : Value} (hx : opn S x = some u) (hy : opn S y = some v) (h : (Instr.indexAt t u v).run P w = .ok r w) : Runs P N S ⟨some d, .indexAddr t x y, ty, pos, after, g⟩ w r := fun a ha => by
  have h1 := ha.eval hx
  have h2 := ha.eval hy
  generalize a.eval = ρ at h1 h2 ⊢
  simp [execOp, h1, h2, h]
theorem Runs.load {u r : Value} (hx : opn S x = some u) (h : (Instr.loadAt t u).run P w = .ok r w) : Runs P N S ⟨some d, .load t x, ty, pos, after, g⟩ w r := fun a ha => by
  have h1 := ha.eval hx
  generalize a.eval = ρ at h1 ⊢
  simp [execOp, h1, h]
/-- bounds of a slice expression -/
def opo (S : St) : Option Operand → Option (Option Value)
  | none => some none
  | some x => match opn S x with
    | some v => some (some v)
    | none => none
theorem Kn.evalo {a : Act} (h : Kn N S a) {x : Option Operand} {v : Option Value} (hx : opo S x = some v) : x.map a.eval = v := by
  cases x with
  | none => simpa [opo] using hx
  | some x =>
    simp only [opo] at hx
    split at hx
    · rename_i u hu
      simp only [Option.some.injEq] at hx
      rw [← hx, Option.map_some, h.eval hu]
    · cases hx
theorem Runs.slice {lo hi mx : Option Operand} {u r : Value} {lv hv mv : Option Value} (hx : opn S x = some u) (h1 : opo S lo = some lv) (h2 : opo S hi = some hv) (h3 : opo S mx = some mv)
    (h : (Instr.sliceAt t u lv hv mv).run P w = .ok r w) : Runs P N S ⟨some d, .slice t x lo hi mx, ty, pos, after, g⟩ w r := fun a ha => by
  have e0 := ha.eval hx
  have e1 := ha.evalo h1
  have e2 := ha.evalo h2
  have e3 := ha.evalo h3
  simp [execOp, e0, e1, e2, e3, h]
theorem slice_str {s : ByteArray} {k1 k2 : IntKind} {m n : Int} (ht : P.underlying t = some .string) (i j : Nat) (hm : m = (i : Int)) (hn : n = (j : Int)) (hij : i ≤ j) (hj : j ≤ s.size) :
    (Instr.sliceAt t (.string s) (some (.int k1 m)) (some (.int k2 n)) none).run P w = .ok (.string (s.extract i j)) w := by
  subst hm hn
  have h1 : (0 : Int) ≤ (j : Int) ∧ (j : Int) ≤ (s.size : Int) := by omega
  have h2 : (0 : Int) ≤ (i : Int) ∧ (i : Int) ≤ (j : Int) := by omega
  have e := run_slice_string_if (P := P) (w := w) t s k1 k2 i j ht
  rw [if_pos h1, if_pos h2, Int.toNat_natCast, Int.toNat_natCast] at e
  simp [Instr.sliceAt, run_under ht, e]
variable {ops : Array Oper} {rest : List Oper} {Q : Exit → Act → World → Prop}
/-- a range over a text makes an iterator -/
theorem L.rangeS {p : ByteArray} (ht : P.underlying t = some .string) (hx : opn S x = some (.string p)) (hc : chk N S ops d g true = true) (h : L P N ops rest ((d, .pointer (some ⟨w.heap.size, 0, none⟩)) :: S) (w.iter p 0) Q) :
    L P N ops (⟨some d, .range t x, ty, pos, after, g⟩ :: rest) S w Q := by
  refine L.step hc (fun a ha => ?_) h
  have h1 := ha.eval hx
  generalize a.eval = ρ at h1 ⊢
  simp [execOp, h1, run_range_string (P := P) w t p ht]
theorem L.next {u r : Value} {w' : World} {b : Bool} (hx : opn S x = some u) (hr : (Instr.next u b ty).run P w = .ok r w') (hc : chk N S ops d g true = true) (h : L P N ops rest ((d, r) :: S) w' Q) :
    L P N ops (⟨some d, .next x b, ty, pos, after, g⟩ :: rest) S w Q := by
  refine L.step hc (fun a ha => ?_) h
  have h1 := ha.eval hx
  generalize a.eval = ρ at h1 ⊢
  simp [execOp, h1, hr]
end Sp
end Go.Proofs.Ytjdbmkphakpmbaa
