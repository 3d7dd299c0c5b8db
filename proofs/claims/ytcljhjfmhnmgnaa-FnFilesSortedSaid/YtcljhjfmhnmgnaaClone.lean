/- append of a whole slice, slices.Clone at ints. -/
import Derived.Test.YtcljhjfmhnmgnaaAgg
import Derived.Laws.Cover3
namespace Go.Proofs.Ytcljhjfmhnmgnaa
open Go.ChangeShapes Go.WideShapes Go.ChangeAt Go.RowKit

/-- append of a whole slice to one that the call owns -/
theorem wpList_appAll {ops : Array Oper} {rest : List Oper} {o : Oper} {a : Act} {Q : Exit → Act → World → Prop} {w : World} (hgd : o.guard = none) (s x : Operand)
    (ho : o.op = .call { callee := .builtin .append, args := #[s, x], argTypes := #[31, 31] })
    (B : Nat) (v : Value) (zs ys : List Int) (ad : Addr) (len cap : Nat) (hs : a.eval s = v) (hx : a.eval x = .slice (some ad) len cap)
    (own : Own w B v zs) (hc : Came w (some ad) len ys) (hB : B ≤ w.heap.size) (hl : zs.length + len ≤ 1000000000)
    (h : ∀ v' w', Hid (Own w' B v' (zs ++ ys)) → Hid (Below B w w') → Stop (wpList Try.prog ops Q rest (a.put o.dst v') w')) : wpList Try.prog ops Q (o :: rest) a w := by
  obtain ⟨i0, hi, hz0, hz1, hz2⟩ := info_parts Try.info_int
  have hown : w.ownsRow B 3 1 v zs.length (zs.map (Value.int .i64)) := own
  have hyl := hc.1
  refine wpList_append_own _ hgd s x 31 ho B 3 i0 (.int .i64 0) 1 8 Try.underlying31 hi hz0 hz1 hz2 rfl (by decide) v zs.length _ hs hown ad len cap (ys.map (Value.int .i64)) hx (by simpa using hyl) ?_ ?_ ?_ ?_ ?_ ?_
  · intro j u hj
    have hp : 0 < len := by
      have := (List.getElem?_eq_some_iff.1 hj).1
      simp at this; omega
    obtain ⟨ad', e, hsrc⟩ := hc.src hp
    cases e
    exact hsrc j u hj
  · intro u hu; exact ints_one _ _ hu
  · unfold maxLen; omega
  · omega
  · omega
  · intro v' w' h1 h2 _
    have hv : Own w' B v' (zs ++ ys) := by
      unfold Own
      rw [List.length_append, List.map_append, hyl]
      exact h1
    exact (h v' w' (Lib.hid hv) (Lib.hid ((Below.refl _ _).grown h2 hB (fun k hk => (World.ownsRow.lt hown k hk).1)))).on

@[go_sem] theorem eql_nil_ints (a : Option Addr) (l c : Nat) (w : World) : (binOp .eql 31 (.slice a l c) (.slice none 0 0)).run Try.prog w = .ok (.bool a.isNone) w := by
  simp [binOp, run_equal_slice_nil w 31 _ a l c Try.underlying31]
set_option maxRecDepth 20000 in
set_option maxHeartbeats 1000000 in
theorem clone_any (w : World) (ad : Addr) (len cap : Nat) (zs : List Int) (hl : len ≤ 1000000000) (hc : Came w (some ad) len zs) :
    Calls Try.prog 68 #[.slice (some ad) len cap] w fun e w' => ∃ v, e = .returned v ∧ Own w' w.heap.size v zs ∧ Below w.heap.size w w' := by
  have HC := Lib.hid hc
  have HN : Hid (∀ w1, Below w.heap.size w w1 → Own (w1.alloc (.cells #[] 3)) w.heap.size (.slice (some ⟨w1.heap.size, 0, none⟩) 0 0) []) := Lib.hid (fun w1 hb => by
    refine ⟨rfl, .inr ⟨w1.heap.size, 0, #[], rfl, hb.size, heap_alloc_last _ _, Nat.le_refl _, ?_, ?_, rfl⟩⟩
    · simp
    · simp)
  clear hc
  go_enter Try.func68, Try.ntmps68
  have HB : Hid (Below w.heap.size w (w.alloc (.cells #[] 3))) := (Below.refl _ _).alloc (Nat.le_refl _) _
  have HC2 := Lib.hid (HC.out.below HB.out)
  go_wp2_with (refine wpList_appAll rfl _ _ rfl w.heap.size _ [] zs ad len cap rfl rfl (HN.out w (Below.refl _ _)) HC2.out HB.out.size (by simpa using hl) ?_; intro v' w' O' L')
  refine ⟨?_⟩
  go_wp2
  go_ret
  exact ⟨_, rfl, O'.out, HB.out.trans L'.out⟩

end Go.Proofs.Ytcljhjfmhnmgnaa
