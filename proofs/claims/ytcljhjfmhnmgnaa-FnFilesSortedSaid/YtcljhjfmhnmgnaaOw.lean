/- l1Own: a copy of a slice of ints, empty or not. -/
import Derived.Test.YtcljhjfmhnmgnaaClone
import Derived.Laws.AppendOwnNone
namespace Go.Proofs.Ytcljhjfmhnmgnaa
open Go.ChangeShapes Go.WideShapes Go.ChangeAt Go.RowKit

set_option maxRecDepth 20000 in
set_option maxHeartbeats 1000000 in
theorem l1OwnC_any (w : World) (ao : Option Addr) (len cap : Nat) (zs : List Int) (hl : len ≤ 1000000000) (hc : Came w ao len zs) (h0 : ao = none → len = 0 ∧ cap = 0) :
    Calls Try.prog 69 #[.slice ao len cap] w fun e w' => ∃ v, e = .returned v ∧ Own w' w.heap.size v zs ∧ Below w.heap.size w w' := by
  have HC := Lib.hid hc
  have HN : Hid (Own (w.alloc (.cells #[] 3)) w.heap.size (.slice (some ⟨w.heap.size, 0, none⟩) 0 0) []) := Lib.hid (by
    refine ⟨rfl, .inr ⟨w.heap.size, 0, #[], rfl, Nat.le_refl _, heap_alloc_last _ _, Nat.le_refl _, ?_, ?_, rfl⟩⟩
    · simp
    · simp)
  have HB : Hid (Below w.heap.size w (w.alloc (.cells #[] 3))) := (Below.refl _ _).alloc (Nat.le_refl _) _
  rcases ao with _ | ad
  · obtain ⟨rfl, rfl⟩ := h0 rfl
    have hz : zs = [] := List.eq_nil_of_length_eq_zero hc.1
    subst hz
    obtain ⟨i0, hi, hz0, hz1, hz2⟩ := info_parts Try.info_int
    clear hc h0
    go_enter Try.func69, Try.ntmps69
    go_wp2_with (refine wpList_append_own_none rfl _ _ 31 rfl w.heap.size 3 i0 1 Try.underlying31 hi _ 0 [] rfl HN.out rfl ?_)
    go_ret
    exact ⟨_, rfl, HN.out, HB.out⟩
  · clear hc h0
    go_enter Try.func69, Try.ntmps69
    have HC2 := Lib.hid (HC.out.below HB.out)
    go_wp2_with (refine wpList_appAll rfl _ _ rfl w.heap.size _ [] zs ad len cap rfl rfl HN.out HC2.out HB.out.size (by simpa using hl) ?_; intro v' w' O' L')
    refine ⟨?_⟩
    go_wp2
    go_ret
    exact ⟨_, rfl, O'.out, HB.out.trans L'.out⟩

end Go.Proofs.Ytcljhjfmhnmgnaa
