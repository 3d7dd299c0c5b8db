/- Chapter 3, the program's LeastWith, CanBeLeft, CountWith. -/
import Derived.Test.YtbodomfdgjemhabFe
namespace Go.Proofs.Ytbodomfdgjemhab
open Go.ChangeShapes Go.WideShapes Go.ChangeAt Go.RowKit
open Fo

theorem leastOr_A (cs l2 : List Nat) (k : Nat) : leastOr (leastO cs l2 k) = ((leastA cs l2 k : Nat) : Int) := by
  unfold leastA leastOr
  cases leastO cs l2 k <;> rfl

set_option maxHeartbeats 1000000 in
theorem implLeastWith_any (w : World) (a : Option Addr) (len cap : Nat) (zs : List Int) (a2 : Option Addr) (len2 cap2 : Nat) (ls : List Int) (hl : len ≤ 1048576) (hl2 : len2 ≤ 1048576) (hc : Came w a len zs) (hc2 : Came w a2 len2 ls) (hcp : len ≤ cap ∧ cap ≤ 9223372036854775807) (hcp2 : len2 ≤ cap2 ∧ cap2 ≤ 9223372036854775807) :
    Calls Try.prog 32 #[.slice a len cap, .slice a2 len2 cap2] w fun e w' => e = .returned (.tuple #[.int .i64 (outLeastWith_0 zs ls), .bool (outLeastWith_1 zs ls)]) ∧ Below w.heap.size w w' := by
  have HF := Lib.hid (canLeave_any w a len cap zs a2 len2 cap2 ls hl hl2 hc hc2)
  rcases hb : leftB zs ls with _ | _
  · have H0 : Hid (outLeastWith_0 zs ls = 0 ∧ outLeastWith_1 zs ls = false) := Lib.hid (by unfold outLeastWith_0 outLeastWith_1; rw [hb]; exact ⟨rfl, rfl⟩)
    rw [hb] at HF
    clear hb hc hc2
    go_enter Try.func32, Try.ntmps32
    go_wp2_with (go_at_call 55; refine HF.out.mono ?_; rintro e w' ⟨rfl, rfl⟩)
    go_ret2
    exact ⟨by rw [H0.out.1, H0.out.2]; exact rfl, Below.refl _ _⟩
  · obtain ⟨cs, l2, rfl, rfl, h1, h2, h3, h4, h5⟩ := left_parts hb
    have H0 : Hid (outLeastWith_0 (asInts cs) (asInts l2) = ((leastA cs l2 cs.length : Nat) : Int) ∧ outLeastWith_1 (asInts cs) (asInts l2) = (leastO cs l2 cs.length).isSome) := Lib.hid (by
      unfold outLeastWith_0 outLeastWith_1; rw [hb, leastZ_asInts]; exact ⟨by rw [if_pos rfl, leastOr_A], rfl⟩)
    obtain rfl : cs.length = len := by rw [← asInts_len]; exact hc.1
    obtain rfl : cs.length = len2 := by rw [← h1, ← asInts_len]; exact hc2.1
    have HLL := Lib.hid (leastWith_any w a cs.length cap cs a2 cap2 l2 h2 h3 hcp hcp2 h4 h5 hc hc2)
    obtain ⟨k, hk⟩ : ∃ k, k = cs.length := ⟨_, rfl⟩
    rw [hb] at HF
    rw [← hk] at HLL HF H0 ⊢
    obtain ⟨o, ho⟩ : ∃ o, o = (leastO cs l2 k).isSome := ⟨_, rfl⟩
    obtain ⟨x, hx⟩ : ∃ o, o = leastA cs l2 k := ⟨_, rfl⟩
    rw [← ho, ← hx] at HLL H0
    clear hb hc hc2 h4 h5 hk ho h1 hx
    go_enter Try.func32, Try.ntmps32
    go_wp2_with fail
    go_at_call 55
    refine HF.out.mono ?_
    rintro e w' ⟨rfl, rfl⟩
    go_wp2_with fail
    go_at_call 56
    refine HLL.out.mono ?_
    rintro e w2 ⟨rfl, b2⟩
    have B2 := Lib.hid b2
    clear b2
    go_wp2
    go_ret2
    exact ⟨by rw [H0.out.1, H0.out.2]; exact rfl, B2.out⟩

set_option maxHeartbeats 1000000 in
theorem implCanBeLeft_any (w : World) (a : Option Addr) (len cap : Nat) (zs : List Int) (a2 : Option Addr) (len2 cap2 : Nat) (ls : List Int) (hl : len ≤ 1048576) (hl2 : len2 ≤ 1048576) (hc : Came w a len zs) (hc2 : Came w a2 len2 ls) (hcp : len ≤ cap ∧ cap ≤ 9223372036854775807) (hcp2 : len2 ≤ cap2 ∧ cap2 ≤ 9223372036854775807) :
    Calls Try.prog 36 #[.slice a len cap, .slice a2 len2 cap2] w fun e w' => e = .returned (.tuple #[.bool (outCanBeLeft_0 zs ls), .bool (outCanBeLeft_1 zs ls)]) ∧ Below w.heap.size w w' := by
  have HF := Lib.hid (canLeave_any w a len cap zs a2 len2 cap2 ls hl hl2 hc hc2)
  rcases hb : leftB zs ls with _ | _
  · have H0 : Hid (outCanBeLeft_0 zs ls = false ∧ outCanBeLeft_1 zs ls = false) := Lib.hid (by unfold outCanBeLeft_0 outCanBeLeft_1; rw [hb]; exact ⟨rfl, rfl⟩)
    rw [hb] at HF
    clear hb hc hc2
    go_enter Try.func36, Try.ntmps36
    go_wp2_with (go_at_call 55; refine HF.out.mono ?_; rintro e w' ⟨rfl, rfl⟩)
    go_ret2
    exact ⟨by rw [H0.out.1, H0.out.2]; exact rfl, Below.refl _ _⟩
  · obtain ⟨cs, l2, rfl, rfl, h1, h2, h3, h4, h5⟩ := left_parts hb
    have H0 : Hid (outCanBeLeft_0 (asInts cs) (asInts l2) = (leastO cs l2 cs.length).isSome ∧ outCanBeLeft_1 (asInts cs) (asInts l2) = true) := Lib.hid (by
      unfold outCanBeLeft_0 outCanBeLeft_1; rw [hb, leastZ_asInts]; exact ⟨rfl, rfl⟩)
    obtain rfl : cs.length = len := by rw [← asInts_len]; exact hc.1
    obtain rfl : cs.length = len2 := by rw [← h1, ← asInts_len]; exact hc2.1
    have HLL := Lib.hid (leastWith_any w a cs.length cap cs a2 cap2 l2 h2 h3 hcp hcp2 h4 h5 hc hc2)
    obtain ⟨k, hk⟩ : ∃ k, k = cs.length := ⟨_, rfl⟩
    rw [hb] at HF
    rw [← hk] at HLL HF H0 ⊢
    obtain ⟨o, ho⟩ : ∃ o, o = (leastO cs l2 k).isSome := ⟨_, rfl⟩
    obtain ⟨x, hx⟩ : ∃ o, o = leastA cs l2 k := ⟨_, rfl⟩
    rw [← ho] at HLL H0
    rw [← hx] at HLL
    clear hb hc hc2 h4 h5 hk ho h1 hx
    go_enter Try.func36, Try.ntmps36
    go_wp2_with fail
    go_at_call 55
    refine HF.out.mono ?_
    rintro e w' ⟨rfl, rfl⟩
    go_wp2_with fail
    go_at_call 56
    refine HLL.out.mono ?_
    rintro e w2 ⟨rfl, b2⟩
    have B2 := Lib.hid b2
    clear b2
    go_wp2
    go_ret2
    exact ⟨by rw [H0.out.1, H0.out.2]; exact rfl, B2.out⟩

set_option maxHeartbeats 1000000 in
theorem implCountWith_any (w : World) (a : Option Addr) (len cap : Nat) (zs : List Int) (a2 : Option Addr) (len2 cap2 : Nat) (ls : List Int) (m : Int) (_wm : (Lit.int .i64 m).wf = true) (hl : len ≤ 1048576) (hl2 : len2 ≤ 1048576) (hc : Came w a len zs) (hc2 : Came w a2 len2 ls) (hcp : len ≤ cap ∧ cap ≤ 9223372036854775807) (hcp2 : len2 ≤ cap2 ∧ cap2 ≤ 9223372036854775807) :
    Calls Try.prog 34 #[.slice a len cap, .slice a2 len2 cap2, .int .i64 m] w fun e w' => e = .returned (.tuple #[.int .i64 (outCountWith_0 zs ls m), .bool (outCountWith_1 zs ls m)]) ∧ Below w.heap.size w w' := by
  have HF := Lib.hid (canLeave_any w a len cap zs a2 len2 cap2 ls hl hl2 hc hc2)
  clear _wm
  rcases hb : leftB zs ls with _ | _
  · have H0 : Hid (outCountWith_0 zs ls m = 0 ∧ outCountWith_1 zs ls m = false) := Lib.hid (by unfold outCountWith_0 outCountWith_1 withB; rw [hb]; exact ⟨rfl, rfl⟩)
    rw [hb] at HF
    clear hb hc hc2
    go_enter Try.func34, Try.ntmps34
    go_wp2_with (go_at_call 55; refine HF.out.mono ?_; rintro e w' ⟨rfl, rfl⟩)
    go_ret2
    exact ⟨by rw [H0.out.1, H0.out.2]; exact rfl, Below.refl _ _⟩
  · rcases hm : inB m 0 1000000000 with _ | _
    · have H0 : Hid (outCountWith_0 zs ls m = 0 ∧ outCountWith_1 zs ls m = false) := Lib.hid (by unfold outCountWith_0 outCountWith_1 withB; rw [hb, hm]; exact ⟨rfl, rfl⟩)
      have hm2 := inB_not hm
      rw [hb] at HF
      clear hb hc hc2 hm
      by_cases hm0 : 0 ≤ m
      · have hm1 : 1000000000 < m := by omega
        clear hm2
        go_enter Try.func34, Try.ntmps34
        go_wp2_with (go_at_call 55; refine HF.out.mono ?_; rintro e w' ⟨rfl, rfl⟩)
        go_ret2
        exact ⟨by rw [H0.out.1, H0.out.2]; exact rfl, Below.refl _ _⟩
      · clear hm2
        go_enter Try.func34, Try.ntmps34
        go_wp2_with (go_at_call 55; refine HF.out.mono ?_; rintro e w' ⟨rfl, rfl⟩)
        go_ret2
        exact ⟨by rw [H0.out.1, H0.out.2]; exact rfl, Below.refl _ _⟩
    · obtain ⟨cs, l2, rfl, rfl, h1, h2, h3, h4, h5⟩ := left_parts hb
      have H0 : Hid (outCountWith_0 (asInts cs) (asInts l2) m = countUp (leastO cs l2 cs.length) (lcmTo cs cs.length) m ∧ outCountWith_1 (asInts cs) (asInts l2) m = true) := Lib.hid (by
        unfold outCountWith_0 outCountWith_1 withB; rw [hb, hm, leastZ_asInts, stepZ_asInts]; exact ⟨rfl, rfl⟩)
      obtain rfl : cs.length = len := by rw [← asInts_len]; exact hc.1
      obtain rfl : cs.length = len2 := by rw [← h1, ← asInts_len]; exact hc2.1
      have HLL := Lib.hid (leastWith_any w a cs.length cap cs a2 cap2 l2 h2 h3 hcp hcp2 h4 h5 hc hc2)
      obtain ⟨hm1, hm2⟩ := inB_yes hm
      have hl18 := lcm_six (fun i => (h4 i).2) h3
      have hlp := lcmTo_pos (fun i => (h4 i).1) cs.length
      obtain ⟨k, hk⟩ : ∃ k, k = cs.length := ⟨_, rfl⟩
      have HST : Hid (∀ w2, Below w.heap.size w w2 → Calls Try.prog 52 #[.slice a k cap] w2 fun e w' => e = .returned (.int .i64 (lcmTo cs k : Nat)) ∧ ∃ m, w' = w2.drewN m) := Lib.hid (fun w2 hb2 => by
        have := stepOf_any w2 a cs.length cap cs h3 h4 ((CameN.of hc).below hb2)
        rw [← hk] at this
        exact this)
      rw [hb] at HF
      rw [← hk] at HLL HF H0 hl18 hlp ⊢
      rcases ho : leastO cs l2 k with _ | n
      · have H1 : Hid (leastA cs l2 k = 0) := Lib.hid (by unfold leastA; rw [ho])
        rw [ho] at H0
        rw [H1.out, ho] at HLL
        have HLL2 : Hid (Calls Try.prog 56 #[.slice a k cap, .slice a2 k cap2] w fun e w' => e = .returned (.tuple #[.int .i64 0, .bool false]) ∧ Below w.heap.size w w') := HLL
        clear hb hc hc2 h4 h5 hk ho h1 hm HLL
        go_enter Try.func34, Try.ntmps34
        go_wp2_with fail
        go_at_call 55
        refine HF.out.mono ?_
        rintro e w' ⟨rfl, rfl⟩
        go_wp2_with fail
        go_at_call 56
        refine HLL2.out.mono ?_
        rintro e w2 ⟨rfl, b2⟩
        have B2 := Lib.hid b2
        clear b2
        go_wp2
        go_ret2
        exact ⟨by rw [H0.out.1, H0.out.2]; exact rfl, B2.out⟩
      · have H1 : Hid (leastA cs l2 k = n) := Lib.hid (by unfold leastA; rw [ho])
        have hns := leastO_lt ho
        rw [ho] at H0
        rw [H1.out, ho] at HLL
        obtain ⟨s, hs⟩ : ∃ s, s = lcmTo cs k := ⟨_, rfl⟩
        rw [← hs] at H0 hl18 hns hlp HST
        have HLL2 : Hid (Calls Try.prog 56 #[.slice a k cap, .slice a2 k cap2] w fun e w' => e = .returned (.tuple #[.int .i64 (n : Nat), .bool true]) ∧ Below w.heap.size w w') := HLL
        have hs0 : ¬ s = 0 := by omega
        clear hb hc hc2 h4 h5 hk ho h1 hs hm HLL
        by_cases hmn : m < (n : Int)
        · have HE : Hid (countUp (some n) s m = 0) := Lib.hid (by unfold countUp; exact if_pos hmn)
          go_enter Try.func34, Try.ntmps34
          go_wp2_with fail
          go_at_call 55
          refine HF.out.mono ?_
          rintro e w' ⟨rfl, rfl⟩
          go_wp2_with fail
          go_at_call 56
          refine HLL2.out.mono ?_
          rintro e w2 ⟨rfl, b2⟩
          have B2 := Lib.hid b2
          clear b2
          go_wp2
          go_ret2
          exact ⟨by rw [H0.out.1, H0.out.2, HE.out]; exact rfl, B2.out⟩
        · have HE : Hid (countUp (some n) s m = (m - (n : Int)) / (s : Int) + 1) := Lib.hid (by unfold countUp; exact if_neg hmn)
          have hd0 : 0 ≤ (m - (n : Int)) / (s : Int) := Int.ediv_nonneg (by omega) (by omega)
          have hd1 : (m - (n : Int)) / (s : Int) ≤ m - (n : Int) := Int.ediv_le_self _ (by omega)
          go_enter Try.func34, Try.ntmps34
          go_wp2_with fail
          go_at_call 55
          refine HF.out.mono ?_
          rintro e w' ⟨rfl, rfl⟩
          go_wp2_with fail
          go_at_call 56
          refine HLL2.out.mono ?_
          rintro e w2 ⟨rfl, b2⟩
          have B2 := Lib.hid b2
          have HS2 := Lib.hid (HST.out w2 b2)
          clear b2
          go_wp2_with fail
          go_at_call 52
          refine HS2.out.mono ?_
          rintro e w3 ⟨rfl, hm3⟩
          have B3 : Hid (Below w.heap.size w w3) := Lib.hid (by obtain ⟨m3, rfl⟩ := hm3; exact B2.out.trans ((drewN_down w2 m3).mono B2.out.size))
          clear hm3
          go_wp2
          go_ret2
          exact ⟨by rw [H0.out.1, H0.out.2, HE.out]; exact rfl, B3.out⟩

end Go.Proofs.Ytbodomfdgjemhab
