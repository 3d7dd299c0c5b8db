/- Chapter 5, the program: steps before a time, StepsIn, TimeOfStep. -/
import Derived.Test.YthnbimfdodfhoaaJa
import Derived.Test.YthnbimfdodfhoaaPd
import Derived.Test.YthnbimfdodfhoaaLw
namespace Go.Proofs.Ythnbimfdodfhoaa
open Go.ChangeShapes Go.WideShapes Go.ChangeAt Go.RowKit
open Pa

theorem befOne_div {x y t : Nat} (h1 : 1 ≤ x) (h3 : y < x) : (t + x - 1 - y) / x = befOne x y t := by
  unfold befOne
  by_cases h : y < t
  · rw [if_pos h, show t + x - 1 - y = (t - y - 1) + x by omega, Nat.add_div_right _ (by omega)]
  · rw [if_neg h]; exact Nat.div_eq_of_lt (by omega)
set_option maxHeartbeats 1000000 in
theorem stepsBeforeOne_any (x y t : Nat) (h1 : 1 ≤ x) (h2 : x ≤ 60) (h3 : y < x) (h4 : t ≤ 1000000000000) (w : World) :
    Calls Try.prog 69 #[.agg #[.int .i64 (x : Int), .int .i64 (y : Int)], .int .i64 (t : Int)] w fun e w' => e = .returned (.int .i64 (befOne x y t : Nat)) ∧ Below w.heap.size w w' := by
  have HB : Hid (Below w.heap.size w (w.alloc (.cells #[.int .i64 (x : Int), .int .i64 (y : Int)] 48))) := Lib.hid ((Below.refl _ _).alloc (Nat.le_refl _) _)
  obtain ⟨e0, e1⟩ := pace_cells w (x : Int) (y : Int)
  obtain ⟨d, hd⟩ : ∃ d, d = befOne x y t := ⟨_, rfl⟩
  have ed : ((t : Int) + (x : Int) - 1 - (y : Int)) / (x : Int) = (d : Int) := by
    rw [hd, ← befOne_div h1 h3, show (t : Int) + (x : Int) - 1 - (y : Int) = ((t + x - 1 - y : Nat) : Int) by omega]; simp
  have hd2 : d ≤ t := by rw [hd]; exact befOne_le x y t
  have hx0 : ¬ x = 0 := by omega
  rw [← hd]
  clear hd
  go_enter Try.func69, Try.ntmps69
  have HED := Lib.hid ed
  go_wp2
  go_ret
  exact ⟨ret_int (by first | rfl | exact HED.out), HB.out⟩

set_option maxHeartbeats 2000000 in
theorem stepsBefore_any (w : World) (a : Option Addr) (len cap : Nat) (qs : List (Nat × Nat)) (t : Nat) (ht : t ≤ 1000000000000) (hg : GoodQ qs) (hc : CameQ w a len qs) :
    Calls Try.prog 62 #[.slice a len cap, .int .i64 (t : Int)] w fun e w' => e = .returned (.int .i64 (befN qs t : Nat)) ∧ Below w.heap.size w w' := by
  have HZ : Hid (qs.length = len) := Lib.hid hc.1
  have HC := Lib.hid hc
  have HE := Lib.hid hg
  have h6 : len ≤ 6 := by have := hg.few; have := hc.1; omega
  clear hc hg
  go_enter Try.func62, Try.ntmps62
  go_wp2
  go_loopw [5, 10] (fun sv i wr => ∃ k s : Nat, k ≤ len ∧ i = .int .i64 (k : Int) ∧ sv = .int .i64 (s : Int) ∧ s ≤ 6000000000000 ∧ Hid (s = befTo qs t k) ∧ Hid (Below w.heap.size w wr)) (fun _ i _ => len - (intOf i).toNat)
  case atStart => exact ⟨0, 0, Nat.zero_le _, rfl, rfl, by omega, Lib.hid rfl, Lib.hid (Below.refl _ _)⟩
  case round =>
    obtain ⟨k, s, hk, rfl, rfl, hs18, HS, HB⟩ := hrel
    by_cases hlt : k < len
    · obtain ⟨b, off, rfl, hcell⟩ := (HC.out.below HB.out).2 (by omega)
      obtain ⟨e0, e1⟩ := hcell k hlt
      obtain ⟨hp1, hp2, hp3⟩ := HE.out.at k
      have hl18 : befTo qs t (k + 1) ≤ 6000000000000 := Nat.le_trans (befTo_le qs t (k + 1)) (Nat.le_trans (Nat.mul_le_mul (show k + 1 ≤ 6 by omega) ht) (by decide))
      have HS1 : Hid (s + befOne (qs.getD k (1, 0)).1 (qs.getD k (1, 0)).2 t = befTo qs t (k + 1)) := Lib.hid (by rw [befTo, HS.out])
      obtain ⟨x, hx⟩ : ∃ x, x = (qs.getD k (1, 0)).1 := ⟨_, rfl⟩
      obtain ⟨y, hy⟩ : ∃ x, x = (qs.getD k (1, 0)).2 := ⟨_, rfl⟩
      rw [← hx] at e0 hp1 hp2 hp3 HS1
      rw [← hy] at e1 hp3 HS1
      have HT := Lib.hid (fun w2 => stepsBeforeOne_any x y t hp1 hp2 hp3 ht w2)
      obtain ⟨d, hd⟩ : ∃ d, d = befOne x y t := ⟨_, rfl⟩
      have hd2 : d ≤ t := by rw [hd]; exact befOne_le x y t
      rw [← hd] at HT HS1
      rw [← HS1.out] at hl18
      have i1 : (0 : Int) ≤ (k : Int) := by omega
      have i2 : (k : Int) < (len : Int) := by omega
      have HBA : Hid (Below w.heap.size w (wr.alloc (.cells #[.int .i64 (x : Int), .int .i64 (y : Int)] 48))) := Lib.hid (HB.out.alloc HB.out.size _)
      clear hcell hx hy hd
      go_wp2_with fail
      go_at_call 69
      refine (HT.out _).mono ?_
      rintro e w2 ⟨rfl, b2⟩
      have HB2 : Hid (Below w.heap.size w w2) := Lib.hid (HBA.out.trans (b2.mono HBA.out.size))
      clear b2
      go_wp2
      go_roundw
      case rel => exact ⟨k + 1, s + d, by omega, by go_num, by go_num, hl18, HS1, HB2⟩
      case measure => simp [intOf]; omega
    · have HF : Hid (s = befN qs t) := Lib.hid (by unfold befN; rw [HZ.out, show len = k by omega]; exact HS.out)
      go_wp2
      go_ret
      exact ⟨ret_int (by rw [HF.out]), HB.out⟩

set_option maxHeartbeats 2000000 in
theorem implStepsIn_any (w : World) (ad : Option Addr) (len cap : Nat) (ps : List RPace) (a b : Int) (_wa : (Lit.int .i64 a).wf = true) (_wb : (Lit.int .i64 b).wf = true) (hl : len ≤ 1048576) (hc : CamePace w ad len ps) :
    Calls Try.prog 42 #[.slice ad len cap, .int .i64 a, .int .i64 b] w fun e w' => e = .returned (.tuple #[.int .i64 (outStepsIn_0 ps a b), .bool (outStepsIn_1 ps a b)]) ∧ Below w.heap.size w w' := by
  have HG := Lib.hid (arePaces_any w ad len cap ps hl hc)
  have HT := Lib.hid (fun t w2 => isTime_any t w2)
  have HC := Lib.hid hc
  clear _wa _wb hc
  by_cases hall : stepsB ps a b = true
  · have hall2 := hall
    unfold stepsB at hall2
    simp only [Bool.and_eq_true] at hall2
    obtain ⟨⟨⟨hb, hb2⟩, hb3⟩, hb4⟩ := hall2
    have hab := of_decide_eq_true hb4
    obtain ⟨ha0, ha1⟩ := inB_yes hb2
    obtain ⟨hc0, hc1⟩ := inB_yes hb3
    obtain ⟨A, rfl⟩ : ∃ A : Nat, a = (A : Int) := ⟨a.toNat, by omega⟩
    obtain ⟨B, rfl⟩ : ∃ A : Nat, b = (A : Int) := ⟨b.toNat, by omega⟩
    obtain ⟨qs, rfl, hgq⟩ := good_nat hb
    have H0 : Hid (outStepsIn_0 (asP qs) A B = (befN qs B : Nat) - (befN qs A : Nat) ∧ outStepsIn_1 (asP qs) A B = true) := Lib.hid (by unfold outStepsIn_0 outStepsIn_1; rw [hall, toQ_asP]; exact ⟨rfl, rfl⟩)
    have HA := Lib.hid (fun w2 (h : Below w.heap.size w w2) => stepsBefore_any w2 ad len cap qs A (by omega) hgq ((CameQ.of HC.out).below h))
    have HB := Lib.hid (fun w2 (h : Below w.heap.size w w2) => stepsBefore_any w2 ad len cap qs B (by omega) hgq ((CameQ.of HC.out).below h))
    have hbd1 := befN_le hgq A
    have hbd2 := befN_le hgq B
    have HTA := Lib.hid (HT.out A)
    have HTB := Lib.hid (HT.out B)
    rw [hb] at HG
    rw [hb2] at HTA
    rw [hb3] at HTB
    clear hb hb2 hb3 hb4 hgq hall
    obtain ⟨x, hx⟩ : ∃ x, x = befN qs A := ⟨_, rfl⟩
    obtain ⟨y, hy⟩ : ∃ x, x = befN qs B := ⟨_, rfl⟩
    rw [← hx] at H0 HA hbd1
    rw [← hy] at H0 HB hbd2
    clear hx hy
    go_enter Try.func42, Try.ntmps42
    go_wp2_with fail
    go_at_call 16
    refine HG.out.mono ?_
    rintro e w2 ⟨rfl, b2⟩
    have B2 := Lib.hid b2
    have HA2 := Lib.hid (fun w3 h => HA.out w3 (b2.trans h))
    have HB2 := Lib.hid (HB.out w2 b2)
    clear b2
    go_wp2_with fail
    go_at_call 50
    refine (HTA.out _).mono ?_
    rintro e w' ⟨rfl, rfl⟩
    go_wp2_with fail
    go_at_call 50
    refine (HTB.out _).mono ?_
    rintro e w' ⟨rfl, rfl⟩
    go_wp2_with fail
    go_at_call 62
    refine HB2.out.mono ?_
    rintro e w3 ⟨rfl, b3⟩
    have B3 : Hid (Below w.heap.size w w3) := Lib.hid (B2.out.trans (b3.mono B2.out.size))
    have HA3 := Lib.hid (HA.out w3 B3.out)
    clear b3
    go_wp2_with fail
    go_at_call 62
    refine HA3.out.mono ?_
    rintro e w4 ⟨rfl, b4⟩
    have B4 : Hid (Below w.heap.size w w4) := Lib.hid (B3.out.trans (b4.mono B3.out.size))
    clear b4
    go_wp2
    go_ret2
    exact ⟨by rw [H0.out.1, H0.out.2]; exact rfl, B4.out⟩
  · have hf := Bool.eq_false_iff.2 hall
    have H0 : Hid (outStepsIn_0 ps a b = 0 ∧ outStepsIn_1 ps a b = false) := Lib.hid (by unfold outStepsIn_0 outStepsIn_1; rw [hf]; exact ⟨rfl, rfl⟩)
    unfold stepsB at hf
    clear hall
    have HTA := Lib.hid (HT.out a)
    have HTB := Lib.hid (HT.out b)
    rcases hb : goodP ps with _ | _
    · rw [hb] at HG
      clear hb hf
      go_enter Try.func42, Try.ntmps42
      go_wp2_with (go_at_call 16; refine HG.out.mono ?_; rintro e w2 ⟨rfl, b2⟩; have B2 := Lib.hid b2; clear b2)
      go_ret2
      exact ⟨by rw [H0.out.1, H0.out.2]; exact rfl, B2.out⟩
    · rw [hb] at hf HG
      clear hb
      rcases hb2 : inB a 0 1000000000 with _ | _
      · rw [hb2] at HTA
        clear hb2 hf
        go_enter Try.func42, Try.ntmps42
        go_wp2_with fail
        go_at_call 16
        refine HG.out.mono ?_
        rintro e w2 ⟨rfl, b2⟩
        have B2 := Lib.hid b2
        clear b2
        go_wp2_with (go_at_call 50; refine (HTA.out _).mono ?_; rintro e w' ⟨rfl, rfl⟩)
        go_ret2
        exact ⟨by rw [H0.out.1, H0.out.2]; exact rfl, B2.out⟩
      · rw [hb2] at hf HTA
        clear hb2
        rcases hb3 : inB b 0 1000000000 with _ | _
        · rw [hb3] at HTB
          clear hb3 hf
          go_enter Try.func42, Try.ntmps42
          go_wp2_with fail
          go_at_call 16
          refine HG.out.mono ?_
          rintro e w2 ⟨rfl, b2⟩
          have B2 := Lib.hid b2
          clear b2
          go_wp2_with fail
          go_at_call 50
          refine (HTA.out _).mono ?_
          rintro e w' ⟨rfl, rfl⟩
          go_wp2_with (go_at_call 50; refine (HTB.out _).mono ?_; rintro e w' ⟨rfl, rfl⟩)
          go_ret2
          exact ⟨by rw [H0.out.1, H0.out.2]; exact rfl, B2.out⟩
        · rw [hb3] at hf HTB
          clear hb3
          have hab : b < a := by
            have := of_decide_eq_false (show decide (a ≤ b) = false from hf)
            omega
          clear hf
          go_enter Try.func42, Try.ntmps42
          go_wp2_with fail
          go_at_call 16
          refine HG.out.mono ?_
          rintro e w2 ⟨rfl, b2⟩
          have B2 := Lib.hid b2
          clear b2
          go_wp2_with fail
          go_at_call 50
          refine (HTA.out _).mono ?_
          rintro e w' ⟨rfl, rfl⟩
          go_wp2_with fail
          go_at_call 50
          refine (HTB.out _).mono ?_
          rintro e w' ⟨rfl, rfl⟩
          go_wp2
          go_ret2
          exact ⟨by rw [H0.out.1, H0.out.2]; exact rfl, B2.out⟩

set_option maxHeartbeats 2000000 in
theorem later_any (w : World) (a : Option Addr) (len cap : Nat) (qs : List (Nat × Nat)) (K t g2 g3 : Nat) (ht : t ≤ 100000000000) (hg : GoodQ qs) (hc : CameQ w a len qs)
    (h2 : w.cell? ⟨g2, 0, none⟩ = some (.slice a len cap)) (h3 : w.cell? ⟨g3, 0, none⟩ = some (.int .i64 (K : Int))) :
    Calls Try.prog 64 #[.int .i64 (t : Int), .pointer (some ⟨g2, 0, none⟩), .pointer (some ⟨g3, 0, none⟩)] w fun e w' => e = .returned (.bool (decide (K < befN qs (t + 1)))) ∧ Below w.heap.size w w' := by
  have HA := Lib.hid (fun w2 (h : Below w.heap.size w w2) => stepsBefore_any w2 a len cap qs (t + 1) (by omega) hg (hc.below h))
  have hbd := befN_le hg (t + 1)
  obtain ⟨n, hn⟩ : ∃ n, n = befN qs (t + 1) := ⟨_, rfl⟩
  rw [← hn] at HA hbd ⊢
  have ew : IntKind.i64.wrap ((t : Int) + 1) = ((t + 1 : Nat) : Int) := by rw [IntKind.wrap_i64]; omega
  have H2 := Lib.hid h2
  have H3 := Lib.hid h3
  clear hn hc hg h2 h3
  go_enter Try.func64, Try.ntmps64
  go_wp2_with fail
  have ex2 : ∀ X : Lw w, X.w.cell? ⟨g2, 0, none⟩ = some (.slice a len cap) := fun X => X.cell H2.out
  have ex3 : ∀ X : Lw w, X.w.cell? ⟨g3, 0, none⟩ = some (.int .i64 (K : Int)) := fun X => X.cell H3.out
  refine wp_region_lw (by kernel_rfl) (by kernel_rfl) ?_
  repeat (go_big_quiet_step ((go_at_call 62; exact lw_call (fun w2 hb => HA.out w2 hb) _)))
  refine wpQuiet_nil ?_
  rintro w' ⟨X, rfl⟩
  go_wp2
  go_ret
  exact ⟨ret_bool (by simp), X.b⟩

/-- what Search asks in each world: the closure's variables lie as they lay -/
structure Vars (w : World) (a : Option Addr) (len cap K g2 g3 : Nat) (qs : List (Nat × Nat)) : Prop where
  came : CameQ w a len qs
  ps : w.cell? ⟨g2, 0, none⟩ = some (.slice a len cap)
  k : w.cell? ⟨g3, 0, none⟩ = some (.int .i64 (K : Int))
theorem Vars.below {w w' : World} {a : Option Addr} {len cap K g2 g3 : Nat} {qs : List (Nat × Nat)} (h : Vars w a len cap K g2 g3 qs) (hb : Below w.heap.size w w') : Vars w' a len cap K g2 g3 qs :=
  ⟨h.came.below hb, (hb.cell (World.block_lt_of_cell? w _ h.ps)).trans h.ps, (hb.cell (World.block_lt_of_cell? w _ h.k)).trans h.k⟩
set_option maxHeartbeats 2000000 in
theorem search_any (w : World) (a : Option Addr) (len cap : Nat) (qs : List (Nat × Nat)) (K n g2 g3 : Nat) (hn : n ≤ 100000000000) (hg : GoodQ qs) (hv : Vars w a len cap K g2 g3 qs) :
    Calls Try.prog 63 #[.int .i64 (n : Int), .func (.func 64) #[] #[.pointer (some ⟨g2, 0, none⟩), .pointer (some ⟨g3, 0, none⟩)]] w fun e w' => ∃ r : Nat, e = .returned (.int .i64 (r : Int)) ∧ (r ≤ n ∧ (0 < r → befN qs r ≤ K) ∧ (r < n → K < befN qs (r + 1))) ∧ Below w.heap.size w w' := by
  have HT := Lib.hid (fun w2 (h : Below w.heap.size w w2) (t : Nat) (ht : t ≤ 100000000000) => later_any w2 a len cap qs K t g2 g3 ht hg (hv.below h).came (hv.below h).ps (hv.below h).k)
  clear hg hv
  go_enter Try.func63, Try.ntmps63
  go_wp2
  go_loopw [5, 6] (fun c d wr => ∃ x y : Nat, x ≤ y ∧ y ≤ n ∧ c = .int .i64 (x : Int) ∧ d = .int .i64 (y : Int) ∧ Hid (0 < x → befN qs x ≤ K) ∧ Hid (y < n → K < befN qs (y + 1)) ∧ Hid (Below w.heap.size w wr)) (fun c d _ => (intOf d - intOf c).toNat)
  case atStart => exact ⟨0, n, by omega, Nat.le_refl _, rfl, rfl, Lib.hid (fun h => absurd h (Nat.lt_irrefl _)), Lib.hid (fun h => absurd h (Nat.lt_irrefl _)), Lib.hid (Below.refl _ _)⟩
  case round =>
    obtain ⟨x, y, hxy, hyn, rfl, rfl, HX, HY, HB⟩ := hrel
    by_cases hlt : x < y
    · obtain ⟨m, hm⟩ : ∃ m, m = (x + y) / 2 := ⟨_, rfl⟩
      have hm2 : x ≤ m ∧ m < y := by omega
      obtain ⟨hm3, hm4⟩ := hm2
      have em : ((x : Int) + (y : Int)) / 2 = (m : Int) := by omega
      have HT2 := Lib.hid (HT.out wr HB.out m (by omega))
      clear hm
      by_cases hK : K < befN qs (m + 1)
      · have hT := HT2.out
        rw [decide_eq_true hK] at hT
        have HT3 := Lib.hid hT
        have HK := Lib.hid hK
        clear hT hK HT2
        go_wp2_with fail
        go_at_call 64
        refine HT3.out.mono ?_
        rintro e w2 ⟨rfl, b2⟩
        have HB2 : Hid (Below w.heap.size w w2) := Lib.hid (HB.out.trans (b2.mono HB.out.size))
        clear b2
        go_wp2
        go_roundw
        case rel => exact ⟨x, m, by omega, by omega, rfl, rfl, HX, Lib.hid (fun _ => HK.out), HB2⟩
        case measure => simp [intOf]; omega
      · have hT := HT2.out
        rw [decide_eq_false hK] at hT
        have HT3 := Lib.hid hT
        have HK := Lib.hid hK
        clear hT hK HT2
        go_wp2_with fail
        go_at_call 64
        refine HT3.out.mono ?_
        rintro e w2 ⟨rfl, b2⟩
        have HB2 : Hid (Below w.heap.size w w2) := Lib.hid (HB.out.trans (b2.mono HB.out.size))
        clear b2
        go_wp2
        go_roundw
        case rel => exact ⟨m + 1, y, by omega, by omega, by go_num, rfl, Lib.hid (fun _ => Nat.le_of_not_lt HK.out), HY, HB2⟩
        case measure => simp [intOf]; omega
    · obtain rfl : x = y := by omega
      go_wp2
      go_ret
      exact ⟨x, rfl, ⟨hyn, HX.out, HY.out⟩, HB.out⟩

theorem befOne_many {x y m : Nat} (h1 : 1 ≤ x) (h2 : x ≤ 60) (h3 : y < x) : m ≤ befOne x y (m * 60) := by
  rw [← befOne_div h1 h3, Nat.le_div_iff_mul_le (by omega)]
  have := Nat.mul_le_mul_left m h2
  omega
theorem befN_many {qs : List (Nat × Nat)} (h : GoodQ qs) (m : Nat) : m ≤ befN qs (m * 60) := by
  have h1 := h.at 0
  have h2 := befOne_many (m := m) h1.1 h1.2.1 h1.2.2
  have h3 : ∀ k, 1 ≤ k → m ≤ befTo qs (m * 60) k := by
    intro k
    induction k with
    | zero => intro h; omega
    | succ k ih =>
      intro _
      rw [befTo]
      rcases Nat.eq_zero_or_pos k with rfl | hk
      · omega
      · have := ih hk; omega
  exact h3 _ h.pos
theorem timeN_of {qs : List (Nat × Nat)} {K r n : Nat} (hn : n ≤ 60000060) (hg : K < befN qs n) (h1 : r ≤ n) (h2 : 0 < r → befN qs r ≤ K) (h3 : r < n → K < befN qs (r + 1)) : timeN qs K = r := by
  unfold timeN
  refine lastTo_eq ?_ _ (by omega) (fun j h4 h5 => decide_eq_false (Nat.not_le.2 ?_))
  · rcases Nat.eq_zero_or_pos r with h | h
    · exact .inl h
    · exact .inr (decide_eq_true (h2 h))
  · rcases Nat.lt_or_ge r n with h | h
    · exact Nat.lt_of_lt_of_le (h3 h) (befN_mono qs (by omega))
    · exact Nat.lt_of_lt_of_le hg (befN_mono qs (by omega))
set_option maxHeartbeats 2000000 in
theorem implTimeOfStep_any (w : World) (ad : Option Addr) (len cap : Nat) (ps : List RPace) (k : Int) (_wk : (Lit.int .i64 k).wf = true) (hl : len ≤ 1048576) (hc : CamePace w ad len ps) :
    Calls Try.prog 44 #[.slice ad len cap, .int .i64 k] w fun e w' => e = .returned (.tuple #[.int .i64 (outTimeOfStep_0 ps k), .bool (outTimeOfStep_1 ps k)]) ∧ Below w.heap.size w w' := by
  obtain ⟨w1, hw1⟩ : ∃ w1, w1 = (w.alloc (.cells #[.slice ad len cap] 25)).alloc (.cells #[.int .i64 k] 3) := ⟨_, rfl⟩
  have HB1 : Hid (Below w.heap.size w w1) := Lib.hid (by rw [hw1]; exact ((Below.refl _ _).alloc (Nat.le_refl _) _).alloc (by simp) _)
  have e2 : w1.cell? ⟨w.heap.size, 0, none⟩ = some (.slice ad len cap) := by rw [hw1]; simp
  have e3 : w1.cell? ⟨w.heap.size + 1, 0, none⟩ = some (.int .i64 k) := by rw [hw1]; simp
  have HE2 := Lib.hid e2
  have HE3 := Lib.hid e3
  have HG := Lib.hid (arePaces_any w1 ad len cap ps hl (hc.below HB1.out))
  have HC := Lib.hid hc
  have HSZ : Hid (w1.heap.size = w.heap.size + 2) := Lib.hid (by rw [hw1, alloc_size1, alloc_size1])
  clear _wk hc e2 e3
  rcases hb : goodP ps with _ | _
  · have H0 : Hid (outTimeOfStep_0 ps k = 0 ∧ outTimeOfStep_1 ps k = false) := Lib.hid (by unfold outTimeOfStep_0 outTimeOfStep_1 Pa.stepB; rw [hb]; exact ⟨rfl, rfl⟩)
    rw [hb] at HG
    clear hb
    subst hw1
    go_enter Try.func44, Try.ntmps44
    go_wp2_with fail
    go_at_call 16
    refine HG.out.mono ?_
    rintro e w2 ⟨rfl, b2⟩
    have B2 : Hid (Below w.heap.size w w2) := Lib.hid (HB1.out.trans (b2.mono HB1.out.size))
    clear b2
    go_wp2
    go_ret2
    exact ⟨by rw [H0.out.1, H0.out.2]; exact rfl, B2.out⟩
  · rw [hb] at HG
    by_cases hk0 : k < 0
    · have H0 : Hid (outTimeOfStep_0 ps k = 0 ∧ outTimeOfStep_1 ps k = false) := Lib.hid (by unfold outTimeOfStep_0 outTimeOfStep_1 Pa.stepB; rw [inB_no (n := k) (by omega)]; simp)
      clear hb
      subst hw1
      go_enter Try.func44, Try.ntmps44
      go_wp2_with fail
      go_at_call 16
      refine HG.out.mono ?_
      rintro e w2 ⟨rfl, b2⟩
      have B2 : Hid (Below w.heap.size w w2) := Lib.hid (HB1.out.trans (b2.mono HB1.out.size))
      have e3 := (b2.cell (World.block_lt_of_cell? _ _ HE3.out)).trans HE3.out
      clear b2
      go_wp2
      go_ret2
      exact ⟨by rw [H0.out.1, H0.out.2]; exact rfl, B2.out⟩
    by_cases hk1 : 1000000 < k
    · have H0 : Hid (outTimeOfStep_0 ps k = 0 ∧ outTimeOfStep_1 ps k = false) := Lib.hid (by unfold outTimeOfStep_0 outTimeOfStep_1 Pa.stepB; rw [inB_no (n := k) (by omega)]; simp)
      clear hb
      subst hw1
      go_enter Try.func44, Try.ntmps44
      go_wp2_with fail
      go_at_call 16
      refine HG.out.mono ?_
      rintro e w2 ⟨rfl, b2⟩
      have B2 : Hid (Below w.heap.size w w2) := Lib.hid (HB1.out.trans (b2.mono HB1.out.size))
      have e3 := (b2.cell (World.block_lt_of_cell? _ _ HE3.out)).trans HE3.out
      clear b2
      go_wp2
      go_ret2
      exact ⟨by rw [H0.out.1, H0.out.2]; exact rfl, B2.out⟩
    obtain ⟨K, rfl⟩ : ∃ M : Nat, k = (M : Int) := ⟨k.toNat, by omega⟩
    obtain ⟨qs, rfl, hgq⟩ := good_nat hb
    have H0 : Hid (outTimeOfStep_0 (asP qs) K = (timeN qs K : Nat) ∧ outTimeOfStep_1 (asP qs) K = true) := Lib.hid (by unfold outTimeOfStep_0 outTimeOfStep_1 Pa.stepB; rw [hb, inB_of (by omega), toQ_asP]; exact ⟨rfl, rfl⟩)
    have HGQ := Lib.hid hgq
    obtain ⟨n, hn⟩ : ∃ n, n = (K + 1) * 60 := ⟨_, rfl⟩
    have HS := Lib.hid (fun w2 (h : Below w.heap.size w w2) (h2 : w2.cell? ⟨w.heap.size, 0, none⟩ = some (.slice ad len cap)) (h3 : w2.cell? ⟨w.heap.size + 1, 0, none⟩ = some (.int .i64 (K : Int))) =>
      search_any w2 ad len cap qs K n w.heap.size (w.heap.size + 1) (by omega) hgq ⟨(CameQ.of HC.out).below h, h2, h3⟩)
    have ew1 : IntKind.i64.wrap ((K : Int) + 1) = (K : Int) + 1 := by rw [IntKind.wrap_i64]; omega
    have hk2 : K ≤ 1000000 := by omega
    have hen : ((K : Int) + 1) * 60 = (n : Int) := by omega
    have HNN := Lib.hid hn
    have hn2 : n ≤ 60000060 := by omega
    clear hb hgq hn
    subst hw1
    go_enter Try.func44, Try.ntmps44
    go_wp2_with fail
    go_at_call 16
    refine HG.out.mono ?_
    rintro e w2 ⟨rfl, b2⟩
    have B2 : Hid (Below w.heap.size w w2) := Lib.hid (HB1.out.trans (b2.mono HB1.out.size))
    have e3 := (b2.cell (World.block_lt_of_cell? _ _ HE3.out)).trans HE3.out
    have HS2 := Lib.hid (HS.out w2 B2.out ((b2.cell (World.block_lt_of_cell? _ _ HE2.out)).trans HE2.out) e3)
    clear b2
    go_wp2_with fail
    go_at_call 63
    refine HS2.out.mono ?_
    rintro e w3 ⟨r, rfl, hr, b3⟩
    have HR : Hid (timeN qs K = r) := Lib.hid (timeN_of (n := n) hn2 (by rw [HNN.out]; exact Nat.lt_of_lt_of_le (Nat.lt_succ_self K) (befN_many HGQ.out (K + 1))) hr.1 hr.2.1 hr.2.2)
    have B3 : Hid (Below w.heap.size w w3) := Lib.hid (B2.out.trans (b3.mono B2.out.size))
    clear b3 hr
    go_wp2
    go_ret2
    exact ⟨by rw [H0.out.1, H0.out.2, HR.out]; exact rfl, B3.out⟩

end Go.Proofs.Ythnbimfdodfhoaa
