/- Chapter 6, the model: fiCommon, CountSortedFiles. -/
import Derived.Test.YtpoceonmlpnhlabHeSpec
import Derived.Test.YtpoceonmlpnhlabIn
import Derived.Test.YtpoceonmlpnhlabUp
import Derived.Test.YtpoceonmlpnhlabTwo
import Derived.Test.YtpoceonmlpnhlabDrew
import Derived.Test.YtpoceonmlpnhlabAgg
namespace Go.Proofs.Ytpoceonmlpnhlab
open Go.ChangeShapes Go.WideShapes Go.ChangeAt Go.RowKit

namespace Fi
/-- a number and divisors behind the first j of these, divided -/
def inTo (n : Nat) (D : List Nat) : Nat → Nat × List Nat
  | 0 => (n, D)
  | j + 1 => ((inTo n D j).1 / Nat.gcd (inTo n D j).1 ((inTo n D j).2.getD j 0), (inTo n D j).2.set j ((inTo n D j).2.getD j 0 / Nat.gcd (inTo n D j).1 ((inTo n D j).2.getD j 0)))
def dnN (r c : Nat) : List Nat := (List.range (r * c)).map fun m => r - m / c + c - m % c - 1
/-- divisors and product behind the first k numbers from 2 on -/
def ouTo (r c : Nat) : Nat → List Nat × Nat
  | 0 => (dnN r c, 1)
  | k + 1 => ((inTo (k + 2) (ouTo r c k).1 (r * c)).2, (ouTo r c k).2 * (inTo (k + 2) (ouTo r c k).1 (r * c)).1)
def wayF (r c : Nat) : Nat := (ouTo r c (r * c - 1)).2
theorem ou_few : ∀ r, r < 5 → ∀ c, c < 6 → ∀ k, k < 20 → k + 1 ≤ r * c → (ouTo r c k).2 ≤ 1000000000 := by decide +kernel
structure InOk (D : List Nat) (L : Nat) : Prop where
  len : D.length = L
  each : ∀ j, j < L → 1 ≤ D.getD j 0 ∧ D.getD j 0 ≤ 8
theorem getD_setN (l : List Nat) (i j x : Nat) : (l.set i x).getD j 0 = if i = j ∧ j < l.length then x else l.getD j 0 := getD_set l i j x 0
theorem in_ok {n : Nat} {D : List Nat} {L : Nat} (hn : 1 ≤ n) (h : InOk D L) : ∀ j, j ≤ L → 1 ≤ (inTo n D j).1 ∧ (inTo n D j).1 ≤ n ∧ InOk (inTo n D j).2 L
  | 0, _ => ⟨hn, Nat.le_refl _, h⟩
  | j + 1, hj => by
    obtain ⟨h1, h2, h3⟩ := in_ok hn h j (by omega)
    have h4 := h3.each j (by omega)
    have hg1 : 0 < Nat.gcd (inTo n D j).1 ((inTo n D j).2.getD j 0) := Nat.gcd_pos_of_pos_left _ h1
    have hl := Nat.le_of_dvd h1 (Nat.gcd_dvd_left (inTo n D j).1 ((inTo n D j).2.getD j 0))
    have hr := Nat.le_of_dvd h4.1 (Nat.gcd_dvd_right (inTo n D j).1 ((inTo n D j).2.getD j 0))
    rw [inTo]
    refine ⟨Nat.div_pos hl hg1, Nat.le_trans (Nat.div_le_self _ _) h2, by rw [List.length_set]; exact h3.len, fun i hi => ?_⟩
    rw [getD_setN]
    split
    · exact ⟨Nat.div_pos hr hg1, Nat.le_trans (Nat.div_le_self _ _) h4.2⟩
    · exact h3.each i hi
theorem dn_get {r c m : Nat} (h : m < r * c) : (dnN r c).getD m 0 = r - m / c + c - m % c - 1 := by
  unfold dnN
  simp [List.getD_eq_getElem?_getD, h]
theorem dn_ok {r c : Nat} (hr : r < 5) (hc : c < 6) : InOk (dnN r c) (r * c) := by
  refine ⟨by simp [dnN], fun j hj => ?_⟩
  rw [dn_get hj]
  have hc0 : 0 < c := by rcases Nat.eq_zero_or_pos c with h | h; · subst h; omega
                         · exact h
  have h1 := Nat.mod_lt j hc0
  have h2 : j / c < r := (Nat.div_lt_iff_lt_mul hc0).2 hj
  generalize j / c = q at *
  generalize j % c = m at *
  omega
theorem ou_ok {r c : Nat} (hr : r < 5) (hc : c < 6) : ∀ k, InOk (ouTo r c k).1 (r * c)
  | 0 => dn_ok hr hc
  | k + 1 => (in_ok (by omega) (ou_ok hr hc k) _ (Nat.le_refl _)).2.2
def nuTo (j : Nat) : List Int := upTo (fun i => (i : Int) + 2) j
def dnTo (r c : Nat) (m : Nat) : List Int := upTo (fun i => ((r - i / c + c - i % c - 1 : Nat) : Int)) m
theorem dnTo_all (r c : Nat) : dnTo r c (r * c) = asInts (dnN r c) := by
  unfold dnTo upTo asInts dnN
  rw [List.map_map]
  rfl
def askF (r c : Int) : Bool := inB r 1 4 && inB c 1 5
end Fi
open Fi
def outCountSortedFiles_0 (r c : Int) : Int := if askF r c then (wayF r.toNat c.toNat : Nat) else 0
def outCountSortedFiles_1 (r c : Int) : Bool := askF r c
theorem setInts (D : List Nat) (j x : Nat) : (asInts D).set j (x : Int) = asInts (D.set j x) := by unfold asInts; rw [List.map_set]

set_option maxHeartbeats 1000000 in
theorem fiCommon_q (n d : Nat) (hn : n ≤ 1000000000 ) (hd : d ≤ 1000000000) (h1 : 1 ≤ n ∨ 1 ≤ d) (w : World) :
    Calls Try.prog 50 #[.int .i64 n, .int .i64 d] w fun e w' => e = .returned (.int .i64 (Nat.gcd n d : Nat)) ∧ ∃ m, w' = w.drewN m := by
  go_enter Try.func50, Try.ntmps50
  go_wp2
  go_loopw [0, 1] (fun x y wr => ∃ a b : Nat, a ≤ 1000000000 ∧ b ≤ 1000000000 ∧ x = .int .i64 (a : Int) ∧ y = .int .i64 (b : Int) ∧ Hid (Nat.gcd a b = Nat.gcd n d) ∧ (1 ≤ a ∨ 1 ≤ b) ∧ Hid (∃ m, wr = w.drewN m)) (fun _ y _ => (intOf y).toNat)
  case atStart => exact ⟨n, d, hn, hd, rfl, rfl, rfl, h1, Lib.hid ⟨0, rfl⟩⟩
  case round =>
    obtain ⟨a, b, ha2, hb2, rfl, rfl, HG, hab, HB⟩ := hrel
    by_cases hz : 0 < b
    · have HG2 : Hid (Nat.gcd b (a % b) = Nat.gcd n d) := Lib.hid (by rw [← HG.out, Nat.gcd_comm a b, Nat.gcd_rec b a, Nat.gcd_comm])
      have hml := Nat.mod_lt a hz
      have hb0 : ¬ b = 0 := by omega
      go_wp2_with fail
      go_quiet (fail)
      go_wp2
      go_roundw
      case rel => exact ⟨b, a % b, hb2, by omega, rfl, int_eq (by omega), HG2.out, .inl hz, Lib.hid (by obtain ⟨m, rfl⟩ := HB.out; exact ⟨m + _, World.drewN_drewN ..⟩)⟩
      case measure => simp [intOf]; omega
    · obtain rfl : b = 0 := by omega
      have HA : Hid (a = Nat.gcd n d) := Lib.hid (by rw [← HG.out, Nat.gcd_zero_right])
      clear hab hz
      go_wp2
      go_ret
      exact ⟨ret_int (by rw [HA.out]), HB.out⟩

theorem own_empty (w : World) : Own (w.alloc (.cells #[] 3)) w.heap.size (.slice (some ⟨w.heap.size, 0, none⟩) 0 0) [] :=
  ⟨rfl, .inr ⟨w.heap.size, 0, #[], rfl, Nat.le_refl _, heap_alloc_last _ _, Nat.le_refl _, by simp, by simp, rfl⟩⟩
theorem Two.drewN {w : World} {B : Nat} {p q : Value} {zs ls : List Int} (h : Two w B p q zs ls) (n : Nat) : Two (w.drewN n) B p q zs ls := ⟨h.fst, h.snd, h.apart⟩
theorem Two.setSnd {w : World} {B g n c : Nat} {p : Value} {zs ls : List Int} (h : Two w B p (.slice (some ⟨g, 0, none⟩) n c) zs ls) (hn : n = ls.length) (j : Nat) (z : Int) : Two (w.setCell ⟨g, j, none⟩ (.int .i64 z)) B p (.slice (some ⟨g, 0, none⟩) n c) zs (ls.set j z) :=
  ⟨h.fst.same fun k hk => Below.heap_setCell _ _ _ _ (fun e => h.apart k hk (by simp only [Value.ownBlock]; rw [e])), h.snd.set hn j z, h.apart⟩
theorem two_empty (w : World) : Two ((w.alloc (.cells #[] 3)).alloc (.cells #[] 3)) w.heap.size (.slice (some ⟨w.heap.size, 0, none⟩) 0 0) (.slice (some ⟨w.heap.size + 1, 0, none⟩) 0 0) [] [] := by
  have e : (w.alloc (.cells #[] 3)).heap.size = w.heap.size + 1 := Array.size_push _
  refine ⟨own_alloc (own_empty w) _, ?_, fun k h1 h2 => by simp only [Value.ownBlock, Option.some.injEq] at h1 h2; omega⟩
  have := own_empty (w.alloc (.cells #[] 3))
  rw [e] at this
  exact this.mono (Nat.le_succ _)

theorem count_no {r c : Int} (h : askF r c = false) : outCountSortedFiles_0 r c = 0 ∧ outCountSortedFiles_1 r c = false := by
  unfold outCountSortedFiles_0 outCountSortedFiles_1
  rw [h]
  exact ⟨rfl, rfl⟩
set_option maxHeartbeats 2000000 in
theorem specCountSortedFiles_any (w : World) (r c : Int) (_wr : (Lit.int .i64 r).wf = true) (_wc : (Lit.int .i64 c).wf = true) :
    Calls Try.prog 24 #[.int .i64 r, .int .i64 c] w fun e w' => e = .returned (.tuple #[.int .i64 (outCountSortedFiles_0 r c), .bool (outCountSortedFiles_1 r c)]) ∧ Below w.heap.size w w' := by
  have HI := Lib.hid (l1In_any r 1 4 w)
  have HJ := Lib.hid (l1In_any c 1 5 w)
  clear _wr _wc
  rcases hb : inB r 1 4 with _ | _
  · have H0 := Lib.hid (count_no (r := r) (c := c) (by unfold askF; rw [hb]; rfl))
    rw [hb] at HI
    clear hb
    go_enter Try.func24, Try.ntmps24
    go_wp2_with (go_at_call 44; refine HI.out.mono ?_; rintro e w' ⟨rfl, rfl⟩)
    go_ret2
    exact ⟨by rw [H0.out.1, H0.out.2]; exact rfl, Below.refl _ _⟩
  · rcases hb2 : inB c 1 5 with _ | _
    · have H0 := Lib.hid (count_no (r := r) (c := c) (by unfold askF; rw [hb, hb2]; rfl))
      rw [hb] at HI
      rw [hb2] at HJ
      clear hb hb2
      go_enter Try.func24, Try.ntmps24
      go_wp2_with fail
      go_at_call 44
      refine HI.out.mono ?_
      rintro e w' ⟨rfl, rfl⟩
      go_wp2_with (go_at_call 44; refine HJ.out.mono ?_; rintro e w' ⟨rfl, rfl⟩)
      go_ret2
      exact ⟨by rw [H0.out.1, H0.out.2]; exact rfl, Below.refl _ _⟩
    · obtain ⟨hr0, hr1⟩ := inB_yes hb
      obtain ⟨hc0, hc1⟩ := inB_yes hb2
      obtain ⟨R, rfl⟩ : ∃ R : Nat, r = (R : Int) := ⟨r.toNat, by omega⟩
      obtain ⟨C, rfl⟩ : ∃ C : Nat, c = (C : Int) := ⟨c.toNat, by omega⟩
      have hR1 : 1 ≤ R := by omega
      have hR4 : R ≤ 4 := by omega
      have hC1 : 1 ≤ C := by omega
      have hC5 : C ≤ 5 := by omega
      have H0 : Hid (outCountSortedFiles_0 R C = (wayF R C : Nat) ∧ outCountSortedFiles_1 R C = true) := Lib.hid (by unfold outCountSortedFiles_0 outCountSortedFiles_1 askF; rw [hb, hb2, Int.toNat_natCast, Int.toNat_natCast]; exact ⟨rfl, rfl⟩)
      have HFEW := Lib.hid (ou_few R (by omega) C (by omega))
      have HOK := Lib.hid (ou_ok (r := R) (c := C) (by omega) (by omega))
      have HDA := Lib.hid (dnTo_all R C)
      have HWF : Hid (wayF R C = (ouTo R C (R * C - 1)).2) := Lib.hid rfl
      have HST : Hid (∀ k, ouTo R C (k + 1) = ((inTo (k + 2) (ouTo R C k).1 (R * C)).2, (ouTo R C k).2 * (inTo (k + 2) (ouTo R C k).1 (R * C)).1)) := Lib.hid (fun k => rfl)
      obtain ⟨P, hP⟩ : ∃ P, P = R * C := ⟨_, rfl⟩
      have eP : (R : Int) * (C : Int) = (P : Int) := by rw [hP]; simp
      have hP1 : 1 ≤ P := by rw [hP]; exact Nat.mul_le_mul hR1 hC1
      have hP20 : P ≤ 20 := by rw [hP]; exact Nat.mul_le_mul hR4 hC5
      have HP := Lib.hid hP
      rw [← hP] at HDA HWF HST HOK
      rw [hb] at HI
      rw [hb2] at HJ
      clear hb hb2 hr0 hr1 hc0 hc1 hP
      go_enter Try.func24, Try.ntmps24
      go_wp2_with fail
      go_at_call 44
      refine HI.out.mono ?_
      rintro e w' ⟨rfl, rfl⟩
      go_wp2_with fail
      go_at_call 44
      refine HJ.out.mono ?_
      rintro e w' ⟨rfl, rfl⟩
      go_wp2
      have T0 : Hid (Two ((w.alloc (.cells #[] 3)).alloc (.cells #[] 3)) w.heap.size (.slice (some ⟨w.heap.size, 0, none⟩) 0 0) (.slice (some ⟨w.heap.size + 1, 0, none⟩) 0 0) (nuTo 0) []) := Lib.hid (two_empty w)
      have B0 : Hid (Below w.heap.size w ((w.alloc (.cells #[] 3)).alloc (.cells #[] 3))) := Lib.hid (((Below.refl _ w).alloc (Nat.le_refl _) _).alloc (by simp) _)
      obtain ⟨q0, hq0⟩ : ∃ q, q = Value.slice (some ⟨w.heap.size + 1, 0, none⟩) 0 0 := ⟨_, rfl⟩
      rw [← hq0] at T0 ⊢
      clear hq0
      go_loopw [6, 8] (fun v i wr => ∃ j : Nat, j + 1 ≤ P ∧ i = .int .i64 ((j : Int) + 2) ∧ Hid (Two wr w.heap.size v q0 (nuTo j) []) ∧ Hid (Below w.heap.size w wr)) (fun _ i _ => P + 2 - (intOf i).toNat)
      case atStart => exact ⟨0, hP1, rfl, T0, B0⟩
      case round =>
        obtain ⟨j, hj, rfl, HT, HB⟩ := hrel
        clear T0 B0
        have hz := HB.out.size
        by_cases hlt : j + 2 ≤ P
        · have hb1 : (nuTo j).length ≤ 1000000000 := by unfold nuTo; rw [length_upTo]; omega
          have i1 : (j : Int) + 2 ≤ (P : Int) := by omega
          go_wp2_with (at_builtin; refine wpList_appG rfl _ _ rfl wr _ _ _ _ rfl rfl HT.out.fst hz hb1 ?_; intro v' w5 hO hB5 hG5 hD5; have HT5 : Hid (Two w5 w.heap.size v' q0 (nuTo (j + 1)) []) := Lib.hid (HT.out.put (by unfold nuTo; rw [upTo_succ]; exact hO) hG5 hD5); have HB5 : Hid (Below w.heap.size w w5) := Lib.hid (HB.out.trans hB5); clear hO hB5 hG5 hD5)
          exact ⟨⟨j + 1, by omega, int_eq (by omega), HT5, HB5⟩, by simp [intOf]; omega⟩
        · have i1 : ¬ (j : Int) + 2 ≤ (P : Int) := by omega
          have HNP : Hid (j = P - 1) := Lib.hid (by omega)
          have HT1 : Hid (Two wr w.heap.size _ q0 (nuTo (P - 1)) (dnTo R C (0 * C))) := Lib.hid (by rw [← HNP.out, Nat.zero_mul]; exact HT.out)
          clear HT
          go_wp2
          go_loopw [7, 9] (fun v i wr => ∃ a : Nat, a ≤ R ∧ i = .int .i64 a ∧ Hid (Two wr w.heap.size _ v (nuTo (P - 1)) (dnTo R C (a * C))) ∧ Hid (Below w.heap.size w wr)) (fun _ i _ => R - (intOf i).toNat)
          case atStart => exact ⟨0, Nat.zero_le _, rfl, HT1, HB⟩
          case round =>
            obtain ⟨a, ha, rfl, HT, HB⟩ := hrel
            by_cases hlta : a < R
            · have i2 : (a : Int) < (R : Int) := by omega
              have haC : a * C + C ≤ P := by rw [HP.out, ← Nat.succ_mul]; exact Nat.mul_le_mul_right _ hlta
              have HTA : Hid (Two wr w.heap.size _ _ (nuTo (P - 1)) (dnTo R C (a * C + 0))) := HT
              clear HT
              go_wp2
              go_loopw [7, 10] (fun v i wr => ∃ b : Nat, b ≤ C ∧ i = .int .i64 b ∧ Hid (Two wr w.heap.size _ v (nuTo (P - 1)) (dnTo R C (a * C + b))) ∧ Hid (Below w.heap.size w wr)) (fun _ i _ => C - (intOf i).toNat)
              case atStart => exact ⟨0, Nat.zero_le _, rfl, HTA, HB⟩
              case round =>
                obtain ⟨b, hb, rfl, HT, HB⟩ := hrel
                clear HTA
                have hz := HB.out.size
                by_cases hltb : b < C
                · have i3 : (b : Int) < (C : Int) := by omega
                  have hb1 : (dnTo R C (a * C + b)).length ≤ 1000000000 := by unfold dnTo; rw [length_upTo]; omega
                  have HS : Hid (dnTo R C (a * C + (b + 1)) = dnTo R C (a * C + b) ++ [(R : Int) - (a : Int) + (C : Int) - (b : Int) - 1]) := Lib.hid (by
                    rw [← Nat.add_assoc]
                    unfold dnTo
                    rw [upTo_succ, show (a * C + b) / C = a by rw [Nat.mul_comm, Nat.mul_add_div (by omega), Nat.div_eq_of_lt hltb, Nat.add_zero], show (a * C + b) % C = b by rw [Nat.mul_comm, Nat.mul_add_mod, Nat.mod_eq_of_lt hltb]]
                    congr 2
                    omega)
                  go_wp2_with (at_builtin; refine wpList_appG rfl _ _ rfl wr _ _ _ _ rfl rfl HT.out.snd hz hb1 ?_; intro v' w5 hO hB5 hG5 hD5; have HT5 : Hid (Two w5 w.heap.size _ v' (nuTo (P - 1)) (dnTo R C (a * C + (b + 1)))) := Lib.hid (HT.out.swap.put (by rw [HS.out]; exact hO) hG5 hD5).swap; have HB5 : Hid (Below w.heap.size w w5) := Lib.hid (HB.out.trans hB5); clear hO hB5 hG5 hD5)
                  exact ⟨⟨b + 1, by omega, by go_num, HT5, HB5⟩, by simp [intOf]; omega⟩
                · obtain rfl : b = C := by omega
                  have HTA : Hid (Two wr w.heap.size _ _ (nuTo (P - 1)) (dnTo R b ((a + 1) * b))) := Lib.hid (by rw [Nat.succ_mul]; exact HT.out)
                  clear HT
                  go_wp2
                  exact ⟨⟨a + 1, by omega, by go_num, HTA, HB⟩, by simp [intOf]; omega⟩
            · obtain rfl : a = R := by omega
              have HTE : Hid (Two wr w.heap.size _ _ (nuTo (P - 1)) (asInts (ouTo a C 0).1)) := Lib.hid (by rw [← HP.out, HDA.out] at HT; exact HT.out)
              have hNL : (nuTo (P - 1)).length = P - 1 := by unfold nuTo; rw [length_upTo]
              have hDL : (asInts (ouTo a C 0).1).length = P := by rw [asInts_len]; exact (HOK.out 0).len
              obtain ⟨ap, cp, rfl⟩ := HTE.out.fst.any
              obtain ⟨gq, cq, rfl, _, _⟩ := HTE.out.snd.point (by rw [hDL]; exact hP1)
              rw [hNL, hDL] at HTE ⊢
              obtain ⟨N, hN⟩ : ∃ N, N = P - 1 := ⟨_, rfl⟩
              have HNN := Lib.hid hN
              rw [← hN] at HTE HWF ⊢
              have HNL : Hid ((nuTo N).length = N) := Lib.hid (by rw [hN]; exact hNL)
              clear HT HT1 hNL hDL hN
              go_wp2
              go_loopw [11, 61] (fun o i wr => ∃ k : Nat, k ≤ N ∧ i = .int .i64 k ∧ o = .int .i64 ((ouTo a C k).2 : Nat) ∧ Hid (Two wr w.heap.size (.slice ap N cp) (.slice (some ⟨gq, 0, none⟩) P cq) (nuTo N) (asInts (ouTo a C k).1)) ∧ Hid (Below w.heap.size w wr)) (fun _ i _ => N - (intOf i).toNat)
              case atStart => exact ⟨0, Nat.zero_le _, rfl, rfl, HTE, HB⟩
              case round =>
                obtain ⟨k, hk, rfl, rfl, HT, HB⟩ := hrel
                clear HTE
                by_cases hltk : k < N
                · obtain ⟨gp, cp', hv, _, _⟩ := HT.out.fst.point (by rw [HNL.out]; omega)
                  rw [HNL.out] at hv
                  injection hv with hv1 hv2 hv3
                  subst hv1
                  subst hv3
                  have e1 := HT.out.fst.cell HNL.out.symm k (by rw [HNL.out]; exact hltk)
                  rw [show (nuTo N).getD k 0 = (k : Int) + 2 from by unfold nuTo; rw [getD_upTo _ _ _ hltk]] at e1
                  have hok := HOK.out k
                  have hfew := HFEW.out k (by have := HNN.out; omega) (by rw [← HP.out]; have := HNN.out; omega)
                  have hfew2 := HFEW.out (k + 1) (by have := HNN.out; omega) (by rw [← HP.out]; have := HNN.out; omega)
                  have HST1 := Lib.hid (HST.out k)
                  have HIN := Lib.hid (fun j hj => in_ok (n := k + 2) (by omega) hok j hj)
                  obtain ⟨D, hD⟩ : ∃ D, D = (ouTo a C k).1 := ⟨_, rfl⟩
                  obtain ⟨o, ho⟩ : ∃ o, o = (ouTo a C k).2 := ⟨_, rfl⟩
                  rw [← hD] at HT HST1 HIN
                  rw [← ho] at hfew HST1 ⊢
                  have HINS : Hid (∀ j, inTo (k + 2) D (j + 1) = ((inTo (k + 2) D j).1 / Nat.gcd (inTo (k + 2) D j).1 ((inTo (k + 2) D j).2.getD j 0), (inTo (k + 2) D j).2.set j ((inTo (k + 2) D j).2.getD j 0 / Nat.gcd (inTo (k + 2) D j).1 ((inTo (k + 2) D j).2.getD j 0)))) := Lib.hid (fun j => rfl)
                  have i2 : (k : Int) < (N : Int) := by omega
                  have i3 : (0 : Int) ≤ (k : Int) := by omega
                  have hfw := Lib.hid hfew2
                  have hk20 : k ≤ 20 := by have := HNN.out; omega
                  have HT0 : Hid (Two wr w.heap.size (.slice (some ⟨gp, 0, none⟩) N cp) (.slice (some ⟨gq, 0, none⟩) P cq) (nuTo N) (asInts (inTo (k + 2) D 0).2)) := HT
                  clear hok hD ho hfew2 HT
                  go_wp2
                  go_loopw [13, 67] (fun n i wr => ∃ j : Nat, j ≤ P ∧ i = .int .i64 j ∧ n = .int .i64 ((inTo (k + 2) D j).1 : Nat) ∧ Hid (Two wr w.heap.size (.slice (some ⟨gp, 0, none⟩) N cp) (.slice (some ⟨gq, 0, none⟩) P cq) (nuTo N) (asInts (inTo (k + 2) D j).2)) ∧ Hid (Below w.heap.size w wr)) (fun _ i _ => P - (intOf i).toNat)
                  case atStart => exact ⟨0, Nat.zero_le _, rfl, int_eq (by simp [inTo]), HT0, HB⟩
                  case round =>
                    obtain ⟨j, hj, rfl, rfl, HT, HB⟩ := hrel
                    clear HT0
                    by_cases hltj : j < P
                    · obtain ⟨h1, h2, h3⟩ := HIN.out j hj
                      obtain ⟨h4, h5⟩ := h3.each j hltj
                      have HINJ := Lib.hid (HINS.out j)
                      have HTJ := HT
                      obtain ⟨E, hE⟩ : ∃ E, E = (inTo (k + 2) D j).2 := ⟨_, rfl⟩
                      obtain ⟨n, hn⟩ : ∃ n, n = (inTo (k + 2) D j).1 := ⟨_, rfl⟩
                      rw [← hE] at HT HINJ h3 h4 h5
                      rw [← hn] at HINJ h1 h2 ⊢
                      have hEL : (asInts E).length = P := by rw [asInts_len]; exact h3.len
                      have e2 := HT.out.snd.cell hEL.symm j (by rw [hEL]; exact hltj)
                      have f2 := HT.out.snd.free hEL.symm j
                      rw [getD_asInts] at e2
                      have HSET := Lib.hid (fun (m : Nat) (z : Nat) => (HT.out.drewN m).setSnd hEL.symm j (z : Int))
                      obtain ⟨x, hx⟩ : ∃ x, x = E.getD j 0 := ⟨_, rfl⟩
                      rw [← hx] at e2 h4 h5 HINJ
                      have HGC := Lib.hid (fiCommon_q n x (by omega) (by omega) (.inl h1))
                      have hgp : 0 < Nat.gcd n x := Nat.gcd_pos_of_pos_left _ h1
                      have hgl : Nat.gcd n x ≤ n := Nat.le_of_dvd h1 (Nat.gcd_dvd_left n x)
                      obtain ⟨d, hd⟩ : ∃ d, d = Nat.gcd n x := ⟨_, rfl⟩
                      rw [← hd] at HINJ HGC hgp hgl
                      obtain ⟨n2, hn2⟩ : ∃ y, y = n / d := ⟨_, rfl⟩
                      obtain ⟨x2, hx2⟩ : ∃ y, y = x / d := ⟨_, rfl⟩
                      have en : (n : Int) / (d : Int) = (n2 : Int) := by rw [hn2]; simp
                      have ex : (x : Int) / (d : Int) = (x2 : Int) := by rw [hx2]; simp
                      have hn2l : n2 ≤ n := by rw [hn2]; exact Nat.div_le_self _ _
                      have hx2l : x2 ≤ x := by rw [hx2]; exact Nat.div_le_self _ _
                      have hd0 : ¬ d = 0 := by omega
                      rw [← hn2, ← hx2] at HINJ
                      have HS1 : Hid ((inTo (k + 2) D (j + 1)).1 = n2 ∧ asInts (inTo (k + 2) D (j + 1)).2 = (asInts E).set j (x2 : Int)) := Lib.hid (by rw [HINJ.out]; exact ⟨rfl, (setInts E j x2).symm⟩)
                      have i4 : (0 : Int) ≤ (j : Int) := by omega
                      have i5 : (j : Int) < (P : Int) := by omega
                      have hgq : w.heap.size ≤ gq := (World.ownsRow.lt HT.out.snd gq rfl).1
                      clear h3 hE hn hEL hx hd hn2 hx2 hgp HTJ HIN
                      go_wp2_with fail
                      go_at_call 50
                      refine (HGC.out _).mono ?_
                      rintro e w2 ⟨rfl, m, rfl⟩
                      have e3 : (wr.drewN m).cell? ⟨gq, j, none⟩ = some (.int .i64 (x : Int)) := e2
                      have f3 : (wr.drewN m).frozen? ⟨gq, j, none⟩ = false := f2
                      have HT5 : Hid (Two ((wr.drewN m).setCell ⟨gq, j, none⟩ (.int .i64 (x2 : Int))) w.heap.size (.slice (some ⟨gp, 0, none⟩) N cp) (.slice (some ⟨gq, 0, none⟩) P cq) (nuTo N) (asInts (inTo (k + 2) D (j + 1)).2)) := Lib.hid (by rw [HS1.out.2]; exact HSET.out m x2)
                      have HB5 : Hid (Below w.heap.size w ((wr.drewN m).setCell ⟨gq, j, none⟩ (.int .i64 (x2 : Int)))) := Lib.hid ((below_drewN HB.out m).setCell (p := ⟨gq, j, none⟩) hgq _)
                      clear e2 f2 HSET HT HB
                      go_wp2
                      exact ⟨⟨j + 1, by omega, by go_num, int_eq (by rw [HS1.out.1]), HT5, HB5⟩, by simp [intOf]; omega⟩
                    · obtain rfl : j = P := by omega
                      have HS2 : Hid ((ouTo a C (k + 1)).1 = (inTo (k + 2) D j).2 ∧ (ouTo a C (k + 1)).2 = o * (inTo (k + 2) D j).1) := Lib.hid (by rw [HST1.out]; exact ⟨rfl, rfl⟩)
                      have hle := hfw.out
                      rw [HS2.out.2] at hle
                      obtain ⟨n, hn⟩ : ∃ n, n = (inTo (k + 2) D j).1 := ⟨_, rfl⟩
                      rw [← hn] at HS2 hle ⊢
                      obtain ⟨o2, ho2⟩ : ∃ y, y = o * n := ⟨_, rfl⟩
                      have eo : (o : Int) * (n : Int) = (o2 : Int) := by rw [ho2]; simp
                      rw [← ho2] at HS2 hle
                      clear hn ho2 HIN
                      go_wp2
                      exact ⟨⟨k + 1, by omega, by go_num, int_eq (by rw [HS2.out.2]), Lib.hid (by rw [HS2.out.1]; exact HT.out), HB⟩, by simp [intOf]; omega⟩
                · obtain rfl : k = N := by omega
                  go_wp2
                  go_ret2
                  exact ⟨by rw [H0.out.1, H0.out.2, HWF.out]; exact rfl, HB.out⟩

end Go.Proofs.Ytpoceonmlpnhlab
