/- Chapter 5: the model's NeverTogether. -/
import Derived.Test.YthnbimfdodfhoaaPb
import Derived.Test.YthnbimfdodfhoaaAppG
namespace Go.Proofs.Ythnbimfdodfhoaa
open Go.ChangeShapes Go.WideShapes Go.ChangeAt Go.RowKit
open Fo Pa

namespace Pa
/-- whether two never step together -/
def apartB (p q : Nat × Nat) : Bool := decide (Int.tmod ((p.2 : Int) - (q.2 : Int)) ((Nat.gcd p.1 q.1 : Nat) : Int) ≠ 0)
def rowTo (qs : List (Nat × Nat)) (i : Nat) : Nat → List (List Int)
  | 0 => []
  | k + 1 => if i < k ∧ apartB (qs.getD i (1, 0)) (qs.getD k (1, 0)) = true then rowTo qs i k ++ [[(i : Int), (k : Int)]] else rowTo qs i k
def nevTo (qs : List (Nat × Nat)) : Nat → List (List Int)
  | 0 => []
  | i + 1 => nevTo qs i ++ rowTo qs i qs.length
theorem rowTo_start (qs : List (Nat × Nat)) (i : Nat) : ∀ k, k ≤ i + 1 → rowTo qs i k = []
  | 0, _ => rfl
  | k + 1, h => by rw [rowTo, if_neg (fun h2 => by omega)]; exact rowTo_start qs i k (by omega)
theorem rowTo_yes {qs : List (Nat × Nat)} {i k : Nat} (h1 : i < k) (h : apartB (qs.getD i (1, 0)) (qs.getD k (1, 0)) = true) : rowTo qs i (k + 1) = rowTo qs i k ++ [[(i : Int), (k : Int)]] := by rw [rowTo, if_pos ⟨h1, h⟩]
theorem rowTo_no {qs : List (Nat × Nat)} {i k : Nat} (h : apartB (qs.getD i (1, 0)) (qs.getD k (1, 0)) = false) : rowTo qs i (k + 1) = rowTo qs i k := by rw [rowTo, if_neg (fun h2 => by rw [h] at h2; exact absurd h2.2 (by decide))]
theorem rowTo_len (qs : List (Nat × Nat)) (i : Nat) : ∀ k, (rowTo qs i k).length ≤ k
  | 0 => Nat.le_refl _
  | k + 1 => by
    have := rowTo_len qs i k
    rw [rowTo]
    split
    · rw [List.length_append, List.length_singleton]; omega
    · omega
theorem rowTo_two (qs : List (Nat × Nat)) (i : Nat) : ∀ k, ∀ x ∈ rowTo qs i k, x.length = 2
  | 0, x, h => by cases h
  | k + 1, x, h => by
    rw [rowTo] at h
    split at h
    · rcases List.mem_append.1 h with h | h
      · exact rowTo_two qs i k x h
      · rw [List.mem_singleton.1 h]; rfl
    · exact rowTo_two qs i k x h
theorem nevTo_len (qs : List (Nat × Nat)) : ∀ i, (nevTo qs i).length ≤ i * qs.length
  | 0 => by simp [nevTo]
  | i + 1 => by
    have := nevTo_len qs i
    have := rowTo_len qs i qs.length
    rw [nevTo, List.length_append, Nat.succ_mul]; omega
theorem nevTo_two (qs : List (Nat × Nat)) : ∀ i, ∀ x ∈ nevTo qs i, x.length = 2
  | 0, x, h => by cases h
  | i + 1, x, h => by
    rw [nevTo] at h
    rcases List.mem_append.1 h with h | h
    · exact nevTo_two qs i x h
    · exact rowTo_two qs i _ x h
def nevL (qs : List (Nat × Nat)) : List (List Int) := nevTo qs qs.length
def bothTo (qs : List (Nat × Nat)) (i k : Nat) : List (List Int) := nevTo qs i ++ rowTo qs i k
theorem bothTo_start (qs : List (Nat × Nat)) (i : Nat) : bothTo qs i (i + 1) = nevTo qs i := by unfold bothTo; rw [rowTo_start _ _ _ (Nat.le_refl _), List.append_nil]
theorem bothTo_end (qs : List (Nat × Nat)) (i : Nat) : bothTo qs i qs.length = nevTo qs (i + 1) := rfl
theorem bothTo_yes {qs : List (Nat × Nat)} {i k : Nat} (h1 : i < k) (h : apartB (qs.getD i (1, 0)) (qs.getD k (1, 0)) = true) : bothTo qs i (k + 1) = bothTo qs i k ++ [[(i : Int), (k : Int)]] := by unfold bothTo; rw [rowTo_yes h1 h, List.append_assoc]
theorem bothTo_no {qs : List (Nat × Nat)} {i k : Nat} (h : apartB (qs.getD i (1, 0)) (qs.getD k (1, 0)) = false) : bothTo qs i (k + 1) = bothTo qs i k := by unfold bothTo; rw [rowTo_no h]
theorem bothTo_len {qs : List (Nat × Nat)} (h : qs.length ≤ 6) {i k : Nat} (hi : i ≤ 6) (hk : k ≤ 6) : (bothTo qs i k).length ≤ 42 := by
  unfold bothTo
  have h1 := nevTo_len qs i
  have h2 := rowTo_len qs i k
  have h3 : i * qs.length ≤ 6 * 6 := Nat.mul_le_mul hi h
  rw [List.length_append]; omega
theorem block_cell {w : World} {g : Nat} {cs : Array Value} {t : TypeId} (h : ∃ fr, w.heap[g]? = some (.cells cs t fr)) (i : Nat) (u : Value) (hi : cs[i]? = some u) : w.cell? ⟨g, i, none⟩ = some u := by
  obtain ⟨fr, h⟩ := h
  simp [World.cell?, h, hi]
end Pa
def outNeverTogether_0 (ps : List RPace) : List (List Int) := if goodP ps then nevL (toQ ps) else []
def outNeverTogether_1 (ps : List RPace) : Bool := goodP ps
theorem lenNeverTogether_0 (ps : List RPace) : (outNeverTogether_0 ps).length ≤ 1000000000 ∧ total (outNeverTogether_0 ps) ≤ 1000000000 := by
  unfold outNeverTogether_0
  split
  · rename_i h
    refine fits_twos ?_ (nevTo_two _ _)
    have := good_len h
    have h1 := nevTo_len (toQ ps) (toQ ps).length
    unfold nevL
    rw [toQ_len] at *
    have : ps.length * ps.length ≤ 6 * 6 := Nat.mul_le_mul this this
    omega
  · exact ⟨by simp, by simp [total, tot]⟩

set_option maxHeartbeats 4000000 in
theorem specNeverTogether_any (w : World) (a : Option Addr) (len cap : Nat) (ps : List RPace) (hl : len ≤ 1048576) (hc : CamePace w a len ps) :
    Calls Try.prog 28 #[.slice a len cap] w fun e w' => ∃ v0, e = .returned (.tuple #[v0, .bool (outNeverTogether_1 ps)]) ∧ OwnSS w' w.heap.size v0 (outNeverTogether_0 ps) ∧ Below w.heap.size w w' := by
  have HG := Lib.hid (spGood_any w a len cap ps hl hc)
  have HC0 := Lib.hid hc
  clear hc
  rcases hb : goodP ps with _ | _
  · have H0 : Hid (outNeverTogether_0 ps = [] ∧ outNeverTogether_1 ps = false) := Lib.hid (by unfold outNeverTogether_0 outNeverTogether_1; rw [hb]; exact ⟨rfl, rfl⟩)
    rw [hb] at HG
    clear hb
    go_enter Try.func28, Try.ntmps28
    go_wp2_with (go_at_call 45; refine HG.out.mono ?_; rintro e w2 ⟨rfl, b2⟩; have B2 := Lib.hid b2; clear b2)
    go_ret2
    exact ⟨_, by rw [H0.out.2]; exact rfl, by rw [H0.out.1]; exact ownSS_nil _ _, B2.out⟩
  · obtain ⟨qs, rfl, hgq⟩ := good_nat hb
    have H0 : Hid (outNeverTogether_0 (asP qs) = nevL qs ∧ outNeverTogether_1 (asP qs) = true) := Lib.hid (by unfold outNeverTogether_0 outNeverTogether_1; rw [hb, toQ_asP]; exact ⟨rfl, rfl⟩)
    have hc2 := CameQ.of HC0.out
    have HZ : Hid (qs.length = len) := Lib.hid hc2.1
    have HC := Lib.hid hc2
    have HE := Lib.hid hgq
    have h6 : len ≤ 6 := by have := hgq.few; have := hc2.1; omega
    have h1 : 1 ≤ len := by have := hgq.pos; have := hc2.1; omega
    rw [hb] at HG
    obtain ⟨b, off, rfl, hx⟩ := hc2.2 (by omega)
    clear hb hgq hc2 HC0 hx
    go_enter Try.func28, Try.ntmps28
    go_wp2_with (go_at_call 45; refine HG.out.mono ?_; rintro e w2 ⟨rfl, b2⟩; have B2 := Lib.hid b2; clear b2)
    go_loopw [4, 13] (fun v i wr => ∃ k : Nat, k ≤ len ∧ i = .int .i64 (k : Int) ∧ Hid (OwnSS wr w.heap.size v (nevTo qs k)) ∧ Hid (Below w.heap.size w wr)) (fun _ i _ => len - (intOf i).toNat)
    case atStart => exact ⟨0, Nat.zero_le _, rfl, Lib.hid (ownSS_nil _ _), B2⟩
    case round =>
      obtain ⟨i, hi, rfl, HO, HB⟩ := hrel
      by_cases hlt : i < len
      · have HCR := Lib.hid (HC.out.below HB.out)
        have HCELL : Hid (∀ k, k < len → ∀ w2, Below w.heap.size w w2 → w2.cell? ⟨b, off + k * 2, none⟩ = some (.int .i64 ((qs.getD k (1, 0)).1 : Nat)) ∧ w2.cell? ⟨b, off + k * 2 + 1, none⟩ = some (.int .i64 ((qs.getD k (1, 0)).2 : Nat))) := Lib.hid (fun k hk w2 h => by
          obtain ⟨b', off', hbo, hcell⟩ := (HC.out.below h).2 (by omega)
          cases hbo
          exact hcell k hk)
        obtain ⟨e0, e1⟩ := HCELL.out i hlt wr HB.out
        obtain ⟨hp1, hp2, hp3⟩ := HE.out.all i
        have HAP : Hid (∀ k, apartB (qs.getD i (1, 0)) (qs.getD k (1, 0)) = decide (Int.tmod (((qs.getD i (1, 0)).2 : Int) - ((qs.getD k (1, 0)).2 : Int)) ((Nat.gcd (qs.getD i (1, 0)).1 (qs.getD k (1, 0)).1 : Nat) : Int) ≠ 0)) := Lib.hid (fun k => rfl)
        obtain ⟨x, hx⟩ : ∃ x, x = (qs.getD i (1, 0)).1 := ⟨_, rfl⟩
        obtain ⟨y, hy⟩ : ∃ x, x = (qs.getD i (1, 0)).2 := ⟨_, rfl⟩
        rw [← hx] at e0 hp1 hp2 hp3 HAP
        rw [← hy] at e1 hp3 HAP
        have i1 : (0 : Int) ≤ (i : Int) := by omega
        have i2 : (i : Int) < (len : Int) := by omega
        have HBA : Hid (Below w.heap.size w (wr.alloc (.cells #[.int .i64 (x : Int), .int .i64 (y : Int)] 48))) := Lib.hid (HB.out.alloc HB.out.size _)
        have HOA : Hid (OwnSS (wr.alloc (.cells #[.int .i64 (x : Int), .int .i64 (y : Int)] 48)) w.heap.size _ (bothTo qs i (i + 1))) := Lib.hid (by rw [bothTo_start]; exact HO.out.below ((Below.refl _ _).alloc (Nat.le_refl _) _) (Nat.le_refl _))
        have HPB : Hid (∃ fr, (wr.alloc (.cells #[.int .i64 (x : Int), .int .i64 (y : Int)] 48)).heap[wr.heap.size]? = some (.cells #[.int .i64 (x : Int), .int .i64 (y : Int)] 48 fr)) := Lib.hid ⟨_, heap_alloc_new wr _⟩
        obtain ⟨g, hg⟩ : ∃ g, g = wr.heap.size := ⟨_, rfl⟩
        clear hx hy HO
        go_wp2
        obtain ⟨wo, rfl⟩ : ∃ wo : World, wo = wr := ⟨_, rfl⟩
        rw [← hg] at HPB ⊢
        clear hg
        go_loopw [4, 7] (fun v c wr => ∃ k : Nat, i < k ∧ k ≤ len ∧ c = .int .i64 (k : Int) ∧ Hid (OwnSS wr w.heap.size v (bothTo qs i k)) ∧ Hid (Below w.heap.size w wr) ∧ Hid (∃ fr, wr.heap[g]? = some (.cells #[.int .i64 (x : Int), .int .i64 (y : Int)] 48 fr))) (fun _ c _ => len - (intOf c).toNat)
        case atStart => exact ⟨i + 1, by omega, by omega, by go_num, HOA, HBA, HPB⟩
        case round =>
          obtain ⟨k, hik, hk, rfl, HO, HB2, HP⟩ := hrel
          by_cases hlt2 : k < len
          · obtain ⟨e2, e3⟩ := HCELL.out k hlt2 wr HB2.out
            have e4 := block_cell HP.out 0 _ rfl
            have e5 := block_cell HP.out 1 _ rfl
            obtain ⟨hr1, hr2, hr3⟩ := HE.out.all k
            have HAK := Lib.hid (HAP.out k)
            have HSY := Lib.hid (@bothTo_yes qs i k hik)
            have HSN := Lib.hid (@bothTo_no qs i k)
            rw [HAK.out] at HSY HSN
            clear HAK
            obtain ⟨x2, hx2⟩ : ∃ x, x = (qs.getD k (1, 0)).1 := ⟨_, rfl⟩
            obtain ⟨y2, hy2⟩ : ∃ x, x = (qs.getD k (1, 0)).2 := ⟨_, rfl⟩
            rw [← hx2] at e2 hr1 hr2 hr3 HSY HSN
            rw [← hy2] at e3 hr3 HSY HSN
            have HGC := Lib.hid (fun w2 => foCommon_q x x2 (by omega) (by omega) (.inr hr1) w2)
            have hg0 : ¬ Nat.gcd x x2 = 0 := fun h => by have := Nat.eq_zero_of_gcd_eq_zero_right h; omega
            obtain ⟨d, hd⟩ : ∃ d, d = Nat.gcd x x2 := ⟨_, rfl⟩
            rw [← hd] at HGC hg0 HSY HSN
            have k1 : (0 : Int) ≤ (k : Int) := by omega
            have k2 : (k : Int) < (len : Int) := by omega
            have hz := HB2.out.size
            have hbl : (bothTo qs i k).length ≤ 1000000000 := Nat.le_trans (bothTo_len (by rw [HZ.out]; exact h6) (by omega) (by omega)) (by decide)
            have HNB : Hid (∀ u, OwnSS wr w.heap.size u (bothTo qs i k) → u.ownBlock ≠ some g) := Lib.hid (fun u h => by obtain ⟨vs, S⟩ := h; exact own_not S.own HP.out (by decide))
            have HNB2 := Lib.hid (HNB.out _ HO.out)
            have hgl : g < wr.heap.size := World.block_lt_of_cell? wr _ e4
            clear hx2 hy2 hd HNB
            by_cases hne : Int.tmod ((y : Int) - (y2 : Int)) (d : Int) = 0
            · have HS := Lib.hid (HSN.out (decide_eq_false (fun h => h hne)))
              clear HSY HSN
              go_wp2_with fail
              go_quiet ((go_at_call 56; exact Calls.quiet_of (HGC.out _)))
              go_wp2
              go_roundw
              case rel => exact ⟨k + 1, by omega, by omega, by go_num, Lib.hid (by rw [HS.out]; exact HO.out.drewN _), Lib.hid (HB2.out.trans ((drewN_down _ _).mono hz)), HP⟩
              case measure => simp [intOf]; omega
            · have HS := Lib.hid (HSY.out (decide_eq_true hne))
              have hq : (Int.tmod ((y : Int) - (y2 : Int)) (d : Int) != 0) = true := by rw [bne_iff_ne]; exact hne
              clear HSY HSN
              go_wp2_with fail
              go_quiet ((go_at_call 56; exact Calls.quiet_of (HGC.out _)))
              go_wp2_with (at_builtin; refine wpList_appRowG rfl _ _ rfl _ (wr.drewN _) _ _ _ _ _ _ rfl rfl (by simp) (HO.out.drewN _) ((Below.refl _ _).alloc (Nat.le_refl _) _) (own_two (wr.drewN _) _ _) hz hbl ?_; intro v' w5 hO hB5 hG5; have HO5 : Hid (OwnSS w5 w.heap.size v' (bothTo qs i (k + 1))) := Lib.hid (by rw [HS.out]; exact hO); have HB5 : Hid (Below w.heap.size w w5) := Lib.hid ((HB2.out.trans ((drewN_down _ _).mono hz)).alloc hz _ |>.trans hB5); have HP5 : Hid (∃ fr, w5.heap[g]? = some (.cells #[.int .i64 (x : Int), .int .i64 (y : Int)] 48 fr)) := Lib.hid (by obtain ⟨fr, hfr⟩ := HP.out; exact ⟨fr, ((hG5.block g (by simp; omega) (fun e => HNB2.out e.symm)).trans (heap_alloc_old _ _ hgl)).trans hfr⟩); clear hO hB5 hG5)
              go_roundw
              case rel => exact ⟨k + 1, by omega, by omega, by go_num, HO5, HB5, HP5⟩
              case measure => simp [intOf]; omega
          · have HO5 : Hid (OwnSS wr w.heap.size _ (nevTo qs (i + 1))) := Lib.hid (by rw [← bothTo_end, HZ.out, show len = k by omega]; exact HO.out)
            go_wp2
            go_roundw
            case rel => exact ⟨i + 1, by omega, by go_num, HO5, HB2⟩
            case measure => simp [intOf]; omega
      · have HF : Hid (nevTo qs i = nevL qs) := Lib.hid (by unfold nevL; rw [HZ.out, show i = len by omega])
        go_wp2
        go_ret2
        exact ⟨_, by rw [H0.out.2]; exact rfl, by rw [H0.out.1, ← HF.out]; exact HO.out, HB.out⟩

end Go.Proofs.Ythnbimfdodfhoaa
