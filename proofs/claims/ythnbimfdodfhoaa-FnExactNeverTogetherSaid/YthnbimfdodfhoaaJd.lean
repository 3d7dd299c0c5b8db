/- Chapter 5, the program: NeverTogether. -/
import Derived.Test.YthnbimfdodfhoaaJb
import Derived.Test.YthnbimfdodfhoaaPg
namespace Go.Proofs.Ythnbimfdodfhoaa
open Go.ChangeShapes Go.WideShapes Go.ChangeAt Go.RowKit
open Fo Pa

namespace Pa
theorem bezout : ∀ (b a : Nat), ∃ u v : Int, ((Nat.gcd b a : Nat) : Int) = (b : Int) * u + (a : Int) * v := by
  intro b
  induction b using Nat.strongRecOn with
  | _ b ih =>
    intro a
    rcases Nat.eq_zero_or_pos b with rfl | hb
    · exact ⟨0, 1, by simp⟩
    · obtain ⟨u, v, h⟩ := ih (a % b) (Nat.mod_lt _ hb) b
      refine ⟨v - (a / b : Nat) * u, u, ?_⟩
      rw [Nat.gcd_rec, h]
      have e : ((a % b : Nat) : Int) = (a : Int) - (b : Int) * ((a / b : Nat) : Int) := by
        have := Nat.mod_add_div a b
        have h2 : ((a % b : Nat) : Int) + (b : Int) * ((a / b : Nat) : Int) = (a : Int) := by rw [← Int.natCast_mul, ← Int.natCast_add, this]
        omega
      rw [e, Int.sub_mul, Int.mul_sub, Int.mul_assoc]
      omega
theorem emod_eq_of {n y x k : Int} (h0 : 0 ≤ y) (h : y < x) (e : n = y + x * k) : n % x = y := by
  rw [e, Int.add_mul_emod_self_left, Int.emod_eq_of_lt h0 h]
theorem met_two {x y x2 y2 : Nat} (h1 : y < x) (h2 : y2 < x2) : (metO [(x, y), (x2, y2)]).isSome = !apartB (x, y) (x2, y2) := by
  have hS : ∀ n, Sat [x, x2] [y, y2] n 2 ↔ n % x = y ∧ n % x2 = y2 := by
    intro n
    constructor
    · intro h; exact ⟨h 0 (by omega), h 1 (by omega)⟩
    · rintro ⟨a, b⟩ i hi
      rcases Nat.lt_or_ge i 1 with h | h
      · obtain rfl : i = 0 := by omega
        exact a
      · obtain rfl : i = 1 := by omega
        exact b
  have hgx : Nat.gcd x x2 ∣ x := Nat.gcd_dvd_left _ _
  have hgx2 : Nat.gcd x x2 ∣ x2 := Nat.gcd_dvd_right _ _
  have hM : metO [(x, y), (x2, y2)] = leastO [x, x2] [y, y2] 2 := rfl
  rw [hM]
  unfold apartB
  simp only
  by_cases hz : Int.tmod ((y : Int) - (y2 : Int)) ((Nat.gcd x x2 : Nat) : Int) = 0
  · rw [decide_eq_false (fun h => h hz), Bool.not_false]
    obtain ⟨t, ht⟩ := Int.dvd_of_tmod_eq_zero hz
    obtain ⟨u, v, huv⟩ := bezout x x2
    have hLx : x ∣ lcmTo [x, x2] 2 := col_dvd [x, x2] 0 2 (by omega)
    have hLx2 : x2 ∣ lcmTo [x, x2] 2 := col_dvd [x, x2] 1 2 (by omega)
    have hL : 1 ≤ lcmTo [x, x2] 2 := by
      refine Nat.pos_of_ne_zero fun h => ?_
      have : Nat.lcm (Nat.lcm 1 x) x2 = 0 := h
      rw [Nat.lcm_eq_zero_iff, Nat.lcm_eq_zero_iff] at this
      omega
    obtain ⟨L, hLe⟩ : ∃ L, L = lcmTo [x, x2] 2 := ⟨_, rfl⟩
    rw [← hLe] at hLx hLx2 hL
    obtain ⟨n0, hn0⟩ : ∃ n0 : Int, n0 = (y : Int) + (x : Int) * (u * -t) := ⟨_, rfl⟩
    have hn1 : n0 = (y2 : Int) + (x2 : Int) * (v * t) := by
      have e1 : (y : Int) = (y2 : Int) + ((x : Int) * u + (x2 : Int) * v) * t := by rw [← huv, ← ht]; omega
      have e2 : ((x : Int) * u + (x2 : Int) * v) * t = (x : Int) * (u * t) + (x2 : Int) * (v * t) := by rw [Int.add_mul, Int.mul_assoc, Int.mul_assoc]
      have e3 : (x : Int) * (u * -t) = -((x : Int) * (u * t)) := by rw [Int.mul_neg, Int.mul_neg]
      rw [hn0, e3]
      omega
    have k1 := emod_eq_of (by omega) (by omega : (y : Int) < x) hn0
    have k2 := emod_eq_of (by omega) (by omega : (y2 : Int) < x2) hn1
    have hp : 0 ≤ n0 % (L : Int) := Int.emod_nonneg _ (by omega)
    obtain ⟨n, hn⟩ : ∃ n : Nat, n0 % (L : Int) = (n : Int) := ⟨(n0 % (L : Int)).toNat, by omega⟩
    have hlt : n < L := by have := Int.emod_lt_of_pos n0 (show (0 : Int) < (L : Int) by omega); omega
    have m1 : ((n % x : Nat) : Int) = (y : Int) := by rw [Int.natCast_emod, ← hn, Int.emod_emod_of_dvd _ (Int.natCast_dvd_natCast.2 hLx), k1]
    have m2 : ((n % x2 : Nat) : Int) = (y2 : Int) := by rw [Int.natCast_emod, ← hn, Int.emod_emod_of_dvd _ (Int.natCast_dvd_natCast.2 hLx2), k2]
    unfold leastO
    rw [List.find?_isSome]
    exact ⟨n, List.mem_range.2 (by rw [← hLe]; exact hlt), satB_iff.2 ((hS n).2 ⟨by omega, by omega⟩)⟩
  · rw [decide_eq_true hz, Bool.not_true, leastO_none (fun m hm => hz ?_)]
    · rfl
    · obtain ⟨a, b⟩ := (hS m).1 hm
      refine Int.tmod_eq_zero_of_dvd ?_
      have d1 : ((Nat.gcd x x2 : Nat) : Int) ∣ (m : Int) - (y : Int) := by
        have := Nat.dvd_sub_mod (n := x) m
        rw [a] at this
        have hle : y ≤ m := by rw [← a]; exact Nat.mod_le _ _
        have h3 := Int.natCast_dvd_natCast.2 (Nat.dvd_trans hgx this)
        rwa [Int.natCast_sub hle] at h3
      have d2 : ((Nat.gcd x x2 : Nat) : Int) ∣ (m : Int) - (y2 : Int) := by
        have := Nat.dvd_sub_mod (n := x2) m
        rw [b] at this
        have hle : y2 ≤ m := by rw [← b]; exact Nat.mod_le _ _
        have h3 := Int.natCast_dvd_natCast.2 (Nat.dvd_trans hgx2 this)
        rwa [Int.natCast_sub hle] at h3
      have := Int.dvd_sub d2 d1
      rwa [show (m : Int) - (y2 : Int) - ((m : Int) - (y : Int)) = (y : Int) - (y2 : Int) by omega] at this
end Pa

theorem good_two {x y x2 y2 : Nat} (h1 : 1 ≤ x ∧ x ≤ 60 ∧ y < x) (h2 : 1 ≤ x2 ∧ x2 ≤ 60 ∧ y2 < x2) : GoodQ [(x, y), (x2, y2)] :=
  ⟨by simp, by simp, fun k hk => by
    simp only [List.length_cons, List.length_nil] at hk
    rcases Nat.lt_or_ge k 1 with h | h
    · obtain rfl : k = 0 := by omega
      exact h1
    · obtain rfl : k = 1 := by omega
      exact h2⟩
theorem came_two {w : World} {g x y x2 y2 : Nat} (h : ∃ fr, w.heap[g]? = some (.cells #[.int .i64 (x : Int), .int .i64 (y : Int), .int .i64 (x2 : Int), .int .i64 (y2 : Int)] 48 fr)) : CameQ w (some ⟨g, 0, none⟩) 2 [(x, y), (x2, y2)] := by
  refine ⟨rfl, fun _ => ⟨g, 0, rfl, fun k hk => ?_⟩⟩
  rcases Nat.lt_or_ge k 1 with h1 | h1
  · obtain rfl : k = 0 := by omega
    exact ⟨block_cell h 0 _ rfl, block_cell h 1 _ rfl⟩
  · obtain rfl : k = 1 := by omega
    exact ⟨block_cell h 2 _ rfl, block_cell h 3 _ rfl⟩
set_option maxHeartbeats 4000000 in
theorem implNeverTogether_any (w : World) (a : Option Addr) (len cap : Nat) (ps : List RPace) (hl : len ≤ 1048576) (hc : CamePace w a len ps) :
    Calls Try.prog 29 #[.slice a len cap] w fun e w' => ∃ v0, e = .returned (.tuple #[v0, .bool (outNeverTogether_1 ps)]) ∧ OwnSS w' w.heap.size v0 (outNeverTogether_0 ps) ∧ Below w.heap.size w w' := by
  have HG := Lib.hid (arePaces_any w a len cap ps hl hc)
  have HC0 := Lib.hid hc
  clear hc
  rcases hb : goodP ps with _ | _
  · have H0 : Hid (outNeverTogether_0 ps = [] ∧ outNeverTogether_1 ps = false) := Lib.hid (by unfold outNeverTogether_0 outNeverTogether_1; rw [hb]; exact ⟨rfl, rfl⟩)
    rw [hb] at HG
    clear hb
    go_enter Try.func29, Try.ntmps29
    go_wp2_with (go_at_call 16; refine HG.out.mono ?_; rintro e w2 ⟨rfl, b2⟩; have B2 := Lib.hid b2; clear b2)
    go_ret2
    exact ⟨_, by rw [H0.out.2]; exact rfl, by rw [H0.out.1]; exact ownSS_nil _ _, B2.out⟩
  · obtain ⟨qs, rfl, hgq⟩ := good_nat hb
    have H0 : Hid (outNeverTogether_0 (asP qs) = nevL qs ∧ outNeverTogether_1 (asP qs) = true) := Lib.hid (by unfold outNeverTogether_0 outNeverTogether_1; rw [hb, toQ_asP]; exact ⟨rfl, rfl⟩)
    have hc2 := CameQ.of HC0.out
    have HZ : Hid (qs.length = len) := Lib.hid hc2.1
    have HC := Lib.hid hc2
    have HE := Lib.hid hgq
    have h6 : len ≤ 6 := by have := hgq.few; have := hc2.1; omega
    have h1 : 1 ≤ len := by have := hgq.pos; have := hc2.1; omega
    rw [hb] at HG
    obtain ⟨b, off, rfl, hx⟩ := hc2.2 (by omega)
    clear hb hgq hc2 HC0 hx
    go_enter Try.func29, Try.ntmps29
    go_wp2_with (go_at_call 16; refine HG.out.mono ?_; rintro e w2 ⟨rfl, b2⟩; have B2 := Lib.hid b2; clear b2)
    go_loopw [4, 14] (fun v i wr => ∃ k : Nat, k ≤ len ∧ i = .int .i64 (k : Int) ∧ Hid (OwnSS wr w.heap.size v (nevTo qs k)) ∧ Hid (Below w.heap.size w wr)) (fun _ i _ => len - (intOf i).toNat)
    case atStart => exact ⟨0, Nat.zero_le _, rfl, Lib.hid (ownSS_nil _ _), B2⟩
    case round =>
      obtain ⟨i, hi, rfl, HO, HB⟩ := hrel
      by_cases hlt : i < len
      · have HCELL : Hid (∀ k, k < len → ∀ w2, Below w.heap.size w w2 → w2.cell? ⟨b, off + k * 2, none⟩ = some (.int .i64 ((qs.getD k (1, 0)).1 : Nat)) ∧ w2.cell? ⟨b, off + k * 2 + 1, none⟩ = some (.int .i64 ((qs.getD k (1, 0)).2 : Nat))) := Lib.hid (fun k hk w2 h => by
          obtain ⟨b', off', hbo, hcell⟩ := (HC.out.below h).2 (by omega)
          cases hbo
          exact hcell k hk)
        have hp := HE.out.all i
        have HAP : Hid (∀ k x2 y2, x2 = (qs.getD k (1, 0)).1 → y2 = (qs.getD k (1, 0)).2 → apartB (qs.getD i (1, 0)) (qs.getD k (1, 0)) = apartB ((qs.getD i (1, 0)).1, (qs.getD i (1, 0)).2) (x2, y2)) := Lib.hid (fun k x2 y2 h1 h2 => by rw [h1, h2])
        have HCI := Lib.hid (fun w2 h => HCELL.out i hlt w2 h)
        obtain ⟨x, hx⟩ : ∃ x, x = (qs.getD i (1, 0)).1 := ⟨_, rfl⟩
        obtain ⟨y, hy⟩ : ∃ x, x = (qs.getD i (1, 0)).2 := ⟨_, rfl⟩
        rw [← hx] at HCI hp HAP
        rw [← hy] at HCI hp HAP
        have HP := Lib.hid hp
        have i1 : (0 : Int) ≤ (i : Int) := by omega
        have i2 : (i : Int) < (len : Int) := by omega
        have HOA : Hid (OwnSS wr w.heap.size _ (bothTo qs i (i + 1))) := Lib.hid (by rw [bothTo_start]; exact HO.out)
        clear hx hy HO hp
        go_wp2
        obtain ⟨wo, rfl⟩ : ∃ wo : World, wo = wr := ⟨_, rfl⟩
        go_loopw [4, 6] (fun v c wr => ∃ k : Nat, i < k ∧ k ≤ len ∧ c = .int .i64 (k : Int) ∧ Hid (OwnSS wr w.heap.size v (bothTo qs i k)) ∧ Hid (Below w.heap.size w wr)) (fun _ c _ => len - (intOf c).toNat)
        case atStart => exact ⟨i + 1, by omega, by omega, by go_num, HOA, HB⟩
        case round =>
          obtain ⟨k, hik, hk, rfl, HO, HB2⟩ := hrel
          by_cases hlt2 : k < len
          · have HR : Hid _ := Lib.hid (HE.out.all k)
            have HAK := Lib.hid (HAP.out k)
            have HSY := Lib.hid (@bothTo_yes qs i k hik)
            have HSN := Lib.hid (@bothTo_no qs i k)
            have HCK := Lib.hid (fun w2 h => HCELL.out k hlt2 w2 h)
            obtain ⟨x2, hx2⟩ : ∃ x, x = (qs.getD k (1, 0)).1 := ⟨_, rfl⟩
            obtain ⟨y2, hy2⟩ : ∃ x, x = (qs.getD k (1, 0)).2 := ⟨_, rfl⟩
            have hak := HAK.out x2 y2 hx2 hy2
            rw [hak] at HSY HSN
            rw [← hx2, ← hy2] at HCK HR
            have HFT : Hid (∀ (W : World) (g : Nat), (∃ fr, W.heap[g]? = some (.cells #[.int .i64 (x : Int), .int .i64 (y : Int), .int .i64 (x2 : Int), .int .i64 (y2 : Int)] 48 fr)) →
                Calls Try.prog 53 #[.slice (some ⟨g, 0, none⟩) 2 2] W fun e w' => e = .returned (.tuple #[.int .i64 (leastOr (metO [(x, y), (x2, y2)])), .bool (!apartB (x, y) (x2, y2))]) ∧ Below W.heap.size W w') := Lib.hid (fun W g h => by
              have := firstTogether_any W (some ⟨g, 0, none⟩) 2 2 [(x, y), (x2, y2)] (good_two HP.out HR.out) (came_two h)
              rwa [met_two HP.out.2.2 HR.out.2.2] at this)
            obtain ⟨c0, c1⟩ := HCI.out wr HB2.out
            obtain ⟨d0, d1⟩ := HCK.out wr HB2.out
            obtain ⟨L, hL⟩ : ∃ L, L = leastOr (metO [(x, y), (x2, y2)]) := ⟨_, rfl⟩
            rw [← hL] at HFT
            obtain ⟨t, ht⟩ : ∃ t, t = apartB (x, y) (x2, y2) := ⟨_, rfl⟩
            rw [← ht] at HFT HSY HSN
            have k1 : (0 : Int) ≤ (k : Int) := by omega
            have k2 : (k : Int) < (len : Int) := by omega
            have hz := HB2.out.size
            have hbl : (bothTo qs i k).length ≤ 1000000000 := Nat.le_trans (bothTo_len (by rw [HZ.out]; exact h6) (by omega) (by omega)) (by decide)
            have HKEEP : Hid (∀ (o : Obj) (w5 : World), Below (wr.alloc o).heap.size (wr.alloc o) w5 → Below w.heap.size w w5 ∧ OwnSS w5 w.heap.size _ (bothTo qs i k)) := Lib.hid (fun o w5 h5 =>
              ⟨(HB2.out.alloc hz o).trans (h5.mono (HB2.out.alloc hz o).size), (HO.out.below ((Below.refl _ _).alloc (Nat.le_refl _) _) (Nat.le_refl _)).below h5 (Nat.le_refl _)⟩)
            have HFW := Lib.hid (HFT.out (wr.alloc (.cells #[.int .i64 (x : Int), .int .i64 (y : Int), .int .i64 (x2 : Int), .int .i64 (y2 : Int)] 48)).drew wr.heap.size ⟨_, heap_alloc_new wr _⟩)
            clear hx2 hy2 hak HAK hL ht
            go_wp2_with fail
            go_region_held_law (fun w' => w'.cell? ⟨b, off + i * 2, none⟩ = some (.int .i64 (x : Int)) ∧ w'.cell? ⟨b, off + i * 2 + 1, none⟩ = some (.int .i64 (y : Int)) ∧ w'.cell? ⟨b, off + k * 2, none⟩ = some (.int .i64 (x2 : Int)) ∧ w'.cell? ⟨b, off + k * 2 + 1, none⟩ = some (.int .i64 (y2 : Int))) (first | go_keep | exact ⟨(HCI.out _ (HKEEP.out _ _ ⟨b5.os, b5.tape, b5.output, b5.size, b5.block⟩).1).1, (HCI.out _ (HKEEP.out _ _ ⟨b5.os, b5.tape, b5.output, b5.size, b5.block⟩).1).2, HCK.out _ (HKEEP.out _ _ ⟨b5.os, b5.tape, b5.output, b5.size, b5.block⟩).1⟩)
              ((go_at_call 53; refine HFW.out.mono ?_; rintro e w5 ⟨rfl, b5⟩))
            have HKK := Lib.hid (HKEEP.out _ w5 ⟨b5.os, b5.tape, b5.output, b5.size, b5.block⟩)
            have HB5 : Hid (Below w.heap.size w w5) := Lib.hid HKK.out.1
            have HO5 : Hid (OwnSS w5 w.heap.size _ (bothTo qs i k)) := Lib.hid HKK.out.2
            clear b5 HKEEP HKK
            cases t with
            | false =>
              have HS := Lib.hid (HSN.out rfl)
              clear HSY HSN
              go_wp2
              go_roundw
              case rel => exact ⟨k + 1, by omega, by omega, by go_num, Lib.hid (by rw [HS.out]; exact HO5.out), HB5⟩
              case measure => simp [intOf]; omega
            | true =>
              have HS := Lib.hid (HSY.out rfl)
              have hz5 := HB5.out.size
              clear HSY HSN
              go_wp2_with (at_builtin; refine wpList_appRow rfl _ _ rfl _ w5 _ _ _ _ _ _ rfl rfl (by simp) HO5.out ((Below.refl _ _).alloc (Nat.le_refl _) _) (own_two w5 _ _) hz5 hbl ?_; intro v' w6 hO hB6; have HO6 : Hid (OwnSS w6 w.heap.size v' (bothTo qs i (k + 1))) := Lib.hid (by rw [HS.out]; exact hO); have HB6 : Hid (Below w.heap.size w w6) := Lib.hid ((HB5.out.alloc hz5 _).trans hB6); clear hO hB6)
              go_roundw
              case rel => exact ⟨k + 1, by omega, by omega, by go_num, HO6, HB6⟩
              case measure => simp [intOf]; omega
          · have HO5 : Hid (OwnSS wr w.heap.size _ (nevTo qs (i + 1))) := Lib.hid (by rw [← bothTo_end, HZ.out, show len = k by omega]; exact HO.out)
            go_wp2
            go_roundw
            case rel => exact ⟨i + 1, by omega, by go_num, HO5, HB2⟩
            case measure => simp [intOf]; omega
      · have HF : Hid (nevTo qs i = nevL qs) := Lib.hid (by unfold nevL; rw [HZ.out, show i = len by omega])
        go_wp2
        go_ret2
        exact ⟨_, by rw [H0.out.2]; exact rfl, by rw [H0.out.1, ← HF.out]; exact HO.out, HB.out⟩

end Go.Proofs.Ythnbimfdodfhoaa
