/- CountDisorder: the model and the method. -/
import Derived.Test.YtnajlnghhboelaaRk
namespace Go.Proofs.Ytnajlnghhboelaa
open Go.ChangeShapes Go.WideShapes Go.ChangeAt Go.RowKit

def disL (hs : List Nat) : Int := (He.sumTo hs hs.length : Nat)

set_option maxHeartbeats 2000000 in
theorem specDisIn (w : World) (a : Option Addr) (len cap : Nat) (hs : List Nat) (h1 : 1 ≤ hs.length) (h2 : hs.length ≤ 40) (hg : goodH (asInts hs) = true) (hc : Came w a len (asInts hs)) (hk : len ≤ cap ∧ cap ≤ 9223372036854775807) :
    Calls Try.prog 29 #[.slice a len cap] w fun e w' => e = .returned (.tuple #[.int .i64 (disL hs), .bool true]) ∧ Below w.heap.size w w' := by
  have hlen : len = hs.length := by rw [← asInts_len]; exact hc.1.symm
  have HG := Lib.hid (heGood_any w a len cap (asInts hs) (by omega) hc)
  rw [hg] at HG
  have HZL := Lib.hid hlen
  have HE : Hid (He.pairsTo hs len len = He.sumTo hs hs.length) := Lib.hid (by rw [hlen]; exact He.pairs_sum hs hs.length)
  rw [← hlen] at h1 h2
  obtain ⟨b, off, rfl, hcell0⟩ := hc.2 (by omega)
  have HC := Lib.hid hc
  obtain ⟨hk1, hk2⟩ := hk
  have k3 : (len : Int) ≤ (cap : Int) := by omega
  clear hc hlen hg hcell0
  go_enter Try.func29, Try.ntmps29
  go_wp2_with (go_at_call 37; refine HG.out.mono ?_; rintro e w' ⟨rfl, rfl⟩)
  go_loop [4, 14] (fun c i => ∃ k : Nat, k ≤ len ∧ i = .int .i64 (k : Int) ∧ c = .int .i64 (He.pairsTo hs len k : Nat)) (fun _ i => len - (intOf i).toNat)
  case atStart => exact ⟨0, Nat.zero_le _, rfl, rfl⟩
  case round =>
    obtain ⟨k, hk, rfl, rfl⟩ := hrel
    have hpl := He.pairsTo_le hs len k
    have hpm : k * len ≤ 40 * 40 := Nat.mul_le_mul (by omega) (by omega)
    by_cases hlt : k < len
    · obtain ⟨b', off', hbo, hcell⟩ := HC.out.2 (by omega)
      cases hbo
      have e1 := hcell k hlt
      rw [getD_asInts] at e1
      obtain ⟨x, hx⟩ : ∃ x, x = hs.getD k 0 := ⟨_, rfl⟩
      rw [← hx] at e1
      have HX := Lib.hid hx
      have HPS : Hid (He.pairsTo hs len (k + 1) = He.pairsTo hs len k + He.lessTo hs k len) := rfl
      obtain ⟨p, hp⟩ : ∃ p, p = He.pairsTo hs len k := ⟨_, rfl⟩
      rw [← hp] at hpl HPS ⊢
      have hp2 : p ≤ 1600 := by omega
      have i1 : (0 : Int) ≤ (k : Int) + 1 := by omega
      have i2 : (k : Int) + 1 ≤ (len : Int) := by omega
      clear hcell hx hp hpl hpm
      by_cases hcap : cap = k + 1
      · subst hcap
        have hz : len - (k + 1) = 0 := by omega
        have HS : Hid (He.pairsTo hs len (k + 1) = p) := Lib.hid (by rw [HPS.out, He.lessTo_start hs k len (by omega)]; rfl)
        go_wp2
        go_loop [4, 24] (fun c i => i = .int .i64 0 ∧ c = .int .i64 (p : Int)) (fun _ _ => 0)
        case atStart => exact ⟨rfl, rfl⟩
        case round =>
          obtain ⟨rfl, rfl⟩ := hrel
          go_wp2
          go_round
          case rel => exact ⟨k + 1, by omega, by go_num, int_eq (by rw [HS.out])⟩
          case measure => first | (simp [intOf]; done) | (simp [intOf]; omega)
      · go_wp2
        go_loop [4, 24] (fun c i => ∃ m : Nat, m ≤ len - (k + 1) ∧ i = .int .i64 (m : Int) ∧ c = .int .i64 ((p : Int) + (He.lessTo hs k (k + 1 + m) : Nat))) (fun _ i => len - (k + 1) - (intOf i).toNat)
        case atStart => exact ⟨0, Nat.zero_le _, rfl, int_eq (by rw [Nat.add_zero, He.lessTo_start hs k (k + 1) (Nat.le_refl _)]; simp)⟩
        case round =>
          obtain ⟨m, hm, rfl, rfl⟩ := hrel
          have hle := He.lessTo_le hs k (k + 1 + m)
          by_cases hlt2 : m < len - (k + 1)
          · obtain ⟨b', off', hbo, hcell⟩ := HC.out.2 (by omega)
            cases hbo
            have e2 := hcell (k + 1 + m) (by omega)
            rw [getD_asInts, show off + (k + 1 + m) = off + (k + 1) + m from by omega] at e2
            by_cases hxy : hs.getD (k + 1 + m) 0 < hs.getD k 0
            · have HS := Lib.hid (He.lessTo_yes hs k (k + 1 + m) (by omega) hxy)
              rw [← HX.out] at hxy
              obtain ⟨y, hy⟩ : ∃ y, y = hs.getD (k + 1 + m) 0 := ⟨_, rfl⟩
              rw [← hy] at e2 hxy
              obtain ⟨c, hcc⟩ : ∃ c, c = He.lessTo hs k (k + 1 + m) := ⟨_, rfl⟩
              rw [← hcc] at hle HS ⊢
              clear hcell hy hcc
              go_wp2
              go_round
              case rel => exact ⟨m + 1, by omega, by go_num, int_eq (by rw [show k + 1 + (m + 1) = k + 1 + m + 1 from by omega, HS.out]; omega)⟩
              case measure => first | (simp [intOf]; done) | (simp [intOf]; omega)
            · have HS := Lib.hid (He.lessTo_no hs k (k + 1 + m) hxy)
              rw [← HX.out] at hxy
              obtain ⟨y, hy⟩ : ∃ y, y = hs.getD (k + 1 + m) 0 := ⟨_, rfl⟩
              rw [← hy] at e2 hxy
              obtain ⟨c, hcc⟩ : ∃ c, c = He.lessTo hs k (k + 1 + m) := ⟨_, rfl⟩
              rw [← hcc] at hle HS ⊢
              clear hcell hy hcc
              go_wp2
              go_round
              case rel => exact ⟨m + 1, by omega, by go_num, int_eq (by rw [show k + 1 + (m + 1) = k + 1 + m + 1 from by omega, HS.out])⟩
              case measure => first | (simp [intOf]; done) | (simp [intOf]; omega)
          · have HS : Hid (He.pairsTo hs len (k + 1) = p + He.lessTo hs k (k + 1 + m)) := Lib.hid (by rw [HPS.out, show k + 1 + m = len from by omega])
            obtain ⟨c, hcc⟩ : ∃ c, c = He.lessTo hs k (k + 1 + m) := ⟨_, rfl⟩
            rw [← hcc] at hle HS ⊢
            clear hcc
            go_wp2
            go_round
            case rel => exact ⟨k + 1, by omega, by go_num, int_eq (by rw [HS.out]; omega)⟩
            case measure => first | (simp [intOf]; done) | (simp [intOf]; omega)
    · have hkl : Hid (k = len) := Lib.hid (by omega)
      go_wp2
      go_ret2
      exact ⟨by rw [hkl.out, HE.out]; exact rfl, Below.refl _ _⟩

set_option maxHeartbeats 1000000 in
theorem disorder_any (w : World) (hs : List Nat) (h1 : 1 ≤ hs.length) (h2 : hs.length ≤ 40) :
    Calls Try.prog 50 #[.agg (hc hs).toArray] w fun e w' => e = .returned (.int .i64 (disL hs)) ∧ Below w.heap.size w w' := by
  obtain ⟨len, hlen⟩ : ∃ n, n = hs.length := ⟨_, rfl⟩
  have HZL := Lib.hid hlen
  rw [← hlen] at h1 h2
  clear hlen
  go_enter Try.func50, Try.ntmps50
  go_wp2_with (refine wpList_box 43 _ rfl rfl (hc hs) rfl ?_; intro w1 g G1 B1 L1)
  refine ⟨?_⟩
  have ec := B1.out.count (by have := HZL.out; omega)
  rw [← HZL.out] at ec
  go_wp2
  clear ec
  go_loopw [3, 7] (fun c i wr => ∃ k : Nat, k ≤ len ∧ i = .int .i64 (k : Int) ∧ c = .int .i64 (He.sumTo hs k : Nat) ∧ Below w1.heap.size w1 wr) (fun _ i _ => len - (intOf i).toNat)
  case atStart => exact ⟨0, Nat.zero_le _, rfl, rfl, Below.refl _ _⟩
  case round =>
    obtain ⟨k, hk, rfl, rfl, hb⟩ := hrel
    have hsl := He.sumTo_le hs k
    have hpm : k * k ≤ 40 * 40 := Nat.mul_le_mul (by omega) (by omega)
    by_cases hlt : k < len
    · have HB := Lib.hid hb
      have BR := Lib.hid (B1.out.below hb B1.out.lt)
      have HT := Lib.hid (fun w3 => tallerBefore_any w3 hs k (by have := HZL.out; omega) (by have := HZL.out; omega))
      have HPS : Hid (He.sumTo hs (k + 1) = He.sumTo hs k + He.tallTo hs k k) := rfl
      have htl := He.tallTo_le hs k k
      obtain ⟨t, ht⟩ : ∃ t, t = He.tallTo hs k k := ⟨_, rfl⟩
      rw [← ht] at HT HPS htl
      obtain ⟨p, hp⟩ : ∃ p, p = He.sumTo hs k := ⟨_, rfl⟩
      rw [← hp] at hsl HPS ⊢
      have hp2 : p ≤ 1600 := by omega
      clear ht hp hsl hpm hb
      go_wp2_with (refine wpList_loadAll 43 _ rfl rfl g _ (hc hs) _ Try.underlying43 rfl 41 Try.size_heights rfl BR (length_hc _ (by have := HZL.out; omega)) ?_)
      refine ⟨?_⟩
      go_wp2_with fail
      go_at_call 65
      refine (HT.out _).mono ?_
      rintro e w3 ⟨rfl, b3⟩
      have HB3 : Hid (Below w1.heap.size w1 w3) := HB.out.trans (b3.mono (by have := HB.out.size; omega))
      clear b3
      go_wp2
      go_roundw
      case rel => exact ⟨k + 1, by omega, by go_num, int_eq (by rw [HPS.out]; omega), HB3.out⟩
      case measure => simp [intOf]; omega
    · have hkl : Hid (k = hs.length) := Lib.hid (by have := HZL.out; omega)
      have HB := Lib.hid hb
      clear hb
      go_wp2
      go_ret
      exact ⟨ret_int (by rw [hkl.out]; exact rfl), L1.out.trans (HB.out.mono L1.out.size)⟩

end Go.Proofs.Ytnajlnghhboelaa
