/- TallestOfWindows: both sides. -/
import Derived.Test.YtnajlnghhboelaaSu
namespace Go.Proofs.Ytnajlnghhboelaa
open Go.ChangeShapes Go.WideShapes Go.ChangeAt Go.RowKit

def winF (hs : List Nat) (wd k : Nat) : Int := (He.mostTo (He.win hs wd k) wd : Nat)
def winOk (zs : List Int) (d : Int) : Bool := goodH zs && inB d 1 zs.length
def outTallestOfWindows_0 (zs : List Int) (d : Int) : List Int := if winOk zs d then upTo (winF (heights zs) d.toNat) (zs.length - d.toNat + 1) else []
def outTallestOfWindows_1 (zs : List Int) (d : Int) : Bool := winOk zs d
theorem lenTallestOfWindows_0 (zs : List Int) (d : Int) (h : zs.length ≤ 1048576) : (outTallestOfWindows_0 zs d).length ≤ 4611686018427387904 := by
  unfold outTallestOfWindows_0
  split
  · rw [length_upTo]; omega
  · simp
theorem win_no {zs : List Int} {d : Int} (h : winOk zs d = false) : outTallestOfWindows_0 zs d = [] := by unfold outTallestOfWindows_0; rw [h]; rfl
theorem win_yes {hs : List Nat} {wd : Nat} (h : winOk (asInts hs) wd = true) : outTallestOfWindows_0 (asInts hs) wd = upTo (winF hs wd) (hs.length - wd + 1) := by
  unfold outTallestOfWindows_0 heights; rw [h, toNat_asInts, asInts_len]; rfl
theorem maxTo_most (l : List Nat) : ∀ m, maxTo (asInts l) m = (He.mostTo l (m + 1) : Nat)
  | 0 => by rw [maxTo, He.mostTo, He.mostTo, getD_asInts]; omega
  | m + 1 => by rw [maxTo, He.mostTo, maxTo_most l m, getD_asInts]; omega
theorem mostTo_bd (hs : List Nat) (h : ∀ x ∈ hs, 1 ≤ x ∧ x ≤ 100) (wd k : Nat) : ∀ m, He.mostTo (He.win hs wd k) m ≤ 100 :=
  He.mostTo_le _ 100 (fun x hx => (h x (List.mem_of_mem_drop (List.mem_of_mem_take hx))).2)
theorem came_win {w : World} {b off len wd k : Nat} {hs : List Nat} (h : Came w (some ⟨b, off, none⟩) len (asInts hs)) (hk : k + wd ≤ len) : Came w (some ⟨b, off + k, none⟩) wd (asInts (He.win hs wd k)) := by
  have hl : hs.length = len := by rw [← asInts_len]; exact h.1
  refine ⟨by rw [asInts_len, He.length_win _ _ _ (by omega)], fun hp => ⟨b, off + k, rfl, fun j hj => ?_⟩⟩
  obtain ⟨b', off', e, hc⟩ := h.2 (by omega)
  cases e
  rw [show off + k + j = off + (k + j) from by omega, hc (k + j) (by omega), getD_asInts, getD_asInts, He.getD_win _ _ _ _ hj]

set_option maxHeartbeats 400000 in
theorem l1Most_any (x y : Int) (w : World) :
    Calls Try.prog 52 #[.int .i64 x, .int .i64 y] w fun e w' => e = .returned (.int .i64 (max x y)) ∧ w = w' := by
  by_cases h : y < x
  all_goals
    go_enter Try.func52, Try.ntmps52
    go_wp2
    go_ret
    exact ⟨ret_int (by omega), rfl⟩

set_option maxHeartbeats 2000000 in
theorem specTallestOfWindows_any (w : World) (a : Option Addr) (len cap : Nat) (zs : List Int) (d : Int) (wd : (Lit.int .i64 d).wf = true) (hl : len ≤ 1048576) (hc : Came w a len zs) (hk : len ≤ cap ∧ cap ≤ 9223372036854775807) :
    Calls Try.prog 31 #[.slice a len cap, .int .i64 d] w fun e w' => ∃ v0, e = .returned (.tuple #[v0, .bool (outTallestOfWindows_1 zs d)]) ∧ Own w' w.heap.size v0 (outTallestOfWindows_0 zs d) ∧ Below w.heap.size w w' := by
  have HG := Lib.hid (heGood_any w a len cap zs (by omega) hc)
  have bd := bounds_i64 wd
  have hlen := hc.1
  clear wd
  rcases hg : goodH zs with _ | _
  · have hE : winOk zs d = false := by unfold winOk; rw [hg]; rfl
    have HE := Lib.hid (win_no hE)
    have HF : Hid (outTallestOfWindows_1 zs d = false) := hE
    rw [HF.out]
    rw [hg] at HG
    clear hg hc hlen hE hk
    go_enter Try.func31, Try.ntmps31
    go_wp2_with (go_at_call 37; refine HG.out.mono ?_; rintro e w' ⟨rfl, rfl⟩)
    go_ret2
    exact ⟨_, rfl, by rw [HE.out]; exact own_nil _ _, Below.refl _ _⟩
  · have HI := Lib.hid (l1In_any d 1 len w)
    rw [hg] at HG
    rcases hd : inB d 1 len with _ | _
    · have hE : winOk zs d = false := by unfold winOk; rw [hg, hlen, hd]; rfl
      have HE := Lib.hid (win_no hE)
      have HF : Hid (outTallestOfWindows_1 zs d = false) := hE
      rw [HF.out]
      rw [hd] at HI
      clear hg hc hlen hE hk hd
      go_enter Try.func31, Try.ntmps31
      go_wp2_with fail
      go_at_call 37
      refine HG.out.mono ?_
      rintro e w' ⟨rfl, rfl⟩
      go_wp2_with fail
      go_at_call 51
      refine HI.out.mono ?_
      rintro e w' ⟨rfl, rfl⟩
      go_wp2
      go_ret2
      exact ⟨_, rfl, by rw [HE.out]; exact own_nil _ _, Below.refl _ _⟩
    · have hE : winOk zs d = true := by unfold winOk; rw [hg, hlen, hd]; rfl
      obtain ⟨hs, rfl, h1, h2, h3⟩ := goodH_nat hg
      rw [asInts_len] at hlen
      have hd2 := hd
      unfold inB at hd2
      simp only [decide_eq_true_eq] at hd2
      obtain ⟨n, rfl⟩ : ∃ n : Nat, d = (n : Int) := ⟨d.toNat, by omega⟩
      have hn1 : 1 ≤ n := by omega
      have hn2 : n ≤ len := by omega
      have HE := Lib.hid (win_yes hE)
      have HF : Hid (outTallestOfWindows_1 (asInts hs) n = true) := hE
      rw [HF.out, HE.out]
      rw [hd] at HI
      rw [hlen] at h1 h2
      have HZL : Hid (len = hs.length) := hlen.symm
      obtain ⟨b, off, rfl, _⟩ := hc.2 (by omega)
      have HC := Lib.hid hc
      have H3 := Lib.hid h3
      obtain ⟨hk1, hk2⟩ := hk
      obtain ⟨N, hN⟩ : ∃ N, N = len - n + 1 := ⟨_, rfl⟩
      have HN : Hid (hs.length - n + 1 = N) := Lib.hid (by rw [hN, hlen])
      rw [HN.out]
      have hN2 : N + n = len + 1 := by omega
      have hN3 : N ≤ 40 := by omega
      clear hg hc hlen hE hd hd2 h3 hN
      go_enter Try.func31, Try.ntmps31
      go_wp2_with fail
      go_at_call 37
      refine HG.out.mono ?_
      rintro e w' ⟨rfl, rfl⟩
      go_wp2_with fail
      go_at_call 51
      refine HI.out.mono ?_
      rintro e w' ⟨rfl, rfl⟩
      have HN2 := Lib.hid hN2
      clear hN2
      go_wp2
      go_loopw [6, 7] (fun v i wr => ∃ k : Nat, k ≤ N ∧ i = .int .i64 (k : Int) ∧ Own wr w.heap.size v (upTo (winF hs n) k) ∧ Below w.heap.size w wr) (fun _ i _ => N - (intOf i).toNat)
      case atStart => exact ⟨0, Nat.zero_le _, rfl, own_nil _ _, Below.refl _ _⟩
      case round =>
        obtain ⟨k, hk, rfl, ho, hb⟩ := hrel
        have HO := Lib.hid ho
        have HB := Lib.hid hb
        have hz := hb.size
        have HC2 := Lib.hid (HC.out.below hb)
        by_cases hlt : k < N
        · have i0 : (k : Int) + (n : Int) ≤ (len : Int) := by have := HN2.out; omega
          have i1 : (0 : Int) ≤ (k : Int) := by omega
          have i2 : (k : Int) ≤ (k : Int) + (n : Int) := by omega
          have i3 : (k : Int) + (n : Int) ≤ (cap : Int) := by omega
          have i4 : ¬ cap = k := by omega
          clear ho hb
          go_wp2
          clear i2 i3 i4
          rw [Nat.add_sub_cancel_left]
          go_loop [8, 36] (fun c j => ∃ m : Nat, m ≤ n ∧ j = .int .i64 (m : Int) ∧ c = .int .i64 (He.mostTo (He.win hs n k) m : Nat)) (fun _ j => n - (intOf j).toNat)
          case atStart => exact ⟨0, by omega, rfl, rfl⟩
          case round =>
            obtain ⟨m, hm, rfl, rfl⟩ := hrel
            have hle := mostTo_bd hs H3.out n k m
            by_cases hlt2 : m < n
            · have e2 : wr.cell? ⟨b, off + k + m, none⟩ = some (.int .i64 (hs.getD (k + m) 0 : Nat)) := by
                obtain ⟨b', off', hbo, hcell⟩ := HC2.out.2 (by omega)
                cases hbo
                rw [show off + k + m = off + (k + m) from by omega, hcell (k + m) (by omega), getD_asInts]
              have HS : Hid (He.mostTo (He.win hs n k) (m + 1) = max (He.mostTo (He.win hs n k) m) (hs.getD (k + m) 0)) := Lib.hid (by rw [He.mostTo, He.getD_win _ _ _ _ hlt2])
              obtain ⟨y, hy⟩ : ∃ y, y = hs.getD (k + m) 0 := ⟨_, rfl⟩
              rw [← hy] at e2 HS
              obtain ⟨c, hcc⟩ : ∃ c, c = He.mostTo (He.win hs n k) m := ⟨_, rfl⟩
              rw [← hcc] at hle HS ⊢
              clear hy hcc
              go_wp2_with (go_at_call 52; refine (l1Most_any _ _ _).mono ?_; rintro e w' ⟨rfl, rfl⟩)
              go_round
              case rel => exact ⟨m + 1, by omega, by go_num, int_eq (by rw [HS.out]; omega)⟩
              case measure => simp [intOf]; omega
            · have hmn : m = n := by omega
              have HS : Hid (upTo (winF hs n) (k + 1) = upTo (winF hs n) k ++ [((He.mostTo (He.win hs n k) m : Nat) : Int)]) := Lib.hid (by rw [upTo_succ, hmn]; rfl)
              obtain ⟨q, hq⟩ : ∃ q, q = He.mostTo (He.win hs n k) m := ⟨_, rfl⟩
              rw [← hq] at hle HS ⊢
              have hbl : (upTo (winF hs n) k).length ≤ 1000000000 := by rw [length_upTo]; omega
              clear hq hmn
              go_wp2_with (at_builtin; refine wpList_app rfl _ _ rfl _ _ _ _ _ rfl rfl HO.out hz hbl ?_; intro v' w1 hO hB1)
              have HO2 : Hid (Own w1 w.heap.size v' (upTo (winF hs n) (k + 1))) := by rw [HS.out]; exact hO
              have HB2 : Hid (Below w.heap.size w w1) := HB.out.trans hB1
              clear hO hB1
              go_wp2
              go_roundw
              case rel => exact ⟨k + 1, by omega, by go_num, HO2.out, HB2.out⟩
              case measure => simp [intOf]; omega
        · have i0 : ¬ (k : Int) + (n : Int) ≤ (len : Int) := by have := HN2.out; omega
          have hkN : k = N := by omega
          have i7 : (k : Int) ≤ 40 := by omega
          have HO2 : Hid (Own _ w.heap.size _ (upTo (winF hs n) N)) := Lib.hid (hkN ▸ ho)
          clear ho hb hkN
          go_wp2
          go_ret2
          exact ⟨_, rfl, HO2.out, HB.out⟩

set_option maxHeartbeats 2000000 in
theorem implTallestOfWindows_any (w : World) (a : Option Addr) (len cap : Nat) (zs : List Int) (d : Int) (wd : (Lit.int .i64 d).wf = true) (hl : len ≤ 1048576) (hc : Came w a len zs) (hk : len ≤ cap ∧ cap ≤ 9223372036854775807) :
    Calls Try.prog 32 #[.slice a len cap, .int .i64 d] w fun e w' => ∃ v0, e = .returned (.tuple #[v0, .bool (outTallestOfWindows_1 zs d)]) ∧ Own w' w.heap.size v0 (outTallestOfWindows_0 zs d) ∧ Below w.heap.size w w' := by
  obtain ⟨i0, hi, hz0, hz1, hz2⟩ := info_parts Try.info_int
  have HG := Lib.hid (areHeights_any w a len cap zs (by omega) hc)
  have bd := bounds_i64 wd
  have hlen := hc.1
  clear wd
  rcases hg : goodH zs with _ | _
  · have hE : winOk zs d = false := by unfold winOk; rw [hg]; rfl
    have HE := Lib.hid (win_no hE)
    have HF : Hid (outTallestOfWindows_1 zs d = false) := hE
    rw [HF.out]
    rw [hg] at HG
    clear hg hc hlen hE hk
    go_enter Try.func32, Try.ntmps32
    go_wp2_with (go_at_call 15; refine HG.out.mono ?_; rintro e w' ⟨rfl, rfl⟩)
    go_ret2
    exact ⟨_, rfl, by rw [HE.out]; exact own_nil _ _, Below.refl _ _⟩
  · rw [hg] at HG
    rcases hd : inB d 1 len with _ | _
    · have hE : winOk zs d = false := by unfold winOk; rw [hg, hlen, hd]; rfl
      have HE := Lib.hid (win_no hE)
      have HF : Hid (outTallestOfWindows_1 zs d = false) := hE
      rw [HF.out]
      unfold inB at hd
      simp only [decide_eq_false_iff_not] at hd
      clear hg hc hlen hE hk
      by_cases h0 : d < 1
      · clear hd
        go_enter Try.func32, Try.ntmps32
        go_wp2_with (go_at_call 15; refine HG.out.mono ?_; rintro e w' ⟨rfl, rfl⟩)
        go_ret2
        exact ⟨_, rfl, by rw [HE.out]; exact own_nil _ _, Below.refl _ _⟩
      · have h1 : (len : Int) < d := by omega
        clear hd
        go_enter Try.func32, Try.ntmps32
        go_wp2_with (go_at_call 15; refine HG.out.mono ?_; rintro e w' ⟨rfl, rfl⟩)
        go_ret2
        exact ⟨_, rfl, by rw [HE.out]; exact own_nil _ _, Below.refl _ _⟩
    · have hE : winOk zs d = true := by unfold winOk; rw [hg, hlen, hd]; rfl
      obtain ⟨hs, rfl, h1, h2, h3⟩ := goodH_nat hg
      rw [asInts_len] at hlen
      have hd2 := hd
      unfold inB at hd2
      simp only [decide_eq_true_eq] at hd2
      obtain ⟨n, rfl⟩ : ∃ n : Nat, d = (n : Int) := ⟨d.toNat, by omega⟩
      have hn1 : 1 ≤ n := by omega
      have hn2 : n ≤ len := by omega
      have HE := Lib.hid (win_yes hE)
      have HF : Hid (outTallestOfWindows_1 (asInts hs) n = true) := hE
      rw [HF.out, HE.out]
      rw [hlen] at h1 h2
      have HZL : Hid (len = hs.length) := hlen.symm
      obtain ⟨b, off, rfl, _⟩ := hc.2 (by omega)
      have HC := Lib.hid hc
      obtain ⟨hk1, hk2⟩ := hk
      obtain ⟨N, hN⟩ : ∃ N, N = len - n + 1 := ⟨_, rfl⟩
      have HN : Hid (hs.length - n + 1 = N) := Lib.hid (by rw [hN, hlen])
      rw [HN.out]
      have hN2 : N + n = len + 1 := by omega
      have hN3 : N ≤ 40 := by omega
      have hN4 : (len : Int) - (n : Int) + 1 = (N : Int) := by omega
      have n1 : ¬ (n : Int) < 1 := by omega
      have n2 : ¬ (len : Int) < (n : Int) := by omega
      clear hg hc hlen hE hd hd2 h3 hN hN2
      have HN2 : Hid (N + n = len + 1) := Lib.hid (by omega)
      have HN4 := Lib.hid hN4
      clear hN4
      go_enter Try.func32, Try.ntmps32
      go_wp2_with fail
      go_at_call 15
      refine HG.out.mono ?_
      rintro e w' ⟨rfl, rfl⟩
      go_wp2_with (at_make; refine wpList_make_full _ rfl _ _ 22 rfl w.heap.size 3 i0 (.int .i64 0) 1 Try.underlying22 hi hz0 hz1 .i64 .i64 _ _ N rfl rfl (by first | exact HN4.out | rfl) (by first | exact HN4.out | rfl) (by rw [hz2]; omega) (by unfold maxLen; omega) (Nat.le_refl _) ?_; intro w1 hown hgrow)
      have hO : Own w1 w.heap.size (.slice (some ⟨w.heap.size, 0, none⟩) N N) (fillTo (winF hs n) N 0) := made_fill _ hown
      have hb0 := below_made hgrow
      clear hown hgrow
      go_loopw [29] (fun i wr => ∃ k : Nat, k ≤ N ∧ i = .int .i64 (k : Int) ∧ Own wr w.heap.size (.slice (some ⟨w.heap.size, 0, none⟩) N N) (fillTo (winF hs n) N k) ∧ Below w.heap.size w wr) (fun i _ => N - (intOf i).toNat)
      case atStart => exact ⟨0, Nat.zero_le _, rfl, hO, hb0⟩
      case round =>
        obtain ⟨k, hk, rfl, ho, hb⟩ := hrel
        have hfl := length_fillTo (winF hs n) N k hk
        by_cases hlt : k < N
        · have HC2 := Lib.hid (HC.out.below hb)
          have i0 : (k : Int) + (n : Int) ≤ (len : Int) := by have := HN2.out; omega
          have i1 : (0 : Int) ≤ (k : Int) := by omega
          have i2 : (k : Int) ≤ (k : Int) + (n : Int) := by omega
          have i3 : (k : Int) + (n : Int) ≤ (cap : Int) := by omega
          have i4 : ¬ cap = k := by omega
          have i5 : (k : Int) < (N : Int) := by omega
          have hX := max_any wr (some ⟨b, off + k, none⟩) n (cap - k) (asInts (He.win hs n k)) (by omega) (by omega) (came_win HC2.out (by omega))
          rw [maxTo_most, show n - 1 + 1 = n from by omega] at hX
          have HX := Lib.hid hX
          have e3 := ho.cell hfl.symm k (by omega)
          have f3 := ho.free hfl.symm k
          obtain ⟨z, hzz⟩ : ∃ z, z = (fillTo (winF hs n) N k).getD k 0 := ⟨_, rfl⟩
          rw [← hzz] at e3
          have ho4 := ho.set hfl.symm k (winF hs n k)
          rw [fillTo_succ _ _ _ hlt] at ho4
          have hb4 := hb.setCell (p := ⟨w.heap.size, k, none⟩) (Nat.le_refl _) (.int .i64 (winF hs n k))
          unfold winF at ho4 hb4
          obtain ⟨q, hq⟩ : ∃ q, q = He.mostTo (He.win hs n k) n := ⟨_, rfl⟩
          rw [← hq] at HX
          rw [← hq] at ho4 hb4
          have HOS := Lib.hid ho4
          have HBS := Lib.hid hb4
          clear hX hzz ho hb hO hb0 hfl ho4 hb4 hq
          go_wp2_with fail
          go_at_call 39
          refine HX.out.mono ?_
          rintro e w' ⟨rfl, rfl⟩
          go_wp2
          go_roundw
          case rel => exact ⟨k + 1, by omega, by go_num, HOS.out, HBS.out⟩
          case measure => simp [intOf]; omega
        · have hkN : k = N := by omega
          have HO2 : Hid (Own _ w.heap.size _ (upTo (winF hs n) N)) := Lib.hid (by rw [← fillTo_all]; rw [hkN] at ho; exact ho)
          have HB := Lib.hid hb
          clear ho hb hkN hO hb0 hfl
          go_wp2
          go_ret2
          exact ⟨_, rfl, HO2.out, HB.out⟩

end Go.Proofs.Ytnajlnghhboelaa
