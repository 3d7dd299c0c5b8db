/- Chapter 7, the model: odPlay, PlayNeighbours, PlayWindows. -/
import Derived.Test.YtkdpjimbhpclaabOda
namespace Go.Proofs.Ytkdpjimbhpclaab
open Go.ChangeShapes Go.WideShapes Go.ChangeAt Go.RowKit
open Rx Od

namespace Od
def plNb (l : List Bool) (zs : List Int) : Nat → List Bool
  | 0 => l
  | k + 1 => aroundL (plNb l zs k) (zs.getD k 0).toNat
def plWi (l : List Bool) (wd : Nat) (zs : List Int) : Nat → List Bool
  | 0 => l
  | k + 1 => turnTo (plWi l wd zs k) (zs.getD k 0).toNat ((zs.getD k 0).toNat + wd)
theorem plNb_len (l : List Bool) (zs : List Int) : ∀ k, (plNb l zs k).length = l.length
  | 0 => rfl
  | k + 1 => by rw [plNb, length_aroundL, plNb_len l zs k]
theorem plWi_len (l : List Bool) (wd : Nat) (zs : List Int) : ∀ k, (plWi l wd zs k).length = l.length
  | 0 => rfl
  | k + 1 => by rw [plWi, length_turnTo, plWi_len l wd zs k]
theorem allB_getO {zs : List Int} {lo hi : Int} (h : allB zs lo hi = true) (j : Nat) (hj : j < zs.length) : lo ≤ zs.getD j 0 ∧ zs.getD j 0 ≤ hi := by
  unfold allB at h
  rw [List.all_eq_true] at h
  refine inB_yes (h _ ?_)
  simp only [List.getD_eq_getElem?_getD, List.getElem?_eq_getElem hj, Option.getD_some]
  exact List.getElem_mem hj
def pnB (s : ByteArray) (zs : List Int) : Bool := ordB s && (decide (zs.length ≤ 100) && allB zs 0 ((s.size : Int) - 1))
def pwB (s : ByteArray) (wd : Int) (zs : List Int) : Bool := ordB s && (inB wd 1 (s.size : Int) && (decide (zs.length ≤ 100) && allB zs 0 ((s.size : Int) - wd)))
end Od
def outPlayNeighbours_0 (s : ByteArray) (zs : List Int) : ByteArray := if pnB s zs then Rw.str (plNb (rowOf s) zs zs.length) else ByteArray.empty
def outPlayNeighbours_1 (s : ByteArray) (zs : List Int) : Bool := pnB s zs
def outPlayWindows_0 (s : ByteArray) (wd : Int) (zs : List Int) : ByteArray := if pwB s wd zs then Rw.str (plWi (rowOf s) wd.toNat zs zs.length) else ByteArray.empty
def outPlayWindows_1 (s : ByteArray) (wd : Int) (zs : List Int) : Bool := pwB s wd zs

set_option maxHeartbeats 1000000 in
theorem odPlay_any (w : World) (l : List Bool) (a : Option Addr) (len cap : Nat) (zs : List Int) (h1 : 1 ≤ l.length) (h40 : l.length ≤ 40) (hl : len ≤ 100) (hz : ∀ j, j < len → 0 ≤ zs.getD j 0 ∧ zs.getD j 0 ≤ (l.length : Int) - 1) (hc : Came w a len zs) :
    Calls Try.prog 55 #[.string (Rw.str l), .slice a len cap] w fun e w' => e = .returned (.string (Rw.str (plNb l zs len))) ∧ Below w.heap.size w w' := by
  obtain ⟨s0, hs⟩ : ∃ s, s = Rw.str l := ⟨_, rfl⟩
  have HS0 : Hid (s0 = Rw.str (plNb l zs 0)) := Lib.hid hs
  have HC := Lib.hid hc
  have HZ := Lib.hid hz
  rw [← hs]
  clear hc hz hs
  go_enter Try.func55, Try.ntmps55
  go_wp2
  go_loopw [0, 9] (fun r iv wr => ∃ (k : Nat) (s : ByteArray), k ≤ len ∧ iv = .int .i64 (k : Int) ∧ r = .string s ∧ Hid (s = Rw.str (plNb l zs k)) ∧ Hid (Below w.heap.size w wr)) (fun _ iv _ => len - (intOf iv).toNat)
  case atStart => exact ⟨0, s0, Nat.zero_le _, rfl, rfl, HS0, Lib.hid (Below.refl _ _)⟩
  case round =>
    obtain ⟨k, s, hk, rfl, rfl, HS, HB⟩ := hrel
    by_cases hlt : k < len
    · obtain ⟨b, off, rfl, hcell⟩ := (HC.out.below HB.out).2 (by omega)
      have e1 := hcell k hlt
      have hzk := HZ.out k hlt
      obtain ⟨i, hi⟩ : ∃ i : Nat, zs.getD k 0 = (i : Int) := ⟨(zs.getD k 0).toNat, by omega⟩
      have HTU := Lib.hid (fun w2 => odAround_q (plNb l zs k) i (by rw [plNb_len]; omega) (by rw [plNb_len]; omega) (by rw [plNb_len]; omega) w2)
      rw [← HS.out] at HTU
      have HN : Hid (plNb l zs (k + 1) = aroundL (plNb l zs k) i) := Lib.hid (by rw [plNb, hi, Int.toNat_natCast])
      rw [hi] at e1
      have i1 : (0 : Int) ≤ (k : Int) := by omega
      have i2 : (k : Int) < (len : Int) := by omega
      clear hcell hi hzk
      go_wp2_with fail
      go_at_call 75
      refine (HTU.out _).mono ?_
      rintro e w2 ⟨rfl, hm⟩
      have B2 : Hid (Below w.heap.size w w2) := Lib.hid (HB.out.trans ((drewN_belowM hm).mono HB.out.size))
      clear hm
      go_wp2
      go_roundw
      case rel => exact ⟨k + 1, _, by omega, by go_num, rfl, Lib.hid (by rw [HN.out]), B2⟩
      case measure => simp [intOf]; omega
    · obtain rfl : k = len := by omega
      go_wp2
      go_ret
      exact ⟨ret_str HS.out, HB.out⟩

set_option maxHeartbeats 1000000 in
theorem specPlayNeighbours_any (w : World) (s : ByteArray) (a : Option Addr) (len cap : Nat) (zs : List Int) (_ws : s.size ≤ maxLen) (hls : s.size ≤ 1048576) (hl : len ≤ 1048576) (hc : Came w a len zs) :
    Calls Try.prog 30 #[.string s, .slice a len cap] w fun e w' => e = .returned (.tuple #[.string (outPlayNeighbours_0 s zs), .bool (outPlayNeighbours_1 s zs)]) ∧ Below w.heap.size w w' := by
  have HG := Lib.hid (odGood_q s w hls)
  have HA := Lib.hid (l1All_any w a len cap zs 0 ((s.size : Int) - 1) (by omega) hc)
  have hE : pnB s zs = (ordB s && (decide (len ≤ 100) && allB zs 0 ((s.size : Int) - 1))) := by unfold pnB; rw [hc.1]
  have hno : pnB s zs = false → outPlayNeighbours_0 s zs = ByteArray.empty ∧ outPlayNeighbours_1 s zs = false := fun h => by unfold outPlayNeighbours_0 outPlayNeighbours_1; rw [h]; exact ⟨rfl, rfl⟩
  clear _ws
  rcases h1 : ordB s with _ | _
  · have H0 := Lib.hid (hno (by rw [hE, h1]; rfl))
    rw [h1] at HG
    clear h1 hno hE hc
    go_enter Try.func30, Try.ntmps30
    go_wp2_with (go_at_call 46; refine HG.out.mono ?_; rintro e w' ⟨rfl, rfl⟩)
    go_ret2
    exact ⟨by rw [H0.out.1, H0.out.2]; exact rfl, Below.refl _ _⟩
  · rw [h1] at HG
    by_cases h100 : len ≤ 100
    · have i1 : ¬ (100 : Int) < (len : Int) := by omega
      rcases h2 : allB zs 0 ((s.size : Int) - 1) with _ | _
      · have H0 := Lib.hid (hno (by rw [hE, h1, h2, Bool.and_false, Bool.and_false]))
        rw [h2] at HA
        clear h1 h2 hno hE hc
        go_enter Try.func30, Try.ntmps30
        go_wp2_with (first | (go_at_call 46; refine HG.out.mono ?_; rintro e w' ⟨rfl, rfl⟩) | (go_at_call 51; refine HA.out.mono ?_; rintro e w' ⟨rfl, rfl⟩))
        go_ret2
        exact ⟨by rw [H0.out.1, H0.out.2]; exact rfl, Below.refl _ _⟩
      · rw [h2] at HA
        obtain ⟨l, rfl, l1, l2⟩ := ord_row h1
        have H0 : Hid (outPlayNeighbours_0 (Rw.str l) zs = Rw.str (plNb l zs len) ∧ outPlayNeighbours_1 (Rw.str l) zs = true) := Lib.hid (by unfold outPlayNeighbours_0 outPlayNeighbours_1; rw [hE, h1, h2, decide_eq_true h100, rowOf_str, hc.1]; exact ⟨rfl, rfl⟩)
        have HP := Lib.hid (odPlay_any w l a len cap zs l1 l2 h100 (fun j hj => by have := allB_getO h2 j (by rw [hc.1]; exact hj); rw [Rw.size_str] at this; exact this) hc)
        obtain ⟨s, hs⟩ : ∃ s, s = Rw.str l := ⟨_, rfl⟩
        rw [← hs] at HG HA HP H0 hls ⊢
        clear h1 h2 hno hE hs hc
        go_enter Try.func30, Try.ntmps30
        go_wp2_with fail
        go_at_call 46
        refine HG.out.mono ?_
        rintro e w' ⟨rfl, rfl⟩
        go_wp2_with fail
        go_at_call 51
        refine HA.out.mono ?_
        rintro e w' ⟨rfl, rfl⟩
        go_wp2_with fail
        go_at_call 55
        refine HP.out.mono ?_
        rintro e w2 ⟨rfl, b2⟩
        have B2 := Lib.hid b2
        clear b2
        go_wp2
        go_ret2
        exact ⟨by rw [H0.out.1, H0.out.2]; exact rfl, B2.out⟩
    · have H0 := Lib.hid (hno (by rw [hE, h1, decide_eq_false h100]; rfl))
      have i1 : (100 : Int) < (len : Int) := by omega
      clear h1 hno hE hc
      go_enter Try.func30, Try.ntmps30
      go_wp2_with (go_at_call 46; refine HG.out.mono ?_; rintro e w' ⟨rfl, rfl⟩)
      go_ret2
      exact ⟨by rw [H0.out.1, H0.out.2]; exact rfl, Below.refl _ _⟩

set_option maxHeartbeats 1000000 in
theorem specPlayWindows_any (w : World) (s : ByteArray) (wd : Int) (a : Option Addr) (len cap : Nat) (zs : List Int) (_ws : s.size ≤ maxLen) (_wd : (Lit.int .i64 wd).wf = true) (hls : s.size ≤ 1048576) (hl : len ≤ 1048576) (hc : Came w a len zs) :
    Calls Try.prog 27 #[.string s, .int .i64 wd, .slice a len cap] w fun e w' => e = .returned (.tuple #[.string (outPlayWindows_0 s wd zs), .bool (outPlayWindows_1 s wd zs)]) ∧ Below w.heap.size w w' := by
  have HG := Lib.hid (odGood_q s w hls)
  have HI := Lib.hid (l1In_any wd 1 (s.size : Int) w)
  have HA := Lib.hid (l1All_any w a len cap zs 0 ((s.size : Int) - wd) (by omega) hc)
  have hE : pwB s wd zs = (ordB s && (inB wd 1 (s.size : Int) && (decide (len ≤ 100) && allB zs 0 ((s.size : Int) - wd)))) := by unfold pwB; rw [hc.1]
  have hno : pwB s wd zs = false → outPlayWindows_0 s wd zs = ByteArray.empty ∧ outPlayWindows_1 s wd zs = false := fun h => by unfold outPlayWindows_0 outPlayWindows_1; rw [h]; exact ⟨rfl, rfl⟩
  clear _ws _wd
  rcases h1 : ordB s with _ | _
  · have H0 := Lib.hid (hno (by rw [hE, h1]; rfl))
    rw [h1] at HG
    clear h1 hno hE hc
    go_enter Try.func27, Try.ntmps27
    go_wp2_with (go_at_call 46; refine HG.out.mono ?_; rintro e w' ⟨rfl, rfl⟩)
    go_ret2
    exact ⟨by rw [H0.out.1, H0.out.2]; exact rfl, Below.refl _ _⟩
  · rw [h1] at HG
    rcases h0 : inB wd 1 (s.size : Int) with _ | _
    · have H0 := Lib.hid (hno (by rw [hE, h1, h0]; rfl))
      rw [h0] at HI
      clear h1 h0 hno hE hc
      go_enter Try.func27, Try.ntmps27
      go_wp2_with (first | (go_at_call 46; refine HG.out.mono ?_; rintro e w' ⟨rfl, rfl⟩) | (go_at_call 47; refine HI.out.mono ?_; rintro e w' ⟨rfl, rfl⟩))
      go_ret2
      exact ⟨by rw [H0.out.1, H0.out.2]; exact rfl, Below.refl _ _⟩
    · rw [h0] at HI
      obtain ⟨d0, d1⟩ := inB_yes h0
      have iw : (s.size : Int) - wd ≤ 1048576 := by omega
      have iv : 0 ≤ (s.size : Int) - wd := by omega
      by_cases h100 : len ≤ 100
      · have i1 : ¬ (100 : Int) < (len : Int) := by omega
        rcases h2 : allB zs 0 ((s.size : Int) - wd) with _ | _
        · have H0 := Lib.hid (hno (by rw [hE, h1, h2, Bool.and_false, Bool.and_false, Bool.and_false]))
          rw [h2] at HA
          clear h1 h0 h2 hno hE hc
          go_enter Try.func27, Try.ntmps27
          go_wp2_with (first | (go_at_call 46; refine HG.out.mono ?_; rintro e w' ⟨rfl, rfl⟩) | (go_at_call 47; refine HI.out.mono ?_; rintro e w' ⟨rfl, rfl⟩) | (go_at_call 51; refine HA.out.mono ?_; rintro e w' ⟨rfl, rfl⟩))
          go_ret2
          exact ⟨by rw [H0.out.1, H0.out.2]; exact rfl, Below.refl _ _⟩
        · rw [h2] at HA
          obtain ⟨l, rfl, l1, l2⟩ := ord_row h1
          have hlz := Rw.size_str l
          rw [hlz] at d1
          obtain ⟨D, rfl⟩ : ∃ D : Nat, wd = (D : Int) := ⟨wd.toNat, by omega⟩
          have H0 : Hid (outPlayWindows_0 (Rw.str l) D zs = Rw.str (plWi l D zs len) ∧ outPlayWindows_1 (Rw.str l) D zs = true) := Lib.hid (by unfold outPlayWindows_0 outPlayWindows_1; rw [hE, h1, h0, h2, decide_eq_true h100, rowOf_str, hc.1, Int.toNat_natCast]; exact ⟨rfl, rfl⟩)
          have HZ := Lib.hid (fun j (hj : j < len) => by have := allB_getO h2 j (by rw [hc.1]; exact hj); rw [hlz] at this; exact this)
          have HC := Lib.hid hc
          obtain ⟨s, hs⟩ : ∃ s, s = Rw.str l := ⟨_, rfl⟩
          have HS0 : Hid (s = Rw.str (plWi l D zs 0)) := Lib.hid hs
          rw [← hs] at HG HI HA H0 hls iw iv ⊢
          clear h1 h0 h2 hno hE hs hc hlz
          go_enter Try.func27, Try.ntmps27
          go_wp2_with fail
          go_at_call 46
          refine HG.out.mono ?_
          rintro e w' ⟨rfl, rfl⟩
          go_wp2_with fail
          go_at_call 47
          refine HI.out.mono ?_
          rintro e w' ⟨rfl, rfl⟩
          go_wp2_with fail
          go_at_call 51
          refine HA.out.mono ?_
          rintro e w' ⟨rfl, rfl⟩
          go_wp2
          go_loopw [0, 36] (fun r iv wr => ∃ (k : Nat) (s : ByteArray), k ≤ len ∧ iv = .int .i64 (k : Int) ∧ r = .string s ∧ Hid (s = Rw.str (plWi l D zs k)) ∧ Hid (Below w.heap.size w wr)) (fun _ iv _ => len - (intOf iv).toNat)
          case atStart => exact ⟨0, s, Nat.zero_le _, rfl, rfl, HS0, Lib.hid (Below.refl _ _)⟩
          case round =>
            obtain ⟨k, s, hk, rfl, rfl, HS, HB⟩ := hrel
            by_cases hlt : k < len
            · obtain ⟨b, off, rfl, hcell⟩ := (HC.out.below HB.out).2 (by omega)
              have e1 := hcell k hlt
              have hzk := HZ.out k hlt
              obtain ⟨i, hi⟩ : ∃ i : Nat, zs.getD k 0 = (i : Int) := ⟨(zs.getD k 0).toNat, by omega⟩
              have HTU := Lib.hid (fun w2 => odTurn_q (plWi l D zs k) i (i + D - 1) (by rw [plWi_len]; omega) (by rw [plWi_len]; omega) (by omega) w2)
              rw [← HS.out, show i + D - 1 + 1 = i + D by omega] at HTU
              have HN : Hid (plWi l D zs (k + 1) = turnTo (plWi l D zs k) i (i + D)) := Lib.hid (by rw [plWi, hi, Int.toNat_natCast])
              rw [hi] at e1
              have ew : (i : Int) + (D : Int) - 1 = ((i + D - 1 : Nat) : Int) := by omega
              have i2 : (0 : Int) ≤ (k : Int) := by omega
              have i3 : (k : Int) < (len : Int) := by omega
              have i4 : (i : Int) + (D : Int) ≤ 60 := by omega
              clear hcell hi hzk
              go_wp2_with fail
              go_at_call 48
              refine (HTU.out _).mono ?_
              rintro e w2 ⟨rfl, hm⟩
              have B2 : Hid (Below w.heap.size w w2) := Lib.hid (HB.out.trans ((drewN_belowM hm).mono HB.out.size))
              clear hm
              go_wp2
              go_roundw
              case rel => exact ⟨k + 1, _, by omega, by go_num, rfl, Lib.hid (by rw [HN.out]), B2⟩
              case measure => simp [intOf]; omega
            · obtain rfl : k = len := by omega
              obtain ⟨z, hz⟩ : ∃ z, z = Rw.str (plWi l D zs k) := ⟨_, rfl⟩
              rw [← hz] at H0 HS
              clear hz
              go_wp2
              go_ret2
              exact ⟨by rw [H0.out.1, H0.out.2, HS.out]; exact rfl, HB.out⟩
      · have H0 := Lib.hid (hno (by rw [hE, h1, decide_eq_false h100, Bool.false_and, Bool.and_false, Bool.and_false]))
        have i1 : (100 : Int) < (len : Int) := by omega
        clear h1 h0 hno hE hc
        go_enter Try.func27, Try.ntmps27
        go_wp2_with (first | (go_at_call 46; refine HG.out.mono ?_; rintro e w' ⟨rfl, rfl⟩) | (go_at_call 47; refine HI.out.mono ?_; rintro e w' ⟨rfl, rfl⟩))
        go_ret2
        exact ⟨by rw [H0.out.1, H0.out.2]; exact rfl, Below.refl _ _⟩

end Go.Proofs.Ytkdpjimbhpclaab
