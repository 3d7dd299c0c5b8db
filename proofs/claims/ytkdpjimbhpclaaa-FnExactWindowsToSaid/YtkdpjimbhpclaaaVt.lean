/- Chapter 7, the program: WindowsTo, CanByWindows, CountByWindows. -/
import Derived.Test.YtkdpjimbhpclaaaVr
namespace Go.Proofs.Ytkdpjimbhpclaaa
open Go.ChangeShapes Go.WideShapes Go.ChangeAt Go.RowKit
open Rx Od Ed

set_option maxHeartbeats 2000000 in
theorem implWindowsTo_any (w : World) (a b : ByteArray) (wd : Int) (_wa : a.size ≤ maxLen) (_wb : b.size ≤ maxLen) (_wd : (Lit.int .i64 wd).wf = true) (hla : a.size ≤ 1048576) (hlb : b.size ≤ 1048576) :
    Calls Try.prog 36 #[.string a, .string b, .int .i64 wd] w fun e w' => ∃ v, e = .returned (.tuple #[v, .bool (outWindowsTo_1 a b wd)]) ∧ Own w' w.heap.size v (outWindowsTo_0 a b wd) ∧ Below w.heap.size w w' := by
  have HG := Lib.hid (areOrdered_p a b w hla hlb)
  have HW := Lib.hid (isWide_p (a.size : Int) wd w)
  have hno : wideB a b wd = false → outWindowsTo_0 a b wd = [] ∧ outWindowsTo_1 a b wd = false := fun h => by unfold outWindowsTo_0 outWindowsTo_1 canB; rw [h]; exact ⟨rfl, rfl⟩
  clear _wa _wb _wd
  rcases h1 : twoB a b with _ | _
  · have H0 := Lib.hid (hno (by unfold wideB; rw [h1]; rfl))
    rw [h1] at HG
    clear h1 hno
    go_enter Try.func36, Try.ntmps36
    go_wp2_with (go_at_call 48; refine HG.out.mono ?_; rintro e w' ⟨rfl, rfl⟩)
    go_ret2
    exact ⟨_, by rw [H0.out.2]; exact rfl, by rw [H0.out.1]; exact own_nil _ _, Below.refl _ _⟩
  · rw [h1] at HG
    rcases h2 : inB wd 1 (a.size : Int) with _ | _
    · have H0 := Lib.hid (hno (by unfold wideB; rw [h1, h2]; rfl))
      rw [h2] at HW
      clear h1 h2 hno
      go_enter Try.func36, Try.ntmps36
      go_wp2_with fail
      go_at_call 48
      refine HG.out.mono ?_
      rintro e w' ⟨rfl, rfl⟩
      go_wp2_with (go_at_call 55; refine HW.out.mono ?_; rintro e w' ⟨rfl, rfl⟩)
      go_ret2
      exact ⟨_, by rw [H0.out.2]; exact rfl, by rw [H0.out.1]; exact own_nil _ _, Below.refl _ _⟩
    · obtain ⟨l, m, rfl, rfl, l1, l2, hm⟩ := two_rows h1
      obtain ⟨d1, d2⟩ := inB_yes h2
      have hsz := Rw.size_str l
      rw [hsz] at d2
      obtain ⟨W, rfl⟩ : ∃ W : Nat, wd = (W : Int) := ⟨wd.toNat, by omega⟩
      have hrep := win_rep l m W hm (by omega) (by omega)
      have H0 : Hid (outWindowsTo_0 (Rw.str l) (Rw.str m) W = (rep (rnW l.length W) l.length 0 (dif l m) []).getD [] ∧ outWindowsTo_1 (Rw.str l) (Rw.str m) W = (rep (rnW l.length W) l.length 0 (dif l m) []).isSome) := Lib.hid (by
        have hw : wideB (Rw.str l) (Rw.str m) W = true := by unfold wideB; rw [h1, h2]; rfl
        unfold outWindowsTo_0 outWindowsTo_1 canB
        rw [hrep, hw, rowOf_str, rowOf_str, Bool.true_and, Int.toNat_natCast]
        cases winB l m W <;> exact ⟨rfl, rfl⟩)
      rw [h2] at HW
      have HD := Lib.hid (differences_p w l m l2 hm)
      have HWI := Lib.hid (fun w2 => windowsIn_p w2 l.length W)
      have HRE := Lib.hid (fun (w2 : World) (p1 p2 : Addr) (F2 : Fst w2 w.heap.size 100 (edS (dif l m))) hcl => replacedW_p w2 w.heap.size l.length (rnW l.length W) (dif l m) p1 p2 l2 (length_dif l m) (F2.mono (by omega)) (fun q a c h hq => by
        unfold rnW at h
        split at h
        · injection h with h; injection h with h3 h4; omega
        · cases h) hcl)
      have HCL := Lib.hid (fun (w2 w3 : World) (g1 g2 : Nat) (c1 : w2.cell? ⟨g1, 0, none⟩ = some (.int .i64 (l.length : Int))) (c2 : w2.cell? ⟨g2, 0, none⟩ = some (.int .i64 (W : Int))) (hn1 : g1 ≠ w.heap.size) (hn2 : g2 ≠ w.heap.size) (hg : w2.grownBy w3 (some w.heap.size)) (x : Nat) => show Calls Try.prog 72 #[.int .i64 (x : Int), .pointer (some ⟨g1, 0, none⟩), .pointer (some ⟨g2, 0, none⟩)] w3 fun e w' => e = .returned (runV (rnW l.length W x)) ∧ Below w3.heap.size w3 w' from by
        rw [← rnWI_nat]
        exact windowsIn1_p w3 l.length W g1 g2 x (by omega) (by omega) (by omega) (cell_grown hg (World.block_lt_of_cell? w2 _ c1) (by simp; omega) c1) (cell_grown hg (World.block_lt_of_cell? w2 _ c2) (by simp; omega) c2))
      rw [← hsz] at HWI
      obtain ⟨R, hR⟩ : ∃ R, R = rep (rnW l.length W) l.length 0 (dif l m) [] := ⟨_, rfl⟩
      rw [← hR] at H0 HRE
      obtain ⟨s, hs⟩ : ∃ s, s = Rw.str l := ⟨_, rfl⟩
      obtain ⟨t, ht⟩ : ∃ t, t = Rw.str m := ⟨_, rfl⟩
      rw [← hs, ← ht] at HG H0 HD ⊢
      rw [← hs] at HW HWI hsz
      have HSZ := Lib.hid hsz
      clear h1 h2 hs ht hno hrep hR hsz hm
      go_enter Try.func36, Try.ntmps36
      go_wp2_with fail
      go_at_call 48
      refine HG.out.mono ?_
      rintro e w' ⟨rfl, rfl⟩
      go_wp2_with fail
      go_at_call 55
      refine HW.out.mono ?_
      rintro e w' ⟨rfl, rfl⟩
      go_wp2_with fail
      go_at_call 49
      refine HD.out.mono ?_
      rintro e w2 ⟨rfl, F2, B2⟩
      have HB2 := Lib.hid B2
      have HF2 := Lib.hid F2
      have hbl := F2.lt
      clear B2 F2
      go_wp2_with fail
      go_at_call 57
      refine (HWI.out w2).mono ?_
      rintro e w3 ⟨g1, g2, rfl, c1, c2, hg1, hg2, B3⟩
      have HB3 := Lib.hid (HB2.out.trans (B3.mono HB2.out.size))
      have HC := Lib.hid (HRE.out w3 ⟨g1, 0, none⟩ ⟨g2, 0, none⟩ (HF2.out.below B3 hbl) (fun w4 h4 x _ => HCL.out w3 w4 g1 g2 (by rw [← HSZ.out]; exact c1) c2 (by omega) (by omega) h4 x))
      clear c1 c2 B3
      go_wp2_with fail
      go_at_call 56
      refine HC.out.mono ?_
      rintro e w4 ⟨v, rfl, O4, G4⟩
      have HO4 := Lib.hid (O4.mono HB3.out.size)
      have HB4 := Lib.hid (grownBy_below HB3.out G4 (Nat.le_refl _) (Nat.le_refl _))
      clear O4 G4
      go_wp2
      go_ret2
      exact ⟨_, by rw [H0.out.2]; exact rfl, by rw [H0.out.1]; exact HO4.out, HB4.out⟩

set_option maxHeartbeats 1000000 in
theorem implCanByWindows_any (w : World) (a b : ByteArray) (wd : Int) (_wa : a.size ≤ maxLen) (_wb : b.size ≤ maxLen) (_wd : (Lit.int .i64 wd).wf = true) (hla : a.size ≤ 1048576) (hlb : b.size ≤ 1048576) :
    Calls Try.prog 34 #[.string a, .string b, .int .i64 wd] w fun e w' => e = .returned (.tuple #[.bool (outCanByWindows_0 a b wd), .bool (outCanByWindows_1 a b wd)]) ∧ Below w.heap.size w w' := by
  have HR := Lib.hid (implWindowsTo_any w a b wd _wa _wb _wd hla hlb)
  rw [show outWindowsTo_1 a b wd = outCanByWindows_0 a b wd from rfl] at HR
  have HG := Lib.hid (fun w2 => areOrdered_p a b w2 hla hlb)
  have HW := Lib.hid (fun w2 => isWide_p (a.size : Int) wd w2)
  obtain ⟨o, ho⟩ : ∃ z, z = outCanByWindows_0 a b wd := ⟨_, rfl⟩
  rw [← ho] at HR ⊢
  clear _wa _wb _wd ho
  rcases h1 : twoB a b with _ | _
  · have H0 : Hid (outCanByWindows_1 a b wd = false) := Lib.hid (by unfold outCanByWindows_1 wideB; rw [h1]; rfl)
    rw [h1] at HG
    clear h1
    go_enter Try.func34, Try.ntmps34
    go_wp2_with fail
    go_at_call 36
    refine HR.out.mono ?_
    rintro e w2 ⟨v, rfl, O2, B2⟩
    have HB2 := Lib.hid B2
    clear O2 B2
    go_wp2_with (go_at_call 48; refine (HG.out _).mono ?_; rintro e w' ⟨rfl, rfl⟩)
    go_ret2
    exact ⟨by rw [H0.out]; exact rfl, HB2.out⟩
  · have H0 : Hid (outCanByWindows_1 a b wd = inB wd 1 (a.size : Int)) := Lib.hid (by unfold outCanByWindows_1 wideB; rw [h1]; rfl)
    rw [h1] at HG
    clear h1
    go_enter Try.func34, Try.ntmps34
    go_wp2_with fail
    go_at_call 36
    refine HR.out.mono ?_
    rintro e w2 ⟨v, rfl, O2, B2⟩
    have HB2 := Lib.hid B2
    clear O2 B2
    go_wp2_with fail
    go_at_call 48
    refine (HG.out _).mono ?_
    rintro e w' ⟨rfl, rfl⟩
    go_wp2_with (go_at_call 55; refine (HW.out _).mono ?_; rintro e w' ⟨rfl, rfl⟩)
    go_ret2
    exact ⟨by rw [H0.out]; exact rfl, HB2.out⟩

set_option maxHeartbeats 1000000 in
theorem implCountByWindows_any (w : World) (n wd : Int) (_wn : (Lit.int .i64 n).wf = true) (_ww : (Lit.int .i64 wd).wf = true) :
    Calls Try.prog 38 #[.int .i64 n, .int .i64 wd] w fun e w' => e = .returned (.tuple #[.int .i64 (outCountByWindows_0 n wd), .bool (outCountByWindows_1 n wd)]) ∧ Below w.heap.size w w' := by
  have HG := Lib.hid (isOrderedCount_p n w)
  have HW := Lib.hid (isWide_p n wd w)
  have hno : cbwB n wd = false → outCountByWindows_0 n wd = 0 ∧ outCountByWindows_1 n wd = false := fun h => by unfold outCountByWindows_0 outCountByWindows_1; rw [h]; exact ⟨rfl, rfl⟩
  clear _wn _ww
  rcases h1 : inB n 1 40 with _ | _
  · have H0 := Lib.hid (hno (by unfold cbwB; rw [h1]; rfl))
    rw [h1] at HG
    clear h1 hno
    go_enter Try.func38, Try.ntmps38
    go_wp2_with (go_at_call 59; refine HG.out.mono ?_; rintro e w' ⟨rfl, rfl⟩)
    go_ret2
    exact ⟨by rw [H0.out.1, H0.out.2]; exact rfl, Below.refl _ _⟩
  · rw [h1] at HG
    rcases h2 : inB wd 1 n with _ | _
    · have H0 := Lib.hid (hno (by unfold cbwB; rw [h1, h2]; rfl))
      rw [h2] at HW
      clear h1 h2 hno
      go_enter Try.func38, Try.ntmps38
      go_wp2_with fail
      go_at_call 59
      refine HG.out.mono ?_
      rintro e w' ⟨rfl, rfl⟩
      go_wp2_with (go_at_call 55; refine HW.out.mono ?_; rintro e w' ⟨rfl, rfl⟩)
      go_ret2
      exact ⟨by rw [H0.out.1, H0.out.2]; exact rfl, Below.refl _ _⟩
    · obtain ⟨a1, a2⟩ := inB_yes h1
      obtain ⟨b1, b2⟩ := inB_yes h2
      obtain ⟨K, hK⟩ : ∃ K : Nat, n - wd + 1 = (K : Int) := ⟨(n - wd + 1).toNat, by omega⟩
      have H0 : Hid (outCountByWindows_0 n wd = (p2w K : Nat) ∧ outCountByWindows_1 n wd = true) := Lib.hid (by unfold outCountByWindows_0 outCountByWindows_1 cbwB; rw [h1, h2, hK, Int.toNat_natCast]; exact ⟨rfl, rfl⟩)
      have HC := Lib.hid (Tp.countRows_any K (by omega) w)
      have ew : n - wd = (K : Int) - 1 := by omega
      have i1 : IntKind.i64.wrap ((K : Int) - 1 + 1) = (K : Int) := by rw [IntWalk.i64_in _ (by omega)]; omega
      have i2 : (K : Int) - 1 + 1 = (K : Int) := by omega
      have hK41 : K ≤ 41 := by omega
      rw [h2] at HW
      clear h1 h2 hno hK
      go_enter Try.func38, Try.ntmps38
      go_wp2_with fail
      go_at_call 59
      refine HG.out.mono ?_
      rintro e w' ⟨rfl, rfl⟩
      go_wp2_with fail
      go_at_call 55
      refine HW.out.mono ?_
      rintro e w' ⟨rfl, rfl⟩
      go_wp2_with (go_at_call 60; refine HC.out.mono ?_; rintro e w' ⟨rfl, rfl⟩)
      go_ret2
      exact ⟨by rw [H0.out.1, H0.out.2]; exact rfl, Below.refl _ _⟩

end Go.Proofs.Ytkdpjimbhpclaaa
