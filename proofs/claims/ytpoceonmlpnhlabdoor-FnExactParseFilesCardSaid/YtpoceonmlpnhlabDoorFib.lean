/- Chapter 6, the model: fiText, FilesText. -/
import Derived.Test.YtpoceonmlpnhlabDoorFj
import Derived.Test.YtpoceonmlpnhlabDoorNum
namespace Go.Proofs.YtpoceonmlpnhlabDoor
open Go.ChangeShapes Go.WideShapes Go.ChangeAt Go.RowKit
open Dr Fi

namespace Fi
/-- a text with the first k heights of a row behind it -/
def rowT (p : ByteArray) (r : List Int) : Nat → ByteArray
  | 0 => p
  | k + 1 => (if 0 < k then rowT p r k ++ txt [44] else rowT p r k) ++ txt (numL (r.getD k 0).toNat)
def fileT (zss : List (List Int)) : Nat → ByteArray
  | 0 => ByteArray.empty
  | i + 1 => rowT (if 0 < i then fileT zss i ++ txt [47] else fileT zss i) (row zss i) (row zss i).length
def fileText (zss : List (List Int)) : ByteArray := fileT zss zss.length
theorem size_num {z : Int} (_h1 : 1 ≤ z) (h2 : z ≤ 999) : (txt (numL z.toNat)).size ≤ 3 := by
  rw [size_txt]
  exact numL_len _ 3 (by omega) (by omega)
theorem size_rowT (p : ByteArray) (r : List Int) (h : ∀ j, j < r.length → 1 ≤ r.getD j 0 ∧ r.getD j 0 ≤ 999) : ∀ k, k ≤ r.length → (rowT p r k).size ≤ p.size + 4 * k
  | 0, _ => Nat.le_refl _
  | k + 1, hk => by
    have h1 := size_rowT p r h k (by omega)
    have h2 := h k (by omega)
    have h3 := size_num h2.1 h2.2
    rw [rowT]
    split
    · rw [ByteArray.size_append, ByteArray.size_append, size_txt]; simp only [List.length_cons, List.length_nil]; omega
    · rw [ByteArray.size_append]; omega
theorem size_fileT {zss : List (List Int)} {R C : Nat} (g : Fi.Good zss R C) : ∀ i, i ≤ R → (fileT zss i).size ≤ 33 * i
  | 0, _ => Nat.le_refl _
  | i + 1, hi => by
    have h1 := size_fileT g i (by omega)
    have h2 := g.cols i (by omega)
    have h3 := g.c8
    have h4 := fun p => size_rowT p (row zss i) (fun j hj => g.get i j (by omega) (by omega)) _ (Nat.le_refl _)
    rw [fileT]
    split
    · have := h4 (fileT zss i ++ txt [47])
      rw [ByteArray.size_append, size_txt] at this; simp only [List.length_cons, List.length_nil] at this; omega
    · have := h4 (fileT zss i); omega
theorem str_eqV {a b : ByteArray} (h : a = b) : Value.string a = .string b := by rw [h]
end Fi
def outFilesText_0 (zss : List (List Int)) : ByteArray := if goodF zss then fileText zss else ByteArray.empty
def outFilesText_1 (zss : List (List Int)) : Bool := goodF zss

set_option maxHeartbeats 2000000 in
theorem fiText_any (w : World) (a : Option Addr) (len cap : Nat) (zss : List (List Int)) (R C : Nat) (g : Fi.Good zss R C) (hc : CameSS w a len zss) :
    Calls Tryd.prog 16 #[.slice a len cap] w fun e w' => e = .returned (.string (fileText zss)) ∧ Below w.heap.size w w' := by
  have hln : len = R := hc.1.symm.trans g.rows
  subst hln
  have HE : Hid (fileText zss = fileT zss len) := Lib.hid (by unfold fileText; rw [hc.1])
  have HC := Lib.hid hc
  have HL := Lib.hid (fun i hi => g.cols i hi)
  have HSZ := Lib.hid (fun i hi => size_fileT g i hi)
  have HGT := Lib.hid (fun i j hi hj => g.get i j hi hj)
  have HRS := Lib.hid (fun (p : ByteArray) (i : Nat) (hi : i < len) => size_rowT p (row zss i) (fun j hj => g.get i j hi (by rw [← g.cols i hi]; exact hj)))
  have hc1 := g.c1
  have hc8 := g.c8
  have hr8 := g.r8
  clear hc g
  go_enter Tryd.func16, Tryd.ntmps16
  go_wp2
  go_loopw [3, 10] (fun sv i wr => ∃ (k : Nat) (p : ByteArray), k ≤ len ∧ i = .int .i64 k ∧ sv = .string p ∧ p.size ≤ 264 ∧ Hid (p = fileT zss k) ∧ Hid (Below w.heap.size w wr)) (fun _ i _ => len - (intOf i).toNat)
  case atStart => exact ⟨0, ByteArray.empty, Nat.zero_le _, rfl, rfl, Nat.zero_le _, Lib.hid rfl, Lib.hid (Below.refl _ _)⟩
  case round =>
    obtain ⟨k, p, hk, rfl, rfl, hps, HP, HB⟩ := hrel
    by_cases hlt : k < len
    · obtain ⟨b, off, ak, ck, rfl, e1, hrow, _, _⟩ := HC.out.at k hlt
      have hq : (zss.getD k []).length = C := HL.out k hlt
      rw [hq] at e1 hrow
      obtain ⟨b2, off2, rfl, hcell⟩ := hrow.2 (by omega)
      have e2 := (HB.out.cell (World.block_lt_of_cell? w _ e1)).trans e1
      have HX := Lib.hid (fun (j : Nat) (hj : j < C) (w5 : World) (h5 : Below w.heap.size w w5) => (h5.cell (World.block_lt_of_cell? w _ (hcell j hj))).trans (hcell j hj))
      have HG2 := Lib.hid (fun j (hj : j < C) => HGT.out k j hlt hj)
      have hsz2 := HSZ.out (k + 1) (by omega)
      have HFS : Hid (fileT zss (k + 1) = rowT (if 0 < k then fileT zss k ++ txt [47] else fileT zss k) (zss.getD k []) C) := Lib.hid (by rw [fileT, show (row zss k).length = C from hq]; rfl)
      have hfs2 : (fileT zss (k + 1)).size ≤ 264 := by omega
      have HFZ := Lib.hid hfs2
      have HRT := Lib.hid (fun q => HRS.out q k hlt)
      rw [show (row zss k).length = C from hq] at HRT
      obtain ⟨r, hr⟩ : ∃ r, r = zss.getD k [] := ⟨_, rfl⟩
      rw [← hr] at HX HFS
      rw [show row zss k = r from hr.symm] at HG2 HRT
      have i3 : (0 : Int) ≤ (k : Int) := by omega
      have i4 : (k : Int) < (len : Int) := by omega
      have hszk := HSZ.out k hk
      have hpk : p.size ≤ 33 * k := by rw [HP.out]; exact hszk
      obtain ⟨wo, rfl⟩ : ∃ wo : World, wo = wr := ⟨_, rfl⟩
      clear hcell hrow hq hr e1 hsz2 hfs2 hszk
      by_cases hk0 : 0 < k
      · have HQ : Hid (fileT zss (k + 1) = rowT (p ++ ⟨#[47]⟩) r C) := Lib.hid (by rw [HFS.out, if_pos hk0, ← HP.out]; rfl)
        have hqs : (p ++ ⟨#[47]⟩).size ≤ 33 * k + 1 := by rw [ByteArray.size_append]; show p.size + 1 ≤ _; omega
        have hqs2 : (p ++ ⟨#[47]⟩).size ≤ 300 := by omega
        go_wp2
        go_loopw [3, 21] (fun sv i wr => ∃ (j : Nat) (t : ByteArray), j ≤ C ∧ i = .int .i64 j ∧ sv = .string t ∧ t.size ≤ 300 ∧ Hid (t = rowT (p ++ ⟨#[47]⟩) r j) ∧ Hid (Below w.heap.size w wr)) (fun _ i _ => C - (intOf i).toNat)
        case atStart => exact ⟨0, (p ++ ⟨#[47]⟩), Nat.zero_le _, rfl, rfl, by omega, Lib.hid rfl, HB⟩
        case round =>
          obtain ⟨j, t, hj, rfl, rfl, hts, HT, HB2⟩ := hrel
          by_cases hlt2 : j < C
          · have c1 := HX.out j hlt2 wr HB2.out
            have hgt := HG2.out j hlt2
            have HSJ : Hid (rowT (p ++ ⟨#[47]⟩) r (j + 1) = (if 0 < j then t ++ txt [44] else t) ++ txt (numL (r.getD j 0).toNat)) := Lib.hid (by rw [rowT, ← HT.out])
            have hsj : (rowT (p ++ ⟨#[47]⟩) r (j + 1)).size ≤ 300 := by have := HRT.out ((p ++ ⟨#[47]⟩)) (j + 1) (by omega); omega
            have hst : t.size ≤ 297 := by have := HRT.out ((p ++ ⟨#[47]⟩)) j (by omega); rw [← HT.out] at this; omega
            obtain ⟨n, hn⟩ : ∃ n : Nat, r.getD j 0 = (n : Int) := ⟨(r.getD j 0).toNat, by omega⟩
            rw [hn] at c1 hgt HSJ
            rw [Int.toNat_natCast] at HSJ
            have HN := Lib.hid (fun w2 => l1Num_any n (by omega) w2)
            have hns : (txt (numL n)).size ≤ 3 := by have := size_num (z := (n : Int)) (by omega) (by omega); rwa [Int.toNat_natCast] at this
            obtain ⟨u, hu⟩ : ∃ u, u = txt (numL n) := ⟨_, rfl⟩
            rw [← hu] at HSJ HN hns
            have HSZJ := Lib.hid hsj
            have i5 : (0 : Int) ≤ (j : Int) := by omega
            have i6 : (j : Int) < (C : Int) := by omega
            clear hn hu hsj
            by_cases hj0 : 0 < j
            · have HS2 : Hid (rowT (p ++ ⟨#[47]⟩) r (j + 1) = t ++ ⟨#[44]⟩ ++ u) := Lib.hid (by rw [HSJ.out, if_pos hj0]; rfl)
              have ht4 : (t ++ ⟨#[44]⟩).size ≤ 298 := by rw [ByteArray.size_append]; show t.size + 1 ≤ _; omega
              have hs5 : (t ++ ⟨#[44]⟩ ++ u).size ≤ 300 := by rw [← HS2.out]; exact HSZJ.out
              go_wp2_with fail
              go_at_call 30
              refine (HN.out _).mono ?_
              rintro e w2 ⟨rfl, b2⟩
              have B2 : Hid (Below w.heap.size w w2) := Lib.hid (HB2.out.trans (b2.mono HB2.out.size))
              clear b2
              go_wp2
              go_roundw
              case rel => exact ⟨j + 1, _, by omega, by go_num, rfl, hs5, Lib.hid HS2.out.symm, B2⟩
              case measure => simp [intOf]; omega
            · have hj1 : j ≤ 0 := by omega
              have HS2 : Hid (rowT (p ++ ⟨#[47]⟩) r (j + 1) = t ++ u) := Lib.hid (by rw [HSJ.out, if_neg hj0])
              have hs5 : (t ++ u).size ≤ 300 := by rw [← HS2.out]; exact HSZJ.out
              clear hj0
              go_wp2_with fail
              go_at_call 30
              refine (HN.out _).mono ?_
              rintro e w2 ⟨rfl, b2⟩
              have B2 : Hid (Below w.heap.size w w2) := Lib.hid (HB2.out.trans (b2.mono HB2.out.size))
              clear b2
              go_wp2
              go_roundw
              case rel => exact ⟨j + 1, _, by omega, by go_num, rfl, hs5, Lib.hid HS2.out.symm, B2⟩
              case measure => simp [intOf]; omega
          · obtain rfl : j = C := by omega
            have HP2 : Hid (t = fileT zss (k + 1)) := Lib.hid (by rw [HQ.out]; exact HT.out)
            have hps2 : t.size ≤ 264 := by rw [HP2.out]; exact HFZ.out
            go_wp2
            go_roundw
            case rel => exact ⟨k + 1, t, by omega, by go_num, rfl, hps2, HP2, HB2⟩
            case measure => simp [intOf]; omega
      · have hk1 : k ≤ 0 := by omega
        have HQ : Hid (fileT zss (k + 1) = rowT p r C) := Lib.hid (by rw [HFS.out, if_neg hk0, ← HP.out])
        have hqs : p.size ≤ 33 * k + 1 := by omega
        have bkN : decide (0 < k) = false := decide_eq_false hk0
        clear hk0
        go_wp2
        go_loopw [3, 21] (fun sv i wr => ∃ (j : Nat) (t : ByteArray), j ≤ C ∧ i = .int .i64 j ∧ sv = .string t ∧ t.size ≤ 300 ∧ Hid (t = rowT p r j) ∧ Hid (Below w.heap.size w wr)) (fun _ i _ => C - (intOf i).toNat)
        case atStart => exact ⟨0, p, Nat.zero_le _, rfl, rfl, by omega, Lib.hid rfl, HB⟩
        case round =>
          obtain ⟨j, t, hj, rfl, rfl, hts, HT, HB2⟩ := hrel
          by_cases hlt2 : j < C
          · have c1 := HX.out j hlt2 wr HB2.out
            have hgt := HG2.out j hlt2
            have HSJ : Hid (rowT p r (j + 1) = (if 0 < j then t ++ txt [44] else t) ++ txt (numL (r.getD j 0).toNat)) := Lib.hid (by rw [rowT, ← HT.out])
            have hsj : (rowT p r (j + 1)).size ≤ 300 := by have := HRT.out (p) (j + 1) (by omega); omega
            have hst : t.size ≤ 297 := by have := HRT.out (p) j (by omega); rw [← HT.out] at this; omega
            obtain ⟨n, hn⟩ : ∃ n : Nat, r.getD j 0 = (n : Int) := ⟨(r.getD j 0).toNat, by omega⟩
            rw [hn] at c1 hgt HSJ
            rw [Int.toNat_natCast] at HSJ
            have HN := Lib.hid (fun w2 => l1Num_any n (by omega) w2)
            have hns : (txt (numL n)).size ≤ 3 := by have := size_num (z := (n : Int)) (by omega) (by omega); rwa [Int.toNat_natCast] at this
            obtain ⟨u, hu⟩ : ∃ u, u = txt (numL n) := ⟨_, rfl⟩
            rw [← hu] at HSJ HN hns
            have HSZJ := Lib.hid hsj
            have i5 : (0 : Int) ≤ (j : Int) := by omega
            have i6 : (j : Int) < (C : Int) := by omega
            clear hn hu hsj
            by_cases hj0 : 0 < j
            · have HS2 : Hid (rowT p r (j + 1) = t ++ ⟨#[44]⟩ ++ u) := Lib.hid (by rw [HSJ.out, if_pos hj0]; rfl)
              have ht4 : (t ++ ⟨#[44]⟩).size ≤ 298 := by rw [ByteArray.size_append]; show t.size + 1 ≤ _; omega
              have hs5 : (t ++ ⟨#[44]⟩ ++ u).size ≤ 300 := by rw [← HS2.out]; exact HSZJ.out
              go_wp2_with fail
              go_at_call 30
              refine (HN.out _).mono ?_
              rintro e w2 ⟨rfl, b2⟩
              have B2 : Hid (Below w.heap.size w w2) := Lib.hid (HB2.out.trans (b2.mono HB2.out.size))
              clear b2
              go_wp2
              go_roundw
              case rel => exact ⟨j + 1, _, by omega, by go_num, rfl, hs5, Lib.hid HS2.out.symm, B2⟩
              case measure => simp [intOf]; omega
            · have hj1 : j ≤ 0 := by omega
              have HS2 : Hid (rowT p r (j + 1) = t ++ u) := Lib.hid (by rw [HSJ.out, if_neg hj0])
              have hs5 : (t ++ u).size ≤ 300 := by rw [← HS2.out]; exact HSZJ.out
              clear hj0
              go_wp2_with fail
              go_at_call 30
              refine (HN.out _).mono ?_
              rintro e w2 ⟨rfl, b2⟩
              have B2 : Hid (Below w.heap.size w w2) := Lib.hid (HB2.out.trans (b2.mono HB2.out.size))
              clear b2
              go_wp2
              go_roundw
              case rel => exact ⟨j + 1, _, by omega, by go_num, rfl, hs5, Lib.hid HS2.out.symm, B2⟩
              case measure => simp [intOf]; omega
          · obtain rfl : j = C := by omega
            have HP2 : Hid (t = fileT zss (k + 1)) := Lib.hid (by rw [HQ.out]; exact HT.out)
            have hps2 : t.size ≤ 264 := by rw [HP2.out]; exact HFZ.out
            go_wp2
            go_roundw
            case rel => exact ⟨k + 1, t, by omega, by go_num, rfl, hps2, HP2, HB2⟩
            case measure => simp [intOf]; omega
    · obtain rfl : k = len := by omega
      go_wp2
      go_ret
      exact ⟨ret_str (by rw [HE.out]; exact HP.out), HB.out⟩

set_option maxHeartbeats 400000 in
theorem specFilesText_any (w : World) (a : Option Addr) (len cap : Nat) (zss : List (List Int)) (hf : FitsSS zss) (hc : CameSS w a len zss) :
    Calls Tryd.prog 6 #[.slice a len cap] w fun e w' => e = .returned (.tuple #[.string (outFilesText_0 zss), .bool (outFilesText_1 zss)]) ∧ Below w.heap.size w w' := by
  have HG := Lib.hid (fiGood_any w a len cap zss hf hc)
  rcases hb : goodF zss with _ | _
  · have H0 : Hid (outFilesText_0 zss = ByteArray.empty ∧ outFilesText_1 zss = false) := Lib.hid (by unfold outFilesText_0 outFilesText_1; rw [hb]; exact ⟨rfl, rfl⟩)
    rw [hb] at HG
    clear hb hc hf
    go_enter Tryd.func6, Tryd.ntmps6
    go_wp2_with (go_at_call 15; refine HG.out.mono ?_; rintro e w' ⟨rfl, rfl⟩)
    go_ret2
    exact ⟨by rw [H0.out.1, H0.out.2]; exact rfl, Below.refl _ _⟩
  · have H0 : Hid (outFilesText_0 zss = fileText zss ∧ outFilesText_1 zss = true) := Lib.hid (by unfold outFilesText_0 outFilesText_1; rw [hb]; exact ⟨rfl, rfl⟩)
    have HT := Lib.hid (fiText_any w a len cap zss _ _ (good_of hb) hc)
    rw [hb] at HG
    clear hb hc hf
    go_enter Tryd.func6, Tryd.ntmps6
    go_wp2_with fail
    go_at_call 15
    refine HG.out.mono ?_
    rintro e w' ⟨rfl, rfl⟩
    go_wp2_with fail
    go_at_call 16
    refine HT.out.mono ?_
    rintro e w2 ⟨rfl, b2⟩
    have B2 := Lib.hid b2
    clear b2
    go_wp2
    go_ret2
    exact ⟨by rw [H0.out.1, H0.out.2]; exact rfl, B2.out⟩

end Go.Proofs.YtpoceonmlpnhlabDoor
