/- Chapter 6, the program: ParseFiles, out of the library's contracts. -/
import Derived.Test.YtpoceonmlpnhlabDoorKq
namespace Go.Proofs.YtpoceonmlpnhlabDoor
open Go.ChangeShapes Go.WideShapes Go.ChangeAt Go.RowKit
open Dr Fi Rd

set_option maxRecDepth 20000 in
set_option maxHeartbeats 4000000 in
theorem implParseFiles_of (w : World) (s : ByteArray) (hls : s.size ≤ 1048576) (Q : World → Prop) (hQ : ∀ w2 : World, Below w.heap.size w w2 → Q w2)
    (hSp : ∀ (sep t : ByteArray) (w : World), 1 ≤ sep.size → t.size ≤ 1048576 → Q w → Calls Tryd.prog 24 #[.string t, .string sep, .int .i64 9] w fun e w' => ∃ cp, e = .returned (.slice (some ⟨w.heap.size, 0, none⟩) (splF sep t).length cp) ∧ (∀ j, j < (splF sep t).length → w'.cell? ⟨w.heap.size, j, none⟩ = some (.string ((splF sep t).getD j ByteArray.empty))) ∧ Below w.heap.size w w')
    (hAt : ∀ (t : ByteArray) (w : World), t.size ≤ 1048576 → Q w → Calls Tryd.prog 25 #[.string t] w fun e w' => ∃ ev, e = .returned (.tuple #[.int .i64 (atoiF t.data.toList), ev]) ∧ Below w.heap.size w w')
    (hFT : ∀ (w : World) (a : Option Addr) (len cap : Nat) (zss : List (List Int)), FitsSS zss → CameSS w a len zss → Q w → Calls Tryd.prog 8 #[.slice a len cap] w fun e w' => e = .returned (.tuple #[.string (outFilesText_0 zss), .bool (outFilesText_1 zss)]) ∧ Below w.heap.size w w') :
    Calls Tryd.prog 11 #[.string s] w fun e w' => ∃ v0, e = .returned (.tuple #[v0, .bool (outParseFiles_1 s)]) ∧ OwnSS w' w.heap.size v0 (outParseFiles_0 s) ∧ Below w.heap.size w w' := by
  have HSP := Lib.hid (hSp ⟨#[47]⟩ s w (by decide) hls (hQ w (Below.refl _ _)))
  have HSPT := Lib.hid (fun t w2 (h : t.size ≤ 1048576) (hb : Below w.heap.size w w2) => hSp ⟨#[44]⟩ t w2 (by decide) h (hQ w2 hb))
  have HAT := Lib.hid (fun t w2 (h : t.size ≤ 1048576) (hb : Below w.heap.size w w2) => hAt t w2 h (hQ w2 hb))
  have HFT := Lib.hid (fun w2 a len cap zss hf hc (hb : Below w.heap.size w w2) => hFT w2 a len cap zss hf hc (hQ w2 hb))
  have HSZ : Hid (∀ k, ((splF ⟨#[47]⟩ s).getD k ByteArray.empty).size ≤ 1048576) := Lib.hid (fun k => by
    by_cases hk : k < (splF ⟨#[47]⟩ s).length
    · rw [List.getD_eq_getElem?_getD, List.getElem?_eq_getElem hk]
      exact Nat.le_trans (spl_size _ _ _ (List.getElem_mem _)) hls
    · rw [List.getD_eq_getElem?_getD, List.getElem?_eq_none (by omega)]; exact Nat.zero_le _)
  have hn9 := spl_len ⟨#[47]⟩ s
  have HSU := Lib.hid (fun k => filesGo_succ s k)
  have HLE := Lib.hid (fun k => length_filesGo s k)
  have HGL : Hid (filesG s = filesGo s (splF ⟨#[47]⟩ s).length) := Lib.hid rfl
  have HFF := Lib.hid (fits_filesG s)
  have HOK := Lib.hid (progF s)
  obtain ⟨P, hP⟩ : ∃ P, P = splF ⟨#[47]⟩ s := ⟨_, rfl⟩
  rw [← hP] at HSP HSZ hn9 HSU HGL
  obtain ⟨n, hn⟩ : ∃ n, n = P.length := ⟨_, rfl⟩
  rw [← hn] at HSP hn9 HGL
  clear hSp hAt hFT hQ hP hn
  go_enter Tryd.func11, Tryd.ntmps11
  go_wp2_with fail
  go_at_call 24
  refine HSP.out.mono ?_
  rintro e w1 ⟨cp, rfl, hcell, b1⟩
  have HCELL : Hid (∀ w2, Below w1.heap.size w1 w2 → ∀ k, k < n → w2.cell? ⟨w.heap.size, k, none⟩ = some (.string (P.getD k ByteArray.empty))) := Lib.hid (fun w2 h k hk => (h.cell (World.block_lt_of_cell? _ _ (hcell k hk))).trans (hcell k hk))
  have HB1 : Hid (Below w.heap.size w w1) := Lib.hid b1
  have HBS : Hid (Below w1.heap.size w1 w1) := Lib.hid (Below.refl _ _)
  clear hcell b1 HSP
  go_wp2
  go_loopw [4, 17] (fun v i wr => ∃ k : Nat, k ≤ n ∧ i = .int .i64 (k : Int) ∧ Hid (OwnSS wr w1.heap.size v (filesGo s k)) ∧ Hid (Below w1.heap.size w1 wr)) (fun _ i _ => n - (intOf i).toNat)
  case atStart => exact ⟨0, Nat.zero_le _, rfl, Lib.hid (ownSS_nil _ _), HBS⟩
  case round =>
    obtain ⟨k, hk, rfl, HO, HB⟩ := hrel
    by_cases hlt : k < n
    · have e1 := HCELL.out wr HB.out k hlt
      have hts := HSZ.out k
      have HS := Lib.hid (HSU.out k)
      obtain ⟨wo, rfl⟩ : ∃ wo : World, wo = wr := ⟨_, rfl⟩
      obtain ⟨t, ht⟩ : ∃ t, t = P.getD k ByteArray.empty := ⟨_, rfl⟩
      rw [← ht] at e1 hts HS
      have HBW : Hid (Below w.heap.size w wo) := Lib.hid (HB1.out.trans (HB.out.mono HB1.out.size))
      have HSP2 := Lib.hid (HSPT.out t wo hts HBW.out)
      have hm9 := spl_len ⟨#[44]⟩ t
      have HRU := Lib.hid (fun j => rowGo_succ t j)
      have HRL := Lib.hid (fun j => length_rowGo t j)
      have HRG : Hid (rowG t = rowGo t (splF ⟨#[44]⟩ t).length) := Lib.hid rfl
      have HUZ : Hid (∀ k, ((splF ⟨#[44]⟩ t).getD k ByteArray.empty).size ≤ 1048576) := Lib.hid (fun k => by
        by_cases hk : k < (splF ⟨#[44]⟩ t).length
        · rw [List.getD_eq_getElem?_getD, List.getElem?_eq_getElem hk]
          exact Nat.le_trans (spl_size _ _ _ (List.getElem_mem _)) hts
        · rw [List.getD_eq_getElem?_getD, List.getElem?_eq_none (by omega)]; exact Nat.zero_le _)
      obtain ⟨U, hU⟩ : ∃ P, P = splF ⟨#[44]⟩ t := ⟨_, rfl⟩
      rw [← hU] at HSP2 hm9 HRU HRG HUZ
      obtain ⟨m, hm⟩ : ∃ n, n = U.length := ⟨_, rfl⟩
      rw [← hm] at HSP2 hm9 HRG
      have hbl : (filesGo s k).length ≤ 1000000000 := by rw [HLE.out]; omega
      have i1 : (0 : Int) ≤ (k : Int) := by omega
      have i2 : (k : Int) < (n : Int) := by omega
      clear ht hU hm
      go_wp2_with fail
      go_at_call 24
      refine HSP2.out.mono ?_
      rintro e w2 ⟨cp2, rfl, hcell2, b2⟩
      have HCELL2 : Hid (∀ w3, Below w2.heap.size w2 w3 → ∀ k, k < m → w3.cell? ⟨wo.heap.size, k, none⟩ = some (.string (U.getD k ByteArray.empty))) := Lib.hid (fun w2 h k hk => (h.cell (World.block_lt_of_cell? _ _ (hcell2 k hk))).trans (hcell2 k hk))
      have HB2 : Hid (Below wo.heap.size wo w2) := Lib.hid b2
      clear hcell2 b2 HSP2 e1
      go_wp2
      go_loopw [7, 24] (fun v i wr => ∃ j : Nat, j ≤ m ∧ i = .int .i64 (j : Int) ∧ Hid (Own wr w2.heap.size v (rowGo t j)) ∧ Hid (Below w2.heap.size w2 wr)) (fun _ i _ => m - (intOf i).toNat)
      case atStart => exact ⟨0, Nat.zero_le _, rfl, Lib.hid (own_nil _ _), Lib.hid (Below.refl _ _)⟩
      case round =>
        obtain ⟨j, hj, rfl, HR, HB3⟩ := hrel
        by_cases hlt2 : j < m
        · have ec := HCELL2.out wr HB3.out j hlt2
          have hus := HUZ.out j
          have HSJ := Lib.hid (HRU.out j)
          obtain ⟨u, hu⟩ : ∃ u, u = U.getD j ByteArray.empty := ⟨_, rfl⟩
          rw [← hu] at ec hus HSJ
          have HBX : Hid (Below w.heap.size w wr) := Lib.hid (HBW.out.trans ((HB2.out.trans (HB3.out.mono HB2.out.size)).mono HBW.out.size))
          have HA := Lib.hid (HAT.out u wr hus HBX.out)
          obtain ⟨z, hzz⟩ : ∃ z, z = atoiF u.data.toList := ⟨_, rfl⟩
          rw [← hzz] at HA HSJ
          have hrl : (rowGo t j).length ≤ 1000000000 := by rw [HRL.out]; omega
          have i3 : (0 : Int) ≤ (j : Int) := by omega
          have i4 : (j : Int) < (m : Int) := by omega
          clear hu hzz
          go_wp2_with fail
          go_at_call 25
          refine HA.out.mono ?_
          rintro e w4 ⟨ev, rfl, b4⟩
          have HR4 := Lib.hid (HR.out.below b4 (Nat.le_refl _))
          have HB4 : Hid (Below w2.heap.size w2 w4) := Lib.hid (HB3.out.trans (b4.mono HB3.out.size))
          have hz4 := HB4.out.size
          clear b4 HR HB3 HA ec HBX
          go_wp2_with (at_builtin; refine wpList_app rfl _ _ rfl w4 _ _ _ _ rfl rfl HR4.out hz4 hrl ?_; intro v5 w5 hO5 hB5; refine Stop.on ?_)
          have HR5 : Hid (Own w5 w2.heap.size v5 (rowGo t (j + 1))) := Lib.hid (by rw [HSJ.out]; exact hO5)
          have HB5 : Hid (Below w2.heap.size w2 w5) := Lib.hid (HB4.out.trans hB5)
          clear hO5 hB5
          refine ⟨?_⟩
          go_wp2
          go_roundw
          case rel => exact ⟨j + 1, by omega, by go_num, HR5, HB5⟩
          case measure => simp [intOf]; omega
        · obtain rfl : j = m := by omega
          rw [← HRG.out] at HR
          have HBO : Hid (Below wo.heap.size wo wr) := Lib.hid (HB2.out.trans (HB3.out.mono HB2.out.size))
          have HRO : Hid (Own wr wo.heap.size _ (rowG t)) := Lib.hid (HR.out.mono HB2.out.size)
          have hzo := HB.out.size
          obtain ⟨ar, cr, rfl⟩ := HRO.out.any
          clear HR HB3 HB2
          go_wp2_with (at_builtin; refine wpList_appRow rfl _ _ rfl wr wo _ _ _ _ _ _ rfl rfl rfl HO.out HBO.out HRO.out hzo hbl ?_; intro v' w5 hO5 hB5; refine Stop.on ?_)
          have HO5 : Hid (OwnSS w5 w1.heap.size v' (filesGo s (k + 1))) := Lib.hid (by rw [HS.out]; exact hO5)
          have HB5 : Hid (Below w1.heap.size w1 w5) := Lib.hid ((HB.out.trans (HBO.out.mono hzo)).trans hB5)
          clear hO5 hB5
          refine ⟨?_⟩
          go_wp2
          go_roundw
          case rel => exact ⟨k + 1, by omega, by go_num, HO5, HB5⟩
          case measure => simp [intOf]; omega
    · obtain rfl : k = n := by omega
      rw [← HGL.out] at HO
      obtain ⟨ao, c, rfl, hcm, _⟩ := HO.out.cameC
      have HBW : Hid (Below w.heap.size w wr) := Lib.hid (HB1.out.trans (HB.out.mono HB1.out.size))
      have HTX := Lib.hid (HFT.out wr ao _ c (filesG s) HFF.out hcm HBW.out)
      have HOL : Hid (OwnSS wr w.heap.size (.slice ao (filesG s).length c) (filesG s)) := Lib.hid (HO.out.mono HB1.out.size)
      have HOT : Hid (outFilesText_1 (filesG s) = goodF (filesG s) ∧ (goodF (filesG s) = true → outFilesText_0 (filesG s) = fileText (filesG s))) := Lib.hid ⟨rfl, fun h => by unfold outFilesText_0; rw [h]; rfl⟩
      obtain ⟨ln, hln⟩ : ∃ n, n = (filesG s).length := ⟨_, rfl⟩
      rw [← hln] at HTX HOL ⊢
      clear HO hcm hln
      obtain ⟨t0, ht0⟩ : ∃ t, t = outFilesText_0 (filesG s) := ⟨_, rfl⟩
      obtain ⟨g0, hg0⟩ : ∃ t, t = outFilesText_1 (filesG s) := ⟨_, rfl⟩
      rw [← ht0, ← hg0] at HTX HOT
      have HTB : Hid (parB s = (g0 && decide (t0 = s))) := Lib.hid (by
        rw [← HOK.out.1, HOT.out.1]
        rcases hg : goodF (filesG s) with _ | _
        · rfl
        · rw [HOT.out.2 hg])
      clear ht0 hg0
      cases g0 with
      | false =>
        have HF := Lib.hid (par_no (s := s) (by rw [HTB.out]; rfl))
        go_wp2_with fail
        go_at_call 8
        refine HTX.out.mono ?_
        rintro e w3 ⟨rfl, b3⟩
        have B3 : Hid (Below w.heap.size w w3) := Lib.hid (HBW.out.trans (b3.mono HBW.out.size))
        clear b3
        go_wp2
        go_ret2
        exact ⟨_, by rw [HF.out.2]; exact rfl, by rw [HF.out.1]; exact ownSS_nil _ _, B3.out⟩
      | true =>
        by_cases hts : t0 = s
        · have HT1 : Hid (parB s = true) := Lib.hid (by rw [HTB.out, decide_eq_true hts]; rfl)
          have HF : Hid (outParseFiles_0 s = filesG s ∧ outParseFiles_1 s = true) := Lib.hid (by unfold outParseFiles_0 outParseFiles_1; rw [HT1.out]; exact ⟨(HOK.out.2 HT1.out).symm, rfl⟩)
          have hq : (t0.toList == s.toList) = true := by rw [hts]; simp
          clear hts
          go_wp2_with fail
          go_at_call 8
          refine HTX.out.mono ?_
          rintro e w3 ⟨rfl, b3⟩
          have B3 : Hid (Below w.heap.size w w3) := Lib.hid (HBW.out.trans (b3.mono HBW.out.size))
          have O3 : Hid (OwnSS w3 w.heap.size (.slice ao ln c) (filesG s)) := Lib.hid (HOL.out.below b3 (Nat.le_refl _))
          clear b3
          go_wp2
          go_ret2
          exact ⟨_, by rw [HF.out.2]; exact rfl, by rw [HF.out.1]; exact O3.out, B3.out⟩
        · have HF := Lib.hid (par_no (s := s) (by rw [HTB.out, decide_eq_false hts]; rfl))
          have hq0 := strs_neG hts
          clear hts
          go_wp2_with fail
          go_at_call 8
          refine HTX.out.mono ?_
          rintro e w3 ⟨rfl, b3⟩
          have B3 : Hid (Below w.heap.size w w3) := Lib.hid (HBW.out.trans (b3.mono HBW.out.size))
          clear b3
          go_wp2
          go_ret2
          exact ⟨_, by rw [HF.out.2]; exact rfl, by rw [HF.out.1]; exact ownSS_nil _ _, B3.out⟩

end Go.Proofs.YtpoceonmlpnhlabDoor
