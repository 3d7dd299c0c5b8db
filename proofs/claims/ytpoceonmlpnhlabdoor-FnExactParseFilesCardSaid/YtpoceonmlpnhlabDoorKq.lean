/- Chapter 6, the program: FilesText, out of the library's contracts. -/
import Derived.Test.YtpoceonmlpnhlabDoorKb
import Derived.Test.YtpoceonmlpnhlabDoorKp
import Derived.Test.YtpoceonmlpnhlabDoorStr
import Derived.Lib.LaidTab
import Derived.Lib.ItoaNum
namespace Go.Proofs.YtpoceonmlpnhlabDoor
open Go.ChangeShapes Go.WideShapes Go.ChangeAt Go.RowKit
open Dr Fi

/-- what the library's table of powers of ten holds -/
def Tab_libPow (w : World) : Prop := Lib.TabIs Tryd.prog w "internal/strconv.uint64pow10" .u64 Lib.pow10Tab
theorem Tab_libPow.below {w w' : World} (h : Tab_libPow w) (hb : Below w.heap.size w w') : Tab_libPow w' := by
  unfold Tab_libPow Lib.TabIs World.var? at h ⊢
  cases hg : Tryd.prog.globalNamed "internal/strconv.uint64pow10" with
  | none => rw [hg] at h; simp at h
  | some g =>
    rw [hg] at h
    simp only [Option.bind_some] at h ⊢
    split at h
    · rename_i c t fr hc
      rw [hb.block g (lt_of_block hc), hc]
      exact h
    · cases h

set_option maxRecDepth 20000 in
set_option maxHeartbeats 4000000 in
theorem implFilesText_of (w : World) (a : Option Addr) (len cap : Nat) (zss : List (List Int)) (hf : FitsSS zss) (hc : CameSS w a len zss) (ht : Tab_libPow w)
    (hI : ∀ (i : Nat) (w : World), i < 1000 → Tab_libPow w → Calls Tryd.prog 19 #[.int .i64 (i : Int)] w fun e w' => e = .returned (.string (txt (numL i))) ∧ Below w.heap.size w w')
    (hJ : ∀ (sep : ByteArray) (bk o c : Nat) (xs : List ByteArray) (w : World), (∀ (j : Nat) x, xs[j]? = some x → w.cell? ⟨bk, o + j, none⟩ = some (.string x)) → bk < w.heap.size → xs.length ≤ 8 → xs.length ≤ c → (Lib.join (xs.map (·.data.toList)) sep.data.toList).length ≤ 1000 →
      Calls Tryd.prog 20 #[.slice (some ⟨bk, o, none⟩) xs.length c, .string sep] w fun e w' => e = .returned (.string ⟨(Lib.join (xs.map (·.data.toList)) sep.data.toList).toArray⟩) ∧ Below w.heap.size w w') :
    Calls Tryd.prog 8 #[.slice a len cap] w fun e w' => e = .returned (.tuple #[.string (outFilesText_0 zss), .bool (outFilesText_1 zss)]) ∧ Below w.heap.size w w' := by
  have HG := Lib.hid (areFiles_any w a len cap zss hf hc)
  have HI := Lib.hid hI
  have HJ := Lib.hid hJ
  have HTB := Lib.hid ht
  have HC := Lib.hid hc
  have hzl := hc.1
  clear hI hJ ht hf hc
  rcases hb : goodF zss with _ | _
  · have H0 : Hid (outFilesText_0 zss = ByteArray.empty ∧ outFilesText_1 zss = false) := Lib.hid (by unfold outFilesText_0 outFilesText_1; rw [hb]; exact ⟨rfl, rfl⟩)
    rw [hb] at HG
    clear hb hzl
    go_enter Tryd.func8, Tryd.ntmps8
    go_wp2_with (go_at_call 18; refine HG.out.mono ?_; rintro e w' ⟨rfl, rfl⟩)
    go_ret2
    exact ⟨by rw [H0.out.1, H0.out.2]; exact rfl, Below.refl _ _⟩
  · have g := good_of hb
    have H0 : Hid (outFilesText_0 zss = fileText zss ∧ outFilesText_1 zss = true) := Lib.hid (by unfold outFilesText_0 outFilesText_1; rw [hb]; exact ⟨rfl, rfl⟩)
    have HZ := Lib.hid hzl
    obtain ⟨C, hC⟩ : ∃ C, C = (row zss 0).length := ⟨_, rfl⟩
    rw [← hC, hzl] at g
    have HCO := Lib.hid (fun i hi => g.cols i hi)
    have HGT := Lib.hid (fun i j hi hj => g.get i j hi hj)
    have HSZ := Lib.hid (fileText_size g)
    have HRZ := Lib.hid (fun i (hi : i < len) => size_rowT ByteArray.empty (row zss i) (fun j hj => g.get i j hi (by rw [← g.cols i hi]; exact hj)) C (by rw [g.cols i hi]; exact Nat.le_refl _))
    have hr1 := g.r1
    have hr8 := g.r8
    have hc1 := g.c1
    have hc8 := g.c8
    rw [hb] at HG
    clear hb g hC hzl
    go_enter Tryd.func8, Tryd.ntmps8
    go_wp2_with fail
    go_at_call 18
    refine HG.out.mono ?_
    rintro e w' ⟨rfl, rfl⟩
    go_wp2
    go_loopw [4, 15] (fun v i wr => ∃ k : Nat, k ≤ len ∧ i = .int .i64 (k : Int) ∧ Hid (OwnT wr w.heap.size v (segF zss k)) ∧ Hid (Below w.heap.size w wr)) (fun _ i _ => len - (intOf i).toNat)
    case atStart => exact ⟨0, Nat.zero_le _, rfl, Lib.hid (ownT_nil _ _), Lib.hid (Below.refl _ _)⟩
    case round =>
      obtain ⟨k, hk, rfl, HO, HB⟩ := hrel
      by_cases hlt : k < len
      · obtain ⟨b, off, ak, ck, rfl, e1, hrow, _, _⟩ := (HC.out.below HB.out).at k hlt
        have hq : (zss.getD k []).length = C := HCO.out k hlt
        rw [hq] at e1 hrow
        obtain ⟨b2, off2, rfl, hcell⟩ := hrow.2 (by omega)
        obtain ⟨wo, rfl⟩ : ∃ wo : World, wo = wr := ⟨_, rfl⟩
        have HX := Lib.hid (fun (j : Nat) (hj : j < C) (w5 : World) (h5 : Below wo.heap.size wo w5) => (h5.cell (World.block_lt_of_cell? wo _ (hcell j hj))).trans (hcell j hj))
        have HGK := Lib.hid (fun j (hj : j < C) => HGT.out k j hlt hj)
        have HRK := Lib.hid (HRZ.out k hlt)
        have HSF := Lib.hid (segF_succ zss k)
        have HRJ : Hid ((⟨(Lib.join ((segR (row zss k) C).map (·.data.toList)) (⟨#[44]⟩ : ByteArray).data.toList).toArray⟩ : ByteArray) = rowX (row zss k)) := Lib.hid (by have := rowX_is (r := row zss k) (by rw [show (row zss k).length = C from hq]; exact hc1); rwa [show (row zss k).length = C from hq] at this)
        have HRX : Hid (rowX (row zss k) = rowT ByteArray.empty (row zss k) C) := Lib.hid (by unfold rowX; rw [show (row zss k).length = C from hq])
        obtain ⟨r, hr⟩ : ∃ r, r = row zss k := ⟨_, rfl⟩
        rw [show zss.getD k [] = r from hr.symm] at HX
        rw [← hr] at HRK HSF HRJ HRX
        have HGK2 : Hid (∀ j, j < C → 1 ≤ r.getD j 0 ∧ r.getD j 0 ≤ 999) := Lib.hid (by rw [hr]; exact HGK.out)
        have i3 : (0 : Int) ≤ (k : Int) := by omega
        have i4 : (k : Int) < (len : Int) := by omega
        have hO := HO
        clear hcell hrow hq hr HGK
        go_wp2
        go_loopw [7, 21] (fun v i wr => ∃ j : Nat, j ≤ C ∧ i = .int .i64 (j : Int) ∧ Hid (OwnT wr wo.heap.size v (segR r j)) ∧ Hid (Below wo.heap.size wo wr)) (fun _ i _ => C - (intOf i).toNat)
        case atStart => exact ⟨0, Nat.zero_le _, rfl, Lib.hid (ownT_nil _ _), Lib.hid (Below.refl _ _)⟩
        case round =>
          obtain ⟨j, hj, rfl, HR, HB2⟩ := hrel
          by_cases hlt2 : j < C
          · have c1 := HX.out j hlt2 wr HB2.out
            have hgt := HGK2.out j hlt2
            have HS := Lib.hid (segR_succ r j)
            obtain ⟨n, hn⟩ : ∃ n : Nat, r.getD j 0 = (n : Int) := ⟨(r.getD j 0).toNat, by omega⟩
            rw [hn] at c1 hgt
            have HNT : Hid (numT (r.getD j 0) = txt (numL n)) := Lib.hid (by unfold numT; rw [hn, Int.toNat_natCast])
            rw [HNT.out] at HS
            have HN := Lib.hid (HI.out n wr (by omega) ((HTB.out.below HB.out).below HB2.out))
            obtain ⟨u, hu⟩ : ∃ u, u = txt (numL n) := ⟨_, rfl⟩
            rw [← hu] at HS HN
            have hsl : (segR r j).length ≤ 1000000000 := by rw [length_segR]; omega
            have i5 : (0 : Int) ≤ (j : Int) := by omega
            have i6 : (j : Int) < (C : Int) := by omega
            clear hn hu HNT
            go_wp2_with fail
            go_at_call 19
            refine HN.out.mono ?_
            rintro e w2 ⟨rfl, bb⟩
            have HR2 := Lib.hid (HR.out.below bb (Nat.le_refl _))
            have HB3 : Hid (Below wo.heap.size wo w2) := Lib.hid (HB2.out.trans (bb.mono HB2.out.size))
            have hz := HB3.out.size
            clear bb HR HB2 HN c1
            go_wp2_with (at_builtin; refine wpList_appT rfl _ _ rfl w2 _ _ _ _ rfl rfl HR2.out hz hsl ?_; intro v' w5 hO5 hB5; refine Stop.on ?_)
            have HR5 : Hid (OwnT w5 wo.heap.size v' (segR r (j + 1))) := Lib.hid (by rw [HS.out]; exact hO5)
            have HB5 : Hid (Below wo.heap.size wo w5) := Lib.hid (HB3.out.trans hB5)
            clear hO5 hB5
            refine ⟨?_⟩
            go_wp2
            go_roundw
            case rel => exact ⟨j + 1, by omega, by go_num, HR5, HB5⟩
            case measure => simp [intOf]; omega
          · obtain rfl : j = C := by omega
            obtain ⟨ao, c, hv, hread⟩ := HR.out.read
            rw [length_segR] at hv hread
            subst hv
            obtain ⟨g, rfl, _, hgl, hcells⟩ := hread (by omega)
            have hcap : j ≤ c := by
              have := HR.out
              rcases this.2 with ⟨e1, _⟩ | ⟨g', cap', cur, e1, _, _, e4, _⟩
              · cases e1
              · injection e1 with e2 e3 e5
                rw [length_segR] at e4
                omega
            have hjl : (Lib.join ((segR r j).map (·.data.toList)) (⟨#[44]⟩ : ByteArray).data.toList).length ≤ 1000 := by
              have h4 : (⟨(Lib.join ((segR r j).map (·.data.toList)) (⟨#[44]⟩ : ByteArray).data.toList).toArray⟩ : ByteArray).size = (Lib.join ((segR r j).map (·.data.toList)) (⟨#[44]⟩ : ByteArray).data.toList).length := by simp [ByteArray.size]
              have h5 := HRK.out
              rw [HRJ.out, HRX.out] at h4
              have h6 : ByteArray.empty.size = 0 := rfl
              omega
            have hjn := HJ.out ⟨#[44]⟩ g 0 c (segR r j) wr (fun i z hz => by
              have hilt := (List.getElem?_eq_some_iff.1 hz).1
              rw [length_segR] at hilt
              rw [Nat.zero_add, hcells i hilt, List.getD_eq_getElem?_getD, hz]; rfl) hgl (by rw [length_segR]; omega) (by rw [length_segR]; exact hcap) hjl
            rw [length_segR, HRJ.out] at hjn
            have HJN := Lib.hid hjn
            have HO2 : Hid (OwnT wr w.heap.size _ (segF zss k)) := Lib.hid (hO.out.below HB2.out (Nat.le_refl _))
            have hsl : (segF zss k).length ≤ 1000000000 := by rw [length_segF]; omega
            have HBW : Hid (Below w.heap.size w wr) := Lib.hid (HB.out.trans (HB2.out.mono HB.out.size))
            clear hcells hread hcap hjl hjn HR HB2 HB
            go_wp2_with fail
            go_at_call 20
            refine HJN.out.mono ?_
            rintro e w3 ⟨rfl, b3⟩
            have HO3 := Lib.hid (HO2.out.below b3 (Nat.le_refl _))
            have HB3 : Hid (Below w.heap.size w w3) := Lib.hid (HBW.out.trans (b3.mono HBW.out.size))
            have hz := HB3.out.size
            clear b3 HO2 HBW HJN hO HO
            go_wp2_with (at_builtin; refine wpList_appT rfl _ _ rfl w3 _ _ _ _ rfl rfl HO3.out hz hsl ?_; intro v' w5 hO5 hB5; refine Stop.on ?_)
            have HR5 : Hid (OwnT w5 w.heap.size v' (segF zss (k + 1))) := Lib.hid (by rw [HSF.out]; exact hO5)
            have HB5 : Hid (Below w.heap.size w w5) := Lib.hid (HB3.out.trans hB5)
            clear hO5 hB5
            refine ⟨?_⟩
            go_wp2
            go_roundw
            case rel => exact ⟨k + 1, by omega, by go_num, HR5, HB5⟩
            case measure => simp [intOf]; omega
      · obtain rfl : k = len := by omega
        obtain ⟨ao, c, hv, hread⟩ := HO.out.read
        rw [length_segF] at hv hread
        subst hv
        obtain ⟨g, rfl, _, hgl, hcells⟩ := hread (by omega)
        have hcap : k ≤ c := by
          have := HO.out
          rcases this.2 with ⟨e1, _⟩ | ⟨g', cap', cur, e1, _, _, e4, _⟩
          · cases e1
          · injection e1 with e2 e3 e5
            rw [length_segF] at e4
            omega
        have HFX : Hid ((⟨(Lib.join ((segF zss k).map (·.data.toList)) (⟨#[47]⟩ : ByteArray).data.toList).toArray⟩ : ByteArray) = fileText zss) := Lib.hid (by have := fileX_is (zss := zss) (by rw [HZ.out]; exact hr1); rwa [HZ.out] at this)
        have hjl : (Lib.join ((segF zss k).map (·.data.toList)) (⟨#[47]⟩ : ByteArray).data.toList).length ≤ 1000 := by
          have h4 : (⟨(Lib.join ((segF zss k).map (·.data.toList)) (⟨#[47]⟩ : ByteArray).data.toList).toArray⟩ : ByteArray).size = (Lib.join ((segF zss k).map (·.data.toList)) (⟨#[47]⟩ : ByteArray).data.toList).length := by simp [ByteArray.size]
          have h5 := HSZ.out
          rw [HFX.out] at h4
          omega
        have hjn := HJ.out ⟨#[47]⟩ g 0 c (segF zss k) wr (fun i z hz => by
          have hilt := (List.getElem?_eq_some_iff.1 hz).1
          rw [length_segF] at hilt
          rw [Nat.zero_add, hcells i hilt, List.getD_eq_getElem?_getD, hz]; rfl) hgl (by rw [length_segF]; omega) (by rw [length_segF]; exact hcap) hjl
        rw [length_segF, HFX.out] at hjn
        have HJN := Lib.hid hjn
        clear hcells hread hcap hjl hjn HO
        go_wp2_with fail
        go_at_call 20
        refine HJN.out.mono ?_
        rintro e w3 ⟨rfl, b3⟩
        have B3 : Hid (Below w.heap.size w w3) := Lib.hid (HB.out.trans (b3.mono HB.out.size))
        clear b3
        go_wp2
        go_ret2
        exact ⟨by rw [H0.out.1, H0.out.2]; exact rfl, B3.out⟩

end Go.Proofs.YtpoceonmlpnhlabDoor
