/- Chapter 6, the model: fiOrder, fiRows, fiColumns; SortFileRows, SortFileColumns, SortBoth. -/
import Derived.Test.YtcljhjfmhnmgnaaFk
import Derived.Test.YtcljhjfmhnmgnaaOw
namespace Go.Proofs.Ytcljhjfmhnmgnaa
open Go.ChangeShapes Go.WideShapes Go.ChangeAt Go.RowKit
open Fi

namespace Fi
/-- where a height goes in behind the first k of some in order -/
def insAt (out : List Int) (h : Int) : Nat → Nat
  | 0 => 0
  | k + 1 => if h < out.getD k 0 then insAt out h k else k + 1
def insL (out : List Int) (h : Int) : List Int := out.take (insAt out h out.length) ++ [h] ++ out.drop (insAt out h out.length)
def sortTo (zs : List Int) : Nat → List Int
  | 0 => []
  | j + 1 => insL (sortTo zs j) (zs.getD j 0)
def sortL (zs : List Int) : List Int := sortTo zs zs.length
theorem insAt_le (out : List Int) (h : Int) : ∀ k, insAt out h k ≤ k
  | 0 => Nat.le_refl _
  | k + 1 => by
    have := insAt_le out h k
    rw [insAt]; split <;> omega
theorem length_insL (out : List Int) (h : Int) : (insL out h).length = out.length + 1 := by
  have := insAt_le out h out.length
  unfold insL
  simp
  omega
theorem length_sortTo (zs : List Int) : ∀ j, (sortTo zs j).length = j
  | 0 => rfl
  | j + 1 => by rw [sortTo, length_insL, length_sortTo zs j]
theorem length_sortL (zs : List Int) : (sortL zs).length = zs.length := length_sortTo _ _
theorem insL_nil (h : Int) : insL [] h = [h] := rfl
end Fi

theorem Came.takeZ {w : World} {a : Option Addr} {len k : Nat} {zs : List Int} (h : Came w a len zs) (hk : k ≤ len) : Came w a k (zs.take k) := by
  refine ⟨by rw [List.length_take, h.1]; omega, fun hp => ?_⟩
  obtain ⟨b, off, rfl, hcell⟩ := h.2 (by omega)
  refine ⟨b, off, rfl, fun j hj => ?_⟩
  have e : (zs.take k).getD j 0 = zs.getD j 0 := by simp only [List.getD_eq_getElem?_getD, List.getElem?_take, if_pos hj]
  rw [e]
  exact hcell j (by omega)
theorem Came.dropZ {w : World} {b off len k : Nat} {zs : List Int} (h : Came w (some ⟨b, off, none⟩) len zs) : Came w (some ⟨b, off + k, none⟩) (len - k) (zs.drop k) := by
  refine ⟨by rw [List.length_drop, h.1], fun hp => ?_⟩
  obtain ⟨b', off', e, hcell⟩ := h.2 (by omega)
  cases e
  refine ⟨b, off + k, rfl, fun j hj => ?_⟩
  have e : (zs.drop k).getD j 0 = zs.getD (k + j) 0 := by simp only [List.getD_eq_getElem?_getD, List.getElem?_drop]
  rw [e]
  have := hcell (k + j) (by omega)
  rw [show off + (k + j) = off + k + j by omega] at this
  exact this

set_option maxRecDepth 20000 in
set_option maxHeartbeats 1000000 in
theorem fiOrder_any (w : World) (a : Option Addr) (len cap : Nat) (zs : List Int) (h64 : len ≤ 64) (hc : Came w a len zs) :
    Calls Try.prog 58 #[.slice a len cap] w fun e w' => ∃ v, e = .returned v ∧ Own w' w.heap.size v (sortL zs) ∧ Below w.heap.size w w' := by
  have HC := Lib.hid hc
  have HE : Hid (sortL zs = sortTo zs len) := Lib.hid (by unfold sortL; rw [hc.1])
  obtain ⟨i0, hi, hz0, hz1, hz2⟩ := info_parts Try.info_int
  clear hc
  go_enter Try.func58, Try.ntmps58
  go_wp2
  go_loopw [3, 10] (fun v i wr => ∃ j : Nat, j ≤ len ∧ i = .int .i64 j ∧ (j = 0 → v = .slice none 0 0) ∧ Hid (Own wr w.heap.size v (sortTo zs j)) ∧ Hid (Below w.heap.size w wr)) (fun _ i _ => len - (intOf i).toNat)
  case atStart => exact ⟨0, Nat.zero_le _, rfl, fun _ => rfl, Lib.hid (own_nil _ _), Lib.hid (Below.refl _ _)⟩
  case round =>
    obtain ⟨j, hj, rfl, hv0, HO, HB⟩ := hrel
    by_cases hlt : j < len
    · obtain ⟨b, off, rfl, hcell⟩ := (HC.out.below HB.out).2 (by omega)
      have e1 := hcell j hlt
      have HS : Hid (sortTo zs (j + 1) = insL (sortTo zs j) (zs.getD j 0)) := Lib.hid rfl
      obtain ⟨h, hh⟩ : ∃ h, h = zs.getD j 0 := ⟨_, rfl⟩
      rw [← hh] at e1 HS
      have i3 : (0 : Int) ≤ (j : Int) := by omega
      have i4 : (j : Int) < (len : Int) := by omega
      obtain ⟨wo, rfl⟩ : ∃ wo : World, wo = wr := ⟨_, rfl⟩
      have hzo := HB.out.size
      clear hcell hh
      by_cases hj0 : j = 0
      · subst hj0
        obtain rfl := hv0 rfl
        have HS1 : Hid (sortTo zs 1 = [h]) := HS
        have HO1 := Lib.hid (l1OwnC_any wo none 0 0 [] (by omega) ⟨rfl, fun hp => absurd hp (by omega)⟩ (fun _ => ⟨rfl, rfl⟩))
        rw [Nat.add_zero] at e1
        go_wp2
        go_loop [6] (fun i => i = .int .i64 0) (fun _ => 0)
        case atStart => exact rfl
        case round =>
          obtain rfl := hrel
          go_wp2_with fail
          go_at_call 69
          refine HO1.out.mono ?_
          rintro e w2 ⟨v1, rfl, o1, b1⟩
          have O1 : Hid (Own w2 w.heap.size v1 []) := Lib.hid (o1.mono hzo)
          have B1 : Hid (Below w.heap.size w w2) := Lib.hid (HB.out.trans (b1.mono hzo))
          have hz2 := B1.out.size
          clear o1 b1 HB HO HO1 e1
          go_wp2_with (first
            | (at_builtin; refine wpList_app rfl _ _ rfl w2 _ _ _ _ rfl rfl O1.out hz2 (by simp) ?_; intro v5 w5 hO hB5; have O5 := Lib.hid hO; have B5 : Hid (Below w.heap.size w w5) := Lib.hid (B1.out.trans hB5); clear hO hB5)
            | (at_builtin; refine wpList_append_own_none rfl _ _ 31 rfl w.heap.size 3 i0 1 Try.underlying31 hi _ 1 _ rfl O5.out rfl ?_))
          exact ⟨⟨1, by omega, rfl, fun h => absurd h (by omega), Lib.hid (by rw [HS1.out]; exact O5.out), B5⟩, by simp [intOf]; omega⟩
      · clear hv0
        obtain ⟨g, c, rfl, hgB, hgl⟩ := HO.out.point (by rw [length_sortTo]; omega)
        have hcj : j ≤ c := by
          have o := HO.out
          unfold Own at o
          rcases o.2 with ⟨e, _⟩ | ⟨g', cap', cur, e, _, _, hn, _⟩
          · cases e
          · injection e with e1 e2 e3
            rw [length_sortTo] at hn
            omega
        rw [length_sortTo] at HO ⊢
        have HL : Hid ((sortTo zs j).length = j) := Lib.hid (length_sortTo zs j)
        obtain ⟨L, hL⟩ : ∃ L, L = sortTo zs j := ⟨_, rfl⟩
        rw [← hL] at HO HL HS
        have HCM : Hid (Came wo (some ⟨g, 0, none⟩) j L) := Lib.hid ⟨HL.out, fun _ => ⟨g, 0, rfl, fun i hi => by rw [Nat.zero_add]; exact HO.out.cell HL.out.symm i (by rw [HL.out]; exact hi)⟩⟩
        obtain ⟨p, hp⟩ : ∃ p, p = insAt L h j := ⟨_, rfl⟩
        have HSP : Hid (insL L h = L.take p ++ [h] ++ L.drop p) := Lib.hid (by unfold insL; rw [HL.out, ← hp])
        clear hL
        go_wp2
        go_loop [6] (fun i => ∃ k : Nat, k ≤ j ∧ i = .int .i64 k ∧ insAt L h k = p) (fun i => (intOf i).toNat)
        case atStart => exact ⟨j, Nat.le_refl _, rfl, hp.symm⟩
        case round =>
          obtain ⟨k, hk, rfl, hkp⟩ := hrel
          by_cases hk0 : k = 0
          · subst hk0
            have PK : 0 = p := hkp
            have HSQ : Hid (insL L h = [] ++ [h] ++ L) := Lib.hid (by rw [HSP.out, ← PK]; rfl)
            have HO1 := Lib.hid (l1OwnC_any wo (some ⟨g, 0, none⟩) 0 c [] (by omega) ⟨rfl, fun hp => absurd hp (by omega)⟩ (fun e => by cases e))
            clear hp PK hkp
            go_wp2_with fail
            go_at_call 69
            refine HO1.out.mono ?_
            rintro e w2 ⟨v1, rfl, o1, b1⟩
            have O1 := Lib.hid o1
            have B1 := Lib.hid b1
            have hz2 := b1.size
            clear o1 b1 HO1
            go_wp2_with (first
              | (at_builtin; refine wpList_app rfl _ _ rfl w2 _ _ _ _ rfl rfl O1.out hz2 (by simp) ?_; intro v5 w5 hO hB5; have O5 := Lib.hid hO; have B5 : Hid (Below wo.heap.size wo w5) := Lib.hid (B1.out.trans hB5); have hc5 := Lib.hid (HCM.out.below B5.out); clear hO hB5)
              | (at_builtin; refine wpList_appAll rfl _ _ rfl wo.heap.size _ _ L _ _ _ rfl rfl O5.out hc5.out B5.out.size (by rw [List.length_append, List.length_singleton]; simp; omega) ?_; intro v6 w6 O6 B6; refine ⟨?_⟩))
            exact ⟨⟨j + 1, by omega, by go_num, fun h => absurd h (by omega), Lib.hid (by rw [HS.out, HSQ.out]; exact O6.out.mono hzo), Lib.hid (HB.out.trans ((B5.out.trans B6.out).mono hzo))⟩, by simp [intOf]; omega⟩
          · obtain ⟨m, hm⟩ : ∃ m, k = m + 1 := ⟨k - 1, by omega⟩
            have b0 : decide ((0 : Int) < (k : Int)) = true := decide_eq_true (by omega)
            have ek : (k : Int) - 1 = (m : Int) := by omega
            have e2 := HCM.out.2 (by omega)
            obtain ⟨b', o', hbo, hcl⟩ := e2
            cases hbo
            have e3 := hcl m (by omega)
            rw [Nat.zero_add] at e3
            have i8 : (0 : Int) ≤ (m : Int) := by omega
            have i9 : (m : Int) < (j : Int) := by omega
            rw [hm, insAt] at hkp
            by_cases hgt : h < L.getD m 0
            · rw [if_pos hgt] at hkp
              have HKP := Lib.hid hkp
              obtain ⟨z, hz⟩ : ∃ z, z = L.getD m 0 := ⟨_, rfl⟩
              rw [← hz] at e3 hgt
              clear hcl hkp hz hm
              go_wp2
              go_round
              case rel => exact ⟨m, by omega, rfl, HKP.out⟩
              case measure => simp [intOf]; omega
            · rw [if_neg hgt] at hkp
              have PK : k = p := hm.trans hkp
              have HPK := Lib.hid PK
              obtain ⟨z, hz⟩ : ∃ z, z = L.getD m 0 := ⟨_, rfl⟩
              rw [← hz] at e3 hgt
              clear hcl hkp hz hm
              have HK : Hid (k = insAt L h j) := Lib.hid (by rw [← hp]; exact PK)
              have i5 : (0 : Int) ≤ (k : Int) := by omega
              have i6 : (k : Int) ≤ (c : Int) := by omega
              have i7 : (k : Int) ≤ (j : Int) := by omega
              have HO1 := Lib.hid (l1OwnC_any wo (some ⟨g, 0, none⟩) k c (L.take k) (by omega) (HCM.out.takeZ (by omega)) (fun e => by cases e))
              obtain ⟨o2, hif, HD⟩ : ∃ o2 : Nat, (if c = k then (some ⟨g, 0, none⟩ : Option Addr) else some ⟨g, k, none⟩) = some ⟨g, o2, none⟩ ∧ Hid (∀ w', Below wo.heap.size wo w' → Came w' (some ⟨g, o2, none⟩) (j - k) (L.drop k)) := by
                by_cases hck : c = k
                · refine ⟨0, if_pos hck, Lib.hid fun w' _ => ?_⟩
                  rw [List.drop_eq_nil_of_le (by rw [HL.out]; omega), show j - k = 0 by omega]
                  exact ⟨rfl, fun hp => absurd hp (by omega)⟩
                · refine ⟨k, if_neg hck, Lib.hid fun w' hb => ?_⟩
                  have := (HCM.out.below hb).dropZ (k := k)
                  rwa [Nat.zero_add] at this
              have hjk : (j : Int) - (k : Int) = ((j - k : Nat) : Int) := by omega
              have hlk : (L.take k).length ≤ 64 := by rw [List.length_take, HL.out]; omega
              have hld : (L.drop k).length = j - k := by rw [List.length_drop, HL.out]
              have HLK := Lib.hid hlk
              have HLD := Lib.hid hld
              clear hp PK hlk hld
              go_wp2_with fail
              go_at_call 69
              refine HO1.out.mono ?_
              rintro e w2 ⟨v1, rfl, o1, b1⟩
              have O1 := Lib.hid o1
              have B1 := Lib.hid b1
              have hz2 := b1.size
              clear o1 b1 HO1
              go_wp2_with (first
                | (at_builtin; refine wpList_app rfl _ _ rfl w2 _ _ _ _ rfl rfl O1.out hz2 (by have := HLK.out; omega) ?_; intro v5 w5 hO hB5; have O5 := Lib.hid hO; have B5 : Hid (Below wo.heap.size wo w5) := Lib.hid (B1.out.trans hB5); have hc5 := Lib.hid (HD.out w5 B5.out); clear hO hB5)
                | (at_builtin; refine wpList_appAll rfl _ _ rfl wo.heap.size _ _ (L.drop k) _ _ _ rfl rfl O5.out hc5.out B5.out.size (by have := HLK.out; rw [List.length_append, List.length_singleton]; omega) ?_; intro v6 w6 O6 B6; refine ⟨?_⟩))
              exact ⟨⟨j + 1, by omega, by go_num, fun h => absurd h (by omega), Lib.hid (by rw [HS.out, HSP.out, ← HPK.out]; exact O6.out.mono hzo), Lib.hid (HB.out.trans ((B5.out.trans B6.out).mono hzo))⟩, by simp [intOf]; omega⟩
    · obtain rfl : j = len := by omega
      clear hv0
      go_wp2
      go_ret
      exact ⟨_, rfl, by rw [HE.out]; exact HO.out, HB.out⟩

namespace Fi
def rowsTo (zss : List (List Int)) (k : Nat) : List (List Int) := (List.range k).map fun i => sortL (row zss i)
def rowsL (zss : List (List Int)) : List (List Int) := rowsTo zss zss.length
def colsL (zss : List (List Int)) : List (List Int) := turnL (rowsL (turnL zss))
theorem rowsTo_succ (zss : List (List Int)) (k : Nat) : rowsTo zss (k + 1) = rowsTo zss k ++ [sortL (row zss k)] := by unfold rowsTo; rw [List.range_succ, List.map_append]; rfl
theorem length_rowsTo (zss : List (List Int)) (k : Nat) : (rowsTo zss k).length = k := by simp [rowsTo]
theorem row_rows (zss : List (List Int)) (k : Nat) (h : k < zss.length) : row (rowsL zss) k = sortL (row zss k) := by
  unfold rowsL rowsTo
  show ((List.range _).map _).getD k [] = _
  rw [getD_range _ _ _ h]
theorem allB_insL {out : List Int} {h lo hi : Int} (h1 : allB out lo hi = true) (h2 : inB h lo hi = true) : allB (insL out h) lo hi = true := by
  unfold allB at h1 ⊢
  unfold insL
  rw [List.all_eq_true] at h1 ⊢
  intro x hx
  simp only [List.mem_append, List.mem_singleton] at hx
  rcases hx with (hx | hx) | hx
  · exact h1 x (List.mem_of_mem_take hx)
  · subst hx; exact h2
  · exact h1 x (List.mem_of_mem_drop hx)
theorem allB_sortTo {zs : List Int} {lo hi : Int} (h : allB zs lo hi = true) : ∀ j, j ≤ zs.length → allB (sortTo zs j) lo hi = true
  | 0, _ => rfl
  | j + 1, hj => by
    rw [sortTo]
    exact allB_insL (allB_sortTo h j (by omega)) (inB_of (allB_get h j (by omega)))
theorem good_rows {zss : List (List Int)} {R C : Nat} (h : Good zss R C) : Good (rowsL zss) R C := by
  have hl : (rowsL zss).length = R := by unfold rowsL; rw [length_rowsTo, h.rows]
  refine ⟨hl, h.r1, h.r8, h.c1, h.c8, fun i hi => ?_, fun i hi => ?_⟩
  · rw [row_rows _ _ (by rw [h.rows]; exact hi), length_sortL, h.cols i hi]
  · rw [row_rows _ _ (by rw [h.rows]; exact hi)]
    exact allB_sortTo (h.all i hi) _ (Nat.le_refl _)
theorem good_cols {zss : List (List Int)} {R C : Nat} (h : Good zss R C) : Good (colsL zss) R C := good_turn (good_rows (good_turn h))
end Fi

set_option maxRecDepth 20000 in
set_option maxHeartbeats 1000000 in
theorem fiRows_any (w : World) (a : Option Addr) (len cap : Nat) (zss : List (List Int)) (h64 : len ≤ 64) (hrl : ∀ i, i < len → (row zss i).length ≤ 64) (hc : CameSS w a len zss) :
    Calls Try.prog 33 #[.slice a len cap] w fun e w' => ∃ v, e = .returned v ∧ OwnSS w' w.heap.size v (rowsL zss) ∧ Below w.heap.size w w' := by
  have HC := Lib.hid hc
  have HL := Lib.hid hrl
  have HE : Hid (rowsL zss = rowsTo zss len) := Lib.hid (by unfold rowsL; rw [hc.1])
  clear hc hrl
  go_enter Try.func33, Try.ntmps33
  go_wp2
  go_loopw [3, 8] (fun v i wr => ∃ k : Nat, k ≤ len ∧ i = .int .i64 k ∧ Hid (OwnSS wr w.heap.size v (rowsTo zss k)) ∧ Hid (Below w.heap.size w wr)) (fun _ i _ => len - (intOf i).toNat)
  case atStart => exact ⟨0, Nat.zero_le _, rfl, Lib.hid (ownSS_nil _ _), Lib.hid (Below.refl _ _)⟩
  case round =>
    obtain ⟨k, hk, rfl, HO, HB⟩ := hrel
    by_cases hlt : k < len
    · obtain ⟨b, off, ak, ck, rfl, e1, hrow, _, _⟩ := (HC.out.below HB.out).at k hlt
      have hql : (zss.getD k []).length ≤ 64 := HL.out k hlt
      have HR := Lib.hid (fiOrder_any wr ak _ ck (zss.getD k []) hql hrow)
      have HS : Hid (rowsTo zss (k + 1) = rowsTo zss k ++ [sortL (zss.getD k [])]) := Lib.hid (rowsTo_succ zss k)
      have HN := Lib.hid (length_sortL (zss.getD k []))
      obtain ⟨q, hq⟩ : ∃ q, q = (zss.getD k []).length := ⟨_, rfl⟩
      rw [← hq] at e1 HR HN
      have hbl : (rowsTo zss k).length ≤ 1000000000 := by rw [length_rowsTo]; omega
      have hz := HB.out.size
      have i3 : (0 : Int) ≤ (k : Int) := by omega
      have i4 : (k : Int) < (len : Int) := by omega
      clear hq hql hrow
      go_wp2_with fail
      go_at_call 58
      refine HR.out.mono ?_
      rintro e w2 ⟨v, rfl, o2, b2⟩
      have O2 := Lib.hid o2
      have B2 := Lib.hid b2
      obtain ⟨ar, cr, rfl⟩ := o2.any
      clear o2 b2 e1 HR
      go_wp2_with (at_builtin; refine wpList_appRow rfl _ _ rfl w2 wr _ _ _ _ _ _ rfl rfl rfl HO.out B2.out O2.out hz hbl ?_; intro v' w5 hO hB5)
      have HO5 : Hid (OwnSS w5 w.heap.size v' (rowsTo zss (k + 1))) := Lib.hid (by rw [HS.out]; exact hO)
      have HB5 : Hid (Below w.heap.size w w5) := Lib.hid ((HB.out.trans (B2.out.mono hz)).trans hB5)
      clear hO hB5
      go_wp2
      go_roundw
      case rel => exact ⟨k + 1, by omega, by go_num, HO5, HB5⟩
      case measure => simp [intOf]; omega
    · obtain rfl : k = len := by omega
      go_wp2
      go_ret
      exact ⟨_, rfl, by rw [HE.out]; exact HO.out, HB.out⟩

set_option maxRecDepth 20000 in
set_option maxHeartbeats 1000000 in
theorem fiColumns_any (w : World) (a : Option Addr) (len cap : Nat) (zss : List (List Int)) (R C : Nat) (g : Fi.Good zss R C) (hc : CameSS w a len zss) :
    Calls Try.prog 32 #[.slice a len cap] w fun e w' => ∃ v, e = .returned v ∧ OwnSS w' w.heap.size v (colsL zss) ∧ Below w.heap.size w w' := by
  have hln : len = R := hc.1.symm.trans g.rows
  have HT := Lib.hid (fiTurn_any w a len cap zss C (by have := g.r1; omega) (by have := g.r8; omega) (by have := g.c8; omega) (fun i hi => g.cols i (by omega)) hc)
  have G2 := Lib.hid (good_turn g)
  have G3 := Lib.hid (good_rows (good_turn g))
  clear hc hln g
  go_enter Try.func32, Try.ntmps32
  go_wp2_with fail
  go_at_call 40
  refine HT.out.mono ?_
  rintro e w2 ⟨v2, rfl, o2, b2⟩
  have B2 := Lib.hid b2
  obtain ⟨a2, c2, rfl, hc2, _⟩ := o2.cameC
  have HR := Lib.hid (fiRows_any w2 a2 _ c2 (turnL zss) (by rw [G2.out.rows]; have := G2.out.r8; omega) (fun i hi => by rw [G2.out.cols i (by rw [← G2.out.rows]; exact hi)]; have := G2.out.c8; omega) hc2)
  clear o2 b2 hc2 HT
  go_wp2_with fail
  go_at_call 33
  refine HR.out.mono ?_
  rintro e w3 ⟨v3, rfl, o3, b3⟩
  have B3 : Hid (Below w.heap.size w w3) := Lib.hid (B2.out.trans (b3.mono B2.out.size))
  obtain ⟨a3, c3, rfl, hc3, _⟩ := o3.cameC
  have HT3 := Lib.hid (fiTurn_any w3 a3 _ c3 (rowsL (turnL zss)) R (by rw [G3.out.rows]; exact G3.out.r1) (by rw [G3.out.rows]; have := G3.out.r8; omega) (by have := G3.out.c8; omega) (fun i hi => G3.out.cols i (by rw [← G3.out.rows]; exact hi)) hc3)
  clear o3 b3 hc3 HR
  go_wp2_with fail
  go_at_call 40
  refine HT3.out.mono ?_
  rintro e w4 ⟨v4, rfl, o4, b4⟩
  have B4 : Hid (Below w.heap.size w w4) := Lib.hid (B3.out.trans (b4.mono B3.out.size))
  have O4 : Hid (OwnSS w4 w.heap.size v4 (colsL zss)) := Lib.hid (o4.mono B3.out.size)
  clear o4 b4 HT3
  go_wp2
  go_ret
  exact ⟨_, rfl, O4.out, B4.out⟩

def outSortFileRows_0 (zss : List (List Int)) : List (List Int) := if goodF zss then rowsL zss else []
def outSortFileRows_1 (zss : List (List Int)) : Bool := goodF zss
theorem lenSortFileRows_0 (zss : List (List Int)) : (outSortFileRows_0 zss).length ≤ 1000000000 ∧ total (outSortFileRows_0 zss) ≤ 1000000000 := by
  unfold outSortFileRows_0
  split
  · rename_i h
    exact fits_good (good_rows (good_of h))
  · exact fits_nilF
def outSortFileColumns_0 (zss : List (List Int)) : List (List Int) := if goodF zss then colsL zss else []
def outSortFileColumns_1 (zss : List (List Int)) : Bool := goodF zss
theorem lenSortFileColumns_0 (zss : List (List Int)) : (outSortFileColumns_0 zss).length ≤ 1000000000 ∧ total (outSortFileColumns_0 zss) ≤ 1000000000 := by
  unfold outSortFileColumns_0
  split
  · rename_i h
    exact fits_good (good_cols (good_of h))
  · exact fits_nilF
def outSortBoth_0 (zss : List (List Int)) : List (List Int) := if goodF zss then colsL (rowsL zss) else []
def outSortBoth_1 (zss : List (List Int)) : Bool := goodF zss
theorem lenSortBoth_0 (zss : List (List Int)) : (outSortBoth_0 zss).length ≤ 1000000000 ∧ total (outSortBoth_0 zss) ≤ 1000000000 := by
  unfold outSortBoth_0
  split
  · rename_i h
    exact fits_good (good_cols (good_rows (good_of h)))
  · exact fits_nilF

set_option maxRecDepth 20000 in
set_option maxHeartbeats 400000 in
theorem specSortFileRows_any (w : World) (a : Option Addr) (len cap : Nat) (zss : List (List Int)) (hf : LenSS zss) (hc : CameSS w a len zss) :
    Calls Try.prog 8 #[.slice a len cap] w fun e w' => ∃ v0, e = .returned (.tuple #[v0, .bool (outSortFileRows_1 zss)]) ∧ OwnSS w' w.heap.size v0 (outSortFileRows_0 zss) ∧ Below w.heap.size w w' := by
  have HG := Lib.hid (fiGood_any w a len cap zss hf hc)
  rcases hb : goodF zss with _ | _
  · have H0 : Hid (outSortFileRows_0 zss = [] ∧ outSortFileRows_1 zss = false) := Lib.hid (by unfold outSortFileRows_0 outSortFileRows_1; rw [hb]; exact ⟨rfl, rfl⟩)
    rw [hb] at HG
    clear hb hc hf
    go_enter Try.func8, Try.ntmps8
    go_wp2_with (go_at_call 31; refine HG.out.mono ?_; rintro e w' ⟨rfl, rfl⟩)
    go_ret2
    exact ⟨_, by rw [H0.out.2]; exact rfl, by rw [H0.out.1]; exact ownSS_nil _ _, Below.refl _ _⟩
  · have H0 : Hid (outSortFileRows_0 zss = rowsL zss ∧ outSortFileRows_1 zss = true) := Lib.hid (by unfold outSortFileRows_0 outSortFileRows_1; rw [hb]; exact ⟨rfl, rfl⟩)
    have g := good_of hb
    have HT := Lib.hid (fiRows_any w a len cap zss (by have := g.r8; have := hc.1; omega) (fun i hi => by rw [g.cols i (by have := hc.1; omega)]; have := g.c8; omega) hc)
    rw [hb] at HG
    clear hb hc hf g
    go_enter Try.func8, Try.ntmps8
    go_wp2_with fail
    go_at_call 31
    refine HG.out.mono ?_
    rintro e w' ⟨rfl, rfl⟩
    go_wp2_with fail
    go_at_call 33
    refine HT.out.mono ?_
    rintro e w2 ⟨v, rfl, o2, b2⟩
    have O2 := Lib.hid o2
    have B2 := Lib.hid b2
    clear o2 b2
    go_wp2
    go_ret2
    exact ⟨_, by rw [H0.out.2]; exact rfl, by rw [H0.out.1]; exact O2.out, B2.out⟩

set_option maxRecDepth 20000 in
set_option maxHeartbeats 400000 in
theorem specSortFileColumns_any (w : World) (a : Option Addr) (len cap : Nat) (zss : List (List Int)) (hf : LenSS zss) (hc : CameSS w a len zss) :
    Calls Try.prog 10 #[.slice a len cap] w fun e w' => ∃ v0, e = .returned (.tuple #[v0, .bool (outSortFileColumns_1 zss)]) ∧ OwnSS w' w.heap.size v0 (outSortFileColumns_0 zss) ∧ Below w.heap.size w w' := by
  have HG := Lib.hid (fiGood_any w a len cap zss hf hc)
  rcases hb : goodF zss with _ | _
  · have H0 : Hid (outSortFileColumns_0 zss = [] ∧ outSortFileColumns_1 zss = false) := Lib.hid (by unfold outSortFileColumns_0 outSortFileColumns_1; rw [hb]; exact ⟨rfl, rfl⟩)
    rw [hb] at HG
    clear hb hc hf
    go_enter Try.func10, Try.ntmps10
    go_wp2_with (go_at_call 31; refine HG.out.mono ?_; rintro e w' ⟨rfl, rfl⟩)
    go_ret2
    exact ⟨_, by rw [H0.out.2]; exact rfl, by rw [H0.out.1]; exact ownSS_nil _ _, Below.refl _ _⟩
  · have H0 : Hid (outSortFileColumns_0 zss = colsL zss ∧ outSortFileColumns_1 zss = true) := Lib.hid (by unfold outSortFileColumns_0 outSortFileColumns_1; rw [hb]; exact ⟨rfl, rfl⟩)
    have g := good_of hb
    have HT := Lib.hid (fiColumns_any w a len cap zss _ _ g hc)
    rw [hb] at HG
    clear hb hc hf g
    go_enter Try.func10, Try.ntmps10
    go_wp2_with fail
    go_at_call 31
    refine HG.out.mono ?_
    rintro e w' ⟨rfl, rfl⟩
    go_wp2_with fail
    go_at_call 32
    refine HT.out.mono ?_
    rintro e w2 ⟨v, rfl, o2, b2⟩
    have O2 := Lib.hid o2
    have B2 := Lib.hid b2
    clear o2 b2
    go_wp2
    go_ret2
    exact ⟨_, by rw [H0.out.2]; exact rfl, by rw [H0.out.1]; exact O2.out, B2.out⟩

set_option maxRecDepth 20000 in
set_option maxHeartbeats 400000 in
theorem specSortBoth_any (w : World) (a : Option Addr) (len cap : Nat) (zss : List (List Int)) (hf : LenSS zss) (hc : CameSS w a len zss) :
    Calls Try.prog 6 #[.slice a len cap] w fun e w' => ∃ v0, e = .returned (.tuple #[v0, .bool (outSortBoth_1 zss)]) ∧ OwnSS w' w.heap.size v0 (outSortBoth_0 zss) ∧ Below w.heap.size w w' := by
  have HG := Lib.hid (fiGood_any w a len cap zss hf hc)
  rcases hb : goodF zss with _ | _
  · have H0 : Hid (outSortBoth_0 zss = [] ∧ outSortBoth_1 zss = false) := Lib.hid (by unfold outSortBoth_0 outSortBoth_1; rw [hb]; exact ⟨rfl, rfl⟩)
    rw [hb] at HG
    clear hb hc hf
    go_enter Try.func6, Try.ntmps6
    go_wp2_with (go_at_call 31; refine HG.out.mono ?_; rintro e w' ⟨rfl, rfl⟩)
    go_ret2
    exact ⟨_, by rw [H0.out.2]; exact rfl, by rw [H0.out.1]; exact ownSS_nil _ _, Below.refl _ _⟩
  · have H0 : Hid (outSortBoth_0 zss = colsL (rowsL zss) ∧ outSortBoth_1 zss = true) := Lib.hid (by unfold outSortBoth_0 outSortBoth_1; rw [hb]; exact ⟨rfl, rfl⟩)
    have g := good_of hb
    have HT := Lib.hid (fiRows_any w a len cap zss (by have := g.r8; have := hc.1; omega) (fun i hi => by rw [g.cols i (by have := hc.1; omega)]; have := g.c8; omega) hc)
    rw [hb] at HG
    have G2 := Lib.hid (good_rows g)
    clear hb hc hf g
    go_enter Try.func6, Try.ntmps6
    go_wp2_with fail
    go_at_call 31
    refine HG.out.mono ?_
    rintro e w' ⟨rfl, rfl⟩
    go_wp2_with fail
    go_at_call 33
    refine HT.out.mono ?_
    rintro e w2 ⟨v, rfl, o2, b2⟩
    have B2 := Lib.hid b2
    obtain ⟨a2, c2, rfl, hc2, _⟩ := o2.cameC
    have HR := Lib.hid (fiColumns_any w2 a2 _ c2 (rowsL zss) _ _ G2.out hc2)
    clear o2 b2 hc2 HT
    go_wp2_with fail
    go_at_call 32
    refine HR.out.mono ?_
    rintro e w3 ⟨v3, rfl, o3, b3⟩
    have B3 : Hid (Below w.heap.size w w3) := Lib.hid (B2.out.trans (b3.mono B2.out.size))
    have O3 : Hid (OwnSS w3 w.heap.size v3 (colsL (rowsL zss))) := Lib.hid (o3.mono B2.out.size)
    clear o3 b3 HR
    go_wp2
    go_ret2
    exact ⟨_, by rw [H0.out.2]; exact rfl, by rw [H0.out.1]; exact O3.out, B3.out⟩

end Go.Proofs.Ytcljhjfmhnmgnaa
