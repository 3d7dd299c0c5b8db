/- Chapter 6, the program: disorderOf, disorder, FileDisorder. -/
import Derived.Test.YtcljhjfmhnmgnaaKg
import Derived.Test.YtcljhjfmhnmgnaaAny
import Derived.Test.YtcljhjfmhnmgnaaFia
namespace Go.Proofs.Ytcljhjfmhnmgnaa
open Go.ChangeShapes Go.WideShapes Go.ChangeAt Go.RowKit
open Fi

theorem not_got {l : Array Bool} {i : Nat} (h : l.getD i true = false) : ¬ l.getD i false = true := by
  simp only [Array.getD_eq_getD_getElem?] at h ⊢
  cases hl : l[i]? with
  | none => rw [hl] at h; cases h
  | some b => rw [hl] at h; simp at h ⊢; exact h

set_option maxRecDepth 20000 in
set_option maxHeartbeats 1000000 in
theorem disorderOf_any (w : World) (a : Option Addr) (len cap : Nat) (zs : List Int) (h1 : 1 ≤ len) (h8 : len ≤ 8) (hc : Came w a len zs) :
    Calls Try.prog 66 #[.slice a len cap] w fun e w' => e = .returned (.int .i64 ((disRow zs : Nat) : Int)) ∧ Below w.heap.size w w' := by
  have HE : Hid (disRow zs = disTo zs (len - 1)) := Lib.hid (by unfold disRow; rw [hc.1])
  have HC := Lib.hid hc
  have HLE := Lib.hid (disTo_le zs)
  have HST : Hid (∀ m, disTo zs (m + 1) = if zs.getD (m + 1) 0 < zs.getD m 0 then disTo zs m + 1 else disTo zs m) := Lib.hid (fun m => rfl)
  clear hc
  go_enter Try.func66, Try.ntmps66
  go_wp2
  go_loopw [3, 8] (fun c i wr => ∃ k : Nat, k + 1 ≤ len ∧ i = .int .i64 (k : Int) ∧ c = .int .i64 ((disTo zs k : Nat) : Int) ∧ Hid (Below w.heap.size w wr)) (fun _ i _ => len - (intOf i).toNat)
  case atStart => exact ⟨0, h1, rfl, rfl, Lib.hid (Below.refl _ _)⟩
  case round =>
    obtain ⟨k, hk, rfl, rfl, HB⟩ := hrel
    by_cases hlt : k + 1 < len
    · obtain ⟨b, off, rfl, hcell⟩ := (HC.out.below HB.out).2 h1
      have e1 := hcell k (by omega)
      obtain ⟨q, hq⟩ : ∃ q, q = k + 1 := ⟨_, rfl⟩
      have e2 := hcell (k + 1) hlt
      have HQ := Lib.hid hq
      have e3 : (k : Int) + 1 = (q : Int) := by omega
      have hst := HST.out k
      have hle := HLE.out k
      obtain ⟨x, hx⟩ : ∃ x, x = zs.getD k 0 := ⟨_, rfl⟩
      obtain ⟨y, hy⟩ : ∃ x, x = zs.getD (k + 1) 0 := ⟨_, rfl⟩
      rw [← hx] at e1 hst
      rw [← hy] at e2 hst
      rw [← hq] at e2
      obtain ⟨d, hd⟩ : ∃ d, d = disTo zs k := ⟨_, rfl⟩
      rw [← hd] at hst hle ⊢
      have i3 : (0 : Int) ≤ (k : Int) := by omega
      have i4 : (k : Int) < (len : Int) - 1 := by omega
      have i5 : (k : Int) < (len : Int) := by omega
      have i6 : (0 : Int) ≤ (q : Int) := by omega
      have i7 : (q : Int) < (len : Int) := by omega
      have ew : IntKind.i64.wrap (q : Int) = (q : Int) := by rw [IntKind.wrap_i64]; omega
      have HTA := Lib.hid (fun w2 => isTaller_any x y w2)
      clear hcell hx hy hd hq
      by_cases hxy : y < x
      · rw [if_pos hxy] at hst
        rw [decide_eq_true hxy] at HTA
        have HS := Lib.hid hst
        clear hst hxy
        go_wp2_with fail
        go_quiet ((go_at_call 73; exact Calls.quiet_of_same ((HTA.out _).mono fun _ _ h => ⟨h.1, h.2.symm⟩)))
        go_wp2
        go_roundw
        case rel => exact ⟨k + 1, by omega, int_eq (by have := HQ.out; omega), int_eq (by rw [HS.out]; simp), Lib.hid ⟨HB.out.os, HB.out.tape, HB.out.output, HB.out.size, HB.out.block⟩⟩
        case measure => simp [intOf]; omega
      · rw [if_neg hxy] at hst
        rw [decide_eq_false hxy] at HTA
        have HS := Lib.hid hst
        clear hst hxy
        go_wp2_with fail
        go_quiet ((go_at_call 73; exact Calls.quiet_of_same ((HTA.out _).mono fun _ _ h => ⟨h.1, h.2.symm⟩)))
        go_wp2
        go_roundw
        case rel => exact ⟨k + 1, by omega, int_eq (by have := HQ.out; omega), int_eq (by rw [HS.out]), Lib.hid ⟨HB.out.os, HB.out.tape, HB.out.output, HB.out.size, HB.out.block⟩⟩
        case measure => simp [intOf]; omega
    · have HK : Hid (disRow zs = disTo zs k) := Lib.hid (by rw [HE.out]; congr 1; omega)
      go_wp2
      go_ret
      exact ⟨ret_int (by rw [HK.out]), HB.out⟩

set_option maxRecDepth 20000 in
set_option maxHeartbeats 2000000 in
theorem ofRows_disorderOf (w : World) (bs : List Int) (zss : List (List Int)) (R C : Nat) (h : IsZ bs zss R C) :
    Calls Try.prog 62 #[.agg (cellsI bs).toArray, .func (.func 66) #[] #[]] w fun e w' => ∃ v, e = .returned v ∧ Own w' w.heap.size v (ofL (fun r => ((disRow r : Nat) : Int)) zss R) ∧ Below w.heap.size w w' := by
  have HI := Lib.hid h
  have hfl := isB_len h.is
  have hr8 := h.good.r8
  have hc1 := h.good.c1
  have hc8 := h.good.c8
  have HZ : Hid (zss.length = R) := Lib.hid h.good.rows
  have HCO := Lib.hid (fun i hi => h.good.cols i hi)
  clear h
  go_enter Try.func62, Try.ntmps62
  go_wp2_with (refine wpList_box 42 _ rfl rfl (cellsI bs) rfl ?_; intro w1 g1 G1 B1 L1)
  refine ⟨?_⟩
  go_wp2_with (refine wpList_loadAll 42 _ rfl rfl g1 _ (cellsI bs) _ Try.underlying42 rfl 66 Try.size_block rfl B1 hfl ?_)
  refine ⟨?_⟩
  go_wp2_with fail
  go_at_call 55
  refine (lists_any w1 bs _ _ _ HI.out).mono ?_
  rintro e w2 ⟨v, rfl, o2, b2⟩
  obtain ⟨ao, cp, rfl, hcs, _⟩ := o2.cameC
  rw [HZ.out] at hcs ⊢
  have HCS := Lib.hid hcs
  have L2 : Hid (Below w.heap.size w w2) := Lib.hid (L1.out.trans (b2.mono L1.out.size))
  clear o2 b2 hcs L1 B1 G1
  go_wp2
  go_loopw [5, 11] (fun v i wr => ∃ k : Nat, k ≤ R ∧ i = .int .i64 (k : Int) ∧ Hid (Own wr w2.heap.size v (ofL (fun r => ((disRow r : Nat) : Int)) zss k)) ∧ Hid (Below w2.heap.size w2 wr)) (fun _ i _ => R - (intOf i).toNat)
  case atStart => exact ⟨0, Nat.zero_le _, rfl, Lib.hid (own_nil _ _), Lib.hid (Below.refl _ _)⟩
  case round =>
    obtain ⟨k, hk, rfl, HO, HB⟩ := hrel
    by_cases hlt : k < R
    · obtain ⟨b, off, ak, ck, rfl, e1, hrow, hle, hcc⟩ := (HCS.out.below HB.out).at k hlt
      have hq : (zss.getD k []).length = C := HCO.out k hlt
      rw [hq] at e1 hrow hle
      have HT := Lib.hid (disorderOf_any wr ak C ck (zss.getD k []) (by omega) (by omega) hrow)
      have HS : Hid (ofL (fun r => ((disRow r : Nat) : Int)) zss (k + 1) = ofL (fun r => ((disRow r : Nat) : Int)) zss k ++ [((disRow (zss.getD k []) : Nat) : Int)]) := Lib.hid (upTo_succ _ k)
      obtain ⟨z, hz⟩ : ∃ z, z = ((disRow (zss.getD k []) : Nat) : Int) := ⟨_, rfl⟩
      rw [← hz] at HT HS
      have hbl : (ofL (fun r => ((disRow r : Nat) : Int)) zss k).length ≤ 1000000000 := by unfold ofL; rw [length_upTo]; omega
      have hz2 := HB.out.size
      have i1 : (0 : Int) ≤ (k : Int) := by omega
      have i2 : (k : Int) < (R : Int) := by omega
      clear hz hq hrow hle hcc
      go_wp2_with fail
      go_at_call 66
      refine HT.out.mono ?_
      rintro e w3 ⟨rfl, b3⟩
      have HO3 := Lib.hid (HO.out.below b3 (Nat.le_refl _))
      have HB3 : Hid (Below w2.heap.size w2 w3) := Lib.hid (HB.out.trans (b3.mono HB.out.size))
      have hz3 := HB3.out.size
      clear b3 HO HB hz2
      go_wp2_with (at_builtin; refine wpList_app rfl _ _ rfl w3 _ _ _ _ rfl rfl HO3.out hz3 hbl ?_; intro v5 w5 hO hB5)
      have HO5 : Hid (Own w5 w2.heap.size v5 (ofL (fun r => ((disRow r : Nat) : Int)) zss (k + 1))) := Lib.hid (by rw [HS.out]; exact hO)
      have HB5 : Hid (Below w2.heap.size w2 w5) := Lib.hid (HB3.out.trans hB5)
      clear hO hB5
      go_wp2
      go_roundw
      case rel => exact ⟨k + 1, by omega, by go_num, HO5, HB5⟩
      case measure => simp [intOf]; omega
    · obtain rfl : k = R := by omega
      go_wp2
      go_ret
      exact ⟨_, rfl, HO.out.mono L2.out.size, L2.out.trans (HB.out.mono L2.out.size)⟩

structure DisIV (w0 : World) (g1 : Nat) (bs : List Int) (zss : List (List Int)) (R C : Nat) (l : Array Bool) (ww : World) (v6 v7 v8 v9 v10 v11 v12 v13 : Value) : Prop where
  f0 : l.getD 0 false = true → v6 = .agg (cellsI bs).toArray
  f1 : l.getD 1 false = true → Own ww w0.heap.size v7 (ofL (fun r => ((disRow r : Nat) : Int)) zss R) ∨ l.getD 5 false = true
  f2 : l.getD 2 false = true → v8 = .agg (cellsI bs).toArray
  f3 : l.getD 3 false = true → ∃ ts, v9 = .agg (cellsI ts).toArray ∧ IsZ ts (turnL zss) C R
  f4 : l.getD 4 false = true → Own ww w0.heap.size v10 (ofL (fun r => ((disRow r : Nat) : Int)) (turnL zss) C) ∨ l.getD 5 false = true
  f5 : l.getD 5 false = true → Own ww w0.heap.size v11 ((ofL (fun r => ((disRow r : Nat) : Int)) zss R) ++ (ofL (fun r => ((disRow r : Nat) : Int)) (turnL zss) C))
  f6 : l.getD 6 false = true → v12 = .int .i64 ((R + C : Nat) : Int)
  f7 : l.getD 7 false = true → v13 = .int .i64 0
def DisI (w0 : World) (g1 : Nat) (bs : List Int) (zss : List (List Int)) (R C : Nat) (l : Array Bool) (a : Act) (w : World) : Prop :=
  ∃ v6 v7 v8 v9 v10 v11 v12 v13 : Value, a = { tmps := List.toArray (Value.agg (cellsI bs).toArray :: Value.pointer (some ⟨g1, 0, none⟩) :: Value.int .i64 0 :: Value.int .i64 0 :: undef :: undef :: v6 :: v7 :: v8 :: v9 :: v10 :: v11 :: v12 :: v13 :: undef :: undef :: undef :: undef :: undef :: undef :: undef :: undef :: []), defers := [] } ∧ Hid (DisIV w0 g1 bs zss R C l w v6 v7 v8 v9 v10 v11 v12 v13) ∧ Hid (Below w0.heap.size w0 w)

/-- the first j numbers of a list, added up -/
def sumTo (zs : List Int) : Nat → Int
  | 0 => 0
  | j + 1 => sumTo zs j + zs.getD j 0
theorem sum_dis (zss : List (List Int)) (n : Nat) (ys : List Int) : ∀ k, k ≤ n → sumTo (ofL (fun r => ((disRow r : Nat) : Int)) zss n ++ ys) k = ((disAll zss k : Nat) : Int)
  | 0, _ => rfl
  | k + 1, hk => by
    have hl : (ofL (fun r => ((disRow r : Nat) : Int)) zss n).length = n := length_upTo _ _
    rw [sumTo, sum_dis zss n ys k (by omega), disAll]
    have e : (ofL (fun r => ((disRow r : Nat) : Int)) zss n ++ ys).getD k 0 = ((disRow (row zss k) : Nat) : Int) := by
      rw [List.getD_eq_getElem?_getD, List.getElem?_append_left (by omega), ← List.getD_eq_getElem?_getD]
      exact getD_upTo _ _ _ (by omega)
    rw [e]; simp
theorem sum_app (xs ys : List Int) : ∀ k, k ≤ ys.length → sumTo (xs ++ ys) (xs.length + k) = sumTo (xs ++ ys) xs.length + sumTo ys k
  | 0, _ => by rw [Nat.add_zero, sumTo]; omega
  | k + 1, hk => by
    rw [← Nat.add_assoc, sumTo, sumTo, sum_app xs ys k (by omega)]
    have e : (xs ++ ys).getD (xs.length + k) 0 = ys.getD k 0 := by
      rw [List.getD_eq_getElem?_getD, List.getElem?_append_right (by omega), Nat.add_sub_cancel_left, ← List.getD_eq_getElem?_getD]
    rw [e]; omega
theorem sum_all (zss : List (List Int)) (R C : Nat) : sumTo (ofL (fun r => ((disRow r : Nat) : Int)) zss R ++ ofL (fun r => ((disRow r : Nat) : Int)) (turnL zss) C) (R + C) = ((disAll zss R + disAll (turnL zss) C : Nat) : Int) := by
  have hl : (ofL (fun r => ((disRow r : Nat) : Int)) zss R).length = R := length_upTo _ _
  have hl2 : (ofL (fun r => ((disRow r : Nat) : Int)) (turnL zss) C).length = C := length_upTo _ _
  have h := sum_app (ofL (fun r => ((disRow r : Nat) : Int)) zss R) (ofL (fun r => ((disRow r : Nat) : Int)) (turnL zss) C) C (by omega)
  have h2 := sum_dis (turnL zss) C [] C (Nat.le_refl _)
  rw [List.append_nil] at h2
  rw [hl] at h
  rw [h, sum_dis zss R _ R (Nat.le_refl _), h2]; simp
theorem dis_in {zss : List (List Int)} {R C : Nat} (g : Fi.Good zss R C) (k : Nat) : disRow (row zss k) ≤ 8 := by
  have h := disTo_le (row zss k) ((row zss k).length - 1)
  unfold disRow
  by_cases hk : k < R
  · have := g.cols k hk; have := g.c8; omega
  · rw [row_out k (by have := g.rows; omega)]; decide
theorem sum_le (zs : List Int) (h : ∀ k, 0 ≤ zs.getD k 0 ∧ zs.getD k 0 ≤ 8) : ∀ j, 0 ≤ sumTo zs j ∧ sumTo zs j ≤ 8 * (j : Int)
  | 0 => by unfold sumTo; omega
  | j + 1 => by
    have := sum_le zs h j
    have := h j
    rw [sumTo]; omega
theorem all_le {zss : List (List Int)} {R C : Nat} (g : Fi.Good zss R C) (k : Nat) : 0 ≤ (ofL (fun r => ((disRow r : Nat) : Int)) zss R ++ ofL (fun r => ((disRow r : Nat) : Int)) (turnL zss) C).getD k 0 ∧ (ofL (fun r => ((disRow r : Nat) : Int)) zss R ++ ofL (fun r => ((disRow r : Nat) : Int)) (turnL zss) C).getD k 0 ≤ 8 := by
  have hl : (ofL (fun r => ((disRow r : Nat) : Int)) zss R).length = R := length_upTo _ _
  have hl2 : (ofL (fun r => ((disRow r : Nat) : Int)) (turnL zss) C).length = C := length_upTo _ _
  have h1 := dis_in g
  have h2 := dis_in (good_turn g)
  rw [List.getD_eq_getElem?_getD]
  by_cases hk : k < R
  · rw [List.getElem?_append_left (by omega), ← List.getD_eq_getElem?_getD, show (ofL (fun r => ((disRow r : Nat) : Int)) zss R).getD k 0 = ((disRow (row zss k) : Nat) : Int) from getD_upTo _ _ _ hk]
    have := h1 k; omega
  · by_cases hk2 : k - R < C
    · rw [List.getElem?_append_right (by omega), hl, ← List.getD_eq_getElem?_getD, show (ofL (fun r => ((disRow r : Nat) : Int)) (turnL zss) C).getD (k - R) 0 = ((disRow (row (turnL zss) (k - R)) : Nat) : Int) from getD_upTo _ _ _ hk2]
      have := h2 (k - R); omega
    · rw [List.getElem?_eq_none (by rw [List.length_append]; omega)]
      exact ⟨Int.le_refl _, by decide⟩
set_option maxRecDepth 20000 in
set_option maxHeartbeats 4000000 in
theorem disorder_any (w : World) (bs : List Int) (zss : List (List Int)) (R C : Nat) (h : IsZ bs zss R C) :
    Calls Try.prog 52 #[.agg (cellsI bs).toArray] w fun e w' => e = .returned (.int .i64 ((disAll zss R + disAll (turnL zss) C : Nat) : Int)) ∧ Below w.heap.size w w' := by
  have HI := Lib.hid h
  have hfl := isB_len h.is
  have hr1 := h.good.r1
  have hr8 := h.good.r8
  have hc1 := h.good.c1
  have hc8 := h.good.c8
  have HLR : Hid ((ofL (fun r => ((disRow r : Nat) : Int)) zss R).length = R) := Lib.hid (length_upTo _ _)
  have HLC : Hid ((ofL (fun r => ((disRow r : Nat) : Int)) (turnL zss) C).length = C) := Lib.hid (length_upTo _ _)
  have HSA := Lib.hid (sum_all zss R C)
  have HSL := Lib.hid (sum_le _ (all_le h.good))
  have HAL := Lib.hid (all_le h.good)
  clear h
  go_enter Try.func52, Try.ntmps52
  go_wp2_with (refine wpList_box 42 _ rfl rfl (cellsI bs) rfl ?_; intro w1 g1 G1 B1 L1)
  refine ⟨?_⟩
  have LA : Hid (Below w.heap.size w w1) := L1
  clear G1 L1
  go_wp2_with fail
  refine wp_region_inv (by kernel_rfl) (DisI w1 g1 bs zss R C) (by kernel_rfl) ?_ ?_ ?_
  · exact ⟨_, _, _, _, _, _, _, _, rfl, Lib.hid ⟨fun h => by simp at h, fun h => by simp at h, fun h => by simp at h, fun h => by simp at h, fun h => by simp at h, fun h => by simp at h, fun h => by simp at h, fun h => by simp at h⟩, Lib.hid ⟨rfl, rfl, rfl, Nat.le_refl _, fun _ _ => rfl⟩⟩
  · intro i o l a w' ho hsz hl hdep hI
    obtain ⟨v6, v7, v8, v9, v10, v11, v12, v13, rfl, HV, BL⟩ := hI
    have HSZ := Lib.hid hsz
    have HL := Lib.hid hl
    clear hsz hl
    match i, ho with
    | 0, ho =>
      obtain rfl := Option.some.inj ho
      clear hdep ho
      refine wpList_loadAll 42 _ rfl rfl g1 _ (cellsI bs) _ Try.underlying42 rfl 66 Try.size_block rfl (Lib.hid (B1.out.below BL.out B1.out.lt)) hfl ?_
      refine ⟨?_⟩
      go_wp2
      exact ⟨_, v7, v8, v9, v10, v11, v12, v13, rfl, Lib.hid ⟨fun _ => rfl, fun h => ((HV.out.f1 (ung (by decide) h))).imp id (fun e => (got (by decide)).trans e), fun h => HV.out.f2 (ung (by decide) h), fun h => HV.out.f3 (ung (by decide) h), fun h => ((HV.out.f4 (ung (by decide) h))).imp id (fun e => (got (by decide)).trans e), fun h => HV.out.f5 (ung (by decide) h), fun h => HV.out.f6 (ung (by decide) h), fun h => HV.out.f7 (ung (by decide) h)⟩, BL⟩
    | 1, ho =>
      obtain rfl := Option.some.inj ho
      obtain rfl := HV.out.f0 (hdep ⟨0, .data⟩ (by simp) rfl)
      clear hdep ho
      go_wp2_with fail
      go_at_call 62
      refine (ofRows_disorderOf _ bs _ _ _ HI.out).mono ?_
      rintro e w2 ⟨v, rfl, o2, b2⟩
      have O2 := Lib.hid (o2.mono BL.out.size)
      clear o2
      have B2 : Hid (Below w1.heap.size w1 w2) := Lib.hid (BL.out.trans (b2.mono BL.out.size))
      have HBB := Lib.hid b2
      clear b2
      go_wp2
      exact ⟨_, _, v8, v9, v10, v11, v12, v13, rfl, Lib.hid ⟨fun h => HV.out.f0 (ung (by decide) h), fun _ => .inl O2.out, fun h => HV.out.f2 (ung (by decide) h), fun h => HV.out.f3 (ung (by decide) h), fun h => ((HV.out.f4 (ung (by decide) h))).imp (fun o => o.below HBB.out (Nat.le_refl _)) (fun e => (got (by decide)).trans e), fun h => ((HV.out.f5 (ung (by decide) h))).below HBB.out (Nat.le_refl _), fun h => HV.out.f6 (ung (by decide) h), fun h => HV.out.f7 (ung (by decide) h)⟩, B2⟩
    | 2, ho =>
      obtain rfl := Option.some.inj ho
      clear hdep ho
      refine wpList_loadAll 42 _ rfl rfl g1 _ (cellsI bs) _ Try.underlying42 rfl 66 Try.size_block rfl (Lib.hid (B1.out.below BL.out B1.out.lt)) hfl ?_
      refine ⟨?_⟩
      go_wp2
      exact ⟨v6, v7, _, v9, v10, v11, v12, v13, rfl, Lib.hid ⟨fun h => HV.out.f0 (ung (by decide) h), fun h => ((HV.out.f1 (ung (by decide) h))).imp id (fun e => (got (by decide)).trans e), fun _ => rfl, fun h => HV.out.f3 (ung (by decide) h), fun h => ((HV.out.f4 (ung (by decide) h))).imp id (fun e => (got (by decide)).trans e), fun h => HV.out.f5 (ung (by decide) h), fun h => HV.out.f6 (ung (by decide) h), fun h => HV.out.f7 (ung (by decide) h)⟩, BL⟩
    | 3, ho =>
      obtain rfl := Option.some.inj ho
      obtain rfl := HV.out.f2 (hdep ⟨2, .data⟩ (by simp) rfl)
      clear hdep ho
      go_wp2_with fail
      go_at_call 41
      refine (turnedB_any _ bs _ _ _ HI.out).mono ?_
      rintro e w2 ⟨us, rfl, hi2, b2⟩
      have HI2 := Lib.hid hi2
      clear hi2
      have B2 : Hid (Below w1.heap.size w1 w2) := Lib.hid (BL.out.trans (b2.mono BL.out.size))
      have HBB := Lib.hid b2
      clear b2
      go_wp2
      exact ⟨v6, v7, _, _, v10, v11, v12, v13, rfl, Lib.hid ⟨fun h => HV.out.f0 (ung (by decide) h), fun h => ((HV.out.f1 (ung (by decide) h))).imp (fun o => o.below HBB.out (Nat.le_refl _)) (fun e => (got (by decide)).trans e), fun h => HV.out.f2 (ung (by decide) h), fun _ => ⟨us, rfl, HI2.out⟩, fun h => ((HV.out.f4 (ung (by decide) h))).imp (fun o => o.below HBB.out (Nat.le_refl _)) (fun e => (got (by decide)).trans e), fun h => ((HV.out.f5 (ung (by decide) h))).below HBB.out (Nat.le_refl _), fun h => HV.out.f6 (ung (by decide) h), fun h => HV.out.f7 (ung (by decide) h)⟩, B2⟩
    | 4, ho =>
      obtain rfl := Option.some.inj ho
      obtain ⟨ts, rfl, hts⟩ := HV.out.f3 (hdep ⟨3, .data⟩ (by simp) rfl)
      clear hdep ho
      have HTS := Lib.hid hts
      clear hts
      go_wp2_with fail
      go_at_call 62
      refine (ofRows_disorderOf _ ts _ _ _ HTS.out).mono ?_
      rintro e w2 ⟨v, rfl, o2, b2⟩
      have O2 := Lib.hid (o2.mono BL.out.size)
      clear o2
      have B2 : Hid (Below w1.heap.size w1 w2) := Lib.hid (BL.out.trans (b2.mono BL.out.size))
      have HBB := Lib.hid b2
      clear b2
      go_wp2
      exact ⟨v6, v7, v8, _, _, v11, v12, v13, rfl, Lib.hid ⟨fun h => HV.out.f0 (ung (by decide) h), fun h => ((HV.out.f1 (ung (by decide) h))).imp (fun o => o.below HBB.out (Nat.le_refl _)) (fun e => (got (by decide)).trans e), fun h => HV.out.f2 (ung (by decide) h), fun h => HV.out.f3 (ung (by decide) h), fun _ => .inl O2.out, fun h => ((HV.out.f5 (ung (by decide) h))).below HBB.out (Nat.le_refl _), fun h => HV.out.f6 (ung (by decide) h), fun h => HV.out.f7 (ung (by decide) h)⟩, B2⟩
    | 5, ho =>
      obtain rfl := Option.some.inj ho
      have o7 := (HV.out.f1 (hdep ⟨1, .data⟩ (by simp) rfl)).resolve_right (not_got HL.out)
      have o10 := (HV.out.f4 (hdep ⟨4, .data⟩ (by simp) rfl)).resolve_right (not_got HL.out)
      clear hdep ho
      obtain ⟨a10, c10, rfl, hc10, _⟩ := o10.cameC
      rw [HLC.out] at hc10 ⊢
      obtain ⟨b10, f10, rfl, _⟩ := hc10.2 hc1
      have HC10 := Lib.hid hc10
      have HO7 := Lib.hid o7
      clear hc10 o10 o7
      refine wpList_appAll rfl _ _ rfl w1.heap.size _ _ _ _ _ _ rfl rfl HO7.out HC10.out BL.out.size (by rw [HLR.out]; omega) ?_
      intro vn wn O6 B6
      refine ⟨?_⟩
      have B2 : Hid (Below w1.heap.size w1 wn) := Lib.hid (BL.out.trans B6.out)
      clear B6 HC10 HO7
      go_wp2
      exact ⟨v6, _, v8, v9, _, _, v12, v13, rfl, Lib.hid ⟨fun h => HV.out.f0 (ung (by decide) h), fun _ => .inr (got_same (by rw [HSZ.out]; decide)), fun h => HV.out.f2 (ung (by decide) h), fun h => HV.out.f3 (ung (by decide) h), fun _ => .inr (got_same (by rw [HSZ.out]; decide)), fun _ => O6.out, fun h => HV.out.f6 (ung (by decide) h), fun h => HV.out.f7 (ung (by decide) h)⟩, B2⟩
    | 6, ho =>
      obtain rfl := Option.some.inj ho
      have o11 := HV.out.f5 (hdep ⟨5, .data⟩ (by simp) rfl)
      clear hdep ho
      obtain ⟨a11, c11, e11⟩ := o11.any
      have HO11 := Lib.hid o11
      clear o11
      rw [List.length_append, HLR.out, HLC.out] at e11
      subst e11
      go_wp2
      exact ⟨v6, v7, v8, v9, v10, _, _, v13, rfl, Lib.hid ⟨fun h => HV.out.f0 (ung (by decide) h), fun h => ((HV.out.f1 (ung (by decide) h))).imp id (fun e => (got (by decide)).trans e), fun h => HV.out.f2 (ung (by decide) h), fun h => HV.out.f3 (ung (by decide) h), fun h => ((HV.out.f4 (ung (by decide) h))).imp id (fun e => (got (by decide)).trans e), fun h => HV.out.f5 (ung (by decide) h), fun _ => rfl, fun h => HV.out.f7 (ung (by decide) h)⟩, BL⟩
    | 7, ho =>
      obtain rfl := Option.some.inj ho
      clear hdep ho
      go_wp2
      exact ⟨v6, v7, v8, v9, v10, v11, v12, _, rfl, Lib.hid ⟨fun h => HV.out.f0 (ung (by decide) h), fun h => ((HV.out.f1 (ung (by decide) h))).imp id (fun e => (got (by decide)).trans e), fun h => HV.out.f2 (ung (by decide) h), fun h => HV.out.f3 (ung (by decide) h), fun h => ((HV.out.f4 (ung (by decide) h))).imp id (fun e => (got (by decide)).trans e), fun h => HV.out.f5 (ung (by decide) h), fun h => HV.out.f6 (ung (by decide) h), fun _ => rfl⟩, BL⟩
    | i + 8, ho => simp at ho
  · intro l a w2 hall hI
    obtain ⟨v6, v7, v8, v9, v10, v11, v12, v13, rfl, HV, BL⟩ := hI
    obtain rfl := HV.out.f0 (hall 0 (by decide))
    obtain _ := HV.out.f1 (hall 1 (by decide))
    obtain rfl := HV.out.f2 (hall 2 (by decide))
    obtain ⟨ts, rfl, hts⟩ := HV.out.f3 (hall 3 (by decide))
    obtain _ := HV.out.f4 (hall 4 (by decide))
    obtain o11 := HV.out.f5 (hall 5 (by decide))
    obtain rfl := HV.out.f6 (hall 6 (by decide))
    obtain rfl := HV.out.f7 (hall 7 (by decide))
    clear hall HV
    have LB : Hid (Below w.heap.size w w2) := Lib.hid (LA.out.trans (BL.out.mono LA.out.size))
    obtain ⟨a11, c11, rfl, hc11, _⟩ := o11.cameC
    have HLL : Hid (((ofL (fun r => ((disRow r : Nat) : Int)) zss R) ++ (ofL (fun r => ((disRow r : Nat) : Int)) (turnL zss) C)).length = R + C) := Lib.hid (by rw [List.length_append, HLR.out, HLC.out])
    rw [HLL.out] at hc11 ⊢
    obtain ⟨zs, hzs⟩ : ∃ zs, zs = (ofL (fun r => ((disRow r : Nat) : Int)) zss R) ++ (ofL (fun r => ((disRow r : Nat) : Int)) (turnL zss) C) := ⟨_, rfl⟩
    rw [← hzs] at hc11 HSA HSL HAL
    have HC11 := Lib.hid hc11
    obtain ⟨n, hn⟩ : ∃ n, n = R + C := ⟨_, rfl⟩
    have hn16 : n ≤ 16 := by omega
    rw [← hn] at HC11 HSA ⊢
    clear o11 hts hc11 B1 BL LA hzs hn HLL
    go_wp2
    go_loop [3, 13] (fun c i => ∃ k : Nat, k ≤ n ∧ i = .int .i64 (k : Int) ∧ c = .int .i64 (sumTo zs k)) (fun _ i => n - (intOf i).toNat)
    case atStart => exact ⟨0, Nat.zero_le _, rfl, rfl⟩
    case round =>
      obtain ⟨k, hk, rfl, rfl⟩ := hrel
      by_cases hlt : k < n
      · obtain ⟨b, off, rfl, hcell⟩ := HC11.out.2 (by omega)
        have e1 := hcell k hlt
        have hs1 := HSL.out k
        have ha1 := HAL.out k
        have HS : Hid (sumTo zs (k + 1) = sumTo zs k + zs.getD k 0) := Lib.hid rfl
        obtain ⟨z, hz⟩ : ∃ z, z = zs.getD k 0 := ⟨_, rfl⟩
        rw [← hz] at e1 ha1 HS
        obtain ⟨m, hm⟩ : ∃ z, z = sumTo zs k := ⟨_, rfl⟩
        rw [← hm] at hs1 HS ⊢
        obtain ⟨hs2, hs3⟩ := hs1
        obtain ⟨ha2, ha3⟩ := ha1
        have i3 : (0 : Int) ≤ (k : Int) := by omega
        have i4 : (k : Int) < (n : Int) := by omega
        clear hcell hz hm
        go_wp2
        go_round
        case rel => exact ⟨k + 1, by omega, by go_num, int_eq HS.out.symm⟩
        case measure => simp [intOf]; omega
      · obtain rfl : k = n := by omega
        go_wp2
        go_ret
        exact ⟨ret_int HSA.out, LB.out⟩

set_option maxRecDepth 20000 in
set_option maxHeartbeats 1000000 in
theorem of_FileDisorder (w : World) (a : Option Addr) (len cap : Nat) (zss : List (List Int)) (hf : LenSS zss) (hc : CameSS w a len zss) :
    Calls Try.prog 42 #[.slice a len cap, .func (.func 52) #[] #[]] w fun e w' => e = .returned (.tuple #[.int .i64 (outFileDisorder_0 zss), .bool (outFileDisorder_1 zss)]) ∧ Below w.heap.size w w' := by
  have HG := Lib.hid (areFiles_any w a len cap zss hf hc)
  rcases hb : goodF zss with _ | _
  · have H0 : Hid (outFileDisorder_0 zss = 0 ∧ outFileDisorder_1 zss = false) := Lib.hid (by unfold outFileDisorder_0 outFileDisorder_1; rw [hb]; exact ⟨rfl, rfl⟩)
    rw [hb] at HG
    clear hb hc hf
    go_enter Try.func42, Try.ntmps42
    go_wp2_with (go_at_call 24; refine HG.out.mono ?_; rintro e w' ⟨rfl, rfl⟩)
    go_ret2
    exact ⟨by rw [H0.out.1, H0.out.2]; exact rfl, Below.refl _ _⟩
  · have g := good_of hb
    have H0 : Hid (outFileDisorder_0 zss = ((disAll zss zss.length + disAll (turnL zss) (row zss 0).length : Nat) : Int) ∧ outFileDisorder_1 zss = true) := Lib.hid (by unfold outFileDisorder_0 outFileDisorder_1 disL; rw [hb, length_turnL]; exact ⟨rfl, rfl⟩)
    have HBL := Lib.hid (blockOf_any w a len cap zss _ _ g hc)
    rw [hb] at HG
    clear hb hc hf g
    go_enter Try.func42, Try.ntmps42
    go_wp2_with fail
    go_at_call 24
    refine HG.out.mono ?_
    rintro e w' ⟨rfl, rfl⟩
    go_wp2_with fail
    go_at_call 60
    refine HBL.out.mono ?_
    rintro e w2 ⟨bs, rfl, hi, b2⟩
    have HI := Lib.hid hi
    have L2 := Lib.hid b2
    clear hi b2 HBL
    go_wp2_with fail
    go_at_call 52
    refine (disorder_any w2 bs _ _ _ HI.out).mono ?_
    rintro e w3 ⟨rfl, b3⟩
    have L3 : Hid (Below w.heap.size w w3) := Lib.hid (L2.out.trans (b3.mono L2.out.size))
    clear b3
    go_wp2
    go_ret2
    exact ⟨by rw [H0.out.1, H0.out.2]; exact rfl, L3.out⟩
set_option maxRecDepth 20000 in
set_option maxHeartbeats 400000 in
theorem implFileDisorder_any (w : World) (a : Option Addr) (len cap : Nat) (zss : List (List Int)) (hf : LenSS zss) (hc : CameSS w a len zss) :
    Calls Try.prog 26 #[.slice a len cap] w fun e w' => e = .returned (.tuple #[.int .i64 (outFileDisorder_0 zss), .bool (outFileDisorder_1 zss)]) ∧ Below w.heap.size w w' := by
  have HO := Lib.hid (of_FileDisorder w a len cap zss hf hc)
  clear hf hc
  obtain ⟨x0, hx0⟩ : ∃ x, x = outFileDisorder_0 zss := ⟨_, rfl⟩
  obtain ⟨x1, hx1⟩ : ∃ x, x = outFileDisorder_1 zss := ⟨_, rfl⟩
  rw [← hx0, ← hx1] at HO ⊢
  clear hx0 hx1
  go_enter Try.func26, Try.ntmps26
  go_wp2_with fail
  go_at_call 42
  refine HO.out.mono ?_
  rintro e w2 ⟨rfl, b2⟩
  have B2 := Lib.hid b2
  clear b2
  go_wp2
  go_ret2
  exact ⟨rfl, B2.out⟩

end Go.Proofs.Ytcljhjfmhnmgnaa
