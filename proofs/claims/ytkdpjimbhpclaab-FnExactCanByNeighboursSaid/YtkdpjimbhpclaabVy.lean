/- Chapter 7, the program: neighboursTo. -/
import Derived.Test.YtkdpjimbhpclaabVx
namespace Go.Proofs.Ytkdpjimbhpclaab
open Go.ChangeShapes Go.WideShapes Go.ChangeAt Go.RowKit
open Rx Od Ed

theorem andThenG {a b c : World} {r r' : Option Nat} (h : a.grownBy b r) (k : b.grownBy c r') (hr : ∀ j, r' = some j → a.heap.size ≤ j ∨ r = some j) : a.grownBy c r := h.andThen k hr
set_option maxRecDepth 20000 in
set_option maxHeartbeats 4000000 in
theorem neighboursTo_p (w : World) (l m : List Bool) (h1 : 1 ≤ l.length) (h40 : l.length ≤ 40) (hm : m.length = l.length) :
    Calls Try.prog 37 #[.string (Rw.str l), .string (Rw.str m)] w fun e w' => ∃ v, e = .returned v ∧ OwnSS w' w.heap.size v (ordL l m) ∧ Below w.heap.size w w' := by
  have hsz := Rw.size_str l
  have HI := Lib.hid (neighboursIn_p w l.length)
  have HD := Lib.hid (fun w2 => differences_p w2 l m h40 hm)
  have HSO := Lib.hid (fun wr B v => sortCand_p wr B v l m h1 hm)
  have HCH := Lib.hid (fun f => ch_rep l m f hm h1)
  have HAR := Lib.hid (around_dif l m h1)
  have HRZ := Lib.hid (rnNI_zero l.length h1)
  have HDL : Hid (∀ f, (dif (stL l f) m).length = l.length) := Lib.hid (fun f => by rw [length_dif, length_stL])
  have HDF := Lib.hid (length_dif l m)
  obtain ⟨n, hn⟩ : ∃ n, n = l.length := ⟨_, rfl⟩
  rw [← hn] at HI hsz HCH HAR HRZ HDL HDF h1 h40
  obtain ⟨s, hs⟩ : ∃ s, s = Rw.str l := ⟨_, rfl⟩
  obtain ⟨t, ht⟩ : ∃ t, t = Rw.str m := ⟨_, rfl⟩
  rw [← hs, ← ht] at HD ⊢
  rw [← hs] at hsz
  clear hs ht hm hn
  go_enter Try.func37, Try.ntmps37
  go_wp2_with fail
  go_at_call 56
  refine HI.out.mono ?_
  rintro e w1 ⟨g1, rfl, c1, hg1, B1⟩
  have hst := store_fn w1 (.func 76) #[] #[.pointer (some ⟨g1, 0, none⟩)] 60
  have hg1l : g1 < w1.heap.size := World.block_lt_of_cell? w1 _ c1
  have HC1 : Hid ((nbW w1 g1).cell? ⟨g1, 0, none⟩ = some (.int .i64 (n : Int))) := Lib.hid (((nbW_below w1 g1).cell hg1l).trans c1)
  have HB1 := Lib.hid B1
  have hb1 := B1.size
  have H0 : Hid (NbI w (nbW w1 g1) (w1.heap.size + 4) (w1.heap.size + 1) l m 0 (.slice none 0 0) (nbW w1 g1)) := Lib.hid
    ⟨B1.trans ((nbW_below w1 g1).mono hb1), by rw [nbW_size]; exact Nat.le_refl _, fun _ _ _ => rfl, 0, [], Nat.zero_le _,
      ⟨World.ownsRow_nil _ _ _ _, rfl, fun i h => absurd h (Nat.not_lt_zero _), fun k h => by simp [Value.ownBlock] at h, fun i j h => absurd h (Nat.not_lt_zero _)⟩,
      fun j h => by simp [Value.ownBlock] at h, fun i h => absurd h (Nat.not_lt_zero _)⟩
  clear c1 B1
  go_wp2
  clear hst
  go_loopw [5, 25] (fun v i wr => ∃ k : Nat, k ≤ 2 ∧ i = .int .i64 (k : Int) ∧ Hid (NbI w (nbW w1 g1) (w1.heap.size + 4) (w1.heap.size + 1) l m k v wr)) (fun _ i _ => 2 - (intOf i).toNat)
  case atStart => exact ⟨0, by omega, rfl, H0⟩
  case round =>
    obtain ⟨k, hk, rfl, HN⟩ := hrel
    obtain ⟨wo, rfl⟩ : ∃ wo : World, wo = wr := ⟨_, rfl⟩
    obtain ⟨HB, hCs, HKP, hi, vs, hhi, HS, HVB, HRB⟩ := HN.out
    have HB' := Lib.hid HB
    have HKP' := Lib.hid HKP
    have HS' := Lib.hid HS
    have HVB' := Lib.hid HVB
    have HRB' := Lib.hid HRB
    clear HB HKP HS HVB HRB
    by_cases hlt : k < 2
    · -- what stands
      have hgk : (nbW w1 g1).heap[w1.heap.size + 1 + k]? = wo.heap[w1.heap.size + 1 + k]? := (HKP'.out _ (by omega) (fun i hi => by omega)).symm
      have eL : wo.cell? ⟨w1.heap.size + 1 + 1 + 1, k, none⟩ = some (.slice (some ⟨w1.heap.size + 1 + k, 0, none⟩) (1 - k) (1 - k)) := (cell_block (HKP'.out _ (by omega) (fun i hi => by omega))).trans (nbW_row w1 g1 k hlt)
      have HOL : Hid (Own wo w.heap.size (.slice (some ⟨w1.heap.size + 1 + k, 0, none⟩) (1 - k) (1 - k)) (preL (decide (k = 0)))) := Lib.hid ((nbW_own w1 g1 w.heap.size k hlt hb1).same fun j hj => by
        have : w1.heap.size + 1 + k = j := Option.some.inj hj
        subst this; exact hgk.symm)
      have HKB : Hid (∀ j, j = w1.heap.size ∨ j = g1 → wo.heap[j]? = (nbW w1 g1).heap[j]?) := Lib.hid (fun j hj => HKP'.out j (by omega) (fun i hi => by omega))
      have HD2 := Lib.hid (HD.out wo)
      obtain ⟨gk, hgk2⟩ : ∃ g, g = w1.heap.size + 1 + k := ⟨_, rfl⟩
      rw [← hgk2] at eL HOL
      obtain ⟨c, hc⟩ : ∃ c, c = 1 - k := ⟨_, rfl⟩
      rw [← hc] at eL HOL
      obtain ⟨f, hf⟩ : ∃ f, f = decide (k = 0) := ⟨_, rfl⟩
      have HF := Lib.hid hf
      rw [← hf] at HOL
      have HCA : Hid (candTo l m (k + 1) = if chB l m f then candTo l m k ++ [chL l m f] else candTo l m k) := Lib.hid (by rw [candTo, ← hf])
      have HGK := Lib.hid hgk2
      have HCC := Lib.hid hc
      have i1 : (0 : Int) ≤ (k : Int) := by omega
      have i2 : (k : Int) < 2 := by omega
      have hc1 : c ≤ 1 := by omega
      clear hgk hgk2 hc hf
      go_wp2_with fail
      go_at_call 59
      refine HD2.out.mono ?_
      rintro e w2 ⟨rfl, F2, B2⟩
      have HF2 := Lib.hid F2
      have HB2 := Lib.hid B2
      have hbl := F2.lt
      have HE0 : Hid (∀ w4, w2.grownBy w4 (some wo.heap.size) → ∀ j, j < c → w4.cell? ⟨gk, j, none⟩ = some (.int .i64 0)) := Lib.hid (fun w4 g4 j hj => by
        have hf1 : f = true := by rw [HF.out]; exact decide_eq_true (by have := HCC.out; omega)
        have ho := HOL.out
        rw [hf1] at ho
        have hc0 : j = 0 := by omega
        subst hc0
        have e1 := ho.cell (show c = (preL true).length by show c = 1; omega) 0 (by show 0 < 1; omega)
        have hgl : gk < wo.heap.size := World.block_lt_of_cell? wo _ e1
        rw [cell_block (g4.block gk (by have := B2.size; omega) (fun e => by have := Option.some.inj e; omega)), cell_block (B2.block gk hgl), e1]
        rfl)
      have HCN : Hid (∀ w4, w2.grownBy w4 (some wo.heap.size) → w4.cell? ⟨w1.heap.size, 0, none⟩ = some (.func (.func 76) #[] #[.pointer (some ⟨g1, 0, none⟩)]) ∧ w4.cell? ⟨g1, 0, none⟩ = some (.int .i64 (n : Int))) := Lib.hid (fun w4 g4 => by
        have hz := B2.size
        refine ⟨?_, ?_⟩
        · rw [cell_block (g4.block w1.heap.size (by omega) (fun e => by have := Option.some.inj e; omega)), cell_block (B2.block w1.heap.size (by omega)), cell_block (HKB.out _ (Or.inl rfl)), cell_of_row _ _ _ _ _ _ (nbW_b0 w1 g1)]
          rfl
        · rw [cell_block (g4.block g1 (by omega) (fun e => by have := Option.some.inj e; omega)), cell_block (B2.block g1 (by omega)), cell_block (HKB.out _ (Or.inr rfl))]
          exact HC1.out)
      clear F2 B2
      go_wp2
      go_loopw [34] (fun i wr => ∃ j : Nat, j ≤ c ∧ i = .int .i64 (j : Int) ∧ Hid (Fst wr wo.heap.size (100 + 2 * j) (edS (dif (stL l (decide (0 < j))) m))) ∧ Hid (w2.grownBy wr (some wo.heap.size))) (fun i _ => c - (intOf i).toNat)
      case atStart => exact ⟨0, Nat.zero_le _, rfl, HF2, Lib.hid ⟨rfl, rfl, rfl, Nat.le_refl _, fun _ _ _ => rfl⟩⟩
      case round =>
        obtain ⟨j, hj, rfl, HFj, HGj⟩ := hrel
        obtain ⟨w3, rfl⟩ : ∃ w3 : World, w3 = wr := ⟨_, rfl⟩
        by_cases hjc : j < c
        · have hj0 : j = 0 := by omega
          subst hj0
          have eE := HE0.out w3 HGj.out 0 hjc
          obtain ⟨cp, cn⟩ := HCN.out w3 HGj.out
          have HNB := Lib.hid (neighboursIn1_p w3 n g1 0 (by omega) cn)
          rw [HRZ.out, runV_some] at HNB
          obtain ⟨q, hq⟩ : ∃ q, q = min (n - 1) (0 + 1) := ⟨_, rfl⟩
          rw [← hq] at HNB HAR
          have hqn : q < n := by omega
          have i3 : (0 : Int) < (c : Int) := by omega
          have HBJ : Hid (wo.heap.size < w3.heap.size) := Lib.hid HFj.out.lt
          clear hq cn
          go_wp2_with fail
          go_at_call 76
          refine HNB.out.mono ?_
          rintro e w4 ⟨rfl, B4⟩
          have HG4 := Lib.hid (grownBy_trans HGj.out (below_grownBy B4 (some wo.heap.size)))
          have HF4 := Lib.hid (HFj.out.below B4 HBJ.out)
          have HA5 := Lib.hid (World.grownBy_alloc w4 (.cells #[.int .i64 ((0 : Nat) : Int), .int .i64 (q : Int)] 69))
          have HG5 := Lib.hid (grownBy_trans HG4.out (HA5.out (some wo.heap.size)))
          have HF5 := Lib.hid (HF4.out.kept (HA5.out none) (by simp))
          have HGR := Lib.hid (giveRun_any _ wo.heap.size (100 + 2 * 0) _ 0 q HF5.out (by omega) (Nat.zero_le _) (by rw [HDL.out]; exact hqn) (by rw [HDL.out]; omega))
          have k0 : (w4.alloc (.cells #[.int .i64 ((0 : Nat) : Int), .int .i64 (q : Int)] 69)).cell? ⟨w4.heap.size, 0, none⟩ = some (.int .i64 ((0 : Nat) : Int)) := by rw [World.cell?_alloc_new]; rfl
          have k1 : (w4.alloc (.cells #[.int .i64 ((0 : Nat) : Int), .int .i64 (q : Int)] 69)).cell? ⟨w4.heap.size, 1, none⟩ = some (.int .i64 (q : Int)) := by rw [World.cell?_alloc_new]; rfl
          clear B4
          go_wp2_with fail
          go_at_call 60
          refine HGR.out.mono ?_
          rintro e w6 ⟨rfl, F6, G6⟩
          have HF6 : Hid (Fst w6 wo.heap.size (100 + 2 * 1) (edS (dif (stL l (decide (0 < 1))) m))) := Lib.hid (by
            show Fst w6 wo.heap.size (100 + 2 * 1) (edS (dif (aroundL l 0) m))
            rw [HAR.out]
            exact F6)
          have HG6 := Lib.hid (grownBy_trans HG5.out G6)
          clear F6 G6 k0 k1
          go_wp2
          exact ⟨⟨1, by omega, rfl, HF6, HG6⟩, by simp [intOf]; omega⟩
        · have hjc2 : j = c := by omega
          subst hjc2
          have hff : decide (0 < j) = f := by rw [HF.out]; exact decide_eq_decide.2 (by have := HCC.out; omega)
          rw [hff] at HFj
          obtain ⟨sts, hrep, hch, hpos, hsl⟩ := HCH.out f
          have HCL := Lib.hid (fun (w5 : World) (g5 : w3.grownBy w5 (some wo.heap.size)) (x : Nat) (hx : x < n) => by
            obtain ⟨cp, cn⟩ := HCN.out w5 (grownBy_trans HGj.out g5)
            exact nbTo1_p w5 n w1.heap.size g1 x (by omega) (by omega) cp cn)
          have HR := Lib.hid (replacedN_p w3 wo.heap.size n (rnN n) (dif (stL l f) m) ⟨w1.heap.size, 0, none⟩ h40 (HDL.out f) (HFj.out.mono (by omega)) (fun q a b h hq => by
            unfold rnN at h
            split at h
            · have h3 := Option.some.inj h
              have h4 : q = a := congrArg Prod.fst h3
              have h5 : min (n - 1) (q + 2) = b := congrArg Prod.snd h3
              omega
            · cases h) HCL.out)
          have HBJ : Hid (wo.heap.size < w3.heap.size) := Lib.hid HFj.out.lt
          have HCHL := Lib.hid hch
          have HPOS := Lib.hid hpos
          have hglk : gk < wo.heap.size := (World.ownsRow.lt HOL.out gk rfl).2
          rw [hrep] at HR
          clear hff hrep hch hpos
          rcases hcb : chB l m f with _ | _
          · have HCE : Hid (candTo l m (k + 1) = candTo l m k) := Lib.hid (by rw [HCA.out, hcb]; rfl)
            rw [hcb, if_neg (by decide), Option.isSome_none, Option.getD_none] at HR
            clear hcb
            go_wp2_with fail
            go_at_call 61
            refine HR.out.mono ?_
            rintro e w4 ⟨v4, rfl, O4, G4⟩
            have HG4 := Lib.hid (grownBy_trans HGj.out G4)
            have HK4 : Hid (∀ i, i < wo.heap.size → w4.heap[i]? = wo.heap[i]?) := Lib.hid (fun i hi => (HG4.out.block i (by have := HB2.out.size; omega) (fun e => by have := Option.some.inj e; omega)).trans (HB2.out.block i hi))
            have hz4 : wo.heap.size < w4.heap.size := Nat.lt_of_lt_of_le HBJ.out G4.size
            have HB4 : Hid (Below w.heap.size w w4) := Lib.hid (grownBy_below (HB'.out.trans (HB2.out.mono HB'.out.size)) HG4.out (Nat.le_refl _) HB'.out.size)
            have HS4 := Lib.hid (HS'.out.keep (w' := w4) (fun b e => HK4.out b (by have := HS'.out.lid b e; omega)) (fun i hi2 b e => HK4.out b (by have := (HS'.out.row i hi2).2 b e; omega)))
            rw [← HCE.out] at HS4
            clear O4 G4
            go_wp2
            exact ⟨⟨k + 1, by omega, by go_num, Lib.hid ⟨HB4.out, by omega, fun i hi2 hne => (HK4.out i (by omega)).trans (HKP'.out i hi2 (fun t ht => hne t (by omega))), hi, vs, by omega, HS4.out, HVB'.out, fun i hi2 b e => (HRB'.out i hi2 b e).imp_right (fun ⟨t, h1, h2⟩ => ⟨t, by omega, h2⟩)⟩⟩, by simp [intOf]; omega⟩
          · have HCE : Hid (candTo l m (k + 1) = candTo l m k ++ [chL l m f]) := Lib.hid (by rw [HCA.out, hcb]; rfl)
            rw [hcb, if_pos rfl, Option.isSome_some, Option.getD_some] at HR
            clear hcb
            go_wp2_with fail
            go_at_call 61
            refine HR.out.mono ?_
            rintro e w4 ⟨v4, rfl, O4, G4⟩
            have HG4 := Lib.hid (grownBy_trans HGj.out G4)
            have HK4 : Hid (∀ i, i < wo.heap.size → w4.heap[i]? = wo.heap[i]?) := Lib.hid (fun i hi => (HG4.out.block i (by have := HB2.out.size; omega) (fun e => by have := Option.some.inj e; omega)).trans (HB2.out.block i hi))
            have hz4 : wo.heap.size < w4.heap.size := Nat.lt_of_lt_of_le HBJ.out G4.size
            have HB4 : Hid (Below w.heap.size w w4) := Lib.hid (grownBy_below (HB'.out.trans (HB2.out.mono HB'.out.size)) HG4.out (Nat.le_refl _) HB'.out.size)
            have HO4 := Lib.hid O4
            obtain ⟨a4, cap4, rfl⟩ := O4.any
            obtain ⟨L, hL⟩ : ∃ L, L = sts.length := ⟨_, rfl⟩
            rw [← hL] at HO4 hsl ⊢
            have HLL := Lib.hid hL
            have hBk : w.heap.size ≤ gk := (World.ownsRow.lt HOL.out gk rfl).1
            have HOS : Hid (Own w4 w.heap.size (.slice (some ⟨gk, 0, none⟩) j j) (preL f ++ upL (sts.take 0))) := Lib.hid (by
              rw [List.take_zero, show upL [] = [] from rfl, List.append_nil]
              exact HOL.out.same fun b e => HK4.out b (by have h : gk = b := Option.some.inj e; omega))
            clear O4 G4 hL
            go_wp2
            go_loopw [8, 58] (fun r i wr => ∃ q : Nat, q ≤ L ∧ i = .int .i64 (q : Int) ∧ Hid (Own wr w.heap.size r (preL f ++ upL (sts.take q))) ∧ Hid (∀ b, r.ownBlock = some b → b = gk ∨ w4.heap.size ≤ b) ∧ Hid (w4.grownBy wr (some gk))) (fun _ i _ => L - (intOf i).toNat)
            case atStart => exact ⟨0, Nat.zero_le _, rfl, HOS, Lib.hid (fun b e => Or.inl (Option.some.inj e).symm), Lib.hid ⟨rfl, rfl, rfl, Nat.le_refl _, fun _ _ _ => rfl⟩⟩
            case round =>
              obtain ⟨q, hq, rfl, HOq, HRq, HGq⟩ := hrel
              obtain ⟨w5, rfl⟩ : ∃ w5 : World, w5 = wr := ⟨_, rfl⟩
              have hz5 := HGq.out.size
              have hzw := HB4.out.size
              by_cases hqL : q < L
              · obtain ⟨g4, cap5, hv4, hge, hgl⟩ := HO4.out.point (by rw [← HLL.out]; omega)
                injection hv4 with hv1 hv2 hv3
                subst hv1 hv3
                clear hv2
                have e1 := HO4.out.cell HLL.out q (by rw [← HLL.out]; exact hqL)
                rw [← cell_block (HGq.out.block g4 hgl (fun e => by have := Option.some.inj e; have := HBJ.out; omega))] at e1
                have hx := HPOS.out (sts.getD q 0) (by
                  rw [List.getD_eq_getElem?_getD, List.getElem?_eq_getElem (show q < sts.length by rw [← HLL.out]; exact hqL)]
                  exact List.getElem_mem _)
                have HTK : Hid (preL f ++ upL (sts.take q) ++ [sts.getD q 0 + 1] = preL f ++ upL (sts.take (q + 1))) := Lib.hid (by
                  rw [List.append_assoc, List.take_succ_eq_append_getElem (show q < sts.length by rw [← HLL.out]; exact hqL)]
                  unfold upL
                  rw [List.map_append, List.getD_eq_getElem?_getD, List.getElem?_eq_getElem (show q < sts.length by rw [← HLL.out]; exact hqL)]
                  rfl)
                have hul : (preL f ++ upL (sts.take q)).length ≤ 1000000000 := by
                  rw [List.length_append]
                  unfold upL preL
                  rw [List.length_map, List.length_take]
                  have : (if f = true then [(0 : Int)] else []).length ≤ 1 := by split <;> simp
                  omega
                obtain ⟨x, hxx⟩ : ∃ x, x = sts.getD q 0 := ⟨_, rfl⟩
                rw [← hxx] at e1 hx HTK
                have ew : IntKind.i64.wrap (x + 1) = x + 1 := IntWalk.i64_in _ (by omega)
                have i3 : (0 : Int) ≤ (q : Int) := by omega
                have i4 : (q : Int) < (L : Int) := by omega
                have hzb : w.heap.size ≤ w5.heap.size := by omega
                clear hxx
                go_wp2_with (at_builtin; refine wpList_appG rfl _ _ rfl w5 _ _ _ _ rfl rfl HOq.out hzb hul ?_; intro v6 w6 O6 B6 G6 L6; refine Stop.on ?_)
                have HO6 : Hid (Own w6 w.heap.size v6 (preL f ++ upL (sts.take (q + 1)))) := Lib.hid (by rw [← HTK.out]; exact O6)
                have HG6 := Lib.hid (andThenG HGq.out G6 (fun b e => by
                  rcases HRq.out b e with h | h
                  · exact Or.inr (by rw [h])
                  · exact Or.inl h))
                have HR6 : Hid (∀ b, v6.ownBlock = some b → b = gk ∨ w4.heap.size ≤ b) := Lib.hid (fun b e => by
                  rcases L6 with h | h
                  · exact HRq.out b (h.symm.trans e)
                  · rw [h] at e
                    have := Option.some.inj e
                    exact Or.inr (by omega))
                clear O6 B6 G6 L6
                refine ⟨?_⟩
                go_wp2
                exact ⟨⟨q + 1, by omega, by go_num, HO6, HR6, HG6⟩, by simp [intOf]; omega⟩
              · have hqL2 : q = L := by omega
                subst hqL2
                have HRW : Hid (Own w5 w.heap.size _ (chL l m f)) := Lib.hid (by
                  have := HOq.out
                  rw [HLL.out, List.take_length, ← HCHL.out] at this
                  exact this)
                have HKX : Hid (∀ b, b < hi → b ≠ gk → w5.heap[b]? = wo.heap[b]?) := Lib.hid (fun b hb hne => (HGq.out.block b (by omega) (fun e => hne (Option.some.inj e))).trans (HK4.out b (by omega)))
                have HVG : Hid (∀ i, i < vs.length → ∀ b, (vs.getD i undef).ownBlock = some b → b ≠ gk) := Lib.hid (fun i hi2 b e => by
                  rcases HRB'.out i hi2 b e with h | ⟨t, ht, h⟩
                  · have := HGK.out; omega
                  · have := HGK.out; omega)
                have HSW := Lib.hid (HS'.out.keep (w' := w5) (fun b e => HKX.out b (HS'.out.lid b e) (by have := HVB'.out b e; have := HGK.out; omega)) (fun i hi2 b e => HKX.out b ((HS'.out.row i hi2).2 b e) (HVG.out i hi2 b e)))
                have hap : ∀ i, i < vs.length → ∀ b, (vs.getD i undef).ownBlock = some b → _ ≠ some b := fun i hi2 b e e2 => by
                  rcases HRq.out b e2 with h | h
                  · exact HVG.out i hi2 b e h
                  · have := (HS'.out.row i hi2).2 b e; omega
                have HAP := Lib.hid hap
                have hcl := length_candTo l m k
                have hcl2 : (candTo l m k).length ≤ 1000000000 := by omega
                have hzb : w.heap.size ≤ w5.heap.size := by omega
                obtain ⟨ar, cr, rfl⟩ := HRW.out.any
                clear hap
                go_wp2_with (at_builtin; refine wpList_appRowF rfl _ _ rfl w5 _ _ _ _ _ _ _ _ rfl rfl rfl HSW.out HRW.out HAP.out hzb hcl2 ?_; intro v6 w6 S6 B6 G6 L6; refine Stop.on ?_)
                have HS6 : Hid (SS w6 w.heap.size w6.heap.size v6 _ (candTo l m (k + 1))) := Lib.hid (by rw [HCE.out]; exact S6)
                have HB6 : Hid (Below w.heap.size w w6) := Lib.hid ((HB4.out.grown HGq.out (Nat.le_trans (Nat.le_refl _) hzw) (fun b e => by have h : gk = b := Option.some.inj e; omega)).trans B6)
                have hz6 := B6.size
                have HKN : Hid (∀ b, b < w1.heap.size + 4 → (∀ i, i < k + 1 → b ≠ w1.heap.size + 1 + i) → w6.heap[b]? = (nbW w1 g1).heap[b]?) := Lib.hid (fun b hb hne =>
                  (G6.block b (by omega) (fun e => by have := HVB'.out b e.symm; omega)).trans ((HGq.out.block b (by omega) (fun e => by have h : gk = b := (Option.some.inj e).symm; have := hne k (by omega); have := HGK.out; omega)).trans ((HK4.out b (by omega)).trans (HKP'.out b hb (fun i hi2 => hne i (by omega))))))
                have HVN : Hid (∀ b, v6.ownBlock = some b → w1.heap.size + 4 ≤ b) := Lib.hid (fun b e => by
                  rcases L6 with h | h
                  · exact HVB'.out b (h.symm.trans e)
                  · rw [h] at e
                    have := Option.some.inj e
                    omega)
                have HRN : Hid (∀ i, i < (vs ++ [Value.slice ar (chL l m f).length cr]).length → ∀ b, ((vs ++ [Value.slice ar (chL l m f).length cr]).getD i undef).ownBlock = some b → w1.heap.size + 4 ≤ b ∨ ∃ t, t < k + 1 ∧ b = w1.heap.size + 1 + t) := Lib.hid (fun i hi2 b e => by
                  rw [List.length_append, List.length_singleton] at hi2
                  by_cases hiv : i < vs.length
                  · rw [show (vs ++ [Value.slice ar (chL l m f).length cr]).getD i undef = vs.getD i undef from by simp [List.getD_eq_getElem?_getD, List.getElem?_append_left hiv]] at e
                    exact (HRB'.out i hiv b e).imp_right (fun ⟨t, h1, h2⟩ => ⟨t, by omega, h2⟩)
                  · rw [show (vs ++ [Value.slice ar (chL l m f).length cr]).getD i undef = Value.slice ar (chL l m f).length cr from by rw [show i = vs.length by omega]; simp [List.getD_eq_getElem?_getD]] at e
                    rcases HRq.out b e with h | h
                    · exact Or.inr ⟨k, by omega, by rw [h]; exact HGK.out⟩
                    · exact Or.inl (by omega))
                clear S6 B6 G6 L6
                refine ⟨?_⟩
                go_wp2
                exact ⟨⟨k + 1, by omega, by go_num, Lib.hid ⟨HB6.out, by omega, HKN.out, _, _, Nat.le_refl _, HS6.out, HVN.out, HRN.out⟩⟩, by simp [intOf]; omega⟩
    · have hk2 : k = 2 := by omega
      subst hk2
      have HSL := Lib.hid (HSO.out wo w.heap.size _ ⟨vs, HS'.out.up hhi⟩)
      go_wp2_with (go_at_call 63; refine HSL.out.mono ?_; rintro e w3 ⟨rfl, O3, B3⟩)
      go_ret
      exact ⟨_, rfl, O3, HB'.out.trans B3⟩

end Go.Proofs.Ytkdpjimbhpclaab
