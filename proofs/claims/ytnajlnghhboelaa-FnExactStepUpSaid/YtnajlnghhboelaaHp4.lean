/- seenFromRight; what a method of heights answers. -/
import Derived.Test.YtnajlnghhboelaaHp3
namespace Go.Proofs.Ytnajlnghhboelaa
open Go.ChangeShapes Go.WideShapes Go.ChangeAt Go.RowKit

/-- an owned slice's block -/
theorem Own.blk {w : World} {B g cap n : Nat} {zs : List Int} (h : Own w B (.slice (some ⟨g, 0, none⟩) n cap) zs) : B ≤ g ∧ ∃ cs, Blk w g 3 cs ∧ zs.length = n ∧ n ≤ cap ∧ cap ≤ maxLen ∧ cs.length = cap ∧ cs.take n = vals zs := by
  unfold Own at h
  obtain ⟨h0, h2⟩ := h
  rcases h2 with ⟨e, _⟩ | ⟨g', cap', cur, hv, hg, hh, hn, hcap, hsz, htake⟩
  · cases e
  · cases hv
    refine ⟨hg, cur.toList, by unfold Blk; simpa using hh, rfl, hn, hcap, by rw [Array.length_toList, hsz]; omega, ?_⟩
    rw [Nat.mul_one] at htake
    exact htake
theorem Blk.own {w : World} {B g cap n : Nat} {zs : List Int} {cs : List Value} (hB : B ≤ g) (h : Blk w g 3 cs) (hz : zs.length = n) (hn : n ≤ cap) (hm : cap ≤ maxLen) (hc : cs.length = cap) (ht : cs.take n = vals zs) : Own w B (.slice (some ⟨g, 0, none⟩) n cap) zs := by
  subst hz
  unfold Own
  exact ⟨by simp, .inr ⟨g, cap, cs.toArray, rfl, hB, h, hn, hm, by simpa using hc, by simpa [vals] using ht⟩⟩

set_option maxHeartbeats 1000000 in
theorem reverse_own (w : World) (B : Nat) (v : Value) (zs : List Int) (hz : zs.length ≤ 1000000000) (h : Own w B v zs) :
    Calls Try.prog 63 #[v] w fun e w' => e = .returned (.tuple #[]) ∧ Own w' B v zs.reverse ∧ w.grownBy w' v.ownBlock := by
  rcases h.shape with ⟨rfl, h0⟩ | ⟨g, cap, rfl, _, _⟩
  · obtain rfl : zs = [] := List.eq_nil_of_length_eq_zero h0
    have H := Lib.hid h
    clear h h0 hz
    go_enter Try.func63, Try.ntmps63
    go_wp2
    go_loop [2, 3] (fun i j => i = .int .i64 0 ∧ j = .int .i64 (-1)) (fun _ _ => 0)
    case atStart => exact ⟨rfl, rfl⟩
    case round =>
      obtain ⟨rfl, rfl⟩ := hrel
      go_wp2
      go_end0
      exact ⟨rfl, H.out, World.grownBy.refl _ _⟩
  · obtain ⟨hB, cs, hb, hn, hc, hm, hcl, ht⟩ := h.blk
    have hs : splice cs 0 (vals zs) = cs := splice_same cs 0 (vals zs) (by rw [length_vals]; omega) (fun j hj => by
      rw [← ht, List.getElem?_take, if_pos (by rw [length_vals] at hj; exact hj), Nat.zero_add])
    refine (reverse_any w g 0 zs.length cap _ cs zs rfl hz (by omega) (by rw [hs]; exact hb)).mono ?_
    rintro e w' ⟨he, hb', hg⟩
    refine ⟨he, hb'.own hB (by simp) hc hm ?_ ?_, hg⟩
    · rw [length_splice _ _ _ (by rw [length_vals, List.length_reverse]; omega)]; exact hcl
    · unfold splice
      rw [List.take_zero, List.nil_append, List.take_append_of_le_length (by rw [length_vals, List.length_reverse]; omega), List.take_of_length_le (by rw [length_vals, List.length_reverse]; omega)]

/-- the first k told from the other end -/
def turnTo (f : Int → Int) (zs : List Int) (k : Nat) : List Int := (zs.take k).map f ++ zs.drop k
theorem length_turnTo (f : Int → Int) (zs : List Int) (k : Nat) : (turnTo f zs k).length = zs.length := by simp [turnTo]; omega
theorem turnTo_zero (f : Int → Int) (zs : List Int) : turnTo f zs 0 = zs := by simp [turnTo]
theorem turnTo_all (f : Int → Int) (zs : List Int) : turnTo f zs zs.length = zs.map f := by simp [turnTo]
theorem turnTo_get (f : Int → Int) (zs : List Int) (k : Nat) (hk : k < zs.length) : (turnTo f zs k).getD k 0 = zs.getD k 0 := by
  unfold turnTo
  simp only [List.getD_eq_getElem?_getD]
  rw [List.getElem?_append_right (by simp; omega)]
  simp [show k - min k zs.length = 0 from by omega]
theorem turnTo_succ (f : Int → Int) (zs : List Int) (k : Nat) (hk : k < zs.length) : (turnTo f zs k).set k (f (zs.getD k 0)) = turnTo f zs (k + 1) := by
  unfold turnTo
  rw [List.set_append_right _ _ (by simp; omega), List.length_map, List.length_take, show k - min k zs.length = 0 from by omega, List.drop_eq_getElem_cons hk, List.set_cons_zero, List.take_succ_eq_append_getElem hk, List.map_append, List.append_assoc]
  simp [hk]

set_option maxHeartbeats 2000000 in
theorem seenFromRight_any (w : World) (hs : List Nat) (h1 : 1 ≤ hs.length) (h2 : hs.length ≤ 40) :
    Calls Try.prog 44 #[.agg (hc hs).toArray] w fun e w' => ∃ v, e = .returned v ∧ Own w' w.heap.size v (rightL hs) ∧ Below w.heap.size w w' := by
  obtain ⟨len, hlen⟩ : ∃ n, n = hs.length := ⟨_, rfl⟩
  have HZL := Lib.hid hlen
  rw [← hlen] at h1 h2
  clear hlen
  obtain ⟨ss, hss⟩ : ∃ ss, ss = asInts (He.seen hs.reverse) := ⟨_, rfl⟩
  have hsl : ss.length ≤ 40 := by
    rw [hss, asInts_len]
    have := He.seenTo_len hs.reverse hs.reverse.length
    rw [List.length_reverse] at this
    unfold He.seen
    rw [List.length_reverse]
    have := HZL.out; omega
  have HSS := Lib.hid hss
  have HR : Hid (rightL hs = ss.reverse.map fun z => (len : Int) - 1 - z) := by
    rw [hss, HZL.out]
    unfold rightL He.backTo
    rw [List.drop_zero, List.drop_zero]
    unfold asInts
    rw [← List.map_reverse, List.map_map]
    rfl
  rw [HR.out]
  have HL := Lib.hid (fun (j : Nat) (hj : j < ss.length) => show 0 ≤ ss.reverse.getD j 0 ∧ ss.reverse.getD j 0 < (len : Int) from by
    have hm : ss.reverse.getD j 0 ∈ ss.reverse := by
      simp only [List.getD_eq_getElem?_getD, List.getElem?_eq_getElem (show j < ss.reverse.length by simpa using hj), Option.getD_some]; exact List.getElem_mem _
    obtain ⟨y, hy⟩ : ∃ y, y = ss.reverse.getD j 0 := ⟨_, rfl⟩
    rw [← hy] at hm ⊢
    rw [List.mem_reverse, hss] at hm
    unfold asInts at hm
    simp only [List.mem_map] at hm
    obtain ⟨x, hx, e⟩ := hm
    have := seen_lt hx
    rw [List.length_reverse, ← HZL.out] at this
    omega)
  clear hss
  go_enter Try.func44, Try.ntmps44
  go_wp2_with (refine wpList_box 43 _ rfl rfl (hc hs) rfl ?_; intro w1 g G1 B1 L1)
  refine ⟨?_⟩
  go_wp2_with (refine wpList_loadAll 43 _ rfl rfl g _ (hc hs) _ Try.underlying43 rfl 41 Try.size_heights rfl B1 (length_hc _ (by have := HZL.out; omega)) ?_)
  refine ⟨?_⟩
  have HM := Lib.hid (mirrored_any w1 hs (by have := HZL.out; omega))
  have HQ := Lib.hid (fun w2 => seen_any w2 hs.reverse (by rw [List.length_reverse]; have := HZL.out; omega) (by rw [List.length_reverse]; have := HZL.out; omega))
  rw [← HSS.out] at HQ
  go_wp2_with fail
  go_at_call 62
  refine HM.out.mono ?_
  rintro e w2 ⟨rfl, b2⟩
  have LB2 := Lib.hid b2
  have z2 := b2.size
  clear b2
  go_wp2_with fail
  go_at_call 42
  refine (HQ.out w2).mono ?_
  rintro e w3 ⟨v, rfl, o3, b3⟩
  have O3 := Lib.hid o3
  have LB3 : Hid (Below w1.heap.size w1 w3) := LB2.out.trans (b3.mono z2)
  have z3 := b3.size
  clear o3 b3
  have HRV := Lib.hid (reverse_own w3 _ v ss (by omega) O3.out)
  go_wp2_with fail
  go_at_call 63
  refine HRV.out.mono ?_
  rintro e w4 ⟨rfl, o4, g4⟩
  have LB4 : Hid (Below w1.heap.size w1 w4) := LB3.out.grown g4 (by omega) (fun k hk => by have := (World.ownsRow.lt O3.out k hk).1; omega)
  have z4 := g4.size
  obtain ⟨n, hn⟩ : ∃ n, n = ss.length := ⟨_, rfl⟩
  have HN : Hid (ss.reverse.length = n) := by rw [List.length_reverse]; exact hn.symm
  have O4 : Hid (Own w4 w2.heap.size v (turnTo (fun z => (len : Int) - 1 - z) ss.reverse 0)) := by rw [turnTo_zero]; exact o4
  rw [← hn] at hsl HL
  clear g4 hn
  rcases o4.shape with ⟨rfl, h0⟩ | ⟨g2, c2, rfl, hg2, _⟩
  · have hnil : Hid (ss.reverse = []) := List.eq_nil_of_length_eq_zero h0
    clear o4 h0
    go_wp2
    go_loop [12] (fun i => i = .int .i64 0) (fun _ => 0)
    case atStart => exact rfl
    case round =>
      obtain rfl := hrel
      go_wp2
      go_ret
      exact ⟨_, rfl, by rw [← List.map_reverse, hnil.out]; exact own_nil _ _, L1.out.trans (LB4.out.mono L1.out.size)⟩
  · rw [HN.out] at O4 o4 ⊢
    clear o4
    go_wp2
    have hsg : g < w2.heap.size := by have := B1.out.lt; omega
    go_loopw [12] (fun i wr => ∃ k : Nat, k ≤ n ∧ i = .int .i64 (k : Int) ∧ Own wr w2.heap.size (.slice (some ⟨g2, 0, none⟩) n c2) (turnTo (fun z => (len : Int) - 1 - z) ss.reverse k) ∧ Below w1.heap.size w1 wr) (fun i _ => n - (intOf i).toNat)
    case atStart => exact ⟨0, Nat.zero_le _, rfl, O4.out, LB4.out⟩
    case round =>
      obtain ⟨k, hk, rfl, ho, hb⟩ := hrel
      by_cases hlt : k < n
      · have hkl : k < ss.reverse.length := by rw [HN.out]; exact hlt
        have e1 := ho.cell (by rw [length_turnTo]; exact HN.out.symm) k (by rw [length_turnTo]; exact hkl)
        rw [turnTo_get _ _ _ hkl] at e1
        have f1 := ho.free (by rw [length_turnTo]; exact HN.out.symm) k
        have ec := (B1.out.below hb B1.out.lt).count (by have := HZL.out; omega)
        rw [← HZL.out] at ec
        have hx := HL.out k hlt
        have HS := turnTo_succ (fun z => (len : Int) - 1 - z) ss.reverse k hkl
        obtain ⟨z, hz⟩ : ∃ z, z = ss.reverse.getD k 0 := ⟨_, rfl⟩
        rw [← hz] at e1 hx HS
        obtain ⟨hx1, hx2⟩ := hx
        have i1 : (0 : Int) ≤ (k : Int) := by omega
        have i2 : (k : Int) < (n : Int) := by omega
        have HOS : Hid (Own (wr.setCell ⟨g2, k, none⟩ (.int .i64 ((len : Int) - 1 - z))) w2.heap.size (.slice (some ⟨g2, 0, none⟩) n c2) (turnTo (fun z => (len : Int) - 1 - z) ss.reverse (k + 1))) := by
          rw [← HS]; exact ho.set (by rw [length_turnTo]; exact HN.out.symm) k _
        have HBS := Lib.hid (hb.setCell (p := ⟨g2, k, none⟩) (by show w1.heap.size ≤ g2; omega) (.int .i64 ((len : Int) - 1 - z)))
        clear hz ho hb HS hkl
        go_wp2_with fail
        go_region
        go_wp2
        go_roundw
        case rel => exact ⟨k + 1, by omega, by go_num, HOS.out, ⟨HBS.out.os, HBS.out.tape, HBS.out.output, HBS.out.size, HBS.out.block⟩⟩
        case measure => simp [intOf]; omega
      · have hkn : k = ss.reverse.length := by have := HN.out; omega
        rw [hkn, turnTo_all] at ho
        have HO := Lib.hid ho
        have HB := Lib.hid hb
        clear hkn ho hb
        go_wp2
        go_ret
        exact ⟨_, rfl, HO.out.mono (by have := L1.out.size; omega), L1.out.trans (HB.out.mono L1.out.size)⟩

/-- what a method of heights answers for a list -/
def ofGood {α : Type} (none : α) (f : List Nat → α) (zs : List Int) : α := if goodH zs then f (heights zs) else none

end Go.Proofs.Ytnajlnghhboelaa
