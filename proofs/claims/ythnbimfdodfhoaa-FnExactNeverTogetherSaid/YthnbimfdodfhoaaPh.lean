/- Chapter 5: the model's FirstTogether. -/
import Derived.Test.YthnbimfdodfhoaaPb
import Derived.Test.YthnbimfdodfhoaaTwo
namespace Go.Proofs.Ythnbimfdodfhoaa
open Go.ChangeShapes Go.WideShapes Go.ChangeAt Go.RowKit
open Fo Pa

namespace Pa
def fstTo (qs : List (Nat × Nat)) (k : Nat) : List Int := asInts ((fsts qs).take k)
def sndTo (qs : List (Nat × Nat)) (k : Nat) : List Int := asInts ((snds qs).take k)
theorem fstTo_succ {qs : List (Nat × Nat)} {k : Nat} (h : k < qs.length) : fstTo qs (k + 1) = fstTo qs k ++ [((qs.getD k (1, 0)).1 : Int)] := by
  unfold fstTo fsts asInts
  rw [List.take_add_one, List.map_append, List.getElem?_map, List.getElem?_eq_getElem h, List.getD_eq_getElem?_getD, List.getElem?_eq_getElem h]; rfl
theorem sndTo_succ {qs : List (Nat × Nat)} {k : Nat} (h : k < qs.length) : sndTo qs (k + 1) = sndTo qs k ++ [((qs.getD k (1, 0)).2 : Int)] := by
  unfold sndTo snds asInts
  rw [List.take_add_one, List.map_append, List.getElem?_map, List.getElem?_eq_getElem h, List.getD_eq_getElem?_getD, List.getElem?_eq_getElem h]; rfl
theorem fstTo_all (qs : List (Nat × Nat)) : fstTo qs qs.length = asInts (fsts qs) := by unfold fstTo; rw [List.take_of_length_le (by simp [fsts])]
theorem sndTo_all (qs : List (Nat × Nat)) : sndTo qs qs.length = asInts (snds qs) := by unfold sndTo; rw [List.take_of_length_le (by simp [snds])]
theorem fstTo_len (qs : List (Nat × Nat)) (k : Nat) : (fstTo qs k).length ≤ k := by unfold fstTo; rw [asInts_len]; exact List.length_take_le _ _
theorem sndTo_len (qs : List (Nat × Nat)) (k : Nat) : (sndTo qs k).length ≤ k := by unfold sndTo; rw [asInts_len]; exact List.length_take_le _ _
def metO (qs : List (Nat × Nat)) : Option Nat := leastO (fsts qs) (snds qs) qs.length
end Pa
def outFirstTogether_0 (ps : List RPace) : Int := if goodP ps then leastOr (metO (toQ ps)) else 0
def outFirstTogether_1 (ps : List RPace) : Bool := goodP ps && (metO (toQ ps)).isSome

set_option maxHeartbeats 4000000 in
theorem specFirstTogether_any (w : World) (a : Option Addr) (len cap : Nat) (ps : List RPace) (hl : len ≤ 1048576) (hc : CamePace w a len ps) :
    Calls Try.prog 24 #[.slice a len cap] w fun e w' => e = .returned (.tuple #[.int .i64 (outFirstTogether_0 ps), .bool (outFirstTogether_1 ps)]) ∧ Below w.heap.size w w' := by
  have HG := Lib.hid (spGood_any w a len cap ps hl hc)
  have HC0 := Lib.hid hc
  clear hc
  rcases hb : goodP ps with _ | _
  · have H0 : Hid (outFirstTogether_0 ps = 0 ∧ outFirstTogether_1 ps = false) := Lib.hid (by unfold outFirstTogether_0 outFirstTogether_1; rw [hb]; exact ⟨rfl, rfl⟩)
    rw [hb] at HG
    clear hb
    go_enter Try.func24, Try.ntmps24
    go_wp2_with (go_at_call 45; refine HG.out.mono ?_; rintro e w2 ⟨rfl, b2⟩; have B2 := Lib.hid b2; clear b2)
    go_ret2
    exact ⟨by rw [H0.out.1, H0.out.2]; exact rfl, B2.out⟩
  · obtain ⟨qs, rfl, hgq⟩ := good_nat hb
    have H0 : Hid (outFirstTogether_0 (asP qs) = leastOr (metO qs) ∧ outFirstTogether_1 (asP qs) = (metO qs).isSome) := Lib.hid (by unfold outFirstTogether_0 outFirstTogether_1; rw [hb, toQ_asP]; exact ⟨rfl, rfl⟩)
    have hc2 := CameQ.of HC0.out
    have HZ : Hid (qs.length = len) := Lib.hid hc2.1
    have HC := Lib.hid hc2
    have HE := Lib.hid hgq
    have h6 : len ≤ 6 := by have := hgq.few; have := hc2.1; omega
    have h1 : 1 ≤ len := by have := hgq.pos; have := hc2.1; omega
    rw [hb] at HG
    clear hb hgq hc2 HC0
    go_enter Try.func24, Try.ntmps24
    go_wp2_with (go_at_call 45; refine HG.out.mono ?_; rintro e w2 ⟨rfl, b2⟩; have B2 := Lib.hid b2; clear b2)
    go_loopw [4, 5, 16] (fun p q i wr => ∃ k : Nat, k ≤ len ∧ i = .int .i64 (k : Int) ∧ Hid (Two wr w.heap.size p q (fstTo qs k) (sndTo qs k)) ∧ Hid (Below w.heap.size w wr)) (fun _ _ i _ => len - (intOf i).toNat)
    case atStart => exact ⟨0, Nat.zero_le _, rfl, Lib.hid (two_nil _ _), B2⟩
    case round =>
      obtain ⟨k, hk, rfl, HO, HB⟩ := hrel
      by_cases hlt : k < len
      · obtain ⟨b, off, rfl, hcell⟩ := (HC.out.below HB.out).2 (by omega)
        obtain ⟨e0, e1⟩ := hcell k hlt
        have HS1 : Hid (fstTo qs (k + 1) = fstTo qs k ++ [((qs.getD k (1, 0)).1 : Int)]) := Lib.hid (fstTo_succ (by rw [HZ.out]; exact hlt))
        have HS2 : Hid (sndTo qs (k + 1) = sndTo qs k ++ [((qs.getD k (1, 0)).2 : Int)]) := Lib.hid (sndTo_succ (by rw [HZ.out]; exact hlt))
        obtain ⟨x, hx⟩ : ∃ x, x = (qs.getD k (1, 0)).1 := ⟨_, rfl⟩
        obtain ⟨y, hy⟩ : ∃ x, x = (qs.getD k (1, 0)).2 := ⟨_, rfl⟩
        rw [← hx] at e0 HS1
        rw [← hy] at e1 HS2
        have i1 : (0 : Int) ≤ (k : Int) := by omega
        have i2 : (k : Int) < (len : Int) := by omega
        have HBA : Hid (Below w.heap.size w (wr.alloc (.cells #[.int .i64 (x : Int), .int .i64 (y : Int)] 48))) := Lib.hid (HB.out.alloc HB.out.size _)
        have HT := Lib.hid (HO.out.alloc (.cells #[.int .i64 (x : Int), .int .i64 (y : Int)] 48))
        have HPN : Hid (∀ g, g = wr.heap.size → ∀ u zs, Own wr w.heap.size u zs → some g ≠ u.ownBlock) := Lib.hid (fun g hg u zs h e => by have := (World.ownsRow.lt h g e.symm).2; omega)
        have HP1 := Lib.hid (HPN.out _ rfl _ _ HO.out.fst)
        have hz := HBA.out.size
        have hb1 : (fstTo qs k).length ≤ 1000000000 := by have := fstTo_len qs k; omega
        have hb2 : (sndTo qs k).length ≤ 1000000000 := by have := sndTo_len qs k; omega
        clear hcell hx hy HO HPN
        go_wp2_with (first
          | (at_builtin; refine wpList_appG rfl _ _ rfl (wr.alloc (.cells #[.int .i64 (x : Int), .int .i64 (y : Int)] 48)) _ _ _ _ rfl (by show Value.slice (some ⟨wr.heap.size + 1, 0, none⟩) 1 1 = Value.slice (some ⟨(wr.alloc _).heap.size, 0, none⟩) 1 1; rw [alloc_size1]) HT.out.fst hz hb1 ?_; intro v' w5 hO hB5 hG5 hD5; have HT5 : Hid (Two w5 w.heap.size v' _ (fstTo qs (k + 1)) (sndTo qs k)) := Lib.hid (HT.out.put (by rw [HS1.out]; exact hO) hG5 hD5); have HB5 : Hid (Below w.heap.size w w5) := Lib.hid (HBA.out.trans hB5); have e9 : w5.cell? ⟨wr.heap.size, 1, none⟩ = some (.int .i64 (y : Int)) := (World.cell?_of_block (hG5.block wr.heap.size (by rw [alloc_size1]; omega) HP1.out)).trans (by rw [World.cell?_alloc_new]; rfl); clear hO hB5 hG5 hD5)
          | (at_builtin; refine wpList_appG rfl _ _ rfl _ _ _ _ _ rfl rfl HT5.out.snd HB5.out.size hb2 ?_; intro v2 w6 hO hB6 hG6 hD6; have HT6 : Hid (Two w6 w.heap.size _ v2 (fstTo qs (k + 1)) (sndTo qs (k + 1))) := Lib.hid (HT5.out.swap.put (by rw [HS2.out]; exact hO) hG6 hD6).swap; have HB6 : Hid (Below w.heap.size w w6) := Lib.hid (HB5.out.trans hB6); clear hO hB6 hG6 hD6))
        go_roundw
        case rel => exact ⟨k + 1, by omega, by go_num, HT6, HB6⟩
        case measure => simp [intOf]; omega
      · have HF : Hid (Two wr w.heap.size _ _ (asInts (fsts qs)) (asInts (snds qs))) := Lib.hid (by rw [← fstTo_all, ← sndTo_all, HZ.out, show len = k by omega]; exact HO.out)
        obtain ⟨ao, c1, hv1, hcm1⟩ := HF.out.fst.came
        obtain ⟨bo, c2, hv2, hcm2⟩ := HF.out.snd.came
        subst hv1
        subst hv2
        have hn1 : (asInts (fsts qs)).length = len := by rw [asInts_len, ← HZ.out]; simp [fsts]
        have hn2 : (asInts (snds qs)).length = len := by rw [asInts_len, ← HZ.out]; simp [snds]
        rw [hn1] at hcm1 ⊢
        rw [hn2] at hcm2 ⊢
        have HL := Lib.hid (foLeast_any wr ao len c1 (fsts qs) bo c2 (snds qs) h1 h6 (fun i => HE.out.fst i) (fun i => by rw [getD_snds]; have := HE.out.all i; omega) hcm1 hcm2)
        have HM : Hid (leastO (fsts qs) (snds qs) len = metO qs) := Lib.hid (by unfold metO; rw [HZ.out])
        clear hcm1 hcm2 hn1 hn2 HF HO
        rcases ho : metO qs with _ | n
        · have H1 : Hid (leastA (fsts qs) (snds qs) len = 0 ∧ leastS (fsts qs) (snds qs) len = 0) := Lib.hid (by unfold leastA leastS; rw [HM.out, ho]; exact ⟨rfl, rfl⟩)
          rw [ho] at H0
          have hl2 := HL.out
          rw [H1.out.1, H1.out.2, HM.out, ho] at hl2
          have HLL : Hid (Calls Try.prog 52 #[.slice ao len c1, .slice bo len c2] wr fun e w' => e = .returned (.tuple #[.int .i64 0, .int .i64 0, .bool false]) ∧ Below wr.heap.size wr w') := Lib.hid hl2
          clear hl2 ho HL H1
          go_wp2_with fail
          go_at_call 52
          refine HLL.out.mono ?_
          rintro e w2 ⟨rfl, b2⟩
          have B3 : Hid (Below w.heap.size w w2) := Lib.hid (HB.out.trans (b2.mono HB.out.size))
          clear b2
          go_wp2
          go_ret2
          exact ⟨by rw [H0.out.1, H0.out.2]; exact rfl, B3.out⟩
        · have H1 : Hid (leastA (fsts qs) (snds qs) len = n) := Lib.hid (by unfold leastA; rw [HM.out, ho])
          rw [ho] at H0
          have hl2 := HL.out
          rw [H1.out, HM.out, ho] at hl2
          obtain ⟨s, hs⟩ : ∃ s, s = leastS (fsts qs) (snds qs) len := ⟨_, rfl⟩
          rw [← hs] at hl2
          have HLL : Hid (Calls Try.prog 52 #[.slice ao len c1, .slice bo len c2] wr fun e w' => e = .returned (.tuple #[.int .i64 (n : Nat), .int .i64 (s : Nat), .bool true]) ∧ Below wr.heap.size wr w') := Lib.hid hl2
          clear hl2 ho HL H1 hs
          go_wp2_with fail
          go_at_call 52
          refine HLL.out.mono ?_
          rintro e w2 ⟨rfl, b2⟩
          have B3 : Hid (Below w.heap.size w w2) := Lib.hid (HB.out.trans (b2.mono HB.out.size))
          clear b2
          go_wp2
          go_ret2
          exact ⟨by rw [H0.out.1, H0.out.2]; exact rfl, B3.out⟩

end Go.Proofs.Ythnbimfdodfhoaa
