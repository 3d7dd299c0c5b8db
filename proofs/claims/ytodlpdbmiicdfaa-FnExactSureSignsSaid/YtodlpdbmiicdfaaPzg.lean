/- Chapter 9, the model: SureSigns. -/
import Derived.Test.YtodlpdbmiicdfaaPzf
namespace Go.Proofs.Ytodlpdbmiicdfaa
open Go.ChangeShapes Go.WideShapes Go.ChangeAt Go.RowKit
open Pz

namespace Pz
def cutAt (s : ByteArray) (k : Nat) : ByteArray := s.extract k (k + 1)
/-- whether all rows have the same sign at a place -/
def sameAt (L : List ByteArray) (k : Nat) : Bool := L.all fun r => decide (cutAt r k = cutAt (L.getD 0 ByteArray.empty) k)
def signAt (L : List ByteArray) (k : Nat) : ByteArray := if sameAt L k then cutAt (L.getD 0 ByteArray.empty) k else ⟨#[63]⟩
def sureTo (L : List ByteArray) : Nat → ByteArray
  | 0 => ByteArray.empty
  | k + 1 => sureTo L k ++ signAt L k
theorem same_no {L : List ByteArray} {k j : Nat} (hj : j < L.length) (h : ¬ cutAt (L.getD j ByteArray.empty) k = cutAt (L.getD 0 ByteArray.empty) k) : signAt L k = ⟨#[63]⟩ := by
  unfold signAt
  rw [if_neg]
  intro hs
  unfold sameAt at hs
  rw [List.all_eq_true] at hs
  have := hs L[j] (List.getElem_mem hj)
  rw [decide_eq_true_eq] at this
  apply h
  rw [← this]
  simp [List.getD_eq_getElem?_getD, hj]
theorem same_yes {L : List ByteArray} {k : Nat} (h : ∀ j, j < L.length → cutAt (L.getD j ByteArray.empty) k = cutAt (L.getD 0 ByteArray.empty) k) : signAt L k = cutAt (L.getD 0 ByteArray.empty) k := by
  unfold signAt
  rw [if_pos]
  unfold sameAt
  rw [List.all_eq_true]
  intro r hr
  obtain ⟨j, hj, rfl⟩ := List.getElem_of_mem hr
  rw [decide_eq_true_eq, ← h j hj]
  simp [List.getD_eq_getElem?_getD, hj]
theorem solL_size (n : Nat) (cs : List RClue) (j : Nat) (hj : j < (solL n cs).length) : ((solL n cs).getD j ByteArray.empty).size = n := by
  rw [List.getD_eq_getElem?_getD, List.getElem?_eq_getElem hj, Option.getD_some]
  have hm := List.getElem_mem hj
  unfold solL solTo at hm
  rw [List.mem_map] at hm
  obtain ⟨k, _, he⟩ := hm
  unfold solL solTo
  rw [← he, Rw.size_str, length_make]
theorem strs_nePz {q s : ByteArray} (h : ¬ q = s) : (q.toList == s.toList) = false := by
  rw [beq_eq_false_iff_ne]
  intro e
  apply h
  rw [ByteArray.toList_eq, ByteArray.toList_eq] at e
  exact ByteArray.ext (Array.toList_inj.1 e)
theorem size_signAt (L : List ByteArray) (k : Nat) : (signAt L k).size ≤ 1 := by
  unfold signAt
  split
  · unfold cutAt; rw [ByteArray.size_extract]; omega
  · exact Nat.le_refl 1
theorem size_sureTo (L : List ByteArray) : ∀ k, (sureTo L k).size ≤ k
  | 0 => Nat.le_refl 0
  | k + 1 => by rw [sureTo, ByteArray.size_append]; have := size_sureTo L k; have := size_signAt L k; omega
end Pz

def outSureSigns_1 (s : Int) (cs : List RClue) : Bool := goodP s cs && decide (0 < (solL s.toNat cs).length)
def outSureSigns_0 (s : Int) (cs : List RClue) : ByteArray := if outSureSigns_1 s cs then sureTo (solL s.toNat cs) s.toNat else ByteArray.empty
set_option maxHeartbeats 2000000 in
theorem specSureSigns_any (w : World) (s : Int) (a : Option Addr) (len cap : Nat) (cs : List RClue) (hl : len ≤ 1048576) (hc : CameClue w a len cs) :
    Calls Try.prog 38 #[.agg #[.int .i64 s, .slice a len cap]] w fun e w' => e = .returned (.tuple #[.string (outSureSigns_0 s cs), .bool (outSureSigns_1 s cs)]) ∧ Below w.heap.size w w' := by
  obtain ⟨w0, hw0⟩ : ∃ w0, w0 = w.alloc (.cells #[.int .i64 s, .slice a len cap] 35) := ⟨_, rfl⟩
  have HW0 : Hid (Below w.heap.size w w0) := Lib.hid (by rw [hw0]; exact (Below.refl _ _).alloc (Nat.le_refl _) _)
  obtain ⟨pb, hpb⟩ : ∃ pb, pb = w.heap.size := ⟨_, rfl⟩
  have HPC : Hid (∀ w2, Below w0.heap.size w0 w2 → w2.cell? ⟨pb, 0, none⟩ = some (.int .i64 s) ∧ w2.cell? ⟨pb, 1, none⟩ = some (.slice a len cap)) := Lib.hid (fun w2 h => by
    have c0 : w0.cell? ⟨pb, 0, none⟩ = some (.int .i64 s) := by rw [hw0, hpb, World.cell?_alloc_new]; rfl
    have c1 : w0.cell? ⟨pb, 1, none⟩ = some (.slice a len cap) := by rw [hw0, hpb, World.cell?_alloc_new]; rfl
    exact ⟨(h.cell (World.block_lt_of_cell? _ _ c0)).trans c0, (h.cell (World.block_lt_of_cell? _ _ c1)).trans c1⟩)
  have HC : Hid (CameClue w0 a len cs) := Lib.hid (hc.below HW0.out)
  have HZ : Hid (cs.length = len) := Lib.hid hc.1
  have HG := Lib.hid (pzGood_any w0 s a len cap cs hl HC.out)
  obtain ⟨c0, c1⟩ := HPC.out w0 (Below.refl _ _)
  clear hc
  rcases hb : goodP s cs with _ | _
  · have HE : Hid (outSureSigns_1 s cs = false ∧ outSureSigns_0 s cs = ByteArray.empty) := Lib.hid (by unfold outSureSigns_0 outSureSigns_1; rw [hb]; exact ⟨rfl, rfl⟩)
    rw [hb] at HG
    clear hb
    go_enter Try.func38, Try.ntmps38
    go_wp2_with fail
    rw [← hw0, ← hpb]
    clear hw0 hpb
    go_at_call 47
    refine HG.out.mono ?_
    rintro e w2 ⟨rfl, b2⟩
    have B2 : Hid (Below w.heap.size w w2) := Lib.hid (HW0.out.trans (b2.mono HW0.out.size))
    clear b2
    go_wp2
    go_ret2
    exact ⟨by rw [HE.out.1, HE.out.2]; exact rfl, B2.out⟩
  obtain ⟨⟨n, rfl, hn1, hn8⟩, hl6, hcl⟩ := pz_of hb
  have hl6' : len ≤ 6 := by have := HZ.out; omega
  have HE : Hid (outSureSigns_1 (n : Int) cs = decide (0 < (solL n cs).length) ∧ outSureSigns_0 (n : Int) cs = if decide (0 < (solL n cs).length) then sureTo (solL n cs) n else ByteArray.empty) := Lib.hid (by unfold outSureSigns_0 outSureSigns_1; rw [hb]; exact ⟨rfl, rfl⟩)
  have HA := Lib.hid (fun w2 (h : Below w0.heap.size w0 w2) => pzAll_any w2 n hn1 hn8 a len cap cs hl6' hcl (HC.out.below h))
  have hsl := solL_le hn8 cs
  rw [hb] at HG
  clear hb hcl
  go_enter Try.func38, Try.ntmps38
  go_wp2_with fail
  rw [← hw0, ← hpb]
  clear hw0 hpb
  go_at_call 47
  refine HG.out.mono ?_
  rintro e w2 ⟨rfl, b2⟩
  have HAL := Lib.hid (HA.out w2 b2)
  clear c0 c1
  obtain ⟨c0, c1⟩ := HPC.out w2 b2
  have B2 : Hid (Below w.heap.size w w2) := Lib.hid (HW0.out.trans (b2.mono HW0.out.size))
  have b2' := b2
  clear b2
  go_wp2_with fail
  go_at_call 60
  refine HAL.out.mono ?_
  rintro e w3 ⟨v, rfl, o3, b3⟩
  have B30 := Lib.hid (b2'.trans (b3.mono b2'.size))
  have B3 : Hid (Below w.heap.size w w3) := Lib.hid (B2.out.trans (b3.mono B2.out.size))
  obtain ⟨ao, cp, rfl, hrd⟩ := o3.read
  have HRD := Lib.hid hrd
  clear c0 c1
  obtain ⟨c0, c1⟩ := HPC.out w3 B30.out
  clear o3 b3 hrd b2'
  by_cases h0 : (solL n cs).length = 0
  · have HE2 : Hid (outSureSigns_1 (n : Int) cs = false ∧ outSureSigns_0 (n : Int) cs = ByteArray.empty) := Lib.hid (by rw [HE.out.1, HE.out.2, h0]; exact ⟨rfl, rfl⟩)
    rw [h0]
    clear h0 HE hsl
    go_wp2
    go_ret2
    exact ⟨by rw [HE2.out.1, HE2.out.2]; exact rfl, B3.out⟩
  · have hp : 0 < (solL n cs).length := by omega
    have HE2 : Hid (outSureSigns_1 (n : Int) cs = true ∧ outSureSigns_0 (n : Int) cs = sureTo (solL n cs) n) := Lib.hid (by rw [HE.out.1, HE.out.2, decide_eq_true hp]; exact ⟨rfl, rfl⟩)
    obtain ⟨g, rfl, _, _, hcell0⟩ := HRD.out hp
    have HSZ := Lib.hid (solL_size n cs)
    obtain ⟨L, hL⟩ : ∃ L, L = solL n cs := ⟨_, rfl⟩
    rw [← hL] at hp hsl h0 HE2 hcell0 HSZ ⊢
    obtain ⟨m, hm⟩ : ∃ m, m = L.length := ⟨_, rfl⟩
    have HM := Lib.hid hm
    rw [← hm] at hp hsl h0 hcell0 ⊢
    have HCE := Lib.hid hcell0
    have HZ0 := Lib.hid (HSZ.out 0 (by rw [← hm]; exact hp))
    have e0 := HCE.out 0 hp
    obtain ⟨z0, hz0⟩ : ∃ z, z = L.getD 0 ByteArray.empty := ⟨_, rfl⟩
    rw [← hz0] at e0 HZ0
    have HZ0E := Lib.hid hz0
    have hz0s : z0.size = n := HZ0.out
    have i1 : (0 : Int) < (m : Int) := by omega
    have i2 : ((m : Int) == 0) = false := by rw [beq_eq_false_iff_ne]; omega
    clear hcell0 hm HE h0 hL hz0
    go_wp2
    go_loop [5, 6] (fun o i => ∃ k : Nat, k ≤ n ∧ i = .int .i64 (k : Int) ∧ o = .string (sureTo L k)) (fun _ i => n - (intOf i).toNat)
    case atStart => exact ⟨0, Nat.zero_le _, rfl, rfl⟩
    case round =>
      obtain ⟨k, hk, rfl, rfl⟩ := hrel
      by_cases hlt : k < n
      · have HS1 : Hid (sureTo L (k + 1) = sureTo L k ++ signAt L k) := Lib.hid rfl
        have hks := size_sureTo L k
        obtain ⟨o, ho⟩ : ∃ o, o = sureTo L k := ⟨_, rfl⟩
        rw [← ho] at HS1 hks ⊢
        have i3 : (0 : Int) ≤ (k : Int) := by omega
        have i4 : (k : Int) < (n : Int) := by omega
        have i5 : IntKind.i64.wrap ((k : Int) + 1) = (k : Int) + 1 := IntWalk.i64_in _ (by omega)
        have i6 : (k : Int) + 1 ≤ (z0.size : Int) := by omega
        have i7 : ((k : Int) + 1).toNat = k + 1 := by omega
        have i8 : (0 : Int) ≤ (k : Int) + 1 := by omega
        have i9 : (k : Int) ≤ (z0.size : Int) := by omega
        have HSN := Lib.hid (fun j (hj : j < L.length) (h : ¬ cutAt (L.getD j ByteArray.empty) k = cutAt (L.getD 0 ByteArray.empty) k) => same_no hj h)
        have HSY := Lib.hid (fun (h : ∀ j, j < L.length → cutAt (L.getD j ByteArray.empty) k = cutAt (L.getD 0 ByteArray.empty) k) => same_yes h)
        rw [← HZ0E.out] at HSN HSY
        obtain ⟨zc, hzc⟩ : ∃ zc, zc = cutAt z0 k := ⟨_, rfl⟩
        have hzc2 : z0.extract k (k + 1) = zc := hzc.symm
        rw [← hzc] at HSN HSY
        have hzcs : zc.size ≤ 1 := by rw [hzc]; unfold cutAt; rw [ByteArray.size_extract]; omega
        have hsl0 := fun wx => run_slice_string (P := Try.prog) wx 9 z0 .i64 .i64 (k : Int) ((k : Int) + 1) Try.underlying9 i3 (by omega) i6
        rw [Int.toNat_natCast, i7, hzc2] at hsl0
        clear ho hzc
        go_wp2
        go_loop [7, 36] (fun sg j => ∃ q : Nat, q ≤ m ∧ j = .int .i64 (q : Int) ∧ sg = .string zc ∧ Hid (∀ x, x < q → cutAt (L.getD x ByteArray.empty) k = zc)) (fun _ j => m - (intOf j).toNat)
        case atStart => exact ⟨0, Nat.zero_le _, rfl, rfl, Lib.hid (fun x h => absurd h (Nat.not_lt_zero _))⟩
        case round =>
          obtain ⟨q, hq, rfl, rfl, HQ⟩ := hrel
          by_cases hqm : q < m
          · have eq := HCE.out q hqm
            have HZQ := HSZ.out q (by rw [← HM.out]; exact hqm)
            have HSN2 := Lib.hid (HSN.out q (by rw [← HM.out]; exact hqm))
            obtain ⟨r, hr⟩ : ∃ r, r = L.getD q ByteArray.empty := ⟨_, rfl⟩
            rw [← hr] at eq HZQ HSN2
            have HR := Lib.hid hr
            obtain ⟨rc, hrc⟩ : ∃ rc, rc = cutAt r k := ⟨_, rfl⟩
            have hrc2 : r.extract k (k + 1) = rc := hrc.symm
            rw [← hrc] at HSN2
            have HRC := Lib.hid hrc
            have j1 : (0 : Int) ≤ (q : Int) := by omega
            have j2 : (q : Int) < (m : Int) := by omega
            have j3 : (k : Int) + 1 ≤ (r.size : Int) := by omega
            have j4 : (k : Int) ≤ (r.size : Int) := by omega
            have hsl1 := fun wx => run_slice_string (P := Try.prog) wx 9 r .i64 .i64 (k : Int) ((k : Int) + 1) Try.underlying9 i3 (by omega) j3
            rw [Int.toNat_natCast, i7, hrc2] at hsl1
            clear hr hrc
            by_cases hx : rc = zc
            · have HQ2 : Hid (∀ x, x < q + 1 → cutAt (L.getD x ByteArray.empty) k = zc) := Lib.hid (fun x hx2 => by
                by_cases e : x = q
                · subst e; rw [← HR.out, ← HRC.out]; exact hx
                · exact HQ.out x (by omega))
              subst hx
              go_wp2
              go_round
              case rel => exact ⟨q + 1, by omega, by go_num, rfl, HQ2⟩
              case measure => simp [intOf]; omega
            · have HSG := Lib.hid (HSN2.out hx)
              have g1 : (rc.toList == zc.toList) = false := strs_nePz hx
              go_wp2
              go_round
              case rel => exact ⟨k + 1, by omega, by go_num, by rw [HS1.out, HSG.out]⟩
              case measure => simp [intOf]; omega
          · have HSG := Lib.hid (HSY.out (fun j hj => HQ.out j (by have := HM.out; omega)))
            go_wp2
            go_round
            case rel => exact ⟨k + 1, by omega, by go_num, by rw [HS1.out, HSG.out]⟩
            case measure => simp [intOf]; omega
      · obtain rfl : k = n := by omega
        go_wp2
        go_ret2
        exact ⟨by rw [HE2.out.1, HE2.out.2]; exact rfl, B3.out⟩

end Go.Proofs.Ytodlpdbmiicdfaa
