/- Chapter 5, the program: PacesText. -/
import Derived.Test.YthnbimfdodfhoabDoorJa
import Derived.Test.YthnbimfdodfhoabDoorPf
import Derived.Test.YthnbimfdodfhoabDoorAppT
import Derived.Lib.ItoaNum
import Derived.Lib.Join
namespace Go.Proofs.YthnbimfdodfhoabDoor
open Go.ChangeShapes Go.WideShapes Go.ChangeAt Go.RowKit
open Dr Pa

namespace Pa
theorem digits_eq : ∀ n : Nat, Lib.decDigits n = numL n := by
  intro n
  induction n using Nat.strongRecOn with
  | _ n ih =>
    rw [Lib.decDigits, numL]
    by_cases h : n < 10
    · rw [dif_pos h, dif_pos h]; rfl
    · rw [dif_neg h, dif_neg h, ih (n / 10) (by omega)]; rfl
def segTo (qs : List (Nat × Nat)) (k : Nat) : List ByteArray := (List.range k).map fun i => oneT (qs.getD i (1, 0)).1 (qs.getD i (1, 0)).2
theorem segTo_succ (qs : List (Nat × Nat)) (k : Nat) : segTo qs (k + 1) = segTo qs k ++ [oneT (qs.getD k (1, 0)).1 (qs.getD k (1, 0)).2] := by unfold segTo; rw [List.range_succ, List.map_append]; rfl
theorem length_segTo (qs : List (Nat × Nat)) (k : Nat) : (segTo qs k).length = k := by unfold segTo; rw [List.length_map, List.length_range]
theorem join_snoc (xs : List (List UInt8)) (y sep : List UInt8) (h : xs ≠ []) : Lib.join (xs ++ [y]) sep = Lib.join xs sep ++ sep ++ y := by
  cases xs with
  | nil => exact absurd rfl h
  | cons x r =>
    rw [List.cons_append, Lib.join_cons, Lib.join_cons]
    simp [Lib.joinTail, List.append_assoc]
theorem data_append (a b : ByteArray) : (a ++ b).data.toList = a.data.toList ++ b.data.toList := by rw [ByteArray.data_append, Array.toList_append]
theorem text_join (qs : List (Nat × Nat)) : ∀ k, (textTo qs (k + 1)).data.toList = Lib.join ((segTo qs (k + 1)).map (·.data.toList)) [44]
  | 0 => by
    rw [textTo, if_neg (by omega), data_append, segTo_succ, List.map_append]
    have e : (textTo qs 0).data.toList = [] := rfl
    have e2 : (segTo qs 0).map (·.data.toList) = [] := rfl
    rw [e, e2, List.nil_append, List.nil_append, List.map_cons, List.map_nil, Lib.join_one]
  | k + 1 => by
    rw [textTo, if_pos (by omega), data_append, data_append, text_join qs k, segTo_succ qs (k + 1), List.map_append, List.map_cons, List.map_nil, join_snoc _ _ _ (fun e => by
      have := congrArg List.length e
      rw [List.length_map, length_segTo] at this
      cases this)]
    rfl
theorem text_all {qs : List (Nat × Nat)} (h : 1 ≤ qs.length) : (⟨(Lib.join ((segTo qs qs.length).map (·.data.toList)) (⟨#[44]⟩ : ByteArray).data.toList).toArray⟩ : ByteArray) = textN qs := by
  obtain ⟨k, hk⟩ : ∃ k, qs.length = k + 1 := ⟨qs.length - 1, by omega⟩
  unfold textN
  rw [hk]
  have e : (⟨#[44]⟩ : ByteArray).data.toList = [44] := rfl
  rw [e, ← text_join qs k]
end Pa

set_option maxRecDepth 20000 in
set_option maxHeartbeats 4000000 in
theorem implPacesText_of (w : World) (a : Option Addr) (len cap : Nat) (ps : List RPace) (hl : len ≤ 1048576) (hc : CamePace w a len ps)
    (hI : ∀ (i : Nat) (w : World), i < 100 → Calls Tryd.prog 27 #[.int .i64 (i : Int)] w fun e w' => e = .returned (.string ⟨(Lib.decDigits i).toArray⟩) ∧ w' = w)
    (hJ : ∀ (bk o c : Nat) (xs : List ByteArray) (w : World), (∀ (j : Nat) x, xs[j]? = some x → w.cell? ⟨bk, o + j, none⟩ = some (.string x)) → bk < w.heap.size → xs.length ≤ 6 → xs.length ≤ c → (Lib.join (xs.map (·.data.toList)) (⟨#[44]⟩ : ByteArray).data.toList).length ≤ 100 →
      Calls Tryd.prog 28 #[.slice (some ⟨bk, o, none⟩) xs.length c, .string ⟨#[44]⟩] w fun e w' => e = .returned (.string ⟨(Lib.join (xs.map (·.data.toList)) (⟨#[44]⟩ : ByteArray).data.toList).toArray⟩) ∧ Below w.heap.size w w') :
    Calls Tryd.prog 12 #[.slice a len cap] w fun e w' => e = .returned (.tuple #[.string (outPacesText_0 ps), .bool (outPacesText_1 ps)]) ∧ Below w.heap.size w w' := by
  have HG := Lib.hid (arePaces_any w a len cap ps hl hc)
  have HC0 := Lib.hid hc
  have HI := Lib.hid (fun (i : Nat) (w : World) (h : i < 100) => show Calls Tryd.prog 27 #[.int .i64 (i : Int)] w fun e w' => e = .returned (.string (txt (numL i))) ∧ w = w' from (hI i w h).mono fun e w' ⟨he, hw⟩ => ⟨by rw [he, digits_eq]; rfl, hw.symm⟩)
  have HJ := Lib.hid hJ
  clear hc hI hJ
  rcases hb : goodP ps with _ | _
  · have H0 : Hid (outPacesText_0 ps = ByteArray.empty ∧ outPacesText_1 ps = false) := Lib.hid (by unfold outPacesText_0 outPacesText_1; rw [hb]; exact ⟨rfl, rfl⟩)
    rw [hb] at HG
    clear hb
    go_enter Tryd.func12, Tryd.ntmps12
    go_wp2_with (go_at_call 26; refine HG.out.mono ?_; rintro e w2 ⟨rfl, b2⟩; have B2 := Lib.hid b2; clear b2)
    go_ret2
    exact ⟨by rw [H0.out.1, H0.out.2]; exact rfl, B2.out⟩
  · obtain ⟨qs, rfl, hgq⟩ := good_nat hb
    have H0 : Hid (outPacesText_0 (asP qs) = textN qs ∧ outPacesText_1 (asP qs) = true) := Lib.hid (by unfold outPacesText_0 outPacesText_1; rw [hb, toQ_asP]; exact ⟨rfl, rfl⟩)
    have hc2 := CameQ.of HC0.out
    have HZ : Hid (qs.length = len) := Lib.hid hc2.1
    have HC := Lib.hid hc2
    have HE := Lib.hid hgq
    have h6 : len ≤ 6 := by have := hgq.few; have := hc2.1; omega
    have h1 : 1 ≤ len := by have := hgq.pos; have := hc2.1; omega
    rw [hb] at HG
    clear hb hgq hc2 HC0
    go_enter Tryd.func12, Tryd.ntmps12
    go_wp2_with (go_at_call 26; refine HG.out.mono ?_; rintro e w2 ⟨rfl, b2⟩; have B2 := Lib.hid b2; clear b2)
    go_loopw [4, 12] (fun v i wr => ∃ k : Nat, k ≤ len ∧ i = .int .i64 (k : Int) ∧ Hid (OwnT wr w.heap.size v (Pa.segTo qs k)) ∧ Hid (Below w.heap.size w wr)) (fun _ i _ => len - (intOf i).toNat)
    case atStart => exact ⟨0, Nat.zero_le _, rfl, Lib.hid (ownT_nil _ _), B2⟩
    case round =>
      obtain ⟨k, hk, rfl, HO, HB⟩ := hrel
      by_cases hlt : k < len
      · obtain ⟨b, off, rfl, hcell⟩ := (HC.out.below HB.out).2 (by omega)
        obtain ⟨e0, e1⟩ := hcell k hlt
        have hp := HE.out.to k
        have HS := Lib.hid (Pa.segTo_succ qs k)
        obtain ⟨x, hx⟩ : ∃ x, x = (qs.getD k (1, 0)).1 := ⟨_, rfl⟩
        obtain ⟨y, hy⟩ : ∃ x, x = (qs.getD k (1, 0)).2 := ⟨_, rfl⟩
        rw [← hx] at e0 hp HS
        rw [← hy] at e1 hp HS
        obtain ⟨hp1, hp2, hp3⟩ := hp
        have HIX := Lib.hid (fun w2 => HI.out x w2 (by omega))
        have HIY := Lib.hid (fun w2 => HI.out y w2 (by omega))
        obtain ⟨qx, hqx⟩ : ∃ q, q = txt (numL x) := ⟨_, rfl⟩
        obtain ⟨qy, hqy⟩ : ∃ q, q = txt (numL y) := ⟨_, rfl⟩
        have hsx : qx.size ≤ 2 := by rw [hqx, size_txt]; exact numL_len x 2 (by omega) (by omega)
        have hsy : qy.size ≤ 2 := by rw [hqy, size_txt]; exact numL_len y 2 (by omega) (by omega)
        have hone : oneT x y = qx ++ (⟨#[43]⟩ : ByteArray) ++ qy := by rw [hqx, hqy]; rfl
        rw [hone] at HS
        rw [← hqx] at HIX
        rw [← hqy] at HIY
        have i1 : (0 : Int) ≤ (k : Int) := by omega
        have i2 : (k : Int) < (len : Int) := by omega
        obtain ⟨ws, hws⟩ : ∃ ws, ws = wr.alloc (.cells #[.int .i64 (x : Int), .int .i64 (y : Int)] 23) := ⟨_, rfl⟩
        have HBA : Hid (Below w.heap.size w ws) := Lib.hid (by rw [hws]; exact HB.out.alloc HB.out.size _)
        have HOA : Hid (OwnT ws w.heap.size _ (Pa.segTo qs k)) := Lib.hid (by rw [hws]; exact ownT_alloc HO.out _)
        have ec0 : ws.cell? ⟨wr.heap.size, 0, none⟩ = some (.int .i64 (x : Int)) := by rw [hws]; exact (pace_cells wr _ _).1
        have ec1 : ws.cell? ⟨wr.heap.size, 1, none⟩ = some (.int .i64 (y : Int)) := by rw [hws]; exact (pace_cells wr _ _).2
        have HEC := Lib.hid (show ws.cell? ⟨wr.heap.size, 0, none⟩ = some (.int .i64 (x : Int)) ∧ ws.cell? ⟨wr.heap.size, 1, none⟩ = some (.int .i64 (y : Int)) from ⟨ec0, ec1⟩)
        have HNV : Hid (∀ u, OwnT wr w.heap.size u (Pa.segTo qs k) → some wr.heap.size ≠ u.ownBlock) := Lib.hid (fun u h e => by have := (World.ownsRow.lt h wr.heap.size e.symm).2; omega)
        have HNV2 := Lib.hid (HNV.out _ HO.out)
        have hpl : (Pa.segTo qs k).length ≤ 1000000000 := by rw [Pa.length_segTo]; omega
        clear hcell hx hy hqx hqy hone HO HNV
        go_wp2_with fail
        rw [← hws]
        obtain ⟨g, hg⟩ : ∃ g, g = wr.heap.size := ⟨_, rfl⟩
        rw [← hg] at HEC HNV2 ec0 ec1 ⊢
        have hz := HBA.out.size
        clear hws hg
        have HKB : Hid (∀ (o : Obj) (w5 : World), (ws.alloc o).drew.grownBy w5 _ → w5.cell? ⟨g, 0, none⟩ = some (.int .i64 (x : Int)) ∧ w5.cell? ⟨g, 1, none⟩ = some (.int .i64 (y : Int))) := Lib.hid (fun o w5 h5 => by
          have hgl := World.block_lt_of_cell? ws _ HEC.out.1
          have hb := h5.block g (show g < (ws.alloc o).heap.size by rw [alloc_size1]; exact Nat.lt_succ_of_lt hgl) HNV2.out
          have hb2 : w5.heap[g]? = ws.heap[g]? := hb.trans (heap_alloc_old ws _ hgl)
          exact ⟨(World.cell?_of_block hb2).trans HEC.out.1, (World.cell?_of_block hb2).trans HEC.out.2⟩)
        go_region_held_law (fun w' => w'.cell? ⟨g, 0, none⟩ = some (.int .i64 (x : Int)) ∧ w'.cell? ⟨g, 1, none⟩ = some (.int .i64 (y : Int))) (first | go_keep | exact HKB.out _ _ hG5)
          (first
            | (go_at_call 27; refine (HIX.out _).mono ?_; rintro e w' ⟨rfl, rfl⟩)
            | (go_at_call 27; refine (HIY.out _).mono ?_; rintro e w' ⟨rfl, rfl⟩)
            | (refine step_appT rfl _ _ rfl w.heap.size _ _ (qx ++ (⟨#[43]⟩ : ByteArray) ++ qy) _ rfl rfl (show OwnT (ws.alloc _) _ _ _ from ownT_alloc HOA.out _) (show (ws.alloc (.cells #[.string (qx ++ (⟨#[43]⟩ : ByteArray) ++ qy)] 9)).cell? ((⟨ws.heap.size, 0, none⟩ : Addr).add 0) = some (.string (qx ++ (⟨#[43]⟩ : ByteArray) ++ qy)) from src_text (w := ws) _ rfl) (show w.heap.size ≤ (ws.alloc _).heap.size by rw [alloc_size1]; exact Nat.le_succ_of_le hz) hpl ?_; intro v' w5 hO hB5 hG5))
        all_goals
          (try simp only [List.getElem_toArray, List.getElem_cons_zero, List.getElem_cons_succ, List.setIfInBounds_toArray, List.set_cons_zero, List.set_cons_succ])
          have HO5 : Hid (OwnT w5 w.heap.size v' (Pa.segTo qs (k + 1))) := Lib.hid (by rw [HS.out]; exact hO)
          have HB5 : Hid (Below w.heap.size w w5) := Lib.hid ((HBA.out.alloc hz _).trans ⟨hB5.os, hB5.tape, hB5.output, hB5.size, hB5.block⟩)
          clear hO hB5 hG5
          go_wp2
          go_roundw
          case rel => exact ⟨k + 1, by omega, by go_num, HO5, HB5⟩
          case measure => simp [intOf]; omega
      · obtain rfl : k = len := by omega
        obtain ⟨ao, c, hv, hread⟩ := HO.out.read
        rw [Pa.length_segTo] at hv hread
        subst hv
        obtain ⟨g, rfl, _, hgl, hcells⟩ := hread (by omega)
        have hcap : k ≤ c := by
          have := HO.out
          rcases this.2 with ⟨e1, _⟩ | ⟨g', cap', cur, e1, _, _, e4, _⟩
          · cases e1
          · injection e1 with e2 e3 e5
            rw [Pa.length_segTo] at e4
            omega
        have HT : Hid (textN qs = ⟨(Lib.join ((Pa.segTo qs k).map (·.data.toList)) (⟨#[44]⟩ : ByteArray).data.toList).toArray⟩) := Lib.hid (by rw [← HZ.out]; exact (Pa.text_all (by rw [HZ.out]; exact h1)).symm)
        have hjl : (Lib.join ((Pa.segTo qs k).map (·.data.toList)) (⟨#[44]⟩ : ByteArray).data.toList).length ≤ 100 := by
          have h := congrArg ByteArray.size HT.out
          have h2 := size_textTo HE.out qs.length
          have h3 : (textN qs).size = (textTo qs qs.length).size := rfl
          have h4 : (⟨(Lib.join ((Pa.segTo qs k).map (·.data.toList)) (⟨#[44]⟩ : ByteArray).data.toList).toArray⟩ : ByteArray).size = (Lib.join ((Pa.segTo qs k).map (·.data.toList)) (⟨#[44]⟩ : ByteArray).data.toList).length := by simp [ByteArray.size]
          have := HZ.out
          omega
        have hj := HJ.out g 0 c (Pa.segTo qs k) wr (fun j z hz => by
          have hjlt := (List.getElem?_eq_some_iff.1 hz).1
          rw [Pa.length_segTo] at hjlt
          rw [Nat.zero_add, hcells j hjlt, List.getD_eq_getElem?_getD, hz]; rfl) hgl (by rw [Pa.length_segTo]; omega) (by rw [Pa.length_segTo]; exact hcap) hjl
        rw [Pa.length_segTo, ← HT.out] at hj
        have HJJ := Lib.hid hj
        clear hj hjl hcells hread HO
        go_wp2_with fail
        go_at_call 28
        refine HJJ.out.mono ?_
        rintro e w3 ⟨rfl, b3⟩
        have B3 : Hid (Below w.heap.size w w3) := Lib.hid (HB.out.trans (b3.mono HB.out.size))
        clear b3
        go_wp2
        go_ret2
        exact ⟨by rw [H0.out.1, H0.out.2]; exact rfl, B3.out⟩

end Go.Proofs.YthnbimfdodfhoabDoor
