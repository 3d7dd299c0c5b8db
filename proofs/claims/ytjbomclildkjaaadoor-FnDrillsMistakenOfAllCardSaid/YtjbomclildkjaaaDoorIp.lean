/- Chapter 4, the program: facingBehind, FacingWithMistakes, FacingAfter. -/
import Derived.Test.YtjbomclildkjaaaDoorIo
import Derived.Test.YtjbomclildkjaaaDoorIe
import Derived.Laws.BytesArg
namespace Go.Proofs.YtjbomclildkjaaaDoor
open Go.ChangeShapes Go.WideShapes Go.ChangeAt Go.RowKit
open Dr

/-- v is a slice of these bytes that a call made -/
def OwnB (w : World) (B : Nat) (v : Value) (zs : List Int) : Prop := w.ownsRow B 5 1 v zs.length (zs.map (Value.int .u8))
theorem OwnB.cell {w : World} {B g cap n : Nat} {zs : List Int} (h : OwnB w B (.slice (some ⟨g, 0, none⟩) n cap) zs) (hn : n = zs.length) (j : Nat) (hj : j < zs.length) : w.cell? ⟨g, j, none⟩ = some (.int .u8 (zs.getD j 0)) := by
  subst hn
  unfold OwnB at h
  rw [h.cellAt j (by omega)]
  simp [hj]
theorem OwnB.free {w : World} {B g cap n : Nat} {zs : List Int} (h : OwnB w B (.slice (some ⟨g, 0, none⟩) n cap) zs) (hn : n = zs.length) (j : Nat) : w.frozen? ⟨g, j, none⟩ = false := by
  subst hn
  unfold OwnB at h
  exact h.frozenAt j
theorem OwnB.set {w : World} {B g cap n : Nat} {zs : List Int} (h : OwnB w B (.slice (some ⟨g, 0, none⟩) n cap) zs) (hn : n = zs.length) (j : Nat) (z : Int) : OwnB (w.setCell ⟨g, j, none⟩ (.int .u8 z)) B (.slice (some ⟨g, 0, none⟩) n cap) (zs.set j z) := by
  subst hn
  unfold OwnB at h ⊢
  rw [List.length_set, List.map_set]
  exact (h.stored j _).1
theorem OwnB.text {w : World} {B g cap n : Nat} {zs : List Int} (h : OwnB w B (.slice (some ⟨g, 0, none⟩) n cap) zs) (hn : n = zs.length) : (convert 22 9 (.slice (some ⟨g, 0, none⟩) n cap)).run Tryd.prog w = .ok (.string (strOfNums zs)) w :=
  run_convert_bytes_arg (P := Tryd.prog) w 22 5 Tryd.underlying22 Tryd.underlying5 g 0 n cap zs hn.symm (fun i hi => by rw [Nat.zero_add]; exact h.cell hn i (by omega)) 9 Tryd.underlying9
theorem Tryd.info_uint8 : (Tryd.prog.info? 5).map (fun i => (i.zero, i.size, i.bytes)) = some (some (.int .u8 0), 1, 1) := by kernel_rfl
theorem made_ownB {w w1 : World} {B n : Nat} (h : w1.ownsRow B 5 1 (.slice (some ⟨w.heap.size, 0, none⟩) n n) n (madeCells #[.int .u8 0] (n * 1)).toList) :
    OwnB w1 B (.slice (some ⟨w.heap.size, 0, none⟩) n n) (List.replicate n 0) := by
  unfold OwnB
  rw [List.length_replicate]
  rw [Nat.mul_one, toList_madeCells_one] at h
  rw [List.map_replicate]; exact h
def facQ (fs : List Nat) (q : Nat → Nat) (i : Nat) : Nat := (fs.getD i 0 + q i) % 4
theorem facQ_lt (fs : List Nat) (q : Nat → Nat) (i : Nat) : facQ fs q i < 4 := Nat.mod_lt _ (by omega)
def facL (fs : List Nat) (q : Nat → Nat) (n k : Nat) : List Int := fillTo (fun i => 48 + ((facQ fs q i : Nat) : Int)) n k
theorem length_facL (fs : List Nat) (q : Nat → Nat) (n k : Nat) (hk : k ≤ n) : (facL fs q n k).length = n := length_fillTo _ _ _ hk
theorem facL_succ (fs : List Nat) (q : Nat → Nat) (n k : Nat) (hk : k < n) : (facL fs q n k).set k (48 + ((facQ fs q k : Nat) : Int)) = facL fs q n (k + 1) := fillTo_succ (fun i => 48 + ((facQ fs q i : Nat) : Int)) n k hk
theorem facL_text (fs : List Nat) (q : Nat → Nat) (n : Nat) : strOfNums (facL fs q n n) = face ((List.range n).map (facQ fs q)) := by
  unfold facL
  rw [fillTo_all]
  unfold upTo
  apply ByteArray.ext
  apply Array.ext'
  rw [strOfNums_data]
  unfold face txt
  rw [List.map_map, List.map_map]
  refine List.map_congr_left fun i _ => ?_
  simp only [Function.comp_apply]
  unfold dg
  rw [show (48 + ((facQ fs q i : Nat) : Int)).toNat = 48 + facQ fs q i from by omega]
set_option maxRecDepth 20000 in
theorem wrap_digit (r : Nat) (h : r < 4) : IntKind.u8.wrap (48 + (r : Int)) = 48 + (r : Int) := (by decide : ∀ m < 4, IntKind.u8.wrap (48 + ((m : Nat) : Int)) = 48 + ((m : Nat) : Int)) r h
set_option maxRecDepth 20000 in
set_option maxHeartbeats 500000 in
theorem facingBehind_any (w : World) (fs : List Nat) (q : Nat → Nat) (lo g c : Nat) (hf1 : 1 ≤ fs.length) (hf : fs.length ≤ 30) (hf4 : ∀ t ∈ fs, t < 4) (hq : ∀ i, q i ≤ 1000) (ho : Own w lo (.slice (some ⟨g, 0, none⟩) fs.length c) (upTo (fun i => ((q i : Nat) : Int)) fs.length)) :
    Calls Tryd.prog 76 #[.string (face fs), .slice (some ⟨g, 0, none⟩) fs.length c] w fun e w' => e = .returned (.string (face ((List.range fs.length).map (facQ fs q)))) ∧ Below w.heap.size w w' := by
  have HFB := Lib.hid (face_byte fs hf4)
  have HFL := Lib.hid (getD_lt hf4 (by omega))
  have HO := Lib.hid ho
  have HQ := Lib.hid hq
  have HX := Lib.hid (facL_text fs q fs.length)
  have hfz := size_face fs
  have hgl : g < w.heap.size := by
    rcases ho.shape with ⟨h1, _⟩ | ⟨g', cap, h1, _, h3⟩
    · cases h1
    · simp only [Value.slice.injEq, Option.some.injEq, Addr.mk.injEq] at h1
      obtain ⟨⟨rfl, _⟩, _⟩ := h1
      exact h3
  obtain ⟨f, hfe⟩ : ∃ x, x = face fs := ⟨_, rfl⟩
  rw [← hfe] at hfz ⊢
  have HFB2 : Hid (∀ k, (hk : k < f.size) → ((f[k]).toNat : Int) = 48 + ((fs.getD k 0 : Nat) : Int)) := Lib.hid (by subst hfe; exact HFB.out)
  obtain ⟨n, hn⟩ : ∃ n, n = fs.length := ⟨_, rfl⟩
  rw [← hn] at hfz HO HX hf1 hf ⊢
  obtain ⟨i0, hi, hz0, hz1, hz2⟩ := info_parts Tryd.info_uint8
  have HLQ : Hid (∀ k, (upTo (fun i => ((q i : Nat) : Int)) k).length = k) := Lib.hid (length_upTo _)
  clear ho hq hfe hn hf4 HFB
  go_enter Tryd.func76, Tryd.ntmps76
  go_wp2_with (at_make; refine wpList_make_full _ rfl _ _ 22 rfl w.heap.size 5 i0 (.int .u8 0) 1 Tryd.underlying22 hi hz0 hz1 .i64 .i64 _ _ n rfl rfl rfl rfl (by rw [hz2]; omega) (by unfold maxLen; omega) (Nat.le_refl _) ?_; intro w1 hown hgrow)
  have HO0 : Hid (OwnB w1 w.heap.size (.slice (some ⟨w.heap.size, 0, none⟩) n n) (facL fs q n 0)) := Lib.hid (by
    unfold facL
    rw [fillTo_zero]
    exact made_ownB hown)
  have HB0 := Lib.hid (below_made hgrow)
  clear hown hgrow
  go_loopw [13] (fun i wr => ∃ k : Nat, k ≤ n ∧ i = .int .i64 (k : Int) ∧ Hid (OwnB wr w.heap.size (.slice (some ⟨w.heap.size, 0, none⟩) n n) (facL fs q n k)) ∧ Hid (Below w.heap.size w wr)) (fun i _ => n - (intOf i).toNat)
  case atStart => exact ⟨0, Nat.zero_le _, rfl, HO0, HB0⟩
  case round =>
    obtain ⟨k, hk, rfl, HOK, HB⟩ := hrel
    by_cases hlt : k < n
    · have hkf : k < f.size := by omega
      obtain ⟨hb0, hb1⟩ := byte_bd f[k]
      have HW1 := Lib.hid (fun w2 => wayOf_any (f[k].toNat : Int) w2 hb0 hb1)
      have e1 := HFB2.out k hkf
      have hx := HFL.out k
      have HOQ := HO.out.below HB.out (Nat.le_refl _)
      have e2 := HOQ.cell (HLQ.out n).symm k (by rw [HLQ.out]; exact hlt)
      rw [getD_upTo _ _ _ hlt] at e2
      have hql := HQ.out k
      have HS := Lib.hid (facL_succ fs q n k hlt)
      have hrl := facQ_lt fs q k
      have hr : facQ fs q k = (fs.getD k 0 + q k) % 4 := rfl
      obtain ⟨x, hxx⟩ : ∃ x, x = fs.getD k 0 := ⟨_, rfl⟩
      obtain ⟨y, hyy⟩ : ∃ x, x = q k := ⟨_, rfl⟩
      obtain ⟨r, hrr⟩ : ∃ x, x = facQ fs q k := ⟨_, rfl⟩
      rw [← hxx] at e1 hx hr
      rw [← hyy] at e2 hql hr
      rw [← hrr] at HS hrl hr
      rw [e1, show 48 + (x : Int) - 48 = (x : Int) from by omega] at HW1
      have e5 : ((x : Int) + (y : Int)) % 4 = (r : Int) := by omega
      have e6 := wrap_digit r hrl
      have hll := length_facL fs q n k (by omega)
      have e3 := HOK.out.cell (by omega) k (by omega)
      have f3 := HOK.out.free (by omega) k
      obtain ⟨old, hold⟩ : ∃ z, z = (facL fs q n k).getD k 0 := ⟨_, rfl⟩
      rw [← hold] at e3
      have HO2 : Hid (OwnB (wr.setCell ⟨w.heap.size, k, none⟩ (.int .u8 (48 + (r : Int)))) w.heap.size (.slice (some ⟨w.heap.size, 0, none⟩) n n) (facL fs q n (k + 1))) := Lib.hid (by
        rw [← HS.out]; exact HOK.out.set (by omega) k _)
      have HB2 := Lib.hid (HB.out.setCell (p := ⟨w.heap.size, k, none⟩) (Nat.le_refl _) (.int .u8 (48 + (r : Int))))
      have hk0 : (0 : Int) ≤ (k : Int) := by omega
      have hkn : (k : Int) < (n : Int) := by omega
      have hkn2 : (k : Int) < (f.size : Int) := by omega
      clear hxx hyy hrr hr hold hll HOK HB HS HOQ
      go_wp2_with (go_at_call 66; refine (HW1.out _).mono ?_; rintro e w' ⟨rfl, rfl⟩)
      go_roundw
      case rel => exact ⟨k + 1, by omega, by go_num, HO2, HB2⟩
      case measure => simp [intOf]; omega
    · obtain rfl : k = n := by omega
      have hcv := HOK.out.text (length_facL fs q k k (Nat.le_refl _)).symm
      rw [HX.out] at hcv
      clear HOK
      go_wp2
      go_ret
      exact ⟨rfl, HB.out⟩

theorem ask_no {f s : ByteArray} {ps : List RMistake} (h : askB f s ps = false) : outFacingWithMistakes_0 f s ps = ByteArray.empty ∧ outFacingWithMistakes_1 f s ps = false := by
  unfold outFacingWithMistakes_0 outFacingWithMistakes_1
  rw [h]
  exact ⟨rfl, rfl⟩
theorem fac_all {n : Nat} {fs ts : List Nat} {ps : List RMistake} (hts : ∀ t ∈ ts, t < 4) (h : ∀ k, k < ps.length → OkM n ts (ps.getD k zMistake)) (m : Nat) : face ((List.range m).map (facQ fs fun i => accP ts ps i ps.length)) = facMTo fs ts ps m := by
  unfold facMTo
  congr 1
  refine List.map_congr_left fun i _ => ?_
  unfold facQ
  have h1 := accP_done hts h i
  show (fs.getD i 0 + accP ts ps i ps.length) % 4 = _
  omega
theorem mist_sol {n : Nat} {s : ByteArray} {ps : List RMistake} (h : mistB n s ps = true) : ∀ k, k < ps.length → ∃ i : Nat, (ps.getD k zMistake).1 = (i : Int) ∧ i < n := by
  unfold mistB at h
  simp only [Bool.and_eq_true, List.all_eq_true, List.mem_range] at h
  intro k hk
  have h6 := h.2.2.2 k hk
  unfold okR at h6
  simp only [Bool.and_eq_true] at h6
  have h7 := inB_yes h6.1
  exact ⟨(ps.getD k zMistake).1.toNat, by omega, by omega⟩
set_option maxRecDepth 20000 in
set_option maxHeartbeats 500000 in
theorem implFacingWithMistakes_any (w : World) (f s : ByteArray) (a : Option Addr) (len cap : Nat) (ps : List RMistake) (_wf : f.size ≤ maxLen) (_ws : s.size ≤ maxLen) (hf : f.size ≤ 1048576) (hs : s.size ≤ 1048576) (hl : len ≤ 1048576) (hc : CameMistake w a len ps) (hcp : len ≤ cap ∧ cap ≤ 9223372036854775807) (hT : Tab_signOfTurn w) :
    Calls Tryd.prog 38 #[.string f, .string s, .slice a len cap] w fun e w' => e = .returned (.tuple #[.string (outFacingWithMistakes_0 f s ps), .bool (outFacingWithMistakes_1 f s ps)]) ∧ Below w.heap.size w w' := by
  have HF := Lib.hid (areFacing_any f w hf)
  have HA := Lib.hid (implAreMistakes_any w f.size s a len cap ps (WalkArith.wf_i64 ⟨by omega, by omega⟩) _ws hs hl hc hcp hT)
  have hl1 : ps.length = len := hc.1
  rcases hb0 : faceB f with _ | _
  · have H0 := Lib.hid (ask_no (f := f) (s := s) (ps := ps) (by unfold askB; rw [hb0]; rfl))
    rw [hb0] at HF
    clear hb0 hT hc _wf _ws
    go_enter Tryd.func38, Tryd.ntmps38
    go_wp2_with (go_at_call 23; refine HF.out.mono ?_; rintro e w' ⟨rfl, rfl⟩)
    go_ret2
    exact ⟨by rw [H0.out.1, H0.out.2]; exact rfl, Below.refl _ _⟩
  · rw [hb0] at HF
    rcases hb1 : mistB f.size s ps with _ | _
    · have H0 := Lib.hid (ask_no (f := f) (s := s) (ps := ps) (by unfold askB; rw [hb0, hb1]; rfl))
      rw [show outAreMistakes_0 f.size s ps = false from hb1] at HA
      clear hb0 hb1 hT hc _wf _ws
      go_enter Tryd.func38, Tryd.ntmps38
      go_wp2_with fail
      go_at_call 23
      refine HF.out.mono ?_
      rintro e w' ⟨rfl, rfl⟩
      go_wp2_with fail
      go_at_call 46
      refine HA.out.mono ?_
      rintro e w2 ⟨rfl, b2⟩
      have B2 := Lib.hid b2
      clear b2
      go_wp2
      go_ret2
      exact ⟨by rw [H0.out.1, H0.out.2]; exact rfl, B2.out⟩
    · rw [show outAreMistakes_0 f.size s ps = true from hb1] at HA
      obtain ⟨fs, rfl, h1, h2, h3⟩ := face_of hb0
      have hwb : wordB s = true := by
        unfold mistB at hb1
        simp only [Bool.and_eq_true] at hb1
        exact hb1.2.1
      obtain ⟨ts, rfl, h4, h5⟩ := word_of hwb
      have hsol := mist_sol hb1
      obtain ⟨_, _, h20, hok⟩ := mist_ok hb1
      have H0 : Hid (outFacingWithMistakes_0 (face fs) (word ts) ps = face ((List.range fs.length).map (facQ fs fun i => accP ts ps i len)) ∧ outFacingWithMistakes_1 (face fs) (word ts) ps = true) := Lib.hid (by
        unfold outFacingWithMistakes_0 outFacingWithMistakes_1 askB
        rw [hb0, hb1, fsOf_face h3, tsOf_word h5, ← hl1, fac_all h5 hok, size_face]
        exact ⟨rfl, rfl⟩)
      have hfz := size_face fs
      rw [hfz] at hsol
      have HTE := Lib.hid (fun w2 (hb : Below w.heap.size w w2) => turnsOfEach_any w2 fs.length ts a len cap ps h1 h2 h4 h5 h20 (fun k hk => ⟨(hok k hk).at', (hok k hk).one, (hok k hk).turn⟩) hsol (hc.below hb) (hT.below hb))
      have HFBH := Lib.hid (fun w2 lo g c ho => facingBehind_any w2 fs (fun i => accP ts ps i len) lo g c h1 h2 h3 (fun i => Nat.le_trans (accP_le ts ps i len) (by omega)) ho)
      have HTL : Hid (trL ts ps fs.length len = upTo (fun i => ((accP ts ps i len : Nat) : Int)) fs.length) := rfl
      have hfp : 0 < fs.length := h1
      obtain ⟨f, hfe⟩ : ∃ x, x = face fs := ⟨_, rfl⟩
      obtain ⟨s, hse⟩ : ∃ x, x = word ts := ⟨_, rfl⟩
      rw [← hfe] at H0 HF HA hfz HFBH ⊢
      rw [← hse] at H0 HA HTE ⊢
      obtain ⟨n, hn⟩ : ∃ n, n = fs.length := ⟨_, rfl⟩
      rw [← hn] at hfz HTE HFBH HTL H0 hfp
      rw [hfz] at HA
      obtain ⟨res, hres⟩ : ∃ r, r = face ((List.range n).map (facQ fs fun i => accP ts ps i len)) := ⟨_, rfl⟩
      rw [← hres] at H0 HFBH
      have HLT : Hid ((trL ts ps n len).length = n) := Lib.hid (length_trL _ _ _ _)
      clear hb0 hb1 hwb hT hc _wf _ws hfe hse hn hres h1 h2 h3 h4 h5 hok hsol h20 hf hs hl1
      go_enter Tryd.func38, Tryd.ntmps38
      go_wp2_with fail
      go_at_call 23
      refine HF.out.mono ?_
      rintro e w' ⟨rfl, rfl⟩
      go_wp2_with fail
      go_at_call 46
      refine HA.out.mono ?_
      rintro e w2 ⟨rfl, b2⟩
      have HT2 := Lib.hid (HTE.out w2 b2)
      have B2 := Lib.hid b2
      clear b2
      go_wp2_with fail
      go_at_call 77
      refine HT2.out.mono ?_
      rintro e w3 ⟨v, rfl, o3, b3⟩
      have B3 : Hid (Below w.heap.size w w3) := Lib.hid (B2.out.trans (b3.mono B2.out.size))
      obtain ⟨g, c, rfl, _, _⟩ := o3.point (by rw [HLT.out]; exact hfp)
      rw [HLT.out] at o3 ⊢
      rw [HTL.out] at o3
      have HFH := Lib.hid (HFBH.out w3 _ g c o3)
      clear o3 b3
      go_wp2_with fail
      go_at_call 76
      refine HFH.out.mono ?_
      rintro e w4 ⟨rfl, b4⟩
      have B4 : Hid (Below w.heap.size w w4) := Lib.hid (B3.out.trans (b4.mono B3.out.size))
      clear b4
      go_wp2
      go_ret2
      exact ⟨by rw [H0.out.1, H0.out.2]; exact rfl, B4.out⟩

theorem after_none (f s : ByteArray) : outFacingWithMistakes_0 f s [] = outFacingAfter_0 f s ∧ outFacingWithMistakes_1 f s [] = outFacingAfter_1 f s := by
  have hm : faceB f = true → mistB f.size s [] = wordB s := fun h => by
    obtain ⟨fs, rfl, h1, h2, _⟩ := face_of h
    unfold mistB
    rw [inB_of (by rw [size_face]; omega)]
    simp
  unfold outFacingWithMistakes_0 outFacingWithMistakes_1 outFacingAfter_0 outFacingAfter_1 askB
  cases hf : faceB f with
  | false => exact ⟨rfl, rfl⟩
  | true =>
    rw [hm hf]
    cases hs : wordB s with
    | false => exact ⟨rfl, rfl⟩
    | true =>
      refine ⟨?_, rfl⟩
      obtain ⟨fs, rfl, h1, h2, h3⟩ := face_of hf
      obtain ⟨ts, rfl, h4, h5⟩ := word_of hs
      show facMTo (fsOf (face fs)) (tsOf (word ts)) [] (face fs).size = face ((fsOf (face fs)).map fun x => (x + net (tsOf (word ts))) % 4)
      rw [fsOf_face h3, tsOf_word h5, size_face]
      unfold facMTo
      congr 1
      apply List.ext_getElem
      · simp
      · intro i hi1 hi2
        have hi : i < fs.length := by simpa using hi1
        have hd : doneN ts [] i = net ts := by
          unfold doneN
          have := net_lt ts
          show (((net ts : Nat) : Int) % 4).toNat = net ts
          omega
        simp [hd, List.getD_eq_getElem?_getD, hi]
set_option maxRecDepth 20000 in
set_option maxHeartbeats 500000 in
theorem implFacingAfter_any (w : World) (f s : ByteArray) (_wf : f.size ≤ maxLen) (_ws : s.size ≤ maxLen) (hf : f.size ≤ 1048576) (hs : s.size ≤ 1048576) (hT : Tab_signOfTurn w) :
    Calls Tryd.prog 9 #[.string f, .string s] w fun e w' => e = .returned (.tuple #[.string (outFacingAfter_0 f s), .bool (outFacingAfter_1 f s)]) ∧ Below w.heap.size w w' := by
  have HM := Lib.hid (implFacingWithMistakes_any w f s none 0 0 [] _wf _ws hf hs (by omega) ⟨rfl, fun h => absurd h (by omega)⟩ ⟨by omega, by omega⟩ hT)
  rw [(after_none f s).1, (after_none f s).2] at HM
  clear _wf _ws hT
  go_enter Tryd.func9, Tryd.ntmps9
  go_wp2_with fail
  go_at_call 38
  refine HM.out.mono ?_
  rintro e w2 ⟨rfl, b2⟩
  have B2 := Lib.hid b2
  clear b2
  go_wp2
  go_ret2
  exact ⟨rfl, B2.out⟩

end Go.Proofs.YtjbomclildkjaaaDoor
