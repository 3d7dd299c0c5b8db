/- Chapter 4, the program: CorrectionsOf, WrongSoldiers. -/
import Derived.Test.YtjbomclildkjaaaDoorItr
import Derived.Test.YtjbomclildkjaaaDoorIp
import Derived.Test.YtjbomclildkjaaaDoorIj
namespace Go.Proofs.YtjbomclildkjaaaDoor
open Go.ChangeShapes Go.WideShapes Go.ChangeAt Go.RowKit
open Dr

theorem faceB_face {l : List Nat} (h1 : 1 ≤ l.length) (h2 : l.length ≤ 30) (h3 : ∀ t ∈ l, t < 4) : faceB (face l) = true := by
  unfold faceB
  rw [decide_eq_true ⟨by rw [size_face]; exact h1, by rw [size_face]; exact h2⟩, Bool.true_and, List.all_eq_true]
  intro b hb
  unfold face txt at hb
  simp only [List.mem_map] at hb
  obtain ⟨t, ht, rfl⟩ := hb
  have h4 := h3 t ht
  have h5 := dg_nat (show t < 10 by omega)
  exact decide_eq_true (by omega)
theorem cor_no {f s : ByteArray} {ps : List RMistake} (h : askB f s ps = false) : outCorrectionsOf_0 f s ps = ByteArray.empty ∧ outCorrectionsOf_1 f s ps = false := by
  unfold outCorrectionsOf_0 outCorrectionsOf_1
  rw [h]
  exact ⟨rfl, rfl⟩
theorem ask_yes {f s : ByteArray} {ps : List RMistake} (h : askB f s ps = true) : ∃ fs ts : List Nat, f = face fs ∧ s = word ts ∧ 1 ≤ fs.length ∧ fs.length ≤ 30 ∧ (∀ t ∈ fs, t < 4) ∧ ts.length ≤ 60 ∧ (∀ t ∈ ts, t < 4) ∧ faceB (face fs) = true ∧ wordB (word ts) = true := by
  unfold askB at h
  rw [Bool.and_eq_true] at h
  have hwb : wordB s = true := by
    have h2 := h.2
    unfold mistB at h2
    simp only [Bool.and_eq_true] at h2
    exact h2.2.1
  obtain ⟨fs, rfl, h1, h2, h3⟩ := face_of h.1
  obtain ⟨ts, rfl, h4, h5⟩ := word_of hwb
  exact ⟨fs, ts, rfl, rfl, h1, h2, h3, h4, h5, h.1, hwb⟩
theorem getD_rangeN (g : Nat → Nat) (n k : Nat) (h : k < n) : ((List.range n).map g).getD k 0 = g k := by simp [List.getD_eq_getElem?_getD, h]
theorem cor_yes {f s : ByteArray} {ps : List RMistake} (h : askB f s ps = true) :
    outCommandsBetween_0 (outFacingWithMistakes_0 f s ps) (outFacingAfter_0 f s) = outCorrectionsOf_0 f s ps ∧ outCommandsBetween_1 (outFacingWithMistakes_0 f s ps) (outFacingAfter_0 f s) = outCorrectionsOf_1 f s ps ∧ (outFacingWithMistakes_0 f s ps).size ≤ 30 ∧ (outFacingAfter_0 f s).size ≤ 30 := by
  obtain ⟨fs, ts, rfl, rfl, h1, h2, h3, h4, h5, h6, h7⟩ := ask_yes h
  have e1 : outFacingWithMistakes_0 (face fs) (word ts) ps = face ((List.range fs.length).map fun i => (fs.getD i 0 + doneN ts ps i) % 4) := by
    unfold outFacingWithMistakes_0
    rw [h, fsOf_face h3, tsOf_word h5, size_face]
    rfl
  have e2 : outFacingAfter_0 (face fs) (word ts) = face ((List.range fs.length).map fun i => (fs.getD i 0 + net ts) % 4) := by
    unfold outFacingAfter_0
    rw [h6, h7, fsOf_face h3, tsOf_word h5]
    show face _ = face _
    congr 1
    apply List.ext_getElem
    · simp
    · intro i hi1 hi2
      have hi : i < fs.length := by simpa using hi1
      simp [List.getD_eq_getElem?_getD, hi]
  have l1 : ∀ t ∈ ((List.range fs.length).map fun i => (fs.getD i 0 + doneN ts ps i) % 4), t < 4 := fun t ht => by
    simp only [List.mem_map] at ht
    obtain ⟨i, _, rfl⟩ := ht
    omega
  have l2 : ∀ t ∈ ((List.range fs.length).map fun i => (fs.getD i 0 + net ts) % 4), t < 4 := fun t ht => by
    simp only [List.mem_map] at ht
    obtain ⟨i, _, rfl⟩ := ht
    omega
  have b1 := faceB_face (l := (List.range fs.length).map fun i => (fs.getD i 0 + doneN ts ps i) % 4) (by simpa using h1) (by simpa using h2) l1
  have b2 := faceB_face (l := (List.range fs.length).map fun i => (fs.getD i 0 + net ts) % 4) (by simpa using h1) (by simpa using h2) l2
  rw [e1, e2]
  have hs1 : (face ((List.range fs.length).map fun i => (fs.getD i 0 + doneN ts ps i) % 4)).size = fs.length := by rw [size_face]; simp
  have hs2 : (face ((List.range fs.length).map fun i => (fs.getD i 0 + net ts) % 4)).size = fs.length := by rw [size_face]; simp
  refine ⟨?_, ?_, by rw [hs1]; exact h2, by rw [hs2]; exact h2⟩
  · unfold outCommandsBetween_0 outCorrectionsOf_0
    rw [b1, b2, h, hs1, hs2, fsOf_face l1, fsOf_face l2, tsOf_word h5, size_face]
    simp only [decide_true, if_true]
    unfold comTo corTo
    congr 1
    refine List.map_congr_left fun i hi => ?_
    have hi2 := List.mem_range.1 hi
    unfold comAt corN
    rw [getD_rangeN _ _ _ hi2, getD_rangeN _ _ _ hi2]
    have a1 := doneN_lt ts ps i
    have a2 := net_lt ts
    omega
  · unfold outCommandsBetween_1 betwB outCorrectionsOf_1
    rw [b1, b2, h, hs1, hs2]
    simp
set_option maxRecDepth 20000 in
set_option maxHeartbeats 500000 in
theorem implCorrectionsOf_any (w : World) (f s : ByteArray) (a : Option Addr) (len cap : Nat) (ps : List RMistake) (_wf : f.size ≤ maxLen) (_ws : s.size ≤ maxLen) (hf : f.size ≤ 1048576) (hs : s.size ≤ 1048576) (hl : len ≤ 1048576) (hc : CameMistake w a len ps) (hcp : len ≤ cap ∧ cap ≤ 9223372036854775807) (hT : Tab_signOfTurn w) :
    Calls Tryd.prog 42 #[.string f, .string s, .slice a len cap] w fun e w' => e = .returned (.tuple #[.string (outCorrectionsOf_0 f s ps), .bool (outCorrectionsOf_1 f s ps)]) ∧ Below w.heap.size w w' := by
  have HM := Lib.hid (implFacingWithMistakes_any w f s a len cap ps _wf _ws hf hs hl hc hcp hT)
  rcases hb : askB f s ps with _ | _
  · have H0 := Lib.hid (cor_no hb)
    rw [(ask_no hb).1, (ask_no hb).2] at HM
    clear hb hc hT _wf _ws
    go_enter Tryd.func42, Tryd.ntmps42
    go_wp2_with fail
    go_at_call 38
    refine HM.out.mono ?_
    rintro e w2 ⟨rfl, b2⟩
    have B2 := Lib.hid b2
    clear b2
    go_wp2
    go_ret2
    exact ⟨by rw [H0.out.1, H0.out.2]; exact rfl, B2.out⟩
  · obtain ⟨hc1, hc2, hz1, hz2⟩ := cor_yes hb
    have HA := Lib.hid (fun w2 (h : Below w.heap.size w w2) => implFacingAfter_any w2 f s _wf _ws hf hs (hT.below h))
    have HCB := Lib.hid (fun w2 (h : Below w.heap.size w w2) => implCommandsBetween_any w2 (outFacingWithMistakes_0 f s ps) (outFacingAfter_0 f s) (by unfold maxLen; omega) (by unfold maxLen; omega) (by omega) (by omega) (hT.below h))
    rw [hc1, hc2] at HCB
    rw [show outFacingWithMistakes_1 f s ps = true from hb] at HM
    obtain ⟨d, hd⟩ : ∃ d, d = outFacingWithMistakes_0 f s ps := ⟨_, rfl⟩
    obtain ⟨m, hm⟩ : ∃ d, d = outFacingAfter_0 f s := ⟨_, rfl⟩
    rw [← hd] at HM HCB
    rw [← hm] at HA HCB
    clear hb hc hT _wf _ws hc1 hc2 hz1 hz2 hd hm
    go_enter Tryd.func42, Tryd.ntmps42
    go_wp2_with fail
    go_at_call 38
    refine HM.out.mono ?_
    rintro e w2 ⟨rfl, b2⟩
    have HA2 := Lib.hid (HA.out w2 b2)
    have B2 := Lib.hid b2
    clear b2
    go_wp2_with fail
    go_at_call 9
    refine HA2.out.mono ?_
    rintro e w3 ⟨rfl, b3⟩
    have B3 : Hid (Below w.heap.size w w3) := Lib.hid (B2.out.trans (b3.mono B2.out.size))
    have HC2 := Lib.hid (HCB.out w3 B3.out)
    clear b3
    go_wp2_with fail
    go_at_call 25
    refine HC2.out.mono ?_
    rintro e w4 ⟨rfl, b4⟩
    have B4 : Hid (Below w.heap.size w w4) := Lib.hid (B3.out.trans (b4.mono B3.out.size))
    clear b4
    go_wp2
    go_ret2
    exact ⟨rfl, B4.out⟩

def wroC (us : List Nat) (k : Nat) : List Int := asInts ((List.range k).filter fun i => decide (us.getD i 0 ≠ 0))
theorem wroC_yes {us : List Nat} {k : Nat} (h : us.getD k 0 ≠ 0) : wroC us (k + 1) = wroC us k ++ [(k : Int)] := by
  unfold wroC
  rw [List.range_succ, List.filter_append]
  simp only [List.filter_cons, decide_eq_true h, if_true, List.filter_nil]
  simp [asInts]
theorem wroC_no {us : List Nat} {k : Nat} (h : us.getD k 0 = 0) : wroC us (k + 1) = wroC us k := by
  unfold wroC
  rw [List.range_succ, List.filter_append]
  simp only [List.filter_cons, decide_eq_false (show ¬ us.getD k 0 ≠ 0 from fun e => e h), List.filter_nil]
  simp
theorem length_wroC (us : List Nat) (k : Nat) : (wroC us k).length ≤ k := by
  unfold wroC
  rw [asInts_len]
  refine Nat.le_trans (List.length_filter_le _ _) ?_
  rw [List.length_range]
  exact Nat.le_refl _
theorem wrong_of {f s : ByteArray} {ps : List RMistake} : ∃ us : List Nat, outCorrectionsOf_0 f s ps = word us ∧ us.length ≤ 30 ∧ (∀ t ∈ us, t < 4) ∧ outWrongSoldiers_0 f s ps = wroC us us.length := by
  cases h : askB f s ps with
  | false =>
    refine ⟨[], by rw [(cor_no h).1]; rfl, by simp, by simp, ?_⟩
    unfold outWrongSoldiers_0
    rw [h]
    rfl
  | true =>
    obtain ⟨fs, ts, rfl, rfl, h1, h2, h3, h4, h5, h6, h7⟩ := ask_yes h
    refine ⟨(List.range fs.length).map (corN ts ps), ?_, by simpa using h2, fun t ht => ?_, ?_⟩
    · unfold outCorrectionsOf_0
      rw [h, tsOf_word h5, size_face]
      rfl
    · simp only [List.mem_map] at ht
      obtain ⟨i, _, rfl⟩ := ht
      unfold corN
      omega
    · unfold outWrongSoldiers_0 wroTo wroC
      rw [h, tsOf_word h5, size_face]
      simp only [if_true, List.length_map, List.length_range]
      congr 1
      refine List.filter_congr fun i hi => ?_
      rw [getD_rangeN _ _ _ (List.mem_range.1 hi)]
      have a1 := doneN_lt ts ps i
      have a2 := net_lt ts
      unfold corN
      congr 1
      apply propext
      constructor <;> intro hh <;> omega
set_option maxRecDepth 20000 in
set_option maxHeartbeats 800000 in
theorem implWrongSoldiers_any (w : World) (f s : ByteArray) (a : Option Addr) (len cap : Nat) (ps : List RMistake) (_wf : f.size ≤ maxLen) (_ws : s.size ≤ maxLen) (hf : f.size ≤ 1048576) (hs : s.size ≤ 1048576) (hl : len ≤ 1048576) (hc : CameMistake w a len ps) (hcp : len ≤ cap ∧ cap ≤ 9223372036854775807) (hT : Tab_signOfTurn w) :
    Calls Tryd.prog 40 #[.string f, .string s, .slice a len cap] w fun e w' => ∃ v, e = .returned (.tuple #[v, .bool (outWrongSoldiers_1 f s ps)]) ∧ Own w' w.heap.size v (outWrongSoldiers_0 f s ps) ∧ Below w.heap.size w w' := by
  have HM := Lib.hid (implCorrectionsOf_any w f s a len cap ps _wf _ws hf hs hl hc hcp hT)
  rw [show outCorrectionsOf_1 f s ps = outWrongSoldiers_1 f s ps from rfl] at HM
  obtain ⟨us, hu1, hu2, hu3, hu4⟩ := wrong_of (f := f) (s := s) (ps := ps)
  rw [hu4]
  rw [hu1] at HM
  have HWB := Lib.hid (word_byte us hu3)
  have HWA := Lib.hid (word_ascii us)
  have hz : (word us).size ≤ 30 := by rw [size_word]; exact hu2
  have HG := Lib.hid (getD_lt hu3 (by omega))
  rw [← size_word us]
  obtain ⟨ok, hok⟩ : ∃ b, b = outWrongSoldiers_1 f s ps := ⟨_, rfl⟩
  rw [← hok] at HM ⊢
  obtain ⟨t, ht⟩ : ∃ t, t = word us := ⟨_, rfl⟩
  rw [← ht] at HM hz ⊢
  have HBS : Hid (∀ k, (hk : k < t.size) → turnI ((t[k]).toNat : Int) = ((us.getD k 0 : Nat) : Int)) := Lib.hid (by subst ht; exact HWB.out)
  have HAS : Hid (∀ k, (hk : k < t.size) → (t[k]).toNat < 128) := Lib.hid (by subst ht; exact HWA.out)
  have HT := Lib.hid (fun w2 (hb : Below w.heap.size w w2) => hT.below hb)
  clear hc hT _wf _ws hu1 hu2 hu3 hu4 hok ht HWB HWA
  go_enter Tryd.func40, Tryd.ntmps40
  go_wp2_with fail
  go_at_call 42
  refine HM.out.mono ?_
  rintro e w1 ⟨rfl, b1⟩
  have B1 := Lib.hid b1
  have hz1 := b1.size
  clear b1
  go_wp2
  go_loopw [10, 12] (fun v _ wr => ∃ k : Nat, k ≤ t.size ∧ Hid (Own wr w1.heap.size v (wroC us k)) ∧ Hid (wr.heap[w1.heap.size]? = some (.stringIter t k)) ∧ Hid (Below w1.heap.size w1 wr)) (fun _ _ wr => t.size - wr.iterPos w1.heap.size)
  case atStart => exact ⟨0, Nat.zero_le _, Lib.hid (own_nil _ _), Lib.hid (World.iter_heap w1 t 0), Lib.hid (below_iter w1 t 0)⟩
  case round =>
    obtain ⟨k, hk, HO, HI, HW⟩ := hrel
    have hsz := HW.out.size
    have hpos := iterPos_of HI.out
    by_cases hlt : k < t.size
    · have hnx : ∀ ty, (Instr.next (.pointer (some ⟨w1.heap.size, 0, none⟩)) true ty).run Tryd.prog wr = _ := fun ty => Lib.run_next_ascii_at wr w1.heap.size t k ty HI.out hlt (HAS.out k hlt)
      have HI2 := Lib.hid (Lib.iterAt_heap wr w1.heap.size t k (k + 1) HI.out)
      have HW2 := Lib.hid (Lib.below_iterAt HW.out (k := w1.heap.size) (Nat.le_refl _) t (k + 1))
      have HO2 := Lib.hid (HO.out.iterAtZ HI.out (k + 1))
      have hNI := Lib.hid (HO2.out.notIterZ HI2.out)
      obtain ⟨W, hWd⟩ : ∃ W, wr.iterAt w1.heap.size t (k + 1) = W := ⟨_, rfl⟩
      rw [hWd] at hnx HI2 HW2 HO2
      have hszW := HW2.out.size
      have hltI : w1.heap.size < W.heap.size := (Array.getElem?_eq_some_iff.1 HI2.out).1
      have HLT := Lib.hid hltI
      have HC := Lib.hid (turnOf_any (t[k].toNat : Int) W (HT.out W (B1.out.trans (HW2.out.mono hz1))))
      rw [HBS.out k hlt] at HC
      have hg := HG.out k
      have hll := length_wroC us k
      have hbl : w1.heap.size ≤ W.heap.size := by omega
      have hul : (wroC us k).length ≤ 1000000000 := by omega
      by_cases hx0 : us.getD k 0 = 0
      · have HS := Lib.hid (wroC_no hx0)
        rw [hx0] at HC
        clear hx0 hWd HO HI HW hll hltI hg
        go_wp2_with (go_at_call 64; refine HC.out.mono ?_; rintro e w' ⟨rfl, rfl⟩)
        go_roundw
        case rel => exact ⟨k + 1, by omega, Lib.hid (by rw [HS.out]; exact HO2.out), HI2, HW2⟩
        case measure =>
          rw [iterPos_of HI2.out, hpos]
          omega
      · have HS := Lib.hid (wroC_yes hx0)
        obtain ⟨x, hx⟩ : ∃ x, x = us.getD k 0 := ⟨_, rfl⟩
        rw [← hx] at HC hx0
        have bx : ((x : Int) == 0) = false := by rw [beq_eq_false_iff_ne]; omega
        clear hx hx0 hWd HO HI HW hll hltI hg
        go_wp2_with (first
          | (go_at_call 64; refine HC.out.mono ?_; rintro e w' ⟨rfl, rfl⟩)
          | (at_builtin; refine wpList_appW rfl _ _ rfl _ _ _ _ _ rfl rfl HO2.out hbl hul ?_; intro v' w5 hO hB5 hG5))
        have HI5 := Lib.hid ((hG5.block w1.heap.size (by simp; omega) hNI.out).trans ((Below.heap_alloc _ _ _ HLT.out).trans HI2.out))
        have HB5 : Hid (Below w1.heap.size w1 w5) := Lib.hid (HW2.out.trans hB5)
        have HO5 := Lib.hid hO
        clear hO hB5 hG5
        go_roundw
        case rel => exact ⟨k + 1, by omega, Lib.hid (by rw [HS.out]; exact HO5.out), HI5, HB5⟩
        case measure =>
          rw [iterPos_of HI5.out, hpos]
          omega
    · obtain rfl : k = t.size := by omega
      have hnx : ∀ ty, (Instr.next (.pointer (some ⟨w1.heap.size, 0, none⟩)) true ty).run Tryd.prog wr = _ := fun ty => Lib.run_next_end_at wr w1.heap.size t t.size ty HI.out hlt
      clear hpos
      go_wp2
      go_ret2
      exact ⟨_, rfl, HO.out.mono hz1, B1.out.trans (HW.out.mono hz1)⟩

end Go.Proofs.YtjbomclildkjaaaDoor
