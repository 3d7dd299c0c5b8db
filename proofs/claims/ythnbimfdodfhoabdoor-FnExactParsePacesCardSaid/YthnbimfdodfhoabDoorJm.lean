/- Chapter 5, the program: ParsePaces. -/
import Derived.Test.YthnbimfdodfhoabDoorJk
import Derived.Test.YthnbimfdodfhoabDoorPn
import Derived.Test.YthnbimfdodfhoabDoorTx
import Derived.Test.YthnbimfdodfhoabDoorAgg
import Derived.Lib.Split
import Derived.Lib.SplitLaws
namespace Go.Proofs.YthnbimfdodfhoabDoor
open Go.ChangeShapes Go.WideShapes Go.ChangeAt Go.RowKit
open Dr Pa Rd

namespace Pm
/-- what Atoi returns beside its error -/
def atoiV (l : List UInt8) : Int := match Lib.atoiAll l with | .ok v => v | .syntax => 0 | .range => Lib.atoiSat l
def paceG (t : ByteArray) : RPace := (atoiV (Lib.cut t.data.toList [43]).1, atoiV (Lib.cut t.data.toList [43]).2.1)
def partsG (s : ByteArray) : List ByteArray := Lib.splitB ⟨#[44]⟩ 0 (min 7 (s.size + 1) - 1) s
def goTo (s : ByteArray) (k : Nat) : List RPace := (List.range k).map fun i => paceG ((partsG s).getD i ByteArray.empty)
def goL (s : ByteArray) : List RPace := goTo s (partsG s).length
theorem goTo_succ (s : ByteArray) (k : Nat) : goTo s (k + 1) = goTo s k ++ [paceG ((partsG s).getD k ByteArray.empty)] := by unfold goTo; rw [List.range_succ, List.map_append]; rfl
theorem length_goTo (s : ByteArray) (k : Nat) : (goTo s k).length = k := by unfold goTo; rw [List.length_map, List.length_range]
theorem parts_len (s : ByteArray) : (partsG s).length ≤ 7 := by
  have := Lib.splitB_length_le ⟨#[44]⟩ 0 (min 7 (s.size + 1) - 1) s
  unfold partsG; omega
theorem range_map {α β : Type} (l : List α) (d : α) (f : α → β) : ((List.range l.length).map fun i => f (l.getD i d)) = l.map f := by
  refine List.ext_getElem (by rw [List.length_map, List.length_range, List.length_map]) (fun i h1 h2 => ?_)
  rw [List.getElem_map, List.getElem_range, List.getElem_map, List.getD_eq_getElem?_getD, List.getElem?_eq_getElem (by rw [List.length_map] at h2; exact h2)]; rfl
theorem goL_map (s : ByteArray) : goL s = (partsG s).map paceG := range_map _ _ _
theorem readL_map (s : ByteArray) : readL s = (partsL s).map paceP := range_map _ _ _
theorem all_range {α : Type} (l : List α) (d : α) (p : α → Bool) : (List.range l.length).all (fun i => p (l.getD i d)) = l.all p := by
  have h := range_map l d p
  have h2 := congrArg (List.all · id) h
  simpa [List.all_map] using h2
/-- a text is the one of its bytes -/
theorem bytes_ext {a b : ByteArray} (h : a.data.toList = b.data.toList) : a = b := ByteArray.ext (Array.ext' h)
theorem map_data_inj {xs ys : List ByteArray} (h : xs.map (·.data.toList) = ys.map (·.data.toList)) : xs = ys :=
  List.map_inj_right (f := fun b : ByteArray => b.data.toList) (fun _ _ e => bytes_ext e) |>.1 h
theorem one_data (x y : Nat) : (oneT x y).data.toList = numL x ++ 43 :: numL y := by
  unfold oneT; rw [data_append, data_append]; simp [txt]
theorem one_no {x y : Nat} : (44 : UInt8) ∉ (oneT x y).data.toList := by
  rw [one_data, List.mem_append, List.mem_cons]
  rintro (h | h | h)
  · exact Tx.dg_mem (by decide) _ h
  · exact absurd h (by decide)
  · exact Tx.dg_mem (by decide) _ h
theorem seg_get (qs : List (Nat × Nat)) (n i : Nat) (h : i < (Pa.segTo qs n).length) : (Pa.segTo qs n)[i] = oneT (qs.getD i (1, 0)).1 (qs.getD i (1, 0)).2 := by
  have hi : i < n := by rw [← length_segTo qs n]; exact h
  refine (List.getElem_eq_iff h).2 ?_
  unfold Pa.segTo
  rw [List.getElem?_map, List.getElem?_range hi]; rfl
theorem asP_get (qs : List (Nat × Nat)) (i : Nat) (h : i < (asP qs).length) : (asP qs)[i] = (((qs.getD i (1, 0)).1 : Int), ((qs.getD i (1, 0)).2 : Int)) := by
  have hi : i < qs.length := by rw [← length_asP qs]; exact h
  refine (List.getElem_eq_iff h).2 ?_
  unfold asP
  rw [List.getElem?_map, List.getElem?_eq_getElem hi, List.getD_eq_getElem?_getD, List.getElem?_eq_getElem hi]; rfl
theorem part_mem {qs : List (Nat × Nat)} {k : Nat} {t : ByteArray} (h : t ∈ Pa.segTo qs k) : ∃ x y, t = oneT x y := by
  unfold Pa.segTo at h
  obtain ⟨i, _, rfl⟩ := List.mem_map.1 h
  exact ⟨_, _, rfl⟩
theorem text_data {qs : List (Nat × Nat)} (h : 1 ≤ qs.length) : (textN qs).data.toList = Lib.join ((Pa.segTo qs qs.length).map (·.data.toList)) [44] := by
  obtain ⟨k, hk⟩ : ∃ k, qs.length = k + 1 := ⟨qs.length - 1, by omega⟩
  unfold textN; rw [hk]; exact text_join qs k
theorem parts_ne {qs : List (Nat × Nat)} (h : 1 ≤ qs.length) : (Pa.segTo qs qs.length).map (·.data.toList) ≠ [] := fun e => by
  have := congrArg List.length e
  rw [List.length_map, length_segTo] at this
  have e0 : ([] : List (List UInt8)).length = 0 := rfl
  omega
theorem parts_no {qs : List (Nat × Nat)} : ∀ y ∈ (Pa.segTo qs qs.length).map (·.data.toList), (44 : UInt8) ∉ y := by
  intro y hy
  obtain ⟨t, ht, rfl⟩ := List.mem_map.1 hy
  obtain ⟨x, z, rfl⟩ := part_mem ht
  exact one_no
/-- the model's pieces of a text of paces -/
theorem partsL_text {qs : List (Nat × Nat)} (h : 1 ≤ qs.length) : partsL (textN qs) = Pa.segTo qs qs.length := by
  refine map_data_inj ?_
  unfold partsL
  rw [Tx.cutL_eq _ 44 (by decide), text_data h]
  exact Tx.pieces_join (parts_ne h) parts_no
theorem size_text_ge {qs : List (Nat × Nat)} : ∀ k, k ≤ (textTo qs k).size
  | 0 => Nat.zero_le _
  | k + 1 => by
    have ih := size_text_ge (qs := qs) k
    have h1 : 1 ≤ (oneT (qs.getD k (1, 0)).1 (qs.getD k (1, 0)).2).size := by
      unfold oneT; rw [ByteArray.size_append, ByteArray.size_append, size_txt, size_txt, size_txt]; simp only [List.length_cons, List.length_nil]; omega
    rw [textTo, ByteArray.size_append]
    split
    · rw [ByteArray.size_append]; omega
    · omega
theorem partsG_text {qs : List (Nat × Nat)} (h : 1 ≤ qs.length) (h6 : qs.length ≤ 6) : partsG (textN qs) = Pa.segTo qs qs.length := by
  refine map_data_inj ?_
  have hs : qs.length ≤ (textN qs).size := size_text_ge qs.length
  unfold partsG
  rw [Lib.splitB_data, text_data h]
  exact Tx.split_join (parts_ne h) (by rw [List.length_map, length_segTo]; omega) parts_no
theorem cut_one (x y : Nat) : cutL (oneT x y) 43 = [txt (numL x), txt (numL y)] := by
  refine map_data_inj ?_
  rw [Tx.cutL_eq _ 43 (by decide), one_data]
  have e : numL x ++ 43 :: numL y = Lib.join [numL x, numL y] [43] := by rw [Lib.join_cons]; simp [Lib.joinTail]
  rw [e]
  exact Tx.pieces_join (by simp) (fun z hz => by
    simp only [List.mem_cons, List.not_mem_nil, or_false] at hz
    rcases hz with rfl | rfl <;> exact Tx.dg_mem (by decide) _)
theorem paceP_one {x y : Nat} (hx : x < 1000000) (hy : y < 1000000) : okP (oneT x y) = true ∧ paceP (oneT x y) = ((x : Int), (y : Int)) := by
  unfold okP paceP
  rw [cut_one]
  exact ⟨rfl, Prod.ext (Tx.readZ_num hx) (Tx.readZ_num hy)⟩
theorem paceG_one {x y : Nat} (hx : x < 1000000) (hy : y < 1000000) : paceG (oneT x y) = ((x : Int), (y : Int)) := by
  unfold paceG
  rw [one_data, Tx.cut_at (Tx.dg_mem (by decide) x)]
  unfold atoiV
  rw [Tx.atoi_num (n := x) (by omega), Tx.atoi_num (n := y) (by omega)]
theorem map_parts {qs : List (Nat × Nat)} (h : GoodQ qs) (f : ByteArray → RPace) (hf : ∀ x y, x < 1000000 → y < 1000000 → f (oneT x y) = ((x : Int), (y : Int))) : (Pa.segTo qs qs.length).map f = asP qs := by
  refine List.ext_getElem (by rw [List.length_map, length_segTo, length_asP]) (fun i h1 h2 => ?_)
  have hi : i < qs.length := by rw [length_asP] at h2; exact h2
  have hp := h.each i hi
  rw [List.getElem_map, seg_get, hf _ _ (by omega) (by omega), asP_get]
/-- a text of paces is one -/
theorem text_is {qs : List (Nat × Nat)} (h : GoodQ qs) (hg : goodP (asP qs) = true) : textB (textN qs) = true ∧ readL (textN qs) = asP qs ∧ goL (textN qs) = asP qs := by
  have hr : readL (textN qs) = asP qs := by rw [readL_map, partsL_text h.pos]; exact map_parts h _ (fun x y hx hy => (paceP_one hx hy).2)
  refine ⟨?_, hr, by rw [goL_map, partsG_text h.pos h.few]; exact map_parts h _ (fun x y hx hy => paceG_one hx hy)⟩
  unfold textB
  rw [Bool.and_eq_true, Bool.and_eq_true, hr]
  have hs := size_textTo h qs.length
  have h6 := h.few
  refine ⟨decide_eq_true (by show (textTo qs qs.length).size ≤ 40; omega), ?_, hg⟩
  rw [all_range, partsL_text h.pos, List.all_eq_true]
  intro t ht
  unfold Pa.segTo at ht
  obtain ⟨i, hi, rfl⟩ := List.mem_map.1 ht
  have hp := h.each i (List.mem_range.1 hi)
  exact (paceP_one (by omega) (by omega)).1
/-- what is taken for a text of paces is the text of what is read -/
theorem is_text {s : ByteArray} (h : textB s = true) : ∃ qs, GoodQ qs ∧ readL s = asP qs ∧ goodP (asP qs) = true ∧ s = textN qs := by
  unfold textB at h
  rw [Bool.and_eq_true, Bool.and_eq_true] at h
  obtain ⟨_, h2, h3⟩ := h
  obtain ⟨qs, hq, hg⟩ := good_nat h3
  refine ⟨qs, hg, hq, by rw [← hq]; exact h3, ?_⟩
  have hl : (partsL s).length = qs.length := by
    have := congrArg List.length hq
    rw [readL_map, List.length_map, length_asP] at this; exact this
  rw [all_range, List.all_eq_true] at h2
  have hp : partsL s = Pa.segTo qs qs.length := by
    refine List.ext_getElem (by rw [hl, length_segTo]) (fun i h1 h4 => ?_)
    have hi : i < qs.length := by rw [← hl]; exact h1
    have hok := h2 _ (List.getElem_mem h1)
    have hpp : paceP (partsL s)[i] = (((qs.getD i (1, 0)).1 : Int), ((qs.getD i (1, 0)).2 : Int)) := by
      have h5 := congrArg (fun l : List RPace => l[i]?) hq
      simp only [readL_map, List.getElem?_map, List.getElem?_eq_getElem h1, Option.map_some, asP, List.getElem?_eq_getElem hi] at h5
      rw [List.getD_eq_getElem?_getD, List.getElem?_eq_getElem hi]
      exact Option.some.inj h5
    unfold okP at hok
    have hok := of_decide_eq_true hok
    obtain ⟨a, b, hab⟩ : ∃ a b, cutL (partsL s)[i] 43 = [a, b] := by
      match hc : cutL (partsL s)[i] 43, hok with
      | [a, b], _ => exact ⟨a, b, rfl⟩
    unfold paceP at hpp
    rw [hab] at hpp
    have ha : a = txt (numL (qs.getD i (1, 0)).1) := Tx.num_of_readZ (congrArg Prod.fst hpp)
    have hb : b = txt (numL (qs.getD i (1, 0)).2) := Tx.num_of_readZ (congrArg Prod.snd hpp)
    have hj := Tx.join_pieces 43 (partsL s)[i].data.toList
    have hce := Tx.cutL_eq (partsL s)[i] 43 (by decide)
    rw [hab] at hce
    have hce2 : Tx.pieces 43 (partsL s)[i].data.toList = [a.data.toList, b.data.toList] := hce.symm
    rw [hce2, Lib.join_cons] at hj
    rw [seg_get]
    refine bytes_ext ?_
    rw [one_data, ← hj, ha, hb]
    simp [Lib.joinTail, txt]
  refine bytes_ext ?_
  rw [text_data hg.pos, ← hp]
  have hce := Tx.cutL_eq s 44 (by decide)
  unfold partsL
  rw [hce]
  exact (Tx.join_pieces 44 s.data.toList).symm
theorem prog_ok (s : ByteArray) : (goodP (goL s) && decide (textN (toQ (goL s)) = s)) = textB s ∧ (textB s = true → goL s = readL s) := by
  rcases ht : textB s with _ | _
  · refine ⟨?_, fun h => by cases h⟩
    rcases hg : goodP (goL s) with _ | _
    · rfl
    · rw [Bool.true_and]
      refine decide_eq_false fun e => ?_
      obtain ⟨qs, hq, hgq⟩ := good_nat hg
      rw [hq, toQ_asP] at e
      have := (text_is hgq (by rw [← hq]; exact hg)).1
      rw [e, ht] at this; cases this
  · obtain ⟨qs, hgq, hr, hg, hs⟩ := is_text ht
    have h3 := (text_is hgq hg).2.2
    rw [← hs] at h3
    rw [h3, hr, toQ_asP, ← hs]
    exact ⟨by rw [hg]; simp, fun _ => rfl⟩
end Pm

theorem strs_neP {q s : ByteArray} (h : ¬ q = s) : (q.toList == s.toList) = false := by
  rw [beq_eq_false_iff_ne]
  intro e
  apply h
  rw [ByteArray.toList_eq, ByteArray.toList_eq] at e
  exact ByteArray.ext (Array.ext' e)
theorem parts_size (s : ByteArray) : ∀ t ∈ Pm.partsG s, t.size ≤ s.size := by
  have h : ∀ (k : Nat) (u : ByteArray), ∀ t ∈ Lib.splitB ⟨#[44]⟩ 0 k u, t.size ≤ u.size := by
    intro k
    induction k with
    | zero => intro u t ht; rw [Lib.splitB, List.mem_singleton] at ht; rw [ht]; exact Nat.le_refl _
    | succ k ih =>
      intro u t ht
      rw [Lib.splitB] at ht
      split at ht
      · rw [List.mem_singleton] at ht; rw [ht]; exact Nat.le_refl _
      · rcases List.mem_cons.1 ht with ht | ht
        · rw [ht, ByteArray.size_extract]; omega
        · have := ih _ t ht
          rw [ByteArray.size_extract] at this; omega
  exact h _ s
theorem cut_sizes (l : List UInt8) : (Lib.cut l [43]).1.length ≤ l.length ∧ (Lib.cut l [43]).2.1.length ≤ l.length := by
  unfold Lib.cut
  split
  · exact ⟨by show (List.take _ l).length ≤ _; rw [List.length_take]; omega, by show (List.drop _ l).length ≤ _; rw [List.length_drop]; omega⟩
  · exact ⟨Nat.le_refl _, Nat.zero_le _⟩
set_option maxRecDepth 20000 in
set_option maxHeartbeats 4000000 in
theorem implParsePaces_of (w : World) (s : ByteArray) (hls : s.size ≤ 1048576) (Q : World → Prop) (hQ0 : Q w) (hQ : ∀ w1 w2 : World, w.heap.size ≤ w1.heap.size → Q w1 → Below w.heap.size w1 w2 → Q w2)
    (hSp : ∀ w, Q w → Calls Tryd.prog 30 #[.string s, .string ⟨#[44]⟩, .int .i64 7] w fun e w' => e = .returned (.slice (some ⟨w.heap.size, 0, none⟩) (Pm.partsG s).length (min 7 (s.size + 1))) ∧ w' = w.alloc (.cells (Lib.cellsOf (Pm.partsG s) (min 7 (s.size + 1))) 9))
    (hCu : ∀ (t : ByteArray) (w : World), t.size ≤ 1048576 → Q w → Calls Tryd.prog 31 #[.string t, .string ⟨#[43]⟩] w fun e w' => e = .returned (.tuple #[.string ⟨(Lib.cut t.data.toList [43]).1.toArray⟩, .string ⟨(Lib.cut t.data.toList [43]).2.1.toArray⟩, .bool (Lib.cut t.data.toList [43]).2.2]) ∧ Below w.heap.size w w')
    (hAt : ∀ (t : ByteArray) (w : World), t.size ≤ 1048576 → Q w → Calls Tryd.prog 32 #[.string t] w fun e w' => ∃ ev, e = .returned (.tuple #[.int .i64 (Pm.atoiV t.data.toList), ev]) ∧ Below w.heap.size w w')
    (hPT : ∀ (w : World) (a : Option Addr) (len cap : Nat) (ps : List RPace), len ≤ 1048576 → CamePace w a len ps → Calls Tryd.prog 12 #[.slice a len cap] w fun e w' => e = .returned (.tuple #[.string (outPacesText_0 ps), .bool (outPacesText_1 ps)]) ∧ Below w.heap.size w w') :
    Calls Tryd.prog 15 #[.string s] w fun e w' => ∃ v0, e = .returned (.tuple #[v0, .bool (outParsePaces_1 s)]) ∧ OwnPace w' w.heap.size v0 (outParsePaces_0 s) ∧ Below w.heap.size w w' := by
  obtain ⟨n, hn⟩ : ∃ n, n = (Pm.partsG s).length := ⟨_, rfl⟩
  obtain ⟨cp, hcp⟩ : ∃ c, c = min 7 (s.size + 1) := ⟨_, rfl⟩
  have hn7 : n ≤ 7 := by rw [hn]; exact Pm.parts_len s
  have HSP := Lib.hid (hSp w hQ0)
  rw [← hn, ← hcp] at HSP
  obtain ⟨w1, hw1⟩ : ∃ w1, w1 = w.alloc (.cells (Lib.cellsOf (Pm.partsG s) cp) 9) := ⟨_, rfl⟩
  rw [← hw1] at HSP
  have HB1 : Hid (Below w.heap.size w w1) := Lib.hid (by rw [hw1]; exact (Below.refl _ _).alloc (Nat.le_refl _) _)
  have hps := parts_size s
  have HCELL : Hid (∀ w2, Below w1.heap.size w1 w2 → ∀ k, k < n → w2.cell? ⟨w.heap.size, k, none⟩ = some (.string ((Pm.partsG s).getD k ByteArray.empty)) ∧ ((Pm.partsG s).getD k ByteArray.empty).size ≤ 1048576) := Lib.hid (fun w2 h k hk => by
    have hc : w1.cell? ⟨w.heap.size, k, none⟩ = some (.string ((Pm.partsG s).getD k ByteArray.empty)) := by
      rw [hw1, World.cell?_alloc_new]
      unfold Lib.cellsOf
      rw [List.getElem?_toArray, List.getElem?_append_left (by rw [List.length_map, ← hn]; exact hk), List.getElem?_map, List.getD_eq_getElem?_getD, List.getElem?_eq_getElem (by rw [← hn]; exact hk)]; rfl
    refine ⟨(h.cell (World.block_lt_of_cell? _ _ hc)).trans hc, ?_⟩
    rw [List.getD_eq_getElem?_getD, List.getElem?_eq_getElem (by rw [← hn]; exact hk)]
    exact Nat.le_trans (hps _ (List.getElem_mem _)) hls)
  have HQ1 : Hid (∀ w2, Below w1.heap.size w1 w2 → Q w2) := Lib.hid (fun w2 h => hQ w w2 (Nat.le_refl _) hQ0 (HB1.out.trans (h.mono HB1.out.size)))
  have HCU := Lib.hid hCu
  have HAT := Lib.hid hAt
  have HPT := Lib.hid hPT
  have HN : Hid (Pm.goTo s n = Pm.goL s) := Lib.hid (by rw [hn]; rfl)
  have HSU := Lib.hid (fun k => Pm.goTo_succ s k)
  have HLE := Lib.hid (fun k => Pm.length_goTo s k)
  have HOK := Lib.hid (Pm.prog_ok s)
  clear hps hn hcp hw1 hQ0 hQ hSp hCu hAt hPT
  go_enter Tryd.func15, Tryd.ntmps15
  go_wp2_with fail
  go_at_call 30
  refine HSP.out.mono ?_
  rintro e w' ⟨rfl, rfl⟩
  have HBW : Hid (Below w'.heap.size w' w') := Lib.hid (Below.refl _ _)
  go_wp2
  go_loopw [4, 16] (fun v i wr => ∃ k : Nat, k ≤ n ∧ i = .int .i64 (k : Int) ∧ Hid (OwnPace wr w'.heap.size v (Pm.goTo s k)) ∧ Hid (Below w'.heap.size w' wr)) (fun _ i _ => n - (intOf i).toNat)
  case atStart => exact ⟨0, Nat.zero_le _, rfl, Lib.hid (ownPace_nil _ _), HBW⟩
  case round =>
    obtain ⟨k, hk, rfl, HO, HB⟩ := hrel
    by_cases hlt : k < n
    · obtain ⟨e1, hts⟩ := HCELL.out wr HB.out k hlt
      have HS := Lib.hid (HSU.out k)
      obtain ⟨t, ht⟩ : ∃ t, t = (Pm.partsG s).getD k ByteArray.empty := ⟨_, rfl⟩
      rw [← ht] at e1 hts HS
      have hcs := cut_sizes t.data.toList
      have hct := HCU.out t wr hts (HQ1.out wr HB.out)
      have HPG : Hid (Pm.paceG t = (Pm.atoiV (Lib.cut t.data.toList [43]).1, Pm.atoiV (Lib.cut t.data.toList [43]).2.1)) := Lib.hid rfl
      obtain ⟨A, hA⟩ : ∃ A : ByteArray, A = ⟨(Lib.cut t.data.toList [43]).1.toArray⟩ := ⟨_, rfl⟩
      obtain ⟨B, hB⟩ : ∃ A : ByteArray, A = ⟨(Lib.cut t.data.toList [43]).2.1.toArray⟩ := ⟨_, rfl⟩
      have htl : t.data.toList.length = t.size := Array.length_toList
      have hAl : A.data.toList = (Lib.cut t.data.toList [43]).1 := by rw [hA]
      have hBl : B.data.toList = (Lib.cut t.data.toList [43]).2.1 := by rw [hB]
      have hAs : A.size ≤ 1048576 := by have : A.size = A.data.toList.length := Array.length_toList.symm; rw [hAl] at this; omega
      have hBs : B.size ≤ 1048576 := by have : B.size = B.data.toList.length := Array.length_toList.symm; rw [hBl] at this; omega
      have HAA := Lib.hid (fun w2 h => HAT.out A w2 hAs (HQ1.out w2 h))
      have HAB := Lib.hid (fun w2 h => HAT.out B w2 hBs (HQ1.out w2 h))
      rw [hAl] at HAA
      rw [hBl] at HAB
      rw [← hA, ← hB] at hct
      obtain ⟨bb, hbb⟩ : ∃ b, b = (Lib.cut t.data.toList [43]).2.2 := ⟨_, rfl⟩
      rw [← hbb] at hct
      obtain ⟨x, hx⟩ : ∃ x, x = Pm.atoiV (Lib.cut t.data.toList [43]).1 := ⟨_, rfl⟩
      obtain ⟨y, hy⟩ : ∃ x, x = Pm.atoiV (Lib.cut t.data.toList [43]).2.1 := ⟨_, rfl⟩
      rw [← hx] at HAA HPG
      rw [← hy] at HAB HPG
      rw [HPG.out] at HS
      have HCT := Lib.hid hct
      have i1 : (0 : Int) ≤ (k : Int) := by omega
      have i2 : (k : Int) < (n : Int) := by omega
      have hbl := HLE.out k
      clear hcs hct hA hB htl hAl hBl hbb hx hy ht HPG
      go_wp2_with fail
      go_at_call 31
      refine HCT.out.mono ?_
      rintro e wc ⟨rfl, bc⟩
      have HBC : Hid (Below w'.heap.size w' wc) := Lib.hid (HB.out.trans (bc.mono HB.out.size))
      have HOC : Hid (OwnPace wc w'.heap.size _ (Pm.goTo s k)) := Lib.hid (HO.out.below bc (Nat.le_refl _))
      have HK0 : Hid (Blk (wc.alloc (.cells #[.int .i64 0, .int .i64 0] 23)) wc.heap.size 23 [.int .i64 0, .int .i64 0]) := Lib.hid (heap_alloc_new wc _)
      have HBD : Hid (Below w'.heap.size w' (wc.alloc (.cells #[.int .i64 0, .int .i64 0] 23))) := Lib.hid (HBC.out.alloc HBC.out.size _)
      have HOD : Hid (OwnPace (wc.alloc (.cells #[.int .i64 0, .int .i64 0] 23)) w'.heap.size _ (Pm.goTo s k)) := Lib.hid (ownPace_alloc HOC.out _)
      have HA1 := Lib.hid (HAA.out _ HBD.out)
      have HNV : Hid (∀ u, OwnPace wc w'.heap.size u (Pm.goTo s k) → u.ownBlock ≠ some wc.heap.size) := Lib.hid (fun u h e => by have := (World.ownsRow.lt h wc.heap.size e).2; omega)
      have HNV2 := Lib.hid (HNV.out _ HOC.out)
      clear bc HO e1 HNV
      go_wp2_with fail
      go_at_call 32
      refine HA1.out.mono ?_
      rintro e wa ⟨ev1, rfl, ba⟩
      have ya := ba.size
      have ha1 : wc.heap.size < (wc.alloc (.cells #[.int .i64 0, .int .i64 0] 23)).heap.size := by rw [alloc_size1]; exact Nat.lt_succ_self _
      have HKA : Hid (Blk wa wc.heap.size 23 [.int .i64 0, .int .i64 0]) := Lib.hid (HK0.out.below ba ha1)
      have HBA : Hid (Below w'.heap.size w' wa) := Lib.hid (HBD.out.trans (ba.mono HBD.out.size))
      have HOA : Hid (OwnPace wa w'.heap.size _ (Pm.goTo s k)) := Lib.hid (HOD.out.below ba (Nat.le_refl _))
      obtain ⟨g, hg⟩ : ∃ g, g = wc.heap.size := ⟨_, rfl⟩
      have hgw : w'.heap.size ≤ g := by rw [hg]; exact HBC.out.size
      rw [← hg] at HKA HNV2 ⊢
      have c0 : wa.cell? ⟨g, 0, none⟩ = some (.int .i64 0) := HKA.out.cell 0
      have f0 := HKA.out.free 0
      have HK2 : Hid (Blk (wa.setCell ⟨g, 0, none⟩ (.int .i64 x)) g 23 [.int .i64 x, .int .i64 0]) := Lib.hid (HKA.out.set 0 (.int .i64 x))
      have HB2 : Hid (Below w'.heap.size w' (wa.setCell ⟨g, 0, none⟩ (.int .i64 x))) := Lib.hid (HBA.out.setCell (p := ⟨g, 0, none⟩) hgw _)
      have HO2 : Hid (OwnPace (wa.setCell ⟨g, 0, none⟩ (.int .i64 x)) w'.heap.size _ (Pm.goTo s k)) := Lib.hid (rec_same HOA.out fun j hj => Below.heap_setCell _ _ _ _ (fun e => HNV2.out (by rw [hj, e])))
      have HA2 := Lib.hid (HAB.out _ HB2.out)
      have HGW := Lib.hid hgw
      clear ba ha1 ya hg hgw HK0 HBD HOD HBC HOC
      go_wp2_with fail
      go_at_call 32
      refine HA2.out.mono ?_
      rintro e wb ⟨ev2, rfl, bb2⟩
      have HKB : Hid (Blk wb g 23 [.int .i64 x, .int .i64 0]) := Lib.hid (HK2.out.below bb2 HK2.out.lt)
      have HBB : Hid (Below w'.heap.size w' wb) := Lib.hid (HB2.out.trans (bb2.mono HB2.out.size))
      have HOB : Hid (OwnPace wb w'.heap.size _ (Pm.goTo s k)) := Lib.hid (HO2.out.below bb2 (Nat.le_refl _))
      have HK3 : Hid (Blk (wb.setCell ⟨g, 1, none⟩ (.int .i64 y)) g 23 [.int .i64 x, .int .i64 y]) := Lib.hid (HKB.out.set 1 (.int .i64 y))
      have HB3 : Hid (Below w'.heap.size w' (wb.setCell ⟨g, 1, none⟩ (.int .i64 y))) := Lib.hid (HBB.out.setCell (p := ⟨g, 1, none⟩) HGW.out _)
      have HO3 : Hid (OwnPace (wb.setCell ⟨g, 1, none⟩ (.int .i64 y)) w'.heap.size _ (Pm.goTo s k)) := Lib.hid (rec_same HOB.out fun j hj => Below.heap_setCell _ _ _ _ (fun e => HNV2.out (by rw [hj, e])))
      have d1 : wb.cell? ⟨g, 1, none⟩ = some (.int .i64 0) := HKB.out.cell 1
      have d2 := HKB.out.free 1
      have d0 : wb.cell? ⟨g, 0, none⟩ = some (.int .i64 x) := HKB.out.cell 0
      have hz := HB3.out.size
      have hz2 : w'.heap.size ≤ ((wb.setCell ⟨g, 1, none⟩ (.int .i64 y)).alloc (.cells #[.int .i64 x, .int .i64 y] 23)).heap.size := by rw [alloc_size1]; exact Nat.le_succ_of_le hz
      have hlen : (Pm.goTo s k).length + 1 ≤ 1000000000 := by omega
      have HBZ : Hid (Below w'.heap.size w' ((wb.setCell ⟨g, 1, none⟩ (.int .i64 y)).alloc (.cells #[.int .i64 x, .int .i64 y] 23))) := Lib.hid (HB3.out.alloc hz _)
      clear bb2
      go_wp2_with (at_builtin; refine wpList_appPace rfl _ _ rfl w'.heap.size _ _ [(x, y)] _ _ _ rfl rfl (ownPace_alloc HO3.out _) rfl (src_one (w := wb.setCell ⟨g, 1, none⟩ (.int .i64 y)) x y (by simp [World.setCell])) hz2 hlen ?_; intro v' w5 hO hB5 hG5; have HO5 : Hid (OwnPace w5 w'.heap.size v' (Pm.goTo s (k + 1))) := Lib.hid (by rw [HS.out]; exact hO); have HB5 : Hid (Below w'.heap.size w' w5) := Lib.hid (HBZ.out.trans hB5); clear hO hB5 hG5)
      go_roundw
      case rel => exact ⟨k + 1, by omega, by go_num, HO5, HB5⟩
      case measure => simp [intOf]; omega
    · obtain rfl : k = n := by omega
      rw [HN.out] at HO
      obtain ⟨ao, c, rfl, hcm, _⟩ := HO.out.cameC
      have hlg : (Pm.goL s).length = k := by rw [← HN.out]; exact HLE.out k
      rw [hlg] at hcm ⊢
      have HTX := Lib.hid (HPT.out wr ao k c (Pm.goL s) (by omega) hcm)
      have HOL : Hid (OwnPace wr w.heap.size (.slice ao k c) (Pm.goL s)) := Lib.hid (by have h := HO.out.mono HB1.out.size; rw [hlg] at h; exact h)
      have HOT : Hid (outPacesText_1 (Pm.goL s) = goodP (Pm.goL s) ∧ (goodP (Pm.goL s) = true → outPacesText_0 (Pm.goL s) = textN (toQ (Pm.goL s)))) := Lib.hid ⟨rfl, fun h => by unfold outPacesText_0; rw [h]; rfl⟩
      clear HO hcm hlg
      obtain ⟨t0, ht0⟩ : ∃ t, t = outPacesText_0 (Pm.goL s) := ⟨_, rfl⟩
      obtain ⟨g0, hg0⟩ : ∃ t, t = outPacesText_1 (Pm.goL s) := ⟨_, rfl⟩
      rw [← ht0, ← hg0] at HTX HOT
      have HTB : Hid (textB s = (g0 && decide (t0 = s))) := Lib.hid (by
        rw [← HOK.out.1, HOT.out.1]
        rcases hg : goodP (Pm.goL s) with _ | _
        · rfl
        · rw [HOT.out.2 hg])
      clear ht0 hg0
      cases g0 with
      | false =>
        have HF : Hid (outParsePaces_0 s = [] ∧ outParsePaces_1 s = false) := Lib.hid (by unfold outParsePaces_0 outParsePaces_1; rw [HTB.out]; exact ⟨rfl, rfl⟩)
        go_wp2_with fail
        go_at_call 12
        refine HTX.out.mono ?_
        rintro e w3 ⟨rfl, b3⟩
        have B3 : Hid (Below w'.heap.size w' w3) := Lib.hid (HB.out.trans (b3.mono HB.out.size))
        clear b3
        go_wp2
        go_ret2
        exact ⟨_, by rw [HF.out.2]; exact rfl, by rw [HF.out.1]; exact ownPace_nil _ _, HB1.out.trans (B3.out.mono HB1.out.size)⟩
      | true =>
        by_cases hts : t0 = s
        · have HT1 : Hid (textB s = true) := Lib.hid (by rw [HTB.out, decide_eq_true hts]; rfl)
          have HF : Hid (outParsePaces_0 s = Pm.goL s ∧ outParsePaces_1 s = true) := Lib.hid (by unfold outParsePaces_0 outParsePaces_1; rw [HT1.out]; exact ⟨(HOK.out.2 HT1.out).symm, rfl⟩)
          have hq : (t0.toList == s.toList) = true := by rw [hts]; simp
          clear hts
          go_wp2_with fail
          go_at_call 12
          refine HTX.out.mono ?_
          rintro e w3 ⟨rfl, b3⟩
          have B3 : Hid (Below w'.heap.size w' w3) := Lib.hid (HB.out.trans (b3.mono HB.out.size))
          have O3 : Hid (OwnPace w3 w.heap.size (.slice ao k c) (Pm.goL s)) := Lib.hid (HOL.out.below b3 (Nat.le_refl _))
          clear b3
          go_wp2
          go_ret2
          exact ⟨_, by rw [HF.out.2]; exact rfl, by rw [HF.out.1]; exact O3.out, HB1.out.trans (B3.out.mono HB1.out.size)⟩
        · have HF : Hid (outParsePaces_0 s = [] ∧ outParsePaces_1 s = false) := Lib.hid (by unfold outParsePaces_0 outParsePaces_1; rw [HTB.out, decide_eq_false hts]; exact ⟨rfl, rfl⟩)
          have hq0 := strs_neP hts
          clear hts
          go_wp2_with fail
          go_at_call 12
          refine HTX.out.mono ?_
          rintro e w3 ⟨rfl, b3⟩
          have B3 : Hid (Below w'.heap.size w' w3) := Lib.hid (HB.out.trans (b3.mono HB.out.size))
          clear b3
          go_wp2
          go_ret2
          exact ⟨_, by rw [HF.out.2]; exact rfl, by rw [HF.out.1]; exact ownPace_nil _ _, HB1.out.trans (B3.out.mono HB1.out.size)⟩

end Go.Proofs.YthnbimfdodfhoabDoor
