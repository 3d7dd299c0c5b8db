/- Chapter 9, the program: clueOfText, ParsePuzzle; what its road asks of the library's variables. Written by a program of mine (tools/mk/mk_zz.py). -/
import Derived.Test.YtodlpdbmiicdfabDoorZx
import Derived.Test.YtodlpdbmiicdfabDoorZw
import Derived.Test.YtodlpdbmiicdfabDoorShc
import Derived.Test.YtodlpdbmiicdfabDoorAgg
import Derived.Shelf.Vars
import Derived.LaidMore
import Derived.Deep.RegionLaw
import Derived.Test.YtodlpdbmiicdfabDoorPzs
namespace Go.Proofs.YtodlpdbmiicdfabDoor
open Go.ChangeShapes Go.WideShapes Go.ChangeAt Go.RowKit Go.Shelf
open Dr Pz Rd

/-- what the library's own variables hold that the road reads: some number, and two errors -/
def Tab_libParse (w : World) : Prop := (∃ m, w.cell? ⟨0, 0, none⟩ = some (.int .i64 m)) ∧ (∃ te pe, w.cell? ⟨1, 0, none⟩ = some (.iface te pe)) ∧ ∃ te pe, w.cell? ⟨2, 0, none⟩ = some (.iface te pe)
theorem keeps_cell {w w1 w2 : World} {p : Addr} {v u : Value} (h : w1.cell? p = some v) (h0 : w.cell? p = some u) (hb : Below w.heap.size w1 w2) : w2.cell? p = some v :=
  (hb.cell (World.block_lt_of_cell? w p h0)).trans h
theorem Tab_libParse.keeps {w w1 w2 : World} (h0 : Tab_libParse w) (h : Tab_libParse w1) (hb : Below w.heap.size w1 w2) : Tab_libParse w2 := by
  obtain ⟨⟨m, a⟩, ⟨t1, p1, b⟩, t2, p2, c⟩ := h
  obtain ⟨⟨m', a'⟩, ⟨t1', p1', b'⟩, t2', p2', c'⟩ := h0
  exact ⟨⟨m, keeps_cell a a' hb⟩, ⟨t1, p1, keeps_cell b b' hb⟩, t2, p2, keeps_cell c c' hb⟩
theorem Tab_libParse.below {w w' : World} (h : Tab_libParse w) (hb : Below w.heap.size w w') : Tab_libParse w' := h.keeps h hb

theorem results_oneD {fn : Func} {t : Tmp} {ty : TypeId} (h : fn.results = #[.cell t ty]) (tmps : Array Value) (w : World) (g : Nat) (x0 x1 x2 x3 : Int) (hty : ty = 44)
    (ht : tmps[t]?.getD undef = .pointer (some ⟨g, 0, none⟩)) (h0 : Blk w g 44 [.int .i64 x0, .int .i64 x1, .int .i64 x2, .int .i64 x3]) :
    (results fn tmps).run Tryd.prog w = .ok (.agg #[.int .i64 x0, .int .i64 x1, .int .i64 x2, .int .i64 x3]) w := by
  subst hty
  have c0 : w.cell? ⟨g, 0, none⟩ = some (.int .i64 x0) := h0.cell 0
  have c1 : w.cell? ⟨g, 1, none⟩ = some (.int .i64 x1) := h0.cell 1
  have c2 : w.cell? ⟨g, 2, none⟩ = some (.int .i64 x2) := h0.cell 2
  have c3 : w.cell? ⟨g, 3, none⟩ = some (.int .i64 x3) := h0.cell 3
  simp [results, h, ht, c0, c1, c2, c3, go_sem]
theorem split_sizes (c : UInt8) : ∀ (k : Nat) (u : ByteArray), ∀ t ∈ Lib.splitB ⟨#[c]⟩ 0 k u, t.size ≤ u.size := by
  intro k
  induction k with
  | zero => intro u t ht; rw [Lib.splitB, List.mem_singleton] at ht; rw [ht]; exact Nat.le_refl _
  | succ k ih =>
    intro u t ht
    rw [Lib.splitB] at ht
    split at ht
    · rw [List.mem_singleton] at ht; rw [ht]; exact Nat.le_refl _
    · rcases List.mem_cons.1 ht with ht | ht
      · rw [ht, ByteArray.size_extract]; omega
      · have := ih _ t ht
        rw [ByteArray.size_extract] at this; omega
theorem getD_sizes {L : List ByteArray} {b : Nat} (h : ∀ t ∈ L, t.size ≤ b) (k : Nat) : (L.getD k ByteArray.empty).size ≤ b := by
  by_cases hk : k < L.length
  · rw [List.getD_eq_getElem?_getD, List.getElem?_eq_getElem hk]; exact h _ (List.getElem_mem _)
  · rw [List.getD_eq_getElem?_getD, List.getElem?_eq_none (by omega)]; exact Nat.zero_le _
/-- the pieces that SplitN has laid -/
theorem laid_pieces (w : World) (L : List ByteArray) (cp : Nat) {k : Nat} (hk : k < L.length) : (w.alloc (.cells (Lib.cellsOf L cp) 9)).cell? ⟨w.heap.size, k, none⟩ = some (.string (L.getD k ByteArray.empty)) := by
  rw [World.cell?_alloc_new]
  unfold Lib.cellsOf
  rw [List.getElem?_toArray, List.getElem?_append_left (by rw [List.length_map]; exact hk), List.getElem?_map, List.getD_eq_getElem?_getD, List.getElem?_eq_getElem hk]; rfl
theorem atoiPz_any (t : ByteArray) (htz : t.size ≤ 1048576) (w : World) (h : Tab_libParse w) : Calls Tryd.prog 25 #[.string t] w fun e w' => ∃ ev, e = .returned (.tuple #[.int .i64 (atoiZ t.data.toList), ev]) ∧ Below w.heap.size w w' := by
  obtain ⟨_, ⟨te, pe, hc1⟩, te2, pe2, hc2⟩ := h
  unfold atoiZ
  cases ha : Lib.atoiAll t.data.toList with
  | ok v => exact (Tryd.strconv_Atoi_ok t (by omega) v ha w).mono fun e w' ⟨he, hw⟩ => ⟨_, he, by
      rcases hw with rfl | ⟨u, rfl⟩
      · exact Below.refl _ _
      · exact Lib.bytesWorld_below _ _ _⟩
  | range => exact (Tryd.strconv_Atoi_range t (by omega) ha _ w hc2 (.inr ⟨_, _, rfl⟩)).mono fun e w' ⟨N, he, _, _, hb⟩ => ⟨_, he, hb⟩
  | _ => exact (Tryd.strconv_Atoi_syntax t (by omega) ha _ w hc1 (.inr ⟨_, _, rfl⟩)).mono fun e w' ⟨N, he, _, _, hb⟩ => ⟨_, he, hb⟩
theorem cutPz_any (t : ByteArray) (b : UInt8) (htz : t.size ≤ 1048576) (w : World) (h : Tab_libParse w) : Calls Tryd.prog 24 #[.string t, .string ⟨#[b]⟩] w fun e w' => e = .returned (.tuple #[.string ⟨(Lib.cut t.data.toList [b]).1.toArray⟩, .string ⟨(Lib.cut t.data.toList [b]).2.1.toArray⟩, .bool (Lib.cut t.data.toList [b]).2.2]) ∧ Below w.heap.size w w' := by
  obtain ⟨⟨m, hm⟩, _⟩ := h
  exact (Tryd.strings_Cut t ⟨#[b]⟩ m w (by omega) hm).mono fun e w' ⟨he, n, hw⟩ => ⟨he, by rw [hw]; exact drewN_down w n⟩
theorem splitPz_any (t : ByteArray) (c : UInt8) (n : Nat) (hn : 1 ≤ n) (hn2 : n ≤ 100) (htz : t.size ≤ 1048576) (w : World) (h : Tab_libParse w) : Calls Tryd.prog 26 #[.string t, .string ⟨#[c]⟩, .int .i64 (n : Int)] w fun e w' =>
    e = .returned (.slice (some ⟨w.heap.size, 0, none⟩) (Lib.splitB ⟨#[c]⟩ 0 (min n (t.size + 1) - 1) t).length (min n (t.size + 1))) ∧ w' = w.alloc (.cells (Lib.cellsOf (Lib.splitB ⟨#[c]⟩ 0 (min n (t.size + 1) - 1) t) (min n (t.size + 1))) 9) := by
  obtain ⟨⟨m, hm⟩, _⟩ := h
  exact Tryd.strings_SplitN t ⟨#[c]⟩ n m w (by omega) hm (Nat.le_refl 1) hn (by omega)

/-- the array when the first k pieces are read -/
def arrV (t : ByteArray) (k : Nat) : List Value := [.int .i64 (numG t k 0), .int .i64 (numG t k 1), .int .i64 (numG t k 2), .int .i64 (numG t k 3)]
theorem arr_at (t : ByteArray) {k : Nat} (hk : k < 4) : (arrV t k)[k]? = some (.int .i64 0) := by
  unfold arrV numG
  rcases k with _ | _ | _ | _ | k
  · rfl
  · rfl
  · rfl
  · rfl
  · omega
theorem arr_set (t : ByteArray) {k : Nat} (hk : k < 4) : (arrV t k).set k (.int .i64 (atoiZ ((fieldsC t).getD k ByteArray.empty).data.toList)) = arrV t (k + 1) := by
  unfold arrV numG
  rcases k with _ | _ | _ | _ | k
  · rfl
  · rfl
  · rfl
  · rfl
  · omega
set_option maxHeartbeats 4000000 in
set_option maxRecDepth 20000 in
theorem clueOfText_any (t : ByteArray) (htz : t.size ≤ 1048576) (w : World) (ht : Tab_libParse w) :
    Calls Tryd.prog 27 #[.string t] w fun e w' => e = .returned (.agg #[.int .i64 (clueG t).1, .int .i64 (clueG t).2.1, .int .i64 (clueG t).2.2.1, .int .i64 (clueG t).2.2.2]) ∧ Below w.heap.size w w' := by
  have HT := Lib.hid ht
  obtain ⟨w1, hw1⟩ : ∃ w1, w1 = w.alloc (.cells #[.int .i64 0, .int .i64 0, .int .i64 0, .int .i64 0] 44) := ⟨_, rfl⟩
  have y1 : w1.heap.size = w.heap.size + 1 := by rw [hw1]; exact pz_size1 _ _
  obtain ⟨w2, hw2⟩ : ∃ w2, w2 = w1.alloc (.cells #[.int .i64 0, .int .i64 0, .int .i64 0, .int .i64 0] 74) := ⟨_, rfl⟩
  obtain ⟨A, hA⟩ : ∃ A, A = w1.heap.size := ⟨_, rfl⟩
  have y2 : w2.heap.size = A + 1 := by rw [hw2, pz_size1, hA]
  have y3 : A = w.heap.size + 1 := by rw [hA, y1]
  have HB1 : Hid (Below w.heap.size w w1) := Lib.hid (by rw [hw1]; exact (Below.refl _ _).alloc (Nat.le_refl _) _)
  have HB2 : Hid (Below w1.heap.size w1 w2) := Lib.hid (by rw [hw2]; exact (Below.refl _ _).alloc (Nat.le_refl _) _)
  have HBw2 : Hid (Below w.heap.size w w2) := Lib.hid (HB1.out.trans (HB2.out.mono HB1.out.size))
  have HR1 : Hid (Blk w2 w.heap.size 44 [.int .i64 0, .int .i64 0, .int .i64 0, .int .i64 0]) := Lib.hid (Blk.below (w := w1) (by rw [hw1]; exact heap_alloc_new w _) HB2.out (by omega))
  have HA1 : Hid (Blk w2 A 74 (arrV t 0)) := Lib.hid (by rw [hA, hw2]; exact heap_alloc_new w1 _)
  have HSP := Lib.hid (splitPz_any t 46 4 (by decide) (by decide) htz w2 (HT.out.below HBw2.out))
  obtain ⟨L, hL⟩ : ∃ L, L = Lib.splitB ⟨#[46]⟩ 0 (min 4 (t.size + 1) - 1) t := ⟨_, rfl⟩
  have HFL : Hid (L = fieldsC t) := Lib.hid hL
  have hn4 : L.length ≤ 4 := by rw [hL]; exact fields_len t
  have HSZ := Lib.hid (fun k => getD_sizes (L := L) (b := 1048576) (fun q hq => Nat.le_trans (split_sizes 46 _ t q (by rw [hL] at hq; exact hq)) htz) k)
  rw [← hL] at HSP
  obtain ⟨cp, hcp⟩ : ∃ c, c = min 4 (t.size + 1) := ⟨_, rfl⟩
  rw [← hcp] at HSP
  have HLP := Lib.hid (fun k hk => laid_pieces w2 L cp (k := k) hk)
  obtain ⟨w3, hw3⟩ : ∃ w3, w3 = w2.alloc (.cells (Lib.cellsOf L cp) 9) := ⟨_, rfl⟩
  rw [← hw3] at HSP HLP
  obtain ⟨g, hg⟩ : ∃ g, g = w2.heap.size := ⟨_, rfl⟩
  rw [← hg] at HSP HLP
  have HB3 : Hid (Below w2.heap.size w2 w3) := Lib.hid (by rw [hw3]; exact (Below.refl _ _).alloc (Nat.le_refl _) _)
  have HR3 : Hid (Blk w3 w.heap.size 44 [.int .i64 0, .int .i64 0, .int .i64 0, .int .i64 0]) := Lib.hid (HR1.out.below HB3.out HR1.out.lt)
  have HA3 : Hid (Blk w3 A 74 (arrV t 0)) := Lib.hid (HA1.out.below HB3.out HA1.out.lt)
  have HBw3 : Hid (Below w.heap.size w w3) := Lib.hid (HBw2.out.trans (HB3.out.mono HBw2.out.size))
  have hgA : A < g := by rw [hg, y2]; omega
  obtain ⟨n, hn⟩ : ∃ n, n = L.length := ⟨_, rfl⟩
  have HN : Hid (n = (fieldsC t).length) := Lib.hid (by rw [hn, HFL.out])
  have HCL : Hid (clueG t = clueK t n) := Lib.hid (by rw [HN.out]; rfl)
  rw [← hn] at HSP HLP hn4
  have HLD : Hid (∀ k, L.getD k ByteArray.empty = (fieldsC t).getD k ByteArray.empty) := Lib.hid (fun k => by rw [HFL.out])
  clear hA hL hcp hn hg hw3 ht HB1 HB2 HB3 HR1 HA1 HBw2 y1 y2
  subst y3
  go_enter Tryd.func27, Tryd.ntmps27
  go_wp2_with fail
  rw [← hw1, ← hw2]
  clear hw1 hw2
  go_at_call 26
  refine HSP.out.mono ?_
  rintro e w' ⟨rfl, rfl⟩
  go_wp2
  go_loopw [9] (fun i wr => ∃ k : Nat, k ≤ n ∧ i = .int .i64 (k : Int) ∧ Hid (Below w.heap.size w wr) ∧ Hid (Blk wr w.heap.size 44 [.int .i64 0, .int .i64 0, .int .i64 0, .int .i64 0]) ∧ Hid (Blk wr (w.heap.size + 1) 74 (arrV t k)) ∧ Hid (∀ j, j < n → wr.cell? ⟨g, j, none⟩ = some (.string (L.getD j ByteArray.empty)))) (fun i _ => n - (intOf i).toNat)
  case atStart => exact ⟨0, Nat.zero_le _, rfl, HBw3, HR3, HA3, HLP⟩
  case round =>
    obtain ⟨k, hk, rfl, HB, HR, HA, HC⟩ := hrel
    by_cases hlt : k < n
    · have e1 := HC.out k hlt
      have hsz := HSZ.out k
      have HV : Hid ((arrV t k).set k (.int .i64 (atoiZ (L.getD k ByteArray.empty).data.toList)) = arrV t (k + 1)) := Lib.hid (by rw [HLD.out]; exact arr_set t (by omega))
      have HAV : Hid ((arrV t k)[k]? = some (.int .i64 0)) := Lib.hid (arr_at t (by omega))
      obtain ⟨q, hq⟩ : ∃ q, q = L.getD k ByteArray.empty := ⟨_, rfl⟩
      rw [← hq] at e1 hsz HV
      have HAT := Lib.hid (atoiPz_any q hsz wr (HT.out.below HB.out))
      obtain ⟨v, hv⟩ : ∃ v, v = atoiZ q.data.toList := ⟨_, rfl⟩
      rw [← hv] at HV HAT
      have i1 : (0 : Int) ≤ (k : Int) := by omega
      have i2 : (k : Int) < (n : Int) := by omega
      have i3 : (k : Int) < 4 := by omega
      clear hq hv
      go_wp2_with fail
      go_at_call 25
      refine HAT.out.mono ?_
      rintro e w5 ⟨ev, rfl, b5⟩
      have hr5 := HR.out.below b5 HR.out.lt
      have ha5 := HA.out.below b5 HA.out.lt
      have HB5 : Hid (Below w.heap.size w (w5.setCell ⟨w.heap.size + 1, k, none⟩ (.int .i64 v))) := Lib.hid ((HB.out.trans (b5.mono HB.out.size)).setCell (by show w.heap.size ≤ w.heap.size + 1; omega) _)
      have HR5 : Hid (Blk (w5.setCell ⟨w.heap.size + 1, k, none⟩ (.int .i64 v)) w.heap.size 44 [.int .i64 0, .int .i64 0, .int .i64 0, .int .i64 0]) := Lib.hid (hr5.grown (set_grown w5 _ k _) (fun e => by have := Option.some.inj e; omega))
      have HA5 : Hid (Blk (w5.setCell ⟨w.heap.size + 1, k, none⟩ (.int .i64 v)) (w.heap.size + 1) 74 (arrV t (k + 1))) := Lib.hid (by have h := ha5.set k (.int .i64 v); rw [HV.out] at h; exact h)
      have HC5 : Hid (∀ j, j < n → (w5.setCell ⟨w.heap.size + 1, k, none⟩ (.int .i64 v)).cell? ⟨g, j, none⟩ = some (.string (L.getD j ByteArray.empty))) := Lib.hid (fun j hj =>
        (World.cell?_setCell_far w5 ⟨w.heap.size + 1, k, none⟩ ⟨g, j, none⟩ _ (fun e => by simp only at e; omega)).trans ((b5.cell (World.block_lt_of_cell? _ _ (HC.out j hj))).trans (HC.out j hj)))
      have s0 : w5.cell? ⟨w.heap.size + 1, k, none⟩ = some (.int .i64 0) := (ha5.cell k).trans HAV.out
      have s1 : w5.frozen? ⟨w.heap.size + 1, k, none⟩ = false := ha5.free k
      clear b5 hr5 ha5 HAV HV
      go_wp2
      go_roundw
      case rel => exact ⟨k + 1, by omega, by go_num, HB5, HR5, HA5, HC5⟩
      case measure => simp [intOf]; omega
    · obtain rfl : k = n := by omega
      have a0 : wr.cell? ⟨w.heap.size + 1, 0, none⟩ = some (.int .i64 (numG t k 0)) := HA.out.cell 0
      have a1 : wr.cell? ⟨w.heap.size + 1, 1, none⟩ = some (.int .i64 (numG t k 1)) := HA.out.cell 1
      have a2 : wr.cell? ⟨w.heap.size + 1, 2, none⟩ = some (.int .i64 (numG t k 2)) := HA.out.cell 2
      have a3 : wr.cell? ⟨w.heap.size + 1, 3, none⟩ = some (.int .i64 (numG t k 3)) := HA.out.cell 3
      have r0 : wr.cell? ⟨w.heap.size, 0, none⟩ = some (.int .i64 0) := HR.out.cell 0
      have r1 : wr.cell? ⟨w.heap.size, 1, none⟩ = some (.int .i64 0) := HR.out.cell 1
      have r2 : wr.cell? ⟨w.heap.size, 2, none⟩ = some (.int .i64 0) := HR.out.cell 2
      have r3 : wr.cell? ⟨w.heap.size, 3, none⟩ = some (.int .i64 0) := HR.out.cell 3
      have g0 := HR.out.free 0
      have g1 := HR.out.free 1
      have g2 := HR.out.free 2
      have g3 := HR.out.free 3
      have HE : Hid (clueG t = (numG t k 0, numG t k 1, numG t k 2, numG t k 3)) := Lib.hid HCL.out
      obtain ⟨x0, hx0⟩ : ∃ x, x = numG t k 0 := ⟨_, rfl⟩
      obtain ⟨x1, hx1⟩ : ∃ x, x = numG t k 1 := ⟨_, rfl⟩
      obtain ⟨x2, hx2⟩ : ∃ x, x = numG t k 2 := ⟨_, rfl⟩
      obtain ⟨x3, hx3⟩ : ∃ x, x = numG t k 3 := ⟨_, rfl⟩
      rw [← hx0] at a0 HE
      rw [← hx1] at a1 HE
      rw [← hx2] at a2 HE
      rw [← hx3] at a3 HE
      clear hx0 hx1 hx2 hx3
      go_wp2
      (try simp only [Exit.inBlock, Exit.then])
      refine bodyPost_ret (results_oneD rfl _ _ w.heap.size x0 x1 x2 x3 rfl rfl ((((HR.out.set 0 _).set 1 _).set 2 _).set 3 _)) rfl ?_
      exact ⟨by rw [HE.out], HB.out.setCell (Nat.le_refl _) _ |>.setCell (Nat.le_refl _) _ |>.setCell (Nat.le_refl _) _ |>.setCell (Nat.le_refl _) _⟩

/-- both boxes, the clues read so far, and the pieces that SplitN has laid -/
def KQ (w : World) (G C g n : Nat) (F : Nat → ByteArray) (wr : World) (x : Int) (v : Value) (ps : List RClue) : Prop :=
  KG w G C wr x v ps ∧ G < g ∧ g < C ∧ ∀ j, j < n → wr.cell? ⟨g, j, none⟩ = some (.string (F j))
theorem KQ.more {w wr w2 : World} {G C g n : Nat} {F : Nat → ByteArray} {x : Int} {v : Value} {ps : List RClue} (h : KQ w G C g n F wr x v ps) (b : Below wr.heap.size wr w2) : KQ w G C g n F w2 x v ps :=
  ⟨h.1.more b, h.2.1, h.2.2.1, fun j hj => (b.cell (p := ⟨g, j, none⟩) (Nat.lt_of_lt_of_le h.2.2.1 h.1.2.2.2.2)).trans (h.2.2.2 j hj)⟩
theorem KQ.put {w wr w2 : World} {G C g n : Nat} {F : Nat → ByteArray} {x : Int} {v v2 : Value} {ps qs : List RClue} (h : KQ w G C g n F wr x v ps) (o : OwnClue w2 C v2 qs) (b : Below C wr w2) (hG : w.heap.size < G) :
    KQ w G C g n F (w2.setCell ⟨G, 1, none⟩ v2) x v2 qs :=
  ⟨h.1.put o b hG (Nat.lt_trans h.2.1 h.2.2.1), h.2.1, h.2.2.1, fun j hj =>
    (World.cell?_setCell_far w2 ⟨G, 1, none⟩ ⟨g, j, none⟩ _ (fun e => by have := h.2.1; simp only at e; omega)).trans ((b.cell (p := ⟨g, j, none⟩) h.2.2.1).trans (h.2.2.2 j hj))⟩
set_option maxHeartbeats 8000000 in
set_option maxRecDepth 20000 in
theorem implParsePuzzle_any (w : World) (s : ByteArray) (_ws : s.size ≤ maxLen) (hls : s.size ≤ 1048576) (ht : Tab_libParse w) :
    Calls Tryd.prog 11 #[.string s] w fun e w' => ∃ v0, e = .returned (.tuple #[.agg #[.int .i64 (outParsePuzzle_0 s), v0], .bool (outParsePuzzle_2 s)]) ∧ OwnClue w' w.heap.size v0 (outParsePuzzle_1 s) ∧ Below w.heap.size w w' := by
  have HT := Lib.hid ht
  have HPI := Lib.hid (prog_is s)
  have HO : Hid (outParsePuzzle_2 s = parP s ∧ (parP s = true → outParsePuzzle_0 s = headG s ∧ outParsePuzzle_1 s = cluesG s) ∧ (parP s = false → outParsePuzzle_0 s = 0 ∧ outParsePuzzle_1 s = [])) := Lib.hid (by
    unfold outParsePuzzle_0 outParsePuzzle_1 outParsePuzzle_2
    exact ⟨rfl, fun h => by rw [h, (HPI.out.2 h).1, (HPI.out.2 h).2]; exact ⟨rfl, rfl⟩, fun h => by rw [h]; exact ⟨rfl, rfl⟩⟩)
  obtain ⟨w0, hw0⟩ : ∃ w0, w0 = w.alloc (.cells #[.int .i64 0, .slice none 0 0] 30) := ⟨_, rfl⟩
  have HB0 : Hid (Below w.heap.size w w0) := Lib.hid (by rw [hw0]; exact (Below.refl _ _).alloc (Nat.le_refl _) _)
  have HK0 : Hid (Blk w0 w.heap.size 30 [.int .i64 0, .slice none 0 0]) := Lib.hid (by rw [hw0]; exact heap_alloc_new w _)
  have HCU := Lib.hid (cutPz_any s 58 hls w0 (HT.out.below HB0.out))
  have hsl : s.data.toList.length = s.size := Array.length_toList
  have hcs : (Lib.cut s.data.toList [58]).1.length ≤ s.data.toList.length ∧ (Lib.cut s.data.toList [58]).2.1.length ≤ s.data.toList.length := by
    unfold Lib.cut
    split
    · exact ⟨by show (List.take _ _).length ≤ _; rw [List.length_take]; omega, by show (List.drop _ _).length ≤ _; rw [List.length_drop]; omega⟩
    · exact ⟨Nat.le_refl _, Nat.zero_le _⟩
  obtain ⟨H, hH⟩ : ∃ A : ByteArray, A = ⟨(Lib.cut s.data.toList [58]).1.toArray⟩ := ⟨_, rfl⟩
  obtain ⟨R, hR⟩ : ∃ A : ByteArray, A = ⟨(Lib.cut s.data.toList [58]).2.1.toArray⟩ := ⟨_, rfl⟩
  obtain ⟨cb, hcb⟩ : ∃ b, b = (Lib.cut s.data.toList [58]).2.2 := ⟨_, rfl⟩
  have hHl : H.data.toList = (Lib.cut s.data.toList [58]).1 := by rw [hH]
  have hRl : R.data.toList = (Lib.cut s.data.toList [58]).2.1 := by rw [hR]
  have hHs : H.size ≤ 1048576 := by rw [size_listZ, hHl]; omega
  have hRs : R.size ≤ 1048576 := by rw [size_listZ, hRl]; omega
  rw [← hH, ← hR, ← hcb] at HCU
  have HRG : Hid (restG s = R) := Lib.hid (by rw [hR]; rfl)
  have HHG : Hid (headG s = atoiZ H.data.toList) := Lib.hid (by rw [hHl]; rfl)
  have HAT := Lib.hid (fun w2 h => atoiPz_any H hHs w2 h)
  obtain ⟨x, hx⟩ : ∃ x, x = atoiZ H.data.toList := ⟨_, rfl⟩
  rw [← hx] at HAT HHG
  have HG0 : Hid (w.heap.size < w0.heap.size) := Lib.hid (by rw [hw0, pz_size1]; exact Nat.lt_succ_self _)
  clear ht hsl hcs hH hR hcb hHl hRl hHs hx
  go_enter Tryd.func11, Tryd.ntmps11
  go_wp2_with fail
  rw [← hw0]
  clear hw0
  go_at_call 24
  refine HCU.out.mono ?_
  rintro e wc ⟨rfl, bc⟩
  have HRc : Hid (Blk wc w.heap.size 30 [.int .i64 0, .slice none 0 0]) := Lib.hid (HK0.out.below bc HK0.out.lt)
  have HBc : Hid (Below w.heap.size w wc) := Lib.hid (HB0.out.trans (bc.mono HB0.out.size))
  have HGc : Hid (w.heap.size < wc.heap.size) := Lib.hid (Nat.lt_of_lt_of_le HG0.out bc.size)
  have HKs : Hid (Blk (wc.alloc (.cells #[.int .i64 0, .slice none 0 0] 30)) wc.heap.size 30 [.int .i64 0, .slice none 0 0]) := Lib.hid (heap_alloc_new wc _)
  have HRs : Hid (Blk (wc.alloc (.cells #[.int .i64 0, .slice none 0 0] 30)) w.heap.size 30 [.int .i64 0, .slice none 0 0]) := Lib.hid (HRc.out.below ((Below.refl wc.heap.size wc).alloc (Nat.le_refl _) _) HGc.out)
  have HBs : Hid (Below w.heap.size w (wc.alloc (.cells #[.int .i64 0, .slice none 0 0] 30))) := Lib.hid (HBc.out.alloc HBc.out.size _)
  obtain ⟨G, hG⟩ : ∃ G, G = wc.heap.size := ⟨_, rfl⟩
  have hG1 : w.heap.size < G := by rw [hG]; exact HGc.out
  rw [← hG] at HKs
  have HAs := Lib.hid (HAT.out _ (HT.out.below HBs.out))
  clear bc
  go_wp2_with fail
  go_at_call 25
  refine HAs.out.mono ?_
  rintro e wd ⟨ev, rfl, bd⟩
  rw [← hG]
  have hKd := HKs.out.below bd HKs.out.lt
  have hRd := HRs.out.below bd HRs.out.lt
  have hBd := HBs.out.trans (bd.mono HBs.out.size)
  have c0 : wd.cell? ⟨G, 0, none⟩ = some (.int .i64 0) := hKd.cell 0
  have f0 : wd.frozen? ⟨G, 0, none⟩ = false := hKd.free 0
  have HKG : Hid (KG w G (G + 1) (wd.setCell ⟨G, 0, none⟩ (.int .i64 x)) x (.slice none 0 0) []) := Lib.hid (by
    refine ⟨hBd.setCell (by show w.heap.size ≤ G; omega) _, hRd.grown (set_grown wd _ 0 _) (fun e => by have := Option.some.inj e; omega), hKd.set 0 _, ownClue_nil _ _, ?_⟩
    have := hKd.lt
    simp [World.setCell]; omega)
  clear bd hKd hRd hBd hG HKs HRs HBs HAs HRc HBc HGc
  by_cases hz : R.size = 0
  · have hq0 : R.toList.isEmpty = true := by
      rw [ByteArray.toList_eq]
      have h := size_listZ R
      rw [hz] at h
      rw [List.eq_nil_of_length_eq_zero h.symm]; rfl
    have HCG : Hid (cluesG s = []) := Lib.hid (by unfold cluesG partsC; rw [HRG.out, if_pos hz]; rfl)
    obtain ⟨ps, hps⟩ : ∃ ps, ps = ([] : List RClue) := ⟨_, rfl⟩
    have HPC : Hid (cluesG s = ps) := Lib.hid (by rw [hps]; exact HCG.out)
    obtain ⟨ao, q, cp, hv, hql⟩ : ∃ ao q cp, (Value.slice none 0 0 : Value) = .slice ao q cp ∧ q = ps.length := ⟨none, 0, 0, rfl, by rw [hps]; rfl⟩
    have HQ := Lib.hid hql
    have HQL : Hid (q ≤ 7) := Lib.hid (by rw [hql, hps]; exact Nat.zero_le _)
    rw [← hps, hv] at HKG
    obtain ⟨C, hC⟩ : ∃ C, C = G + 1 := ⟨_, rfl⟩
    rw [← hC] at HKG
    have hGC : w.heap.size + 1 ≤ C := by omega
    clear hps hql hv hz
    have q0 := HKG.out.p0
    have q1 := HKG.out.p1
    have hcm : CameClue (wd.setCell ⟨G, 0, none⟩ (.int .i64 x)) ao q ps := by
      obtain ⟨aa, cc, hv, hcm, _⟩ := HKG.out.2.2.2.1.cameC
      injection hv with hv1 hv2 hv3
      subst hv1
      rw [← HQ.out] at hcm
      exact hcm
    have HTX := Lib.hid (implPuzzleText_q (wd.setCell ⟨G, 0, none⟩ (.int .i64 x)) x ao q cp ps (by have := HQL.out; omega) hcm)
    have HTB : Hid (parP s = (goodP x ps && decide (puzT x.toNat ps = s))) := Lib.hid (by rw [← HPI.out.1]; unfold progZ; rw [HHG.out, HPC.out])
    obtain ⟨g0, hg0⟩ : ∃ g, g = goodP x ps := ⟨_, rfl⟩
    obtain ⟨T, hT⟩ : ∃ T, T = puzT x.toNat ps := ⟨_, rfl⟩
    rw [← hg0, ← hT] at HTX HTB
    have HKK := HKG
    clear hcm hg0 hT
    cases g0 with
    | false =>
      have HF := Lib.hid (HO.out.2.2 (by rw [HTB.out]; rfl))
      have HF2 : Hid (outParsePuzzle_2 s = false) := Lib.hid (by rw [HO.out.1, HTB.out]; rfl)
      go_wp2_with fail
      go_at_call 8
      refine HTX.out.mono ?_
      rintro e w3 ⟨rfl, b3⟩
      have HK3 := Lib.hid (HKK.out.more b3)
      have r0 := HK3.out.r0
      have r1 := HK3.out.r1
      have f0 := HK3.out.f0
      have f1 := HK3.out.f1
      clear b3
      go_wp2
      (try simp only [Exit.inBlock, Exit.then])
      refine bodyPost_ret (results_cellZ rfl _ _ w.heap.size 0 (.slice none 0 0) rfl rfl (setZ0 r0 r1) (setZ1 r0 r1)) rfl ?_
      exact ⟨.slice none 0 0, by rw [HF.out.1, HF2.out]; exact rfl, by rw [HF.out.2]; exact ownClue_nil _ _, HK3.out.1.setCell (Nat.le_refl _) _ |>.setCell (Nat.le_refl _) _⟩
    | true =>
      simp only [if_true] at HTX
      by_cases hts : T = s
      · have HP1 : Hid (parP s = true) := Lib.hid (by rw [HTB.out, decide_eq_true hts]; rfl)
        have HF := Lib.hid (HO.out.2.1 HP1.out)
        have HF2 : Hid (outParsePuzzle_2 s = true) := Lib.hid (by rw [HO.out.1, HP1.out])
        have hq : (T.toList == s.toList) = true := by rw [hts]; simp
        clear hts
        go_wp2_with fail
        go_at_call 8
        refine HTX.out.mono ?_
        rintro e w3 ⟨rfl, b3⟩
        have HK3 := Lib.hid (HKK.out.more b3)
        have r0 := HK3.out.r0
        have r1 := HK3.out.r1
        have f0 := HK3.out.f0
        have f1 := HK3.out.f1
        have p0 := HK3.out.p0
        have p1 := HK3.out.p1
        clear b3
        go_wp2
        (try simp only [Exit.inBlock, Exit.then])
        refine bodyPost_ret (results_cellZ rfl _ _ w.heap.size x (.slice ao q cp) rfl rfl (setZ0 r0 r1) (setZ1 r0 r1)) rfl ?_
        exact ⟨.slice ao q cp, by rw [HF.out.1, HF2.out, HHG.out]; exact rfl, by rw [HF.out.2, HPC.out]; exact (ownZ_set (ownZ_set HK3.out.2.2.2.1 (by omega) 0 _) (by omega) 1 _).mono (by omega), HK3.out.1.setCell (Nat.le_refl _) _ |>.setCell (Nat.le_refl _) _⟩
      · have HF := Lib.hid (HO.out.2.2 (by rw [HTB.out, decide_eq_false hts]; rfl))
        have HF2 : Hid (outParsePuzzle_2 s = false) := Lib.hid (by rw [HO.out.1, HTB.out, decide_eq_false hts]; rfl)
        have hq := strs_neP hts
        clear hts
        go_wp2_with fail
        go_at_call 8
        refine HTX.out.mono ?_
        rintro e w3 ⟨rfl, b3⟩
        have HK3 := Lib.hid (HKK.out.more b3)
        have r0 := HK3.out.r0
        have r1 := HK3.out.r1
        have f0 := HK3.out.f0
        have f1 := HK3.out.f1
        clear b3
        go_wp2
        (try simp only [Exit.inBlock, Exit.then])
        refine bodyPost_ret (results_cellZ rfl _ _ w.heap.size 0 (.slice none 0 0) rfl rfl (setZ0 r0 r1) (setZ1 r0 r1)) rfl ?_
        exact ⟨.slice none 0 0, by rw [HF.out.1, HF2.out]; exact rfl, by rw [HF.out.2]; exact ownClue_nil _ _, HK3.out.1.setCell (Nat.le_refl _) _ |>.setCell (Nat.le_refl _) _⟩
  · have hq0 : R.toList.isEmpty = false := by
      rw [ByteArray.toList_eq]
      have h := size_listZ R
      cases e : R.data.toList with
      | nil => rw [e] at h; exact absurd h hz
      | cons a l => rfl
    have HSP := Lib.hid (splitPz_any R 44 7 (by decide) (by decide) hRs (wd.setCell ⟨G, 0, none⟩ (.int .i64 x)) (HT.out.below HKG.out.1))
    obtain ⟨L, hL⟩ : ∃ L, L = Lib.splitB ⟨#[44]⟩ 0 (min 7 (R.size + 1) - 1) R := ⟨_, rfl⟩
    have HPL : Hid (partsC s = L) := Lib.hid (by unfold partsC; rw [HRG.out, if_neg hz, hL])
    have hn7 : L.length ≤ 7 := by rw [← HPL.out]; exact partsC_len s
    have HSZ := Lib.hid (fun k => getD_sizes (L := L) (b := 1048576) (fun q hq => Nat.le_trans (split_sizes 44 _ R q (by rw [hL] at hq; exact hq)) hRs) k)
    rw [← hL] at HSP
    obtain ⟨cq, hcq⟩ : ∃ c, c = min 7 (R.size + 1) := ⟨_, rfl⟩
    rw [← hcq] at HSP
    have HLP := Lib.hid (fun k hk => laid_pieces (wd.setCell ⟨G, 0, none⟩ (.int .i64 x)) L cq (k := k) hk)
    obtain ⟨we, hwe⟩ : ∃ we, we = (wd.setCell ⟨G, 0, none⟩ (.int .i64 x)).alloc (.cells (Lib.cellsOf L cq) 9) := ⟨_, rfl⟩
    rw [← hwe] at HSP HLP
    obtain ⟨g, hg⟩ : ∃ g, g = (wd.setCell ⟨G, 0, none⟩ (.int .i64 x)).heap.size := ⟨_, rfl⟩
    rw [← hg] at HSP HLP
    obtain ⟨C, hC⟩ : ∃ C, C = we.heap.size := ⟨_, rfl⟩
    have hgC : C = g + 1 := by rw [hC, hwe, pz_size1, hg]
    have hGg : G < g := by have := HKG.out.2.2.2.2; rw [← hg] at this; omega
    have HKE : Hid (KG w G C we x (.slice none 0 0) []) := Lib.hid (by
      have h := HKG.out.more (w2 := we) (by rw [hwe]; exact (Below.refl _ _).alloc (Nat.le_refl _) _)
      exact ⟨h.1, h.2.1, h.2.2.1, ownClue_nil _ _, by omega⟩)
    obtain ⟨n, hn⟩ : ∃ n, n = L.length := ⟨_, rfl⟩
    obtain ⟨F, hF⟩ : ∃ F : Nat → ByteArray, F = fun k => L.getD k ByteArray.empty := ⟨_, rfl⟩
    have HCG : Hid (cluesTG s n = cluesG s) := Lib.hid (by unfold cluesG; rw [HPL.out, hn])
    have HSU : Hid (∀ k, cluesTG s (k + 1) = cluesTG s k ++ [clueG (F k)]) := Lib.hid (fun k => by rw [cluesTG_succ, HPL.out, hF])
    have HFS : Hid (∀ k, (F k).size ≤ 1048576) := Lib.hid (fun k => by rw [hF]; exact HSZ.out k)
    rw [← hn] at HSP HLP hn7
    have HKQ : Hid (KQ w G C g n F we x (.slice none 0 0) (cluesTG s 0)) := Lib.hid ⟨HKE.out, hGg, by omega, fun j hj => by rw [hF]; exact HLP.out j hj⟩
    clear hL hcq hwe hg hC hn hF hz hRs HLP HSZ
    go_wp2_with fail
    go_at_call 26
    refine HSP.out.mono ?_
    rintro e w' ⟨rfl, rfl⟩
    clear c0 f0
    go_wp2
    go_loopw [30] (fun i wr => ∃ (k : Nat) (ao : Option Addr) (cp : Nat), k ≤ n ∧ i = .int .i64 (k : Int) ∧ Hid (KQ w G C g n F wr x (.slice ao k cp) (cluesTG s k))) (fun i _ => n - (intOf i).toNat)
    case atStart => exact ⟨0, none, 0, Nat.zero_le _, rfl, HKQ⟩
    case round =>
      obtain ⟨k, ao, cp, hk, rfl, HK⟩ := hrel
      by_cases hlt : k < n
      · have ec := HK.out.2.2.2 k hlt
        have hts := HFS.out k
        have HS := Lib.hid (HSU.out k)
        obtain ⟨t, ht⟩ : ∃ t, t = F k := ⟨_, rfl⟩
        rw [← ht] at ec hts HS
        have HCT := Lib.hid (fun w2 h => clueOfText_any t hts w2 h)
        obtain ⟨cl, hcl⟩ : ∃ c, c = clueG t := ⟨_, rfl⟩
        rw [← hcl] at HCT HS
        obtain ⟨x0, x1, x2, x3⟩ := cl
        have HLE := Lib.hid (length_cluesTG s k)
        obtain ⟨ps, hps⟩ : ∃ ps, ps = cluesTG s k := ⟨_, rfl⟩
        rw [← hps] at HK HS HLE
        have HKD : Hid (KQ w G C g n F wr.drew x (.slice ao k cp) ps) := Lib.hid (HK.out.more (drewN_down wr 1))
        have HP : Hid (Calls Tryd.prog 27 #[.string t] wr.drew (fun e w5 => e = .returned (.agg #[.int .i64 x0, .int .i64 x1, .int .i64 x2, .int .i64 x3]) ∧ KQ w G C g n F w5 x (.slice ao k cp) ps ∧ KQ w G C g n F (w5.alloc (.cells #[.int .i64 x0, .int .i64 x1, .int .i64 x2, .int .i64 x3] 44)) x (.slice ao k cp) ps)) := Lib.hid ((HCT.out wr.drew (HT.out.below HKD.out.1.1)).mono (by
          rintro e w5 ⟨rfl, b5⟩
          exact ⟨rfl, HKD.out.more b5, (HKD.out.more b5).more ((Below.refl _ _).alloc (Nat.le_refl _) _)⟩))
        have i1 : (0 : Int) ≤ (k : Int) := by omega
        have i2 : (k : Int) < (n : Int) := by omega
        have cm := HK.out.1.p1
        have cd := HKD.out.1.p1
        have hlen : ps.length + 1 ≤ 1000000000 := by rw [HLE.out]; omega
        clear ht hcl hps HCT
        go_wp2_with fail
        go_region_law (first
          | (refine step_appClue rfl _ _ rfl C _ ps [(x0, x1, x2, x3)] _ _ _ rfl rfl k6.1.2.2.2.1 rfl (src_oneC (w := w5) x0 x1 x2 x3 rfl) k6.1.2.2.2.2 hlen ?_; intro v7 w7 hO7 hB7 hG7; obtain ⟨ao7, cp7, hv7⟩ := hO7.any; obtain ⟨q7, hq7⟩ : ∃ q, q = (ps ++ [((x0, x1, x2, x3) : RClue)]).length := ⟨_, rfl⟩; rw [← hq7] at hv7; subst hv7; have HQ7 := Lib.hid hq7; clear hq7; have k8 := k6.put hO7 hB7 hG1; have s1 : w7.cell? ⟨G, 1, none⟩ = some (.slice ao k cp) := (k6.1.2.2.1.below hB7 (by omega)).cell 1; have s2 := (k6.1.2.2.1.below hB7 (by omega)).free 1)
          | (go_simp; refine HP.out.mono ?_; rintro e w5 ⟨rfl, k5, k6⟩; have c5 := k5.1.p1; have c6 := k6.1.p1; dsimp only))
        all_goals
          obtain rfl : q7 = k + 1 := by rw [HQ7.out, List.length_append, HLE.out]; rfl
          have HK8 : Hid (KQ w G C g n F (w7.setCell ⟨G, 1, none⟩ (.slice ao7 (k + 1) cp7)) x (.slice ao7 (k + 1) cp7) (cluesTG s (k + 1))) := Lib.hid (by rw [HS.out]; exact k8)
          clear k5 k6 k8 hO7 hB7 hG7 c5 c6 s1 s2 cm cd
          go_wp2
          go_roundw
          case rel => exact ⟨k + 1, ao7, cp7, by omega, by go_num, HK8⟩
          case measure => simp [intOf]; omega
      · obtain rfl : k = n := by omega
        have HKG2 : Hid (KG w G C wr x (.slice ao k cp) (cluesTG s k)) := Lib.hid HK.out.1
        have HPC : Hid (cluesG s = cluesTG s k) := Lib.hid HCG.out.symm
        have HQ : Hid (k = (cluesTG s k).length) := Lib.hid (length_cluesTG s k).symm
        have HQL : Hid (k ≤ 7) := Lib.hid hn7
        obtain ⟨ps, hps⟩ : ∃ ps, ps = cluesTG s k := ⟨_, rfl⟩
        rw [← hps] at HKG2 HPC HQ
        have hGC : w.heap.size + 1 ≤ C := by omega
        clear hps hq0
        have q0 := HKG2.out.p0
        have q1 := HKG2.out.p1
        have hcm : CameClue wr ao k ps := by
          obtain ⟨aa, cc, hv, hcm, _⟩ := HKG2.out.2.2.2.1.cameC
          injection hv with hv1 hv2 hv3
          subst hv1
          rw [← HQ.out] at hcm
          exact hcm
        have HTX := Lib.hid (implPuzzleText_q wr x ao k cp ps (by have := HQL.out; omega) hcm)
        have HTB : Hid (parP s = (goodP x ps && decide (puzT x.toNat ps = s))) := Lib.hid (by rw [← HPI.out.1]; unfold progZ; rw [HHG.out, HPC.out])
        obtain ⟨g0, hg0⟩ : ∃ g, g = goodP x ps := ⟨_, rfl⟩
        obtain ⟨T, hT⟩ : ∃ T, T = puzT x.toNat ps := ⟨_, rfl⟩
        rw [← hg0, ← hT] at HTX HTB
        have HKK := HKG2
        clear hcm hg0 hT
        cases g0 with
        | false =>
          have HF := Lib.hid (HO.out.2.2 (by rw [HTB.out]; rfl))
          have HF2 : Hid (outParsePuzzle_2 s = false) := Lib.hid (by rw [HO.out.1, HTB.out]; rfl)
          go_wp2_with fail
          go_at_call 8
          refine HTX.out.mono ?_
          rintro e w3 ⟨rfl, b3⟩
          have HK3 := Lib.hid (HKK.out.more b3)
          have r0 := HK3.out.r0
          have r1 := HK3.out.r1
          have f0 := HK3.out.f0
          have f1 := HK3.out.f1
          clear b3
          go_wp2
          (try simp only [Exit.inBlock, Exit.then])
          refine bodyPost_ret (results_cellZ rfl _ _ w.heap.size 0 (.slice none 0 0) rfl rfl (setZ0 r0 r1) (setZ1 r0 r1)) rfl ?_
          exact ⟨.slice none 0 0, by rw [HF.out.1, HF2.out]; exact rfl, by rw [HF.out.2]; exact ownClue_nil _ _, HK3.out.1.setCell (Nat.le_refl _) _ |>.setCell (Nat.le_refl _) _⟩
        | true =>
          simp only [if_true] at HTX
          by_cases hts : T = s
          · have HP1 : Hid (parP s = true) := Lib.hid (by rw [HTB.out, decide_eq_true hts]; rfl)
            have HF := Lib.hid (HO.out.2.1 HP1.out)
            have HF2 : Hid (outParsePuzzle_2 s = true) := Lib.hid (by rw [HO.out.1, HP1.out])
            have hq : (T.toList == s.toList) = true := by rw [hts]; simp
            clear hts
            go_wp2_with fail
            go_at_call 8
            refine HTX.out.mono ?_
            rintro e w3 ⟨rfl, b3⟩
            have HK3 := Lib.hid (HKK.out.more b3)
            have r0 := HK3.out.r0
            have r1 := HK3.out.r1
            have f0 := HK3.out.f0
            have f1 := HK3.out.f1
            have p0 := HK3.out.p0
            have p1 := HK3.out.p1
            clear b3
            go_wp2
            (try simp only [Exit.inBlock, Exit.then])
            refine bodyPost_ret (results_cellZ rfl _ _ w.heap.size x (.slice ao k cp) rfl rfl (setZ0 r0 r1) (setZ1 r0 r1)) rfl ?_
            exact ⟨.slice ao k cp, by rw [HF.out.1, HF2.out, HHG.out]; exact rfl, by rw [HF.out.2, HPC.out]; exact (ownZ_set (ownZ_set HK3.out.2.2.2.1 (by omega) 0 _) (by omega) 1 _).mono (by omega), HK3.out.1.setCell (Nat.le_refl _) _ |>.setCell (Nat.le_refl _) _⟩
          · have HF := Lib.hid (HO.out.2.2 (by rw [HTB.out, decide_eq_false hts]; rfl))
            have HF2 : Hid (outParsePuzzle_2 s = false) := Lib.hid (by rw [HO.out.1, HTB.out, decide_eq_false hts]; rfl)
            have hq := strs_neP hts
            clear hts
            go_wp2_with fail
            go_at_call 8
            refine HTX.out.mono ?_
            rintro e w3 ⟨rfl, b3⟩
            have HK3 := Lib.hid (HKK.out.more b3)
            have r0 := HK3.out.r0
            have r1 := HK3.out.r1
            have f0 := HK3.out.f0
            have f1 := HK3.out.f1
            clear b3
            go_wp2
            (try simp only [Exit.inBlock, Exit.then])
            refine bodyPost_ret (results_cellZ rfl _ _ w.heap.size 0 (.slice none 0 0) rfl rfl (setZ0 r0 r1) (setZ1 r0 r1)) rfl ?_
            exact ⟨.slice none 0 0, by rw [HF.out.1, HF2.out]; exact rfl, by rw [HF.out.2]; exact ownClue_nil _ _, HK3.out.1.setCell (Nat.le_refl _) _ |>.setCell (Nat.le_refl _) _⟩

theorem iface_of_trod {H : Type} {enc : TypeId × Value → H} {P : Program} {w : World} {base : Nat} {sp : Nat → Bool} {held : Bool} {fuel : Nat} {t : TypeId} {cs : List Value} {nm : String} {d : DataW H} {p : List MemPlace} {ms : Array (String × TypeId)}
    (ht : P.underlying t = some (.interface ms)) (h : DataW.trod enc P w base sp held fuel t cs = some (.iface nm d, p)) : ∃ te pe, cs = [.iface te pe] := by
  cases fuel with
  | zero => simp [DataW.trod] at h
  | succ fuel =>
    unfold DataW.trod at h
    rw [ht] at h
    split at h <;> first | (rename_i e; cases e) | skip
    all_goals first | (exact ⟨_, _, rfl⟩) | (simp at h; done)

theorem tab_libParse_of {W : World} (h : laidMetH Tryd.prog Rows.fnExactParsePuzzleRow.laid W) (hs : W.ShapedOpen Tryd.prog) : Tab_libParse W := by
  rw [MakeChecks.laidMetH_plain _ _ _ (by kernel_rfl)] at h
  obtain ⟨ps, h0, _⟩ := h
  obtain ⟨g0, t0, cs0, f0, p0, q0, hg0, ht0, hv0, hd0, h1, _⟩ := h0
  obtain ⟨g1, t1, cs1, f1, p1, q1, hg1, ht1, hv1, hd1, h2, _⟩ := h1
  obtain ⟨g2, t2, cs2, f2, p2, q2, hg2, ht2, hv2, hd2, h3, _⟩ := h2
  obtain ⟨g3, t3, cs3, f3, p3, q3, hg3, ht3, hv3, hd3, h4, _⟩ := h3
  obtain ⟨g4, t4, cs4, f4, p4, q4, hg4, ht4, hv4, hd4, h5, _⟩ := h4
  obtain ⟨g5, t5, cs5, f5, p5, q5, hg5, ht5, hv5, hd5, h6, _⟩ := h5
  obtain rfl := Option.some.inj ((show Tryd.prog.globalNamed "strconv.ErrRange" = some 2 by kernel_rfl).symm.trans hg4)
  obtain rfl := Option.some.inj ((show Tryd.prog.globalNamed "strconv.ErrSyntax" = some 1 by kernel_rfl).symm.trans hg5)
  obtain rfl := Option.some.inj ((show (Tryd.prog.globals[2]?).map (·.type) = some 52 by kernel_rfl).symm.trans ht4)
  obtain rfl := Option.some.inj ((show (Tryd.prog.globals[1]?).map (·.type) = some 52 by kernel_rfl).symm.trans ht5)
  obtain ⟨te4, pe4, e4⟩ := iface_of_trod Tryd.underlying52 hd4
  obtain ⟨te5, pe5, e5⟩ := iface_of_trod Tryd.underlying52 hd5
  refine ⟨cell_of_shapedOpen_int hs (g := 0) (t := 3) (zero := #[.int .i64 0]) (of_decide_eq_true (by kernel_rfl)) (by kernel_rfl) rfl (by kernel_rfl) (by kernel_rfl) Tryd.underlying3, ⟨te5, pe5, ?_⟩, te4, pe4, ?_⟩
  · rw [World.var?_cell hg5 hv5 0, ← Array.getElem?_toList, e5]; rfl
  · rw [World.var?_cell hg4 hv4 0, ← Array.getElem?_toList, e4]; rfl

end Go.Proofs.YtodlpdbmiicdfabDoor
