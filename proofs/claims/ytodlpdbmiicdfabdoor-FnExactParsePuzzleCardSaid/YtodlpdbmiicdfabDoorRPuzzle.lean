/- Puzzles by value in the laws: sz, to, eq, mark, held. -/
import Derived.Test.YtodlpdbmiicdfabDoorRClue
namespace Go.Proofs.YtodlpdbmiicdfabDoor
open Go.ChangeShapes Go.WideShapes Go.ChangeAt Go.RowKit

theorem rz_size1 (w : World) (o : Obj) : (w.alloc o).heap.size = w.heap.size + 1 := Array.size_push _
/-- a box of an int and a value -/
structure BoxZ (w : World) (g : Nat) (s : Int) (v : Value) : Prop where
  c0 : w.cell? ⟨g, 0, none⟩ = some (.int .i64 s)
  c1 : w.cell? ⟨g, 1, none⟩ = some v
theorem BoxZ.lt {w : World} {g : Nat} {s : Int} {v : Value} (h : BoxZ w g s v) : g < w.heap.size := World.block_lt_of_cell? w _ h.c0
theorem BoxZ.of_block {w w' : World} {g : Nat} {s : Int} {v : Value} (h : BoxZ w g s v) (hb : w'.heap[g]? = w.heap[g]?) : BoxZ w' g s v :=
  ⟨(World.cell?_of_block hb).trans h.c0, (World.cell?_of_block hb).trans h.c1⟩
theorem BoxZ.below {w w' : World} {C g : Nat} {s : Int} {v : Value} (h : BoxZ w g s v) (hb : Below C w w') (hC : g < C) : BoxZ w' g s v := h.of_block (hb.block g hC)
theorem BoxZ.betw {w w' : World} {lo hi g : Nat} {s : Int} {v : Value} (h : BoxZ w g s v) (hb : Betw lo hi w w') (hd : g < lo ∨ hi ≤ g) : BoxZ w' g s v := h.of_block (hb.block g h.lt hd)
theorem BoxZ.new (w : World) (s : Int) (v : Value) (t : TypeId) : BoxZ (w.alloc (.cells #[.int .i64 s, v] t)) w.heap.size s v :=
  ⟨by rw [World.cell?_alloc_new]; rfl, by rw [World.cell?_alloc_new]; rfl⟩
theorem BoxZ.alloc {w : World} {g : Nat} {s : Int} {v : Value} (h : BoxZ w g s v) (o : Obj) : BoxZ (w.alloc o) g s v := h.of_block (heap_alloc_old _ _ h.lt)

theorem rz_far {w : World} {g b i j : Nat} {u v : Value} (h : w.cell? ⟨g, i, none⟩ = some u) (hne : b ≠ g) : (w.setCell ⟨b, j, none⟩ v).cell? ⟨g, i, none⟩ = some u := by
  have hb := (set_grown w b j v).block g (World.block_lt_of_cell? w _ h) (fun e => hne (Option.some.inj e).symm)
  rw [← h]; simp [World.cell?, hb]
theorem rz_set0 {w : World} {g : Nat} {x y u v : Value} (h0 : w.cell? ⟨g, 0, none⟩ = some u) (_h1 : w.cell? ⟨g, 1, none⟩ = some v) : ((w.setCell ⟨g, 0, none⟩ x).setCell ⟨g, 1, none⟩ y).cell? ⟨g, 0, none⟩ = some x := by
  have h2 : (w.setCell ⟨g, 0, none⟩ x).cell? ⟨g, 0, none⟩ = some x := by go_simp
  go_simp
theorem rz_set1 {w : World} {g : Nat} {x y u v : Value} (_h0 : w.cell? ⟨g, 0, none⟩ = some u) (h1 : w.cell? ⟨g, 1, none⟩ = some v) : ((w.setCell ⟨g, 0, none⟩ x).setCell ⟨g, 1, none⟩ y).cell? ⟨g, 1, none⟩ = some y := by
  go_simp
theorem rz_own {w : World} {B g : Nat} {v : Value} {ps : List RClue} (h : OwnClue w B v ps) (hg : g < B) (j : Nat) (x : Value) : OwnClue (w.setCell ⟨g, j, none⟩ x) B v ps := by
  unfold OwnClue at h ⊢
  refine h.kept (set_grown w g j x) ?_
  rcases hv : v.ownBlock with _ | b
  · exact .inl rfl
  · refine .inr (fun e => ?_)
    have h1 := (World.ownsRow.lt h b hv).1
    have := Option.some.inj e
    omega

set_option maxHeartbeats 1000000 in
theorem szPuzzle_any (w : World) (s : Int) (a : Option Addr) (len cap : Nat) (hlen : len ≤ 9223372036854775807) :
    Calls Tryd.prog 5 #[.agg #[.int .i64 s, .slice a len cap], .int .i64 1048576] w fun e w' => ∃ r : Int, e = .returned (.int .i64 r) ∧ -1 ≤ r ∧ r ≤ 1048576 ∧ (0 ≤ r → len ≤ 1048576) ∧ Below w.heap.size w w' := by
  have HB : Hid (Below w.heap.size w (w.alloc (.cells #[.int .i64 s, .slice a len cap] 24))) := Lib.hid ((Below.refl _ _).alloc (Nat.le_refl _) _)
  have HX := Lib.hid (fun w2 => szClueS_any w2 a len cap hlen)
  have c1 := (BoxZ.new w s (.slice a len cap) 24).c1
  go_enter Tryd.func5, Tryd.ntmps5
  go_wp2_with fail
  go_at_call 14
  refine (HX.out _).mono ?_
  rintro e w1 ⟨r, rfl, hr0, hr1, hr2, b1⟩
  have B1 : Hid (Below w.heap.size w w1) := Lib.hid (HB.out.trans (b1.mono HB.out.size))
  have HR := Lib.hid hr2
  clear b1 c1 hr2
  by_cases hneg : r < 0
  · go_wp2
    go_ret
    exact ⟨-1, rfl, by omega, by omega, fun h => absurd h (by omega), B1.out⟩
  · go_wp2
    go_ret
    exact ⟨r, rfl, hr0, hr1, HR.out, B1.out⟩

theorem results_oneZ {fn : Func} {t : Tmp} {ty : TypeId} (h : fn.results = #[.cell t ty]) (tmps : Array Value) (w : World) (g : Nat) (x : Int) (v : Value) (hty : ty = 30)
    (ht : tmps[t]?.getD undef = .pointer (some ⟨g, 0, none⟩)) (h0 : w.cell? ⟨g, 0, none⟩ = some (.int .i64 x)) (h1 : w.cell? ⟨g, 1, none⟩ = some v) :
    (results fn tmps).run Tryd.prog w = .ok (.agg #[.int .i64 x, v]) w := by
  subst hty
  simp [results, h, ht, h0, h1, go_sem]
set_option maxHeartbeats 2000000 in
theorem toPuzzle_any (w : World) (s : Int) (a : Option Addr) (len cap : Nat) (ps : List RClue) (hl : len ≤ 1048576) (hc : CameClue w a len ps) :
    Calls Tryd.prog 7 #[.agg #[.int .i64 s, .slice a len cap]] w fun e w' => ∃ v, e = .returned (.agg #[.int .i64 s, v]) ∧ OwnClue w' w.heap.size v ps ∧ Below w.heap.size w w' := by
  have HT := Lib.hid (fun w2 (h : Below w.heap.size w w2) => toClueS_any w2 a len cap ps hl (hc.below h))
  have HB : Hid (Below w.heap.size w (w.alloc (.cells #[.int .i64 s, .slice a len cap] 24))) := Lib.hid ((Below.refl _ _).alloc (Nat.le_refl _) _)
  have K1 := Lib.hid (BoxZ.new w s (.slice a len cap) 24)
  obtain ⟨c0, c1⟩ := K1.out
  clear hc
  go_enter Tryd.func7, Tryd.ntmps7
  obtain ⟨ws, hws⟩ : ∃ ws, ws = (((w.alloc (.cells #[.int .i64 s, .slice a len cap] 24)).alloc (.cells #[.int .i64 0, .slice none 0 0] 30)).alloc (.cells #[.int .i64 s, .slice none 0 0] 30)) := ⟨_, rfl⟩
  have HBW : Hid (Below w.heap.size w ws) := Lib.hid (by rw [hws]; exact (HB.out.alloc HB.out.size _).alloc (HB.out.alloc HB.out.size _).size _)
  have HR : Hid (ws.heap[w.heap.size + 1]? = some (.cells #[.int .i64 0, .slice none 0 0] 30) ∧ ws.heap[w.heap.size + 1 + 1]? = some (.cells #[.int .i64 s, .slice none 0 0] 30)) := Lib.hid (by
    rw [hws]
    have h1 := heap_alloc_new (w.alloc (.cells #[.int .i64 s, .slice a len cap] 24)) (.cells #[.int .i64 0, .slice none 0 0] 30)
    have h2 := heap_alloc_new ((w.alloc (.cells #[.int .i64 s, .slice a len cap] 24)).alloc (.cells #[.int .i64 0, .slice none 0 0] 30)) (.cells #[.int .i64 s, .slice none 0 0] 30)
    rw [rz_size1] at h1
    rw [rz_size1, rz_size1] at h2
    exact ⟨(heap_alloc_old _ _ (by rw [rz_size1, rz_size1]; omega)).trans h1, h2⟩)
  have hsz : w.heap.size + 3 ≤ ws.heap.size := by rw [hws, rz_size1, rz_size1, rz_size1]; omega
  go_wp2_with fail
  rw [← hws]
  clear hws c0 c1
  go_at_call 17
  refine (HT.out ws HBW.out).mono ?_
  rintro e w1 ⟨v, rfl, o1, b1⟩
  obtain ⟨av, cv, rfl⟩ := o1.any
  have HR1 : Hid (w1.heap[w.heap.size + 1]? = some (.cells #[.int .i64 0, .slice none 0 0] 30) ∧ w1.heap[w.heap.size + 1 + 1]? = some (.cells #[.int .i64 s, .slice none 0 0] 30)) := Lib.hid ⟨(b1.block _ (by omega)).trans HR.out.1, (b1.block _ (by omega)).trans HR.out.2⟩
  have HB1 : Hid (Below w.heap.size w w1) := Lib.hid (HBW.out.trans (b1.mono HBW.out.size))
  have HO1 : Hid (OwnClue w1 (w.heap.size + 3) (.slice av ps.length cv) ps) := Lib.hid (o1.mono hsz)
  have x0 : w1.cell? ⟨w.heap.size + 1 + 1, 0, none⟩ = some (.int .i64 s) := by simp [World.cell?, HR1.out.2]
  have x1 : w1.cell? ⟨w.heap.size + 1 + 1, 1, none⟩ = some (.slice none 0 0) := by simp [World.cell?, HR1.out.2]
  have g0 : w1.frozen? ⟨w.heap.size + 1 + 1, 0, none⟩ = false := by simp [World.frozen?, HR1.out.2]
  have g1 : w1.frozen? ⟨w.heap.size + 1 + 1, 1, none⟩ = false := by simp [World.frozen?, HR1.out.2]
  have r0 : w1.cell? ⟨w.heap.size + 1, 0, none⟩ = some (.int .i64 0) := by simp [World.cell?, HR1.out.1]
  have r1 : w1.cell? ⟨w.heap.size + 1, 1, none⟩ = some (.slice none 0 0) := by simp [World.cell?, HR1.out.1]
  have f0 : w1.frozen? ⟨w.heap.size + 1, 0, none⟩ = false := by simp [World.frozen?, HR1.out.1]
  have f1 : w1.frozen? ⟨w.heap.size + 1, 1, none⟩ = false := by simp [World.frozen?, HR1.out.1]
  clear b1 o1
  have q0 : (w1.setCell ⟨w.heap.size + 1 + 1, 1, none⟩ (.slice av ps.length cv)).cell? ⟨w.heap.size + 1, 0, none⟩ = some (.int .i64 0) := rz_far r0 (by omega)
  have q1 : (w1.setCell ⟨w.heap.size + 1 + 1, 1, none⟩ (.slice av ps.length cv)).cell? ⟨w.heap.size + 1, 1, none⟩ = some (.slice none 0 0) := rz_far r1 (by omega)
  have HQ := Lib.hid (And.intro q0 q1)
  go_wp2
  (try simp only [Exit.inBlock, Exit.then])
  refine bodyPost_ret (results_oneZ rfl _ _ (w.heap.size + 1) s (.slice av ps.length cv) rfl rfl (rz_set0 HQ.out.1 HQ.out.2) (rz_set1 HQ.out.1 HQ.out.2)) rfl ?_
  refine ⟨_, rfl, (rz_own (rz_own (rz_own HO1.out (by omega) 1 _) (by omega) 0 _) (by omega) 1 _).mono (by omega), ?_⟩
  exact HB1.out.setCell (by show w.heap.size ≤ w.heap.size + 1 + 1; omega) _ |>.setCell (by show w.heap.size ≤ w.heap.size + 1; omega) _ |>.setCell (by show w.heap.size ≤ w.heap.size + 1; omega) _

set_option maxHeartbeats 2000000 in
theorem eqPuzzle_two (w : World) (lo hi lo' hi' : Nat) (v1 v2 : Value) (s : Int) (ps : List RClue) (hz : ps.length ≤ 4611686018427387904) (o1 : OwnIClue w lo hi v1 ps) (o2 : OwnIClue w lo' hi' v2 ps) :
    Calls Tryd.prog 9 #[.agg #[.int .i64 s, v1], .agg #[.int .i64 s, v2]] w fun e w' => e = .returned (.bool true) ∧ Below w.heap.size w w' := by
  have HB : Hid (Below w.heap.size w ((w.alloc (.cells #[.int .i64 s, v1] 30)).alloc (.cells #[.int .i64 s, v2] 30))) := Lib.hid (((Below.refl _ _).alloc (Nat.le_refl _) _).alloc (by rw [rz_size1]; omega) _)
  have HE := Lib.hid (eqClueS_same ((w.alloc (.cells #[.int .i64 s, v1] 30)).alloc (.cells #[.int .i64 s, v2] 30)) lo lo' v1 v2 ps hz (o1.1.below HB.out (Nat.le_refl _)) (o2.1.below HB.out (Nat.le_refl _)))
  have K1 := Lib.hid ((BoxZ.new w s v1 30).alloc (.cells #[.int .i64 s, v2] 30))
  have K2 := Lib.hid (BoxZ.new (w.alloc (.cells #[.int .i64 s, v1] 30)) s v2 30)
  rw [rz_size1] at K2
  obtain ⟨a1, c1, rfl⟩ := o1.1.any
  obtain ⟨a2, c2, rfl⟩ := o2.1.any
  obtain ⟨d0, d1⟩ := K1.out
  obtain ⟨e0, e1⟩ := K2.out
  clear o1 o2
  go_enter Tryd.func9, Tryd.ntmps9
  go_wp2_with fail
  go_at_call 22
  refine HE.out.mono ?_
  rintro e w1 ⟨rfl, b1⟩
  have B1 : Hid (Below w.heap.size w w1) := Lib.hid (HB.out.trans (b1.mono HB.out.size))
  clear b1 d0 d1 e0 e1
  go_wp2
  go_ret
  exact ⟨rfl, B1.out⟩

set_option maxHeartbeats 2000000 in
theorem markPuzzle_in (w : World) (lo hi : Nat) (v : Value) (s : Int) (ps : List RClue) (hz : ps.length ≤ 1048576) (hhi : hi ≤ w.heap.size) (o1 : OwnIClue w lo hi v ps) :
    Calls Tryd.prog 12 #[.agg #[.int .i64 s, v], .int .i64 1] w fun e w' => e = .returned (.int .i64 (4 * ((ps.length : Nat) : Int) + 1)) ∧ OwnIClue w' lo hi v (marksClue ps.length) ∧ Betw lo hi w w' := by
  have HB : Hid (Below w.heap.size w (w.alloc (.cells #[.int .i64 s, v] 30))) := Lib.hid ((Below.refl _ _).alloc (Nat.le_refl _) _)
  have HM := Lib.hid (markClueS_in (w.alloc (.cells #[.int .i64 s, v] 30)) lo hi v ps hz (o1.below HB.out hhi))
  have K1 := Lib.hid (BoxZ.new w s v 30)
  obtain ⟨a1, c1, rfl⟩ := o1.1.any
  obtain ⟨d0, d1⟩ := K1.out
  clear o1
  go_enter Tryd.func12, Tryd.ntmps12
  go_wp2_with fail
  go_at_call 28
  refine HM.out.mono ?_
  rintro e w1 ⟨rfl, o2, b1⟩
  have O2 := Lib.hid o2
  have B1 := Lib.hid (Betw.trans (Betw.of_grown (lo := lo) (hi := hi) (r := none) (show w.grownBy (w.alloc (.cells #[.int .i64 s, .slice a1 ps.length c1] 30)) none from below_grownBy HB.out none) (fun k h => by cases h)) b1)
  clear o2 b1 d0 d1
  go_wp2
  go_ret
  exact ⟨rfl, O2.out, B1.out⟩

set_option maxHeartbeats 2000000 in
theorem heldPuzzle_in (w : World) (lo hi : Nat) (v : Value) (s : Int) (n : Nat) (hz : n ≤ 1048576) (hhi : hi ≤ w.heap.size) (o1 : OwnIClue w lo hi v (marksClue n)) :
    Calls Tryd.prog 13 #[.agg #[.int .i64 s, v], .int .i64 1] w fun e w' => e = .returned (.int .i64 (4 * ((n : Nat) : Int) + 1)) ∧ Below w.heap.size w w' := by
  have HB : Hid (Below w.heap.size w (w.alloc (.cells #[.int .i64 s, v] 30))) := Lib.hid ((Below.refl _ _).alloc (Nat.le_refl _) _)
  have HM := Lib.hid (heldClueS_in (w.alloc (.cells #[.int .i64 s, v] 30)) lo hi v n hz (o1.below HB.out hhi))
  have K1 := Lib.hid (BoxZ.new w s v 30)
  obtain ⟨a1, c1, hv⟩ := o1.1.any
  rw [show (marksClue n).length = n by simp [marksClue]] at hv
  subst hv
  obtain ⟨d0, d1⟩ := K1.out
  clear o1
  go_enter Tryd.func13, Tryd.ntmps13
  go_wp2_with fail
  go_at_call 29
  refine HM.out.mono ?_
  rintro e ww ⟨rfl, rfl⟩
  go_wp2
  go_ret
  exact ⟨rfl, HB.out⟩

end Go.Proofs.YtodlpdbmiicdfabDoor
