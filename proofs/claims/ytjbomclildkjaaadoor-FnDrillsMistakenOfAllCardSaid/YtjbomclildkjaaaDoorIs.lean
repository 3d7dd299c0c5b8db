/- Chapter 4, the program: WaysToFace. -/
import Derived.Test.YtjbomclildkjaaaDoorIr
import Derived.Test.YtjbomclildkjaaaDoorTail
import Derived.Lib.OthersKept
namespace Go.Proofs.YtjbomclildkjaaaDoor
open Go.ChangeShapes Go.WideShapes Go.ChangeAt Go.RowKit
open Dr

theorem wpQuiet_loadAll {P : Program} {ops : Array Oper} {C : World → Prop} {Q : Act → Prop} {rest : List Oper} {o : Oper} {a : Act} (ty : TypeId) (x : Operand) (ho : o.op = .load ty x) (hgd : o.guard = none)
    (g : Nat) (t : TypeId) (cs : List Value) (d : TypeDesc) (hu : P.underlying ty = some d) (hd : (match d with | .struct _ | .array _ _ => true | _ => false) = true) (n : Nat) (hi : (P.info? ty).map (·.size) = some n)
    (hx : a.eval x = .pointer (some ⟨g, 0, none⟩)) (hb : ∀ w, C w → Blk w g t cs) (hn : cs.length = n)
    (h : wpQuiet P ops C Q rest (a.put o.dst (.agg cs.toArray))) : wpQuiet P ops C Q (o :: rest) a := by
  subst hn
  refine BigFrame.wpQuiet_want (by unfold Region.wanted; rw [hgd]) fun K hK => ⟨.agg cs.toArray, fun w hw => ?_, hK _ h⟩
  have hl := run_loadVar_row (P := P) w g t ty cs.toArray (0, 0) d (hb w hw) hu hd (by simpa using hi)
  unfold Oper.quietAt
  simp only [execOp, ho, hx, Instr.loadAt, Instr.sureAddr, Sem.run_bind, Sem.run_pure, Result.andThen_ok, hl]
  exact ⟨rfl, rfl⟩

theorem ways_no {s : ByteArray} {m t : Int} (h : wayB s m t = false) : outWaysToFace_0 s m t = 0 ∧ outWaysToFace_1 s m t = false := by
  unfold outWaysToFace_0 outWaysToFace_1
  rw [h]
  exact ⟨rfl, rfl⟩
theorem capM_zero (ts : List Nat) : (List.replicate 244 (0 : Int)).set 0 1 = capM (waysTo ts 0) := by
  refine ext_getD 0 (by rw [List.length_set, List.length_replicate, length_capM]) fun i hi => ?_
  rw [List.length_set, List.length_replicate] at hi
  unfold capM
  rw [getD_upTo _ _ _ hi, getD_set, List.length_replicate, waysTo]
  by_cases e : i = 0
  · subst e; rw [if_pos ⟨rfl, by omega⟩, if_pos ⟨by omega, by omega⟩]; rfl
  · rw [if_neg (by omega), if_neg (by omega)]
    rw [List.getD_eq_getElem?_getD, List.getElem?_replicate, if_pos hi]
    rfl
theorem capM_next (ts : List Nat) (k : Nat) : capM (nextF (waysTo ts k) (ts.getD k 0)) = capM (waysTo ts (k + 1)) := by
  unfold capM
  refine upTo_congr _ _ _ fun q _ => ?_
  rw [nextF_ways]
set_option maxRecDepth 20000 in
set_option maxHeartbeats 1000000 in
theorem implWaysToFace_any (w : World) (s : ByteArray) (m t : Int) (_ws : s.size ≤ maxLen) (_wm : (Lit.int .i64 m).wf = true) (_wt : (Lit.int .i64 t).wf = true) (hs : s.size ≤ 1048576) (hT : Tab_signOfTurn w) :
    Calls Tryd.prog 49 #[.string s, .int .i64 m, .int .i64 t] w fun e w' => e = .returned (.tuple #[.int .i64 (outWaysToFace_0 s m t), .bool (outWaysToFace_1 s m t)]) ∧ Below w.heap.size w w' := by
  have HG00 := Lib.hid (implAreCommands_any w s _ws hs hT)
  have HI := Lib.hid (fun w2 => isWay_any t w2)
  clear _ws _wm _wt hs
  rcases hb : wordB s with _ | _
  · have H0 := Lib.hid (ways_no (s := s) (m := m) (t := t) (by unfold wayB; rw [hb]; rfl))
    rw [show outAreCommands_0 s = false from hb] at HG00
    clear hb hT
    go_enter Tryd.func49, Tryd.ntmps49
    go_wp2_with (go_at_call 21; refine HG00.out.mono ?_; rintro e w1 ⟨rfl, b1⟩)
    go_ret2
    exact ⟨by rw [H0.out.1, H0.out.2]; exact rfl, b1⟩
  · rw [show outAreCommands_0 s = true from hb] at HG00
    by_cases hm0 : m < 0
    · have H0 := Lib.hid (ways_no (s := s) (m := m) (t := t) (by unfold wayB; rw [inB_no (fun h => absurd h.1 (by omega)), Bool.false_and, Bool.and_false]))
      clear hb hT
      go_enter Tryd.func49, Tryd.ntmps49
      go_wp2_with (go_at_call 21; refine HG00.out.mono ?_; rintro e w1 ⟨rfl, b1⟩)
      go_ret2
      exact ⟨by rw [H0.out.1, H0.out.2]; exact rfl, b1⟩
    · by_cases hm1 : 60 < m
      · have H0 := Lib.hid (ways_no (s := s) (m := m) (t := t) (by unfold wayB; rw [inB_no (fun h => absurd h.2 (by omega)), Bool.false_and, Bool.and_false]))
        clear hb hT
        go_enter Tryd.func49, Tryd.ntmps49
        go_wp2_with (go_at_call 21; refine HG00.out.mono ?_; rintro e w1 ⟨rfl, b1⟩)
        go_ret2
        exact ⟨by rw [H0.out.1, H0.out.2]; exact rfl, b1⟩
      · rcases hb2 : inB t 0 3 with _ | _
        · have H0 := Lib.hid (ways_no (s := s) (m := m) (t := t) (by unfold wayB; rw [hb2, Bool.and_false, Bool.and_false]))
          rw [hb2] at HI
          clear hb hb2 hT
          go_enter Tryd.func49, Tryd.ntmps49
          go_wp2_with fail
          go_at_call 21
          refine HG00.out.mono ?_
          rintro e w1 ⟨rfl, b1⟩
          have B1 := Lib.hid b1
          clear b1
          go_wp2_with (go_at_call 65; refine (HI.out _).mono ?_; rintro e w' ⟨rfl, rfl⟩)
          go_ret2
          exact ⟨by rw [H0.out.1, H0.out.2]; exact rfl, B1.out⟩
        · obtain ⟨ht0, ht1⟩ := inB_yes hb2
          obtain ⟨M, rfl⟩ : ∃ M : Nat, m = (M : Int) := ⟨m.toNat, by omega⟩
          obtain ⟨T, rfl⟩ : ∃ T : Nat, t = (T : Int) := ⟨t.toNat, by omega⟩
          obtain ⟨ts, rfl, h4, h5⟩ := word_of hb
          have HB : Hid (wayB (word ts) M T = true) := Lib.hid (by unfold wayB; rw [hb, hb2, inB_of ⟨by omega, by omega⟩]; rfl)
          have HWN : Hid (wayN (word ts) M T = waysTo ts (word ts).size M T) := Lib.hid (by unfold wayN; rw [tsOf_word h5]; rfl)
          have HWB := Lib.hid (word_byte ts h5)
          have HWA := Lib.hid (word_ascii ts)
          have HGL := Lib.hid (getD_lt h5 (by omega))
          have HZ := Lib.hid (capM_zero ts)
          have HNX := Lib.hid (capM_next ts)
          rw [hb2] at HI
          have HTT := Lib.hid (fun w2 (hb : Below w.heap.size w w2) => hT.below hb)
          obtain ⟨s, hse⟩ : ∃ s, s = word ts := ⟨_, rfl⟩
          rw [← hse] at HB HWN HG00 ⊢
          have HBS : Hid (∀ k, (hk : k < s.size) → turnI ((s[k]).toNat : Int) = ((ts.getD k 0 : Nat) : Int)) := Lib.hid (by subst hse; exact HWB.out)
          have HAS : Hid (∀ k, (hk : k < s.size) → (s[k]).toNat < 128) := Lib.hid (by subst hse; exact HWA.out)
          have d1 : decide ((M : Int) < 0) = false := decide_eq_false (by omega)
          have d2 : decide ((60 : Int) < (M : Int)) = false := decide_eq_false (by omega)
          have hM : M < 61 := by omega
          have hT4 : T < 4 := by omega
          clear hb hb2 hse HWB HWA h4 h5 hT hm0 hm1 ht0 ht1
          go_enter Tryd.func49, Tryd.ntmps49
          go_wp2_with fail
          go_at_call 21
          refine HG00.out.mono ?_
          rintro e w1 ⟨rfl, b1⟩
          have B1 := Lib.hid b1
          clear b1
          go_wp2_with fail
          go_at_call 65
          refine (HI.out _).mono ?_
          rintro e w' ⟨rfl, rfl⟩
          go_wp2_with (refine wpList_new 91 rfl rfl _ _ Tryd.info_ways ?_; intro w2 g8 G2 B2 L2)
          refine ⟨?_⟩
          have e1 : w2.cell? ⟨g8, 0, none⟩ = some (.int .i64 0) := by rw [B2.out.cellZ 0 (by rw [List.length_replicate]; omega), List.getD_eq_getElem?_getD, List.getElem?_replicate, if_pos (by omega)]; rfl
          have f1 := B2.out.free 0
          have hg8 : w.heap.size ≤ g8 := by have := G2.out; have := B1.out.size; omega
          have HG8 := Lib.hid hg8
          have HB3 : Hid (Blk (w2.setCell ⟨g8, 0, none⟩ (.int .i64 1)) g8 91 (cI (capM (waysTo ts 0)))) := Lib.hid (by rw [← HZ.out]; exact B2.out.setZ 0 1)
          have HL3 : Hid (Below w.heap.size w (w2.setCell ⟨g8, 0, none⟩ (.int .i64 1))) := Lib.hid ((B1.out.trans (L2.out.mono B1.out.size)).setCell (p := ⟨g8, 0, none⟩) hg8 _)
          have HGL3 : Hid (g8 < w2.heap.size) := Lib.hid B2.out.lt
          clear B2 L2 hg8 G2
          go_wp2
          clear e1 f1 d1 d2
          obtain ⟨W3, hW3⟩ : ∃ W, W = w2.setCell ⟨g8, 0, none⟩ (.int .i64 1) := ⟨_, rfl⟩
          have hsz3 : W3.heap.size = w2.heap.size := by rw [hW3]; simp [World.setCell]
          rw [← hW3] at HB3 HL3 ⊢
          rw [← hsz3] at HGL3 ⊢
          clear hW3 hsz3
          go_loopw [10] (fun _ wr => ∃ k : Nat, k ≤ s.size ∧ Hid (Blk wr g8 91 (cI (capM (waysTo ts k)))) ∧ Hid (wr.heap[W3.heap.size]? = some (.stringIter s k)) ∧ Hid (Below w.heap.size w wr)) (fun _ wr => s.size - wr.iterPos W3.heap.size)
          case atStart => exact ⟨0, Nat.zero_le _, Lib.hid (HB3.out.below (below_iter W3 s 0) HGL3.out), Lib.hid (World.iter_heap W3 s 0), Lib.hid (HL3.out.trans ((below_iter W3 s 0).mono HL3.out.size))⟩
          case round =>
            obtain ⟨k, hk, HO, HJ, HW⟩ := hrel
            have hpos := iterPos_of HJ.out
            by_cases hlt : k < s.size
            · have hnx : ∀ ty, (Instr.next (.pointer (some ⟨W3.heap.size, 0, none⟩)) true ty).run Tryd.prog wr = _ := fun ty => Lib.run_next_ascii_at wr W3.heap.size s k ty HJ.out hlt (HAS.out k hlt)
              have HJ2 := Lib.hid (Lib.iterAt_heap wr W3.heap.size s k (k + 1) HJ.out)
              have HW2 := Lib.hid (Lib.below_iterAt HW.out (k := W3.heap.size) HL3.out.size s (k + 1))
              have HO2 : Hid (Blk (wr.iterAt W3.heap.size s (k + 1)) g8 91 (cI (capM (waysTo ts k)))) := Lib.hid ((Lib.iterAt_other wr W3.heap.size g8 s (k + 1) (by have := HGL3.out; omega)).trans HO.out)
              obtain ⟨W, hWd⟩ : ∃ W, wr.iterAt W3.heap.size s (k + 1) = W := ⟨_, rfl⟩
              rw [hWd] at hnx HJ2 HW2 HO2
              have HLT : Hid (W3.heap.size < W.heap.size) := Lib.hid (Array.getElem?_eq_some_iff.1 HJ2.out).1
              have HTN := Lib.hid (fun w2 (hb : Below W.heap.size W w2) => (turnOf_any (s[k].toNat : Int) w2 (HTT.out w2 (HW2.out.trans (hb.mono HW2.out.size)))).mono fun e w' (h : _ ∧ w2 = w') => show _ ∧ Below w2.heap.size w2 w' from ⟨h.1, h.2 ▸ Below.refl _ _⟩)
              rw [HBS.out k hlt] at HTN
              have HWO := Lib.hid (fun w2 => withOneMore_any w2 (waysTo ts k) (ts.getD k 0) (HGL.out k))
              rw [HNX.out k] at HWO
              obtain ⟨x, hx⟩ : ∃ x, x = ts.getD k 0 := ⟨_, rfl⟩
              rw [← hx] at HTN HWO
              have HQ : Hid (∀ w', (∃ X : Lw W, w' = X.w) → Blk w' g8 91 (cI (capM (waysTo ts k)))) := Lib.hid (fun w' hX => by obtain ⟨X, rfl⟩ := hX; exact HO2.out.below X.b HO2.out.lt)
              clear hx hWd HO HJ HW
              go_wp2_with fail
              refine wp_region_lwt 4 rfl rfl (by kernel_rfl) rfl (by kernel_rfl) (by kernel_rfl) (by kernel_rfl) (by kernel_rfl) ?_
              simp only [List.take_succ_cons, List.take_zero, List.cons_append, List.nil_append, mvOf]
              refine wpQuiet_loadAll 91 _ rfl rfl g8 _ (cI (capM (waysTo ts k))) _ Tryd.underlying91 rfl 244 Tryd.size_ways rfl HQ.out (by rw [length_cI, length_capM]) ?_
              simp only [Act.put, List.setIfInBounds_toArray, List.set_cons_succ, List.set_cons_zero]
              repeat (go_big_quiet_step (first | (go_at_call 64; exact lw_call (fun w2 hb => HTN.out w2 hb) _) | (go_at_call 82; exact lw_call (fun w2 _ => HWO.out w2) _)))
              refine wpQuiet_nil ?_
              rintro w' ⟨X, rfl⟩
              have HO3 := Lib.hid (HQ.out X.w ⟨X, rfl⟩)
              go_wp2_with (refine wpList_storeAll 91 _ _ rfl rfl g8 _ (cI (capM (waysTo ts k))) (cI (capM (waysTo ts (k + 1)))) 244 Tryd.size_ways rfl rfl HO3 (by rw [length_cI, length_capM]) (by rw [length_cI, length_capM]) (cI_one _) ?_; intro w4 R4 L4)
              refine ⟨?_⟩
              have HJ4 : Hid (w4.heap[W3.heap.size]? = some (.stringIter s (k + 1))) := Lib.hid ((L4.out.block W3.heap.size (by have := X.b.size; have := HLT.out; omega) (fun e => by have := HGL3.out; cases e; omega)).trans ((X.b.block W3.heap.size HLT.out).trans HJ2.out))
              have HW4 : Hid (Below w.heap.size w w4) := Lib.hid (grownBy_below (HW2.out.trans (X.b.mono HW2.out.size)) L4.out (Nat.le_refl _) HG8.out)
              clear L4 HO3 HQ
              go_wp2
              go_roundw
              case rel => exact ⟨k + 1, by omega, R4, HJ4, HW4⟩
              case measure =>
                rw [iterPos_of HJ4.out, hpos]
                omega
            · obtain rfl : k = s.size := by omega
              have hnx : ∀ ty, (Instr.next (.pointer (some ⟨W3.heap.size, 0, none⟩)) true ty).run Tryd.prog wr = _ := fun ty => Lib.run_next_end_at wr W3.heap.size s s.size ty HJ.out hlt
              have ce := HO.out.cellZ (M * 4 + T) (by rw [length_capM]; omega)
              rw [capM_get _ _ _ hM hT4] at ce
              have j1 : (0 : Int) ≤ (M : Int) := by omega
              have j2 : (M : Int) < 61 := by omega
              have j3 : (0 : Int) ≤ (T : Int) := by omega
              have j4 : (T : Int) < 4 := by omega
              have HWV := HWN.out
              obtain ⟨N, hN⟩ : ∃ N, N = waysTo ts s.size M T := ⟨_, rfl⟩
              rw [← hN] at ce HWV
              by_cases hle : N ≤ 1000000000000000
              · have H0 : Hid (outWaysToFace_0 s M T = (N : Nat) ∧ outWaysToFace_1 s M T = true) := Lib.hid (by unfold outWaysToFace_0 outWaysToFace_1; rw [HB.out, HWV, decide_eq_true hle]; exact ⟨rfl, rfl⟩)
                rw [show min N capC = N from by unfold capC; omega] at ce
                have hb1 : decide ((1000000000000000 : Int) < (N : Int)) = false := decide_eq_false (by omega)
                clear hpos hN HWV hle
                go_wp2
                go_ret2
                exact ⟨by rw [H0.out.1, H0.out.2]; exact rfl, HW.out⟩
              · have H0 : Hid (outWaysToFace_0 s M T = 0 ∧ outWaysToFace_1 s M T = false) := Lib.hid (by unfold outWaysToFace_0 outWaysToFace_1; rw [HB.out, HWV, decide_eq_false hle]; exact ⟨rfl, rfl⟩)
                rw [show min N capC = 1000000000000001 from by unfold capC; omega] at ce
                clear hpos hN HWV hle
                go_wp2
                go_ret2
                exact ⟨by rw [H0.out.1, H0.out.2]; exact rfl, HW.out⟩

end Go.Proofs.YtjbomclildkjaaaDoor
