/- Chapter 4, the program: runes that a call owns; undoneSigns; slices.Reverse at runes; MirrorCommands, BackCommands. -/
import Derived.Test.YtjbomclildkjaaaDoorIb
import Derived.Test.YtjbomclildkjaaaDoorRev
import Derived.Laws.Cover4
namespace Go.Proofs.YtjbomclildkjaaaDoor
open Go.ChangeShapes Go.WideShapes Go.ChangeAt Go.RowKit
open Dr

def sgZ (t : Nat) : Int := ((sg t).toNat : Int)
theorem encode_sg (t : Nat) : Utf8.encode (sgZ t) = txt [sg t] := by
  unfold sgZ sg
  split
  · decide
  · split
    · decide
    · split <;> decide
theorem runes_sg : ∀ (ts : List Nat) (a : List UInt8), (ts.map sgZ).foldl (fun r n => r ++ Utf8.encode n) (txt a) = txt (a ++ ts.map sg)
  | [], a => by simp
  | t :: ts, a => by
    rw [List.map_cons, List.foldl_cons, encode_sg, txt_append, runes_sg ts, List.map_cons, List.append_assoc]
    rfl
theorem runes_word (ts : List Nat) : runesBytes (ts.map sgZ) = word ts := by
  have := runes_sg ts []
  rw [List.nil_append] at this
  exact this
theorem Tab_signOfTurn.sign {w : World} (h : Tab_signOfTurn w) (t : Nat) (ht : t < 4) : w.cell? ⟨0, t, none⟩ = some (.int .i32 (sgZ t)) := by
  obtain ⟨h0, h1, h2, h3⟩ := h.at
  match t, ht with
  | 0, _ => exact h0
  | 1, _ => exact h1
  | 2, _ => exact h2
  | 3, _ => exact h3

/-- v is a slice of these runes that a call made -/
def OwnR (w : World) (B : Nat) (v : Value) (zs : List Int) : Prop := w.ownsRow B 21 1 v zs.length (zs.map (Value.int .i32))
theorem ownR_nil (w : World) (B : Nat) : OwnR w B (.slice none 0 0) [] := World.ownsRow_nil _ _ _ _
theorem OwnR.shape {w : World} {B : Nat} {v : Value} {zs : List Int} (h : OwnR w B v zs) :
    (v = .slice none 0 0 ∧ zs.length = 0) ∨ ∃ g cap, v = .slice (some ⟨g, 0, none⟩) zs.length cap ∧ B ≤ g ∧ g < w.heap.size := by
  rcases h.2 with ⟨h1, h2⟩ | ⟨g, cap, cur, hv, hg, hh, _⟩
  · exact .inl ⟨h1, h2⟩
  · exact .inr ⟨g, cap, hv, hg, lt_of_block hh⟩
theorem OwnR.cell {w : World} {B g cap n : Nat} {zs : List Int} (h : OwnR w B (.slice (some ⟨g, 0, none⟩) n cap) zs) (hn : n = zs.length) (j : Nat) (hj : j < zs.length) : w.cell? ⟨g, j, none⟩ = some (.int .i32 (zs.getD j 0)) := by
  subst hn
  unfold OwnR at h
  rw [h.cellAt j (by omega)]
  simp [hj]
theorem OwnR.free {w : World} {B g cap n : Nat} {zs : List Int} (h : OwnR w B (.slice (some ⟨g, 0, none⟩) n cap) zs) (hn : n = zs.length) (j : Nat) : w.frozen? ⟨g, j, none⟩ = false := by
  subst hn
  unfold OwnR at h
  exact h.frozenAt j
theorem OwnR.set {w : World} {B g cap n : Nat} {zs : List Int} (h : OwnR w B (.slice (some ⟨g, 0, none⟩) n cap) zs) (hn : n = zs.length) (j : Nat) (z : Int) : OwnR (w.setCell ⟨g, j, none⟩ (.int .i32 z)) B (.slice (some ⟨g, 0, none⟩) n cap) (zs.set j z) := by
  subst hn
  unfold OwnR at h ⊢
  rw [List.length_set, List.map_set]
  exact (h.stored j _).1
theorem OwnR.mono {w : World} {B B' : Nat} {v : Value} {zs : List Int} (h : OwnR w B v zs) (hb : B' ≤ B) : OwnR w B' v zs := by
  unfold OwnR at h ⊢
  refine ⟨h.1, ?_⟩
  rcases h.2 with h2 | ⟨g, cap, cur, a, b, r⟩
  · exact .inl h2
  · exact .inr ⟨g, cap, cur, a, Nat.le_trans hb b, r⟩
theorem OwnR.below {w w' : World} {B C : Nat} {v : Value} {zs : List Int} (h : OwnR w B v zs) (hb : Below C w w') (hC : w.heap.size ≤ C) : OwnR w' B v zs := by
  unfold OwnR at h ⊢
  exact h.kept (row := none) ⟨hb.os, hb.tape, hb.output, hb.size, fun k hk _ => hb.block k (by omega)⟩ (by cases v.ownBlock <;> simp)
theorem OwnR.iterAt {w : World} {B : Nat} {v : Value} {zs : List Int} {k : Nat} {s : ByteArray} {pos : Nat} (h : OwnR w B v zs) (hk : w.heap[k]? = some (.stringIter s pos)) (pos' : Nat) : OwnR (w.iterAt k s pos') B v zs := by
  unfold OwnR at h ⊢
  refine ⟨h.1, ?_⟩
  rcases h.2 with h0 | ⟨g, cap, cur, hv, hb, hg, rest⟩
  · exact .inl h0
  · refine .inr ⟨g, cap, cur, hv, hb, ?_, rest⟩
    rw [Lib.iterAt_other _ _ _ _ _ (fun e => by subst e; rw [hk] at hg; cases hg)]
    exact hg
theorem OwnR.notIter {w : World} {B : Nat} {v : Value} {zs : List Int} {k : Nat} {s : ByteArray} {pos : Nat} (h : OwnR w B v zs) (hk : w.heap[k]? = some (.stringIter s pos)) : some k ≠ v.ownBlock := by
  unfold OwnR at h
  rcases h.2 with ⟨rfl, _⟩ | ⟨g, cap, cur, rfl, hb, hg, rest⟩
  · simp [Value.ownBlock]
  · intro e
    simp only [Value.ownBlock, Option.some.injEq] at e
    subst e
    rw [hk] at hg
    cases hg
theorem OwnR.text {w : World} {B : Nat} {v : Value} {zs : List Int} (h : OwnR w B v zs) : (convert 70 9 v).run Tryd.prog w = .ok (.string (runesBytes zs)) w := by
  rcases h.shape with ⟨rfl, h0⟩ | ⟨g, cap, rfl, _, _⟩
  · obtain rfl : zs = [] := List.eq_nil_of_length_eq_zero h0
    exact run_convert_runes_nil w _ _ 21 0 0 Tryd.underlying70 Tryd.underlying21 Tryd.underlying9
  · have := run_convert_runes (P := Tryd.prog) w 70 9 21 ⟨g, 0, none⟩ zs.length cap zs (Nat.le_refl _) Tryd.underlying70 Tryd.underlying21 Tryd.underlying9 (fun j hj => by
      rw [show (⟨g, 0, none⟩ : Addr).add j = ⟨g, j, none⟩ from by
        simp only [Addr.add, Nat.zero_add]
        split
        · rename_i e; rw [e]
        · rfl]
      exact h.cell rfl j hj)
    rw [List.take_length] at this
    exact this
theorem Tryd.info_int32 : (Tryd.prog.info? 21).map (fun i => (i.zero, i.size, i.bytes)) = some (some (.int .i32 0), 1, 4) := by kernel_rfl
theorem wpList_appR {ops : Array Oper} {rest : List Oper} {o : Oper} {a : Act} {Q : Exit → Act → World → Prop} (hgd : o.guard = none) (s x : Operand)
    (ho : o.op = .call { callee := .builtin .append, args := #[s, x], argTypes := #[70, 70] })
    (w0 : World) (B : Nat) (v : Value) (zs : List Int) (z : Int) (hs : a.eval s = v) (hx : a.eval x = .slice (some ⟨w0.heap.size, 0, none⟩) 1 1)
    (own : OwnR w0 B v zs) (hB : B ≤ w0.heap.size) (hl : zs.length ≤ 1000000000)
    (h : ∀ v' w', OwnR w' B v' (zs ++ [z]) → Below B w0 w' → (w0.alloc (.cells #[.int .i32 z] 21)).grownBy w' v.ownBlock → wpList Tryd.prog ops Q rest (a.put o.dst v') w') : wpList Tryd.prog ops Q (o :: rest) a (w0.alloc (.cells #[.int .i32 z] 21)) := by
  obtain ⟨i0, hi, hz0, hz1, hz2⟩ := info_parts Tryd.info_int32
  have hown : w0.ownsRow B 21 1 v zs.length (zs.map (Value.int .i32)) := own
  refine wpList_append_own _ hgd s x 70 ho B 21 i0 (.int .i32 0) 1 4 Tryd.underlying70 hi hz0 hz1 hz2 rfl (by decide) v zs.length _ hs (hown.alloc _) ⟨w0.heap.size, 0, none⟩ 1 1 [.int .i32 z] hx rfl ?_ ?_ ?_ ?_ ?_ ?_
  · intro j u hj
    match j, hj with
    | 0, hj => simp at hj; subst hj; simp [Addr.add]
  · intro u hu; simp at hu; subst hu; rfl
  · unfold maxLen; omega
  · omega
  · simp; omega
  · intro v' w' h1 h2 _
    refine h v' w' ?_ (own_grown (Below.refl _ _) hB hown h2) h2
    unfold OwnR
    rw [List.length_append, List.map_append]
    exact h1

def undoL (ts : List Nat) (k : Nat) : List Int := (ts.take k).map fun t => sgZ (other t)
theorem undoL_succ (ts : List Nat) (k : Nat) (hk : k < ts.length) : undoL ts (k + 1) = undoL ts k ++ [sgZ (other (ts.getD k 0))] := by
  unfold undoL
  rw [List.take_succ_eq_append_getElem hk, List.map_append]
  simp only [List.getD_eq_getElem?_getD, List.getElem?_eq_getElem hk, Option.getD_some, List.map_cons, List.map_nil]
theorem length_undoL (ts : List Nat) (k : Nat) (hk : k ≤ ts.length) : (undoL ts k).length = k := by unfold undoL; simp; omega
theorem undoL_all (ts : List Nat) : undoL ts ts.length = (ts.map other).map sgZ := by
  unfold undoL
  rw [List.take_length, List.map_map]
  rfl
theorem iterPos_of {w : World} {k : Nat} {s : ByteArray} {p : Nat} (h : w.heap[k]? = some (.stringIter s p)) : w.iterPos k = p := by unfold World.iterPos; rw [h]

set_option maxRecDepth 20000 in
set_option maxHeartbeats 4000000 in
theorem undone_any (ts : List Nat) (w : World) (hl : ts.length ≤ 60) (h : ∀ t ∈ ts, t < 4) (hT : Tab_signOfTurn w) :
    Calls Tryd.prog 61 #[.string (word ts)] w fun e w' => ∃ v, e = .returned v ∧ OwnR w' w.heap.size v ((ts.map other).map sgZ) ∧ Below w.heap.size w w' := by
  have HB := Lib.hid (word_byte ts h)
  have HA := Lib.hid (word_ascii ts)
  have hz : (word ts).size ≤ 60 := by rw [size_word]; exact hl
  have HZ : Hid (ts.length = (word ts).size) := Lib.hid (size_word ts).symm
  have HG := Lib.hid (getD_lt h (by omega))
  have HN : Hid ((ts.map other).map sgZ = undoL ts (word ts).size) := Lib.hid (by rw [← undoL_all, size_word])
  obtain ⟨s, hs⟩ : ∃ s, s = word ts := ⟨_, rfl⟩
  obtain ⟨lo, hlo⟩ : ∃ n, n = w.heap.size := ⟨_, rfl⟩
  have HLO := Lib.hid hlo
  rw [HN.out]
  rw [← hs] at hz HN HZ ⊢
  have HBS : Hid (∀ k, (hk : k < s.size) → turnI ((s[k]).toNat : Int) = ((ts.getD k 0 : Nat) : Int)) := Lib.hid (by subst hs; exact HB.out)
  have HAS : Hid (∀ k, (hk : k < s.size) → (s[k]).toNat < 128) := Lib.hid (by subst hs; exact HA.out)
  have HT := Lib.hid (fun w2 (hb : Below w.heap.size w w2) => hT.below hb)
  clear hs h hl HB HA hT hlo
  go_enter Tryd.func61, Tryd.ntmps61
  go_wp2
  go_loopw [3, 5] (fun v _ wr => ∃ k : Nat, k ≤ s.size ∧ Hid (OwnR wr w.heap.size v (undoL ts k)) ∧ Hid (wr.heap[w.heap.size]? = some (.stringIter s k)) ∧ Hid (Below w.heap.size w wr)) (fun _ _ wr => s.size - wr.iterPos w.heap.size)
  case atStart => exact ⟨0, Nat.zero_le _, Lib.hid (ownR_nil _ _), Lib.hid (World.iter_heap w s 0), Lib.hid (below_iter w s 0)⟩
  case round =>
    obtain ⟨k, hk, HO, HI, HW⟩ := hrel
    have hsz := HW.out.size
    have hpos := iterPos_of HI.out
    by_cases hlt : k < s.size
    · have hnx : ∀ ty, (Instr.next (.pointer (some ⟨w.heap.size, 0, none⟩)) true ty).run Tryd.prog wr = _ := fun ty => Lib.run_next_ascii_at wr w.heap.size s k ty HI.out hlt (HAS.out k hlt)
      have HI2 := Lib.hid (Lib.iterAt_heap wr w.heap.size s k (k + 1) HI.out)
      have HW2 := Lib.hid (Lib.below_iterAt HW.out (k := w.heap.size) (Nat.le_refl _) s (k + 1))
      have HO2 := Lib.hid (HO.out.iterAt HI.out (k + 1))
      have hNI := Lib.hid (HO2.out.notIter HI2.out)
      obtain ⟨W, hWd⟩ : ∃ W, wr.iterAt w.heap.size s (k + 1) = W := ⟨_, rfl⟩
      rw [hWd] at hnx HI2 HW2 HO2
      have hszW := HW2.out.size
      have hltI : w.heap.size < W.heap.size := (Array.getElem?_eq_some_iff.1 HI2.out).1
      have HLT := Lib.hid hltI
      have TT := Lib.hid (HT.out W HW2.out)
      have HC := Lib.hid (turnOf_any (s[k].toNat : Int) W TT.out)
      rw [HBS.out k hlt] at HC
      have hg := HG.out k
      have HS := Lib.hid (undoL_succ ts k (by have := HZ.out; omega))
      have hll := length_undoL ts k (by have := HZ.out; omega)
      obtain ⟨x, hx⟩ : ∃ x, x = ts.getD k 0 := ⟨_, rfl⟩
      rw [← hx] at HC hg HS
      have HD := Lib.hid (turnBetween_any (x : Int) 0 W (by omega) (by omega) (by omega))
      have e1 : (0 - (x : Int) + 4) % 4 = ((other x : Nat) : Int) := by unfold other; omega
      rw [e1] at HD
      have hy := other_lt x
      have hcell := TT.out.sign (other x) hy
      obtain ⟨y, hyy⟩ : ∃ y, y = other x := ⟨_, rfl⟩
      rw [← hyy] at HD hy hcell HS
      obtain ⟨c, hc⟩ : ∃ c, c = sgZ y := ⟨_, rfl⟩
      rw [← hc] at hcell HS
      have hy0 : (0 : Int) ≤ (y : Int) := by omega
      have hy4 : (y : Int) < 4 := by omega
      have hbl : w.heap.size ≤ W.heap.size := by omega
      have hul : (undoL ts k).length ≤ 1000000000 := by omega
      clear hx hyy hc e1 hWd HO HI HW hll hg TT hltI
      go_wp2_with (first
        | (go_at_call 64; refine HC.out.mono ?_; rintro e w' ⟨rfl, rfl⟩)
        | (go_at_call 67; refine HD.out.mono ?_; rintro e w' ⟨rfl, rfl⟩)
        | (at_builtin; refine wpList_appR rfl _ _ rfl _ _ _ _ _ rfl rfl HO2.out hbl hul ?_; intro v' w5 hO hB5 hG5))
      go_roundw
      case rel =>
        refine ⟨k + 1, by omega, Lib.hid (by rw [HS.out]; exact hO), Lib.hid ?_, Lib.hid (HW2.out.trans hB5)⟩
        exact (hG5.block w.heap.size (by simp; omega) hNI.out).trans ((Below.heap_alloc _ _ _ HLT.out).trans HI2.out)
      case measure =>
        have h5 : w5.heap[w.heap.size]? = some (.stringIter s (k + 1)) := (hG5.block w.heap.size (by simp; omega) hNI.out).trans ((Below.heap_alloc _ _ _ HLT.out).trans HI2.out)
        rw [iterPos_of h5, hpos]
        omega
    · obtain rfl : k = s.size := by omega
      have hnx : ∀ ty, (Instr.next (.pointer (some ⟨w.heap.size, 0, none⟩)) true ty).run Tryd.prog wr = _ := fun ty => Lib.run_next_end_at wr w.heap.size s s.size ty HI.out hlt
      clear hpos
      go_wp2
      go_ret
      exact ⟨_, rfl, HO.out, HW.out⟩

set_option maxRecDepth 20000 in
set_option maxHeartbeats 1000000 in
theorem implMirrorCommands_any (w : World) (s : ByteArray) (_ws : s.size ≤ maxLen) (hls : s.size ≤ 1048576) (hT : Tab_signOfTurn w) :
    Calls Tryd.prog 17 #[.string s] w fun e w' => e = .returned (.tuple #[.string (outMirrorCommands_0 s), .bool (outMirrorCommands_1 s)]) ∧ Below w.heap.size w w' := by
  have HG00 := Lib.hid (implAreCommands_any w s _ws hls hT)
  clear _ws
  rcases hb0 : wordB s with _ | _
  · have H0 : Hid (outMirrorCommands_0 s = ByteArray.empty ∧ outMirrorCommands_1 s = false) := Lib.hid (by unfold outMirrorCommands_0 outMirrorCommands_1; rw [hb0]; exact ⟨rfl, rfl⟩)
    rw [show outAreCommands_0 s = false from hb0] at HG00
    clear hb0 hT
    go_enter Tryd.func17, Tryd.ntmps17
    go_wp2_with (go_at_call 21; refine HG00.out.mono ?_; rintro e w1 ⟨rfl, b1⟩)
    go_ret2
    exact ⟨by rw [H0.out.1, H0.out.2]; exact rfl, b1⟩
  · obtain ⟨ts, rfl, h1, h2⟩ := word_of hb0
    rw [show outAreCommands_0 (word ts) = true from hb0] at HG00
    have H0 : Hid (outMirrorCommands_0 (word ts) = word (ts.map other) ∧ outMirrorCommands_1 (word ts) = true) := Lib.hid (by unfold outMirrorCommands_0 outMirrorCommands_1; rw [hb0, tsOf_word h2]; exact ⟨rfl, rfl⟩)
    have HN := Lib.hid (fun w2 (hb : Below w.heap.size w w2) => undone_any ts w2 h1 h2 (hT.below hb))
    have HR := Lib.hid (runes_word (ts.map other))
    obtain ⟨s, hs⟩ : ∃ s, s = word ts := ⟨_, rfl⟩
    rw [← hs] at HN H0 HG00 ⊢
    clear hb0 hs h2 hT
    go_enter Tryd.func17, Tryd.ntmps17
    go_wp2_with fail
    go_at_call 21
    refine HG00.out.mono ?_
    rintro e w1 ⟨rfl, b1⟩
    have y1 := b1.size
    go_wp2_with fail
    go_at_call 61
    refine (HN.out _ b1).mono ?_
    rintro e w2 ⟨v, rfl, o2, b2⟩
    have hcv := o2.text
    rw [HR.out] at hcv
    clear o2
    go_wp2
    go_ret2
    exact ⟨by rw [H0.out.1, H0.out.2]; exact rfl, b1.trans (b2.mono y1)⟩

set_option maxRecDepth 20000 in
set_option maxHeartbeats 2000000 in
theorem reverseR_any (w : World) (B : Nat) (v : Value) (zs : List Int) (hb : zs.length ≤ 1000000000) (ho : OwnR w B v zs) :
    Calls Tryd.prog 62 #[v] w fun e w' => e = .returned (.tuple #[]) ∧ OwnR w' B v zs.reverse ∧ w.grownBy w' v.ownBlock := by
  rcases ho.shape with ⟨rfl, h0⟩ | ⟨g, cap, rfl, hBg, hgl⟩
  · obtain rfl : zs = [] := List.eq_nil_of_length_eq_zero h0
    have HS := Lib.hid ho
    clear ho h0 hb
    go_enter Tryd.func62, Tryd.ntmps62
    go_wp2
    go_loop [2, 3] (fun i j => i = .int .i64 0 ∧ j = .int .i64 (-1)) (fun _ _ => 0)
    case atStart => exact ⟨rfl, rfl⟩
    case round =>
      obtain ⟨rfl, rfl⟩ := hrel
      go_wp2
      go_end0
      exact ⟨rfl, HS.out, World.grownBy.refl _ _⟩
  · obtain ⟨n, hn⟩ : ∃ n, n = zs.length := ⟨_, rfl⟩
    rw [← hn] at ho hb ⊢
    have HZ := Lib.hid hn
    have HB0 : Hid (OwnR w B (.slice (some ⟨g, 0, none⟩) n cap) (revTo 0 zs 0)) := Lib.hid (by rw [revTo_zero]; exact ho)
    clear ho hn hBg hgl
    go_enter Tryd.func62, Tryd.ntmps62
    go_wp2
    go_loopw [2, 3] (fun i j wr => ∃ k : Nat, 2 * k ≤ n + 1 ∧ i = .int .i64 k ∧ j = .int .i64 ((n : Int) - 1 - k) ∧ Hid (OwnR wr B (.slice (some ⟨g, 0, none⟩) n cap) (revTo 0 zs k)) ∧ Hid (w.grownBy wr (some g))) (fun i _ _ => n + 1 - (intOf i).toNat)
    case atStart => exact ⟨0, by omega, rfl, by simp, HB0, Lib.hid (World.grownBy.refl _ _)⟩
    case round =>
      obtain ⟨k, hk, rfl, rfl, HTr, HG⟩ := hrel
      have hlen : (revTo 0 zs k).length = n := by rw [length_revTo]; exact HZ.out.symm
      by_cases hlt : 2 * k + 1 < n
      · obtain ⟨j, hj⟩ : ∃ j, j + k + 1 = n := ⟨n - 1 - k, by omega⟩
        have ej : ((n : Int) - 1 - k) = (j : Int) := by omega
        rw [ej]
        have hkj : k < j := by omega
        have hjn : j < n := by omega
        have e1 := HTr.out.cell hlen.symm k (by omega)
        have e2 := HTr.out.cell hlen.symm j (by omega)
        have R1 := revTo_succ 0 zs k j (by have := HZ.out; omega) hkj
        obtain ⟨x1, hx1⟩ : ∃ b, b = (revTo 0 zs k).getD k 0 := ⟨_, rfl⟩
        obtain ⟨x2, hx2⟩ : ∃ b, b = (revTo 0 zs k).getD j 0 := ⟨_, rfl⟩
        rw [← hx1] at e1 R1
        rw [← hx2] at e2 R1
        have z1 := HTr.out.free hlen.symm k
        have z2 := HTr.out.free hlen.symm j
        have i1 : (0 : Int) ≤ (k : Int) := by omega
        have i2 : (k : Int) < (n : Int) := by omega
        have i3 : (0 : Int) ≤ (j : Int) := by omega
        have i4 : (j : Int) < (n : Int) := by omega
        have HTr2 : Hid (OwnR ((wr.setCell ⟨g, k, none⟩ (.int .i32 x2)).setCell ⟨g, j, none⟩ (.int .i32 x1)) B (.slice (some ⟨g, 0, none⟩) n cap) (revTo 0 zs (k + 1))) := Lib.hid (by
          rw [← R1]; exact (HTr.out.set hlen.symm k _).set (by rw [List.length_set]; exact hlen.symm) j _)
        have HG2 : Hid (w.grownBy ((wr.setCell ⟨g, k, none⟩ (.int .i32 x2)).setCell ⟨g, j, none⟩ (.int .i32 x1)) (some g)) := Lib.hid (grownBy_trans HG.out (grownBy_trans (set_grown _ _ _ _) (set_grown _ _ _ _)))
        have HJ := Lib.hid hj
        clear ej hj HTr HG hlen R1 hx1 hx2
        go_wp2_with fail
        go_region
        go_wp2
        go_roundw
        case rel => exact ⟨k + 1, by have := HJ.out; omega, by go_num, int_eq (by have := HJ.out; omega), HTr2, Lib.hid ⟨HG2.out.os, HG2.out.tape, HG2.out.output, HG2.out.size, HG2.out.block⟩⟩
        case measure => simp [intOf]; have := HJ.out; omega
      · have H1 : Hid (OwnR wr B (.slice (some ⟨g, 0, none⟩) n cap) zs.reverse) := Lib.hid (by rw [← revTo_all 0 zs k (by have := HZ.out; omega)]; exact HTr.out)
        clear HTr hlen
        go_wp2
        go_end0
        exact ⟨rfl, H1.out, HG.out⟩
set_option maxRecDepth 20000 in
set_option maxHeartbeats 1000000 in
theorem implBackCommands_any (w : World) (s : ByteArray) (_ws : s.size ≤ maxLen) (hls : s.size ≤ 1048576) (hT : Tab_signOfTurn w) :
    Calls Tryd.prog 15 #[.string s] w fun e w' => e = .returned (.tuple #[.string (outBackCommands_0 s), .bool (outBackCommands_1 s)]) ∧ Below w.heap.size w w' := by
  have HG00 := Lib.hid (implAreCommands_any w s _ws hls hT)
  clear _ws
  rcases hb0 : wordB s with _ | _
  · have H0 : Hid (outBackCommands_0 s = ByteArray.empty ∧ outBackCommands_1 s = false) := Lib.hid (by unfold outBackCommands_0 outBackCommands_1; rw [hb0]; exact ⟨rfl, rfl⟩)
    rw [show outAreCommands_0 s = false from hb0] at HG00
    clear hb0 hT
    go_enter Tryd.func15, Tryd.ntmps15
    go_wp2_with (go_at_call 21; refine HG00.out.mono ?_; rintro e w1 ⟨rfl, b1⟩)
    go_ret2
    exact ⟨by rw [H0.out.1, H0.out.2]; exact rfl, b1⟩
  · obtain ⟨ts, rfl, h1, h2⟩ := word_of hb0
    rw [show outAreCommands_0 (word ts) = true from hb0] at HG00
    have H0 : Hid (outBackCommands_0 (word ts) = word ((ts.map other).reverse) ∧ outBackCommands_1 (word ts) = true) := Lib.hid (by unfold outBackCommands_0 outBackCommands_1; rw [hb0, tsOf_word h2]; exact ⟨rfl, rfl⟩)
    have HN := Lib.hid (fun w2 (hb : Below w.heap.size w w2) => undone_any ts w2 h1 h2 (hT.below hb))
    have HR : Hid (runesBytes ((ts.map other).map sgZ).reverse = word ((ts.map other).reverse)) := Lib.hid (by rw [← List.map_reverse]; exact runes_word _)
    have HL : Hid (((ts.map other).map sgZ).length ≤ 1000000000) := Lib.hid (by simp; omega)
    obtain ⟨s, hs⟩ : ∃ s, s = word ts := ⟨_, rfl⟩
    obtain ⟨zs, hzs⟩ : ∃ z, z = (ts.map other).map sgZ := ⟨_, rfl⟩
    rw [← hzs] at HN HR HL
    rw [← hs] at HN H0 HG00 ⊢
    obtain ⟨q, hq⟩ : ∃ s, s = word ((ts.map other).reverse) := ⟨_, rfl⟩
    rw [← hq] at H0 HR
    clear hb0 hs h2 hT hzs hq
    go_enter Tryd.func15, Tryd.ntmps15
    go_wp2_with fail
    go_at_call 21
    refine HG00.out.mono ?_
    rintro e w1 ⟨rfl, b1⟩
    have y1 := b1.size
    go_wp2_with fail
    go_at_call 61
    refine (HN.out _ b1).mono ?_
    rintro e w2 ⟨v, rfl, o2, b2⟩
    have y2 := b2.size
    have B2 := Lib.hid (b1.trans (b2.mono y1))
    have HV := Lib.hid (reverseR_any w2 w1.heap.size v zs HL.out o2)
    have HVB : Hid (∀ k, v.ownBlock = some k → w.heap.size ≤ k) := Lib.hid (fun k hk => Nat.le_trans y1 (World.ownsRow.lt o2 k hk).1)
    clear o2 b1 b2
    go_wp2_with fail
    go_at_call 62
    refine HV.out.mono ?_
    rintro e w3 ⟨rfl, o3, g3⟩
    have hcv := o3.text
    rw [HR.out] at hcv
    have B3 := Lib.hid (B2.out.grown g3 (Nat.le_trans y1 y2) HVB.out)
    clear o3 g3
    go_wp2
    go_ret2
    exact ⟨by rw [H0.out.1, H0.out.2]; exact rfl, B3.out⟩

end Go.Proofs.YtjbomclildkjaaaDoor
