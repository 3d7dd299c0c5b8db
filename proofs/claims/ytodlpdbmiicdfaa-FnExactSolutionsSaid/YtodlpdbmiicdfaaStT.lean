/- The verifier's eqStringS, markStringS and heldStringS at texts that a call made. -/
import Derived.Test.YtodlpdbmiicdfaaKinds
import Derived.Test.YtodlpdbmiicdfaaMark
import Derived.Test.YtodlpdbmiicdfaaStr
import Derived.Deep.RegionHeld3
import Derived.Laws.BytesArg
namespace Go.Proofs.Ytodlpdbmiicdfaa
open Go.ChangeShapes Go.WideShapes Go.ChangeAt Go.RowKit

theorem OwnT.shape {w : World} {B : Nat} {v : Value} {zs : List ByteArray} (h : OwnT w B v zs) :
    (v = .slice none 0 0 ∧ zs.length = 0) ∨ ∃ g cap, v = .slice (some ⟨g, 0, none⟩) zs.length cap ∧ B ≤ g ∧ g < w.heap.size := by
  rcases h.2 with ⟨h1, h2⟩ | ⟨g, cap, cur, hv, hg, hh, _⟩
  · exact .inl ⟨h1, h2⟩
  · exact .inr ⟨g, cap, hv, hg, lt_of_block hh⟩
theorem OwnT.any {w : World} {B : Nat} {v : Value} {zs : List ByteArray} (h : OwnT w B v zs) : ∃ ao cap, v = .slice ao zs.length cap := by
  rcases h.shape with ⟨h1, h2⟩ | ⟨g, cap, h1, _⟩
  · exact ⟨none, 0, by rw [h1, h2]⟩
  · exact ⟨_, _, h1⟩
theorem OwnT.point {w : World} {B : Nat} {v : Value} {zs : List ByteArray} (h : OwnT w B v zs) (hn : 0 < zs.length) : ∃ g cap, v = .slice (some ⟨g, 0, none⟩) zs.length cap ∧ B ≤ g ∧ g < w.heap.size := by
  rcases h.shape with ⟨_, h2⟩ | h1
  · omega
  · exact h1
theorem OwnT.cell {w : World} {B g cap n : Nat} {zs : List ByteArray} (h : OwnT w B (.slice (some ⟨g, 0, none⟩) n cap) zs) (hn : n = zs.length) (j : Nat) (hj : j < zs.length) : w.cell? ⟨g, j, none⟩ = some (.string (zs.getD j ByteArray.empty)) := by
  subst hn
  unfold OwnT at h
  rw [h.cellAt j (by omega)]
  simp [hj]
theorem OwnT.free {w : World} {B g cap n : Nat} {zs : List ByteArray} (h : OwnT w B (.slice (some ⟨g, 0, none⟩) n cap) zs) (hn : n = zs.length) (j : Nat) : w.frozen? ⟨g, j, none⟩ = false := by
  subst hn
  unfold OwnT at h
  exact h.frozenAt j
theorem OwnT.grown {w w' : World} {B : Nat} {v : Value} {zs : List ByteArray} {r : Option Nat} (h : OwnT w B v zs) (hg : w.grownBy w' r) (hr : ∀ k, r = some k → w.heap.size ≤ k ∨ v.ownBlock ≠ some k) : OwnT w' B v zs := by
  unfold OwnT at h ⊢
  refine h.kept hg ?_
  rcases hv : v.ownBlock with _ | b
  · exact .inl rfl
  · refine .inr (fun e => ?_)
    rcases hr b e.symm with h1 | h1
    · have := (World.ownsRow.lt h b hv).2; omega
    · exact h1 hv
theorem OwnT.set {w : World} {B g cap n : Nat} {zs : List ByteArray} (h : OwnT w B (.slice (some ⟨g, 0, none⟩) n cap) zs) (hn : n = zs.length) (j : Nat) (z : ByteArray) : OwnT (w.setCell ⟨g, j, none⟩ (.string z)) B (.slice (some ⟨g, 0, none⟩) n cap) (zs.set j z) := by
  subst hn
  unfold OwnT at h ⊢
  rw [List.length_set, List.map_set]
  exact (h.stored j _).1
set_option maxHeartbeats 1000000 in
theorem eqStringS_same (w : World) (B1 B2 : Nat) (v1 v2 : Value) (zs : List ByteArray) (hz : zs.length ≤ 4611686018427387904) (o1 : OwnT w B1 v1 zs) (o2 : OwnT w B2 v2 zs) :
    Calls Try.prog 31 #[v1, v2] w fun e w' => e = .returned (.bool true) ∧ Below w.heap.size w w' := by
  obtain ⟨n, hn⟩ : ∃ n, n = zs.length := ⟨_, rfl⟩
  have HN := Lib.hid hn
  rcases Nat.eq_zero_or_pos zs.length with h0 | h0
  · obtain ⟨a1, c1, rfl⟩ := o1.any
    obtain ⟨a2, c2, rfl⟩ := o2.any
    rw [h0]
    clear o1 o2 hn h0 hz
    go_enter Try.func31, Try.ntmps31
    go_wp2
    go_loop [5] (fun i => i = .int .i64 0) (fun _ => 0)
    case atStart => exact rfl
    case round =>
      obtain rfl := hrel
      go_wp2
      go_ret
      exact ⟨rfl, Below.refl _ _⟩
  · obtain ⟨g1, c1, rfl, _, l1⟩ := o1.point h0
    obtain ⟨g2, c2, rfl, _, l2⟩ := o2.point h0
    rw [← hn] at o1 o2 hz ⊢
    have H1 := Lib.hid o1
    have H2 := Lib.hid o2
    clear hn h0 o1 o2
    go_enter Try.func31, Try.ntmps31
    go_wp2
    go_loopw [5] (fun i wr => ∃ k : Nat, k ≤ n ∧ i = .int .i64 k ∧ Below w.heap.size w wr) (fun i _ => n - (intOf i).toNat)
    case atStart => exact ⟨0, Nat.zero_le _, rfl, Below.refl _ _⟩
    case round =>
      obtain ⟨k, hk, rfl, hb⟩ := hrel
      by_cases hlt : k < n
      · have e1 := (H1.out.below hb (Nat.le_refl _)).cell HN.out k (by have := HN.out; omega)
        have e2 := (H2.out.below hb (Nat.le_refl _)).cell HN.out k (by have := HN.out; omega)
        obtain ⟨z, hzz⟩ : ∃ z, z = zs.getD k ByteArray.empty := ⟨_, rfl⟩
        rw [← hzz] at e1 e2
        have i1 : (0 : Int) ≤ (k : Int) := by omega
        have i2 : (k : Int) < (n : Int) := by omega
        have HB := Lib.hid hb
        clear hzz hb
        go_wp2_with fail
        go_quiet (fail)
        go_wp2
        go_roundw
        case rel => exact ⟨k + 1, by omega, by go_num, below_drewN HB.out _⟩
        case measure => simp [intOf]; omega
      · have HB := Lib.hid hb
        clear hb
        go_wp2
        go_ret
        exact ⟨rfl, HB.out⟩

/-- the texts of the marks from k0 on -/
def marksS (k0 n : Nat) : List ByteArray := (List.range n).map fun i => markOf (k0 + i)
@[simp] theorem length_marksS (k0 n : Nat) : (marksS k0 n).length = n := by simp [marksS]
theorem getD_marksS (k0 n j : Nat) (hj : j < n) : (marksS k0 n).getD j ByteArray.empty = markOf (k0 + j) := by simp [marksS, List.getD_eq_getElem?_getD, hj]
def markedS (zs : List ByteArray) (k0 j : Nat) : List ByteArray := (List.range j).map (fun i => markOf (k0 + i)) ++ zs.drop j
theorem length_markedS (zs : List ByteArray) (k0 j : Nat) (hj : j ≤ zs.length) : (markedS zs k0 j).length = zs.length := by simp [markedS]; omega
theorem markedS_zero (zs : List ByteArray) (k0 : Nat) : markedS zs k0 0 = zs := by simp [markedS]
theorem markedS_succ (zs : List ByteArray) (k0 j : Nat) (hj : j < zs.length) : (markedS zs k0 j).set j (markOf (k0 + j)) = markedS zs k0 (j + 1) := by
  unfold markedS
  rw [List.drop_eq_getElem_cons hj, List.range_succ, List.map_append, List.append_assoc, List.set_append_right _ _ (by simp), List.length_map, List.length_range, Nat.sub_self, List.set_cons_zero]
  rfl
theorem markedS_all (zs : List ByteArray) (k0 : Nat) : markedS zs k0 zs.length = marksS k0 zs.length := by simp [markedS, marksS]
set_option maxHeartbeats 2000000 in
theorem markStringS_any (w : World) (B : Nat) (v : Value) (zs : List ByteArray) (hz : zs.length ≤ 1048576) (o1 : OwnT w B v zs) :
    Calls Try.prog 32 #[v, .int .i64 1] w fun e w' => e = .returned (.int .i64 (1 + (zs.length : Nat))) ∧ OwnT w' B v (marksS 1 zs.length) ∧ w.grownBy w' v.ownBlock := by
  obtain ⟨n, hn⟩ : ∃ n, n = zs.length := ⟨_, rfl⟩
  have HN := Lib.hid hn
  rcases Nat.eq_zero_or_pos zs.length with h0 | h0
  · have hnil : zs = [] := List.eq_nil_of_length_eq_zero h0
    subst hnil
    obtain ⟨a1, c1, rfl⟩ := o1.any
    have H1 := Lib.hid o1
    clear o1 hn h0 hz HN
    go_enter Try.func32, Try.ntmps32
    go_wp2
    go_loop [1, 5] (fun q i => q = .int .i64 1 ∧ i = .int .i64 0) (fun _ _ => 0)
    case atStart => exact ⟨rfl, rfl⟩
    case round =>
      obtain ⟨rfl, rfl⟩ := hrel
      go_wp2
      go_ret
      exact ⟨ret_int (by simp), H1.out, World.grownBy.refl _ _⟩
  · obtain ⟨g1, c1, rfl, _, l1⟩ := o1.point h0
    rw [← hn] at hz
    have HE : Hid (markedS zs 1 n = marksS 1 n) := by rw [hn]; exact markedS_all zs 1
    have H0 : Hid (OwnT w B (.slice (some ⟨g1, 0, none⟩) n c1) (markedS zs 1 0)) := by rw [markedS_zero, hn]; exact o1
    rw [← hn]
    clear hn h0 o1
    go_enter Try.func32, Try.ntmps32
    go_wp2
    go_loopw [1, 5] (fun q i wr => ∃ k : Nat, k ≤ n ∧ i = .int .i64 k ∧ q = .int .i64 ((k : Int) + 1) ∧ OwnT wr B (.slice (some ⟨g1, 0, none⟩) n c1) (markedS zs 1 k) ∧ w.grownBy wr (some g1)) (fun _ i _ => n - (intOf i).toNat)
    case atStart => exact ⟨0, Nat.zero_le _, rfl, by simp, H0.out, World.grownBy.refl _ _⟩
    case round =>
      obtain ⟨k, hk, rfl, rfl, ho, hG⟩ := hrel
      have hl := length_markedS zs 1 k (by have := HN.out; omega)
      by_cases hlt : k < n
      · have HM := Lib.hid (fun w2 => markText_any (k + 1) (by omega) (by omega) w2)
        have ek : ((k + 1 : Nat) : Int) = (k : Int) + 1 := by omega
        rw [ek] at HM
        have HO := Lib.hid ho
        have HG := Lib.hid hG
        clear ho hG ek
        go_wp2_with fail
        go_at_call 63
        refine (HM.out _).mono ?_
        rintro e w2 ⟨rfl, hb2⟩
        have ho2 := HO.out.below hb2 (Nat.le_refl _)
        have hG2 : w.grownBy w2 (some g1) := grownBy_trans HG.out (below_grownBy hb2 _)
        have e1 := ho2.cell (by have := HN.out; omega) k (by have := HN.out; omega)
        have f1 := ho2.free (by have := HN.out; omega) k
        obtain ⟨z, hzz⟩ : ∃ z, z = (markedS zs 1 k).getD k ByteArray.empty := ⟨_, rfl⟩
        rw [← hzz] at e1
        have HS : Hid (OwnT (w2.setCell ⟨g1, k, none⟩ (.string (markOf (k + 1)))) B (.slice (some ⟨g1, 0, none⟩) n c1) (markedS zs 1 (k + 1))) := by
          rw [← markedS_succ zs 1 k (by have := HN.out; omega), Nat.add_comm 1 k]; exact ho2.set (by have := HN.out; omega) k _
        have HGS : Hid (w.grownBy (w2.setCell ⟨g1, k, none⟩ (.string (markOf (k + 1)))) (some g1)) := grownBy_trans hG2 (set_grown _ _ _ _)
        clear hzz ho2 hG2 hb2 hl
        go_wp2
        go_roundw
        case rel => exact ⟨k + 1, by omega, by go_num, int_eq (by omega), HS.out, HGS.out⟩
        case measure => simp [intOf]; omega
      · have hkn : k = n := by omega
        have HO : Hid (OwnT wr B (.slice (some ⟨g1, 0, none⟩) n c1) (marksS 1 n)) := by rw [← HE.out, ← hkn]; exact hkn ▸ ho
        have HG := Lib.hid hG
        have hkn2 : Hid ((k : Int) = (n : Int)) := Lib.hid (by omega)
        clear hkn ho hG hl
        go_wp2
        go_ret
        exact ⟨ret_int (by rw [hkn2.out]; omega), HO.out, HG.out⟩

theorem keep_one {w w' : World} {g a : Nat} {x : Value} (hb : Below w.heap.size w w') (hg : g < w.heap.size) (h : w.cell? ⟨g, a, none⟩ = some x) : w'.cell? ⟨g, a, none⟩ = some x := (hb.cell (p := ⟨g, a, none⟩) hg).trans h

set_option maxHeartbeats 2000000 in
theorem heldStringS_any (w : World) (B : Nat) (v : Value) (n : Nat) (hz : n ≤ 1048576) (o1 : OwnT w B v (marksS 1 n)) :
    Calls Try.prog 33 #[v, .int .i64 1] w fun e w' => e = .returned (.int .i64 (1 + (n : Nat))) ∧ Below w.heap.size w w' := by
  rcases Nat.eq_zero_or_pos n with h0 | h0
  · subst h0
    obtain ⟨a1, c1, rfl⟩ := o1.any
    rw [length_marksS]
    clear o1 hz
    go_enter Try.func33, Try.ntmps33
    go_wp2
    go_loop [1, 5] (fun q i => q = .int .i64 1 ∧ i = .int .i64 0) (fun _ _ => 0)
    case atStart => exact ⟨rfl, rfl⟩
    case round =>
      obtain ⟨rfl, rfl⟩ := hrel
      go_wp2
      go_ret
      exact ⟨ret_int (by simp), Below.refl _ _⟩
  · obtain ⟨g1, c1, rfl, _, l1⟩ := o1.point (by rw [length_marksS]; exact h0)
    rw [length_marksS] at o1 ⊢
    have H1 := Lib.hid o1
    clear o1
    go_enter Try.func33, Try.ntmps33
    go_wp2
    go_loopw [1, 5] (fun q i wr => ∃ k : Nat, k ≤ n ∧ i = .int .i64 k ∧ q = .int .i64 ((k : Int) + 1) ∧ Below w.heap.size w wr) (fun _ i _ => n - (intOf i).toNat)
    case atStart => exact ⟨0, Nat.zero_le _, rfl, by simp, Below.refl _ _⟩
    case round =>
      obtain ⟨k, hk, rfl, rfl, hb⟩ := hrel
      by_cases hlt : k < n
      · have e1 := (H1.out.below hb (Nat.le_refl _)).cell (length_marksS 1 n).symm k (by rw [length_marksS]; exact hlt)
        rw [getD_marksS 1 n k hlt, Nat.add_comm 1 k] at e1
        have HM := Lib.hid (fun w2 => markText_any (k + 1) (by omega) (by omega) w2)
        have ek : ((k + 1 : Nat) : Int) = (k : Int) + 1 := by omega
        rw [ek] at HM
        obtain ⟨z, hzz⟩ : ∃ z, z = markOf (k + 1) := ⟨_, rfl⟩
        rw [← hzz] at e1 HM
        have i1 : (0 : Int) ≤ (k : Int) := by omega
        have i2 : (k : Int) < (n : Int) := by omega
        have hgw : g1 < wr.heap.size := by have := hb.size; omega
        have HB := Lib.hid hb
        clear hzz hb ek
        go_wp2_with fail
        go_region_held3 (fun w' => w'.cell? ⟨g1, k, none⟩ = some (.string z)) (first | go_keep | (exact keep_one hb1 (by simp; omega) (by assumption)))
          (first | (go_at_call 63; refine (HM.out _).mono ?_; rintro e w' ⟨rfl, hb1⟩))
        have HB1 := Lib.hid (below_kept HB.out hb1 (Nat.le_refl _))
        clear hb1
        go_wp2
        go_roundw
        case rel => exact ⟨k + 1, by omega, by go_num, int_eq (by omega), HB1.out⟩
        case measure => simp [intOf]; omega
      · have hkn2 : Hid ((k : Int) = (n : Int)) := Lib.hid (by omega)
        have HB := Lib.hid hb
        clear hb
        go_wp2
        go_ret
        exact ⟨ret_int (by rw [hkn2.out]; omega), HB.out⟩

/-- v is a slice of these texts, in memory from lo to hi that a call made -/
def OwnIT (w : World) (lo hi : Nat) (v : Value) (zs : List ByteArray) : Prop := OwnT w lo v zs ∧ ∀ k, v.ownBlock = some k → k < hi
theorem OwnIT.of {w : World} {lo : Nat} {v : Value} {zs : List ByteArray} (h : OwnT w lo v zs) : OwnIT w lo w.heap.size v zs := ⟨h, fun k hk => (World.ownsRow.lt h k hk).2⟩
theorem ownT_block {w w' : World} {lo : Nat} {v : Value} {zs : List ByteArray} (h : OwnT w lo v zs) (hb : ∀ k, v.ownBlock = some k → w'.heap[k]? = w.heap[k]?) : OwnT w' lo v zs := by
  unfold OwnT at h ⊢
  obtain ⟨e0, e1⟩ := h
  refine ⟨e0, ?_⟩
  rcases e1 with e1 | ⟨g, cap, cur, e1, e2, e3, e4⟩
  · exact .inl e1
  · subst e1
    exact .inr ⟨g, cap, cur, rfl, e2, by rw [hb g rfl]; exact e3, e4⟩
theorem OwnIT.below {w w' : World} {C lo hi : Nat} {v : Value} {zs : List ByteArray} (h : OwnIT w lo hi v zs) (hb : Below C w w') (hC : hi ≤ C) : OwnIT w' lo hi v zs :=
  ⟨ownT_block h.1 (fun k hk => hb.block k (by have := h.2 k hk; omega)), h.2⟩
theorem OwnIT.betw {w w' : World} {l h lo hi : Nat} {v : Value} {zs : List ByteArray} (ho : OwnIT w lo hi v zs) (hb : Betw l h w w') (hd : h ≤ lo ∨ hi ≤ l) (_hs : hi ≤ w.heap.size) : OwnIT w' lo hi v zs :=
  ⟨ownT_block ho.1 (fun k hk => by have h1 := ho.2 k hk; have h2 := World.ownsRow.lt ho.1 k hk; exact hb.block k h2.2 (by omega)), ho.2⟩
theorem eqStringS_two (w : World) (lo hi lo' hi' : Nat) (v1 v2 : Value) (zs : List ByteArray) (hz : zs.length ≤ 4611686018427387904) (o1 : OwnIT w lo hi v1 zs) (o2 : OwnIT w lo' hi' v2 zs) :
    Calls Try.prog 31 #[v1, v2] w fun e w' => e = .returned (.bool true) ∧ Below w.heap.size w w' := eqStringS_same w lo lo' v1 v2 zs hz o1.1 o2.1
theorem markStringS_in (w : World) (lo hi : Nat) (v : Value) (zs : List ByteArray) (hz : zs.length ≤ 1048576) (o1 : OwnIT w lo hi v zs) :
    Calls Try.prog 32 #[v, .int .i64 1] w fun e w' => e = .returned (.int .i64 (1 + (zs.length : Nat))) ∧ OwnIT w' lo hi v (marksS 1 zs.length) ∧ Betw lo hi w w' :=
  (markStringS_any w lo v zs hz o1.1).mono fun _ _ ⟨he, ho, hg⟩ => ⟨he, ⟨ho, o1.2⟩, Betw.of_grown hg (fun k hk => ⟨(World.ownsRow.lt o1.1 k hk).1, o1.2 k hk⟩)⟩
theorem heldStringS_in (w : World) (lo hi : Nat) (v : Value) (n : Nat) (hz : n ≤ 1048576) (o1 : OwnIT w lo hi v (marksS 1 n)) :
    Calls Try.prog 33 #[v, .int .i64 1] w fun e w' => e = .returned (.int .i64 (1 + (n : Nat))) ∧ Below w.heap.size w w' := heldStringS_any w lo v n hz o1.1

end Go.Proofs.Ytodlpdbmiicdfaa
