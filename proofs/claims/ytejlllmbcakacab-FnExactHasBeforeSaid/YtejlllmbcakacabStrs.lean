/- The verifier's markText, eqStringS, markStringS and heldStringS at slices that a call made. -/
import Derived.Test.YtejlllmbcakacabSlices
import Derived.Test.YtejlllmbcakacabTroop
import Derived.Deep.RegionHeld3
import Derived.Laws.BytesArg
namespace Go.Proofs.Ytejlllmbcakacab
open Go.ChangeShapes Go.WideShapes Go.ChangeAt Go.RowKit

theorem Try.info_string : (Try.prog.info? 9).map (fun i => (i.zero, i.size, i.bytes)) = some (some (.string ByteArray.empty), 1, 16) := by kernel_rfl

/-- v is a slice of these texts, in memory from B on that a call made -/
def OwnS (w : World) (B : Nat) (v : Value) (zs : List ByteArray) : Prop := w.ownsRow B 9 1 v zs.length (zs.map Value.string)
theorem OwnS.shape {w : World} {B : Nat} {v : Value} {zs : List ByteArray} (h : OwnS w B v zs) :
    (v = .slice none 0 0 ∧ zs.length = 0) ∨ ∃ g cap, v = .slice (some ⟨g, 0, none⟩) zs.length cap ∧ B ≤ g ∧ g < w.heap.size := by
  rcases h.2 with ⟨h1, h2⟩ | ⟨g, cap, cur, hv, hg, hh, _⟩
  · exact .inl ⟨h1, h2⟩
  · exact .inr ⟨g, cap, hv, hg, lt_of_block hh⟩
theorem OwnS.any {w : World} {B : Nat} {v : Value} {zs : List ByteArray} (h : OwnS w B v zs) : ∃ ao cap, v = .slice ao zs.length cap := by
  rcases h.shape with ⟨h1, h2⟩ | ⟨g, cap, h1, _⟩
  · exact ⟨none, 0, by rw [h1, h2]⟩
  · exact ⟨_, _, h1⟩
theorem OwnS.point {w : World} {B : Nat} {v : Value} {zs : List ByteArray} (h : OwnS w B v zs) (hn : 0 < zs.length) : ∃ g cap, v = .slice (some ⟨g, 0, none⟩) zs.length cap ∧ B ≤ g ∧ g < w.heap.size := by
  rcases h.shape with ⟨_, h2⟩ | h1
  · omega
  · exact h1
theorem OwnS.cell {w : World} {B g cap n : Nat} {zs : List ByteArray} (h : OwnS w B (.slice (some ⟨g, 0, none⟩) n cap) zs) (hn : n = zs.length) (j : Nat) (hj : j < zs.length) : w.cell? ⟨g, j, none⟩ = some (.string (zs.getD j ByteArray.empty)) := by
  subst hn
  unfold OwnS at h
  rw [h.cellAt j (by omega)]
  simp [hj]
theorem OwnS.free {w : World} {B g cap n : Nat} {zs : List ByteArray} (h : OwnS w B (.slice (some ⟨g, 0, none⟩) n cap) zs) (hn : n = zs.length) (j : Nat) : w.frozen? ⟨g, j, none⟩ = false := by
  subst hn
  unfold OwnS at h
  exact h.frozenAt j
theorem OwnS.below {w w' : World} {B C : Nat} {v : Value} {zs : List ByteArray} (h : OwnS w B v zs) (hb : Below C w w') (hC : w.heap.size ≤ C) : OwnS w' B v zs := by
  unfold OwnS at h ⊢
  exact h.kept (row := none) ⟨hb.os, hb.tape, hb.output, hb.size, fun k hk _ => hb.block k (by omega)⟩ (by cases v.ownBlock <;> simp)
theorem OwnS.grown {w w' : World} {B : Nat} {v : Value} {zs : List ByteArray} {r : Option Nat} (h : OwnS w B v zs) (hg : w.grownBy w' r) (hr : ∀ k, r = some k → w.heap.size ≤ k ∨ v.ownBlock ≠ some k) : OwnS w' B v zs := by
  unfold OwnS at h ⊢
  refine h.kept hg ?_
  rcases hv : v.ownBlock with _ | b
  · exact .inl rfl
  · refine .inr (fun e => ?_)
    rcases hr b e.symm with h1 | h1
    · have := (World.ownsRow.lt h b hv).2; omega
    · exact h1 hv
theorem OwnS.set {w : World} {B g cap n : Nat} {zs : List ByteArray} (h : OwnS w B (.slice (some ⟨g, 0, none⟩) n cap) zs) (hn : n = zs.length) (j : Nat) (z : ByteArray) : OwnS (w.setCell ⟨g, j, none⟩ (.string z)) B (.slice (some ⟨g, 0, none⟩) n cap) (zs.set j z) := by
  subst hn
  unfold OwnS at h ⊢
  rw [List.length_set, List.map_set]
  exact (h.stored j _).1
theorem ownS_nil (w : World) (B : Nat) : OwnS w B (.slice none 0 0) [] := World.ownsRow_nil _ _ _ _
theorem OwnS.mono {w : World} {B B' : Nat} {v : Value} {zs : List ByteArray} (h : OwnS w B v zs) (hb : B' ≤ B) : OwnS w B' v zs := by
  unfold OwnS at h ⊢
  refine ⟨h.1, ?_⟩
  rcases h.2 with h2 | ⟨g, cap, cur, a, b, r⟩
  · exact .inl h2
  · exact .inr ⟨g, cap, cur, a, Nat.le_trans hb b, r⟩

set_option maxHeartbeats 1000000 in
theorem eqStringS_same (w : World) (B1 B2 : Nat) (v1 v2 : Value) (zs : List ByteArray) (hz : zs.length ≤ 4611686018427387904) (o1 : OwnS w B1 v1 zs) (o2 : OwnS w B2 v2 zs) :
    Calls Try.prog 26 #[v1, v2] w fun e w' => e = .returned (.bool true) ∧ Below w.heap.size w w' := by
  obtain ⟨n, hn⟩ : ∃ n, n = zs.length := ⟨_, rfl⟩
  have HN := Lib.hid hn
  rcases Nat.eq_zero_or_pos zs.length with h0 | h0
  · obtain ⟨a1, c1, rfl⟩ := o1.any
    obtain ⟨a2, c2, rfl⟩ := o2.any
    rw [h0]
    clear o1 o2 hn h0 hz
    go_enter Try.func26, Try.ntmps26
    go_wp2
    go_loop [5] (fun i => i = .int .i64 0) (fun _ => 0)
    case atStart => exact rfl
    case round =>
      obtain rfl := hrel
      go_wp2
      go_ret
      exact ⟨rfl, Below.refl _ _⟩
  · obtain ⟨g1, c1, rfl, _, l1⟩ := o1.point h0
    obtain ⟨g2, c2, rfl, _, l2⟩ := o2.point h0
    rw [← hn] at o1 o2 hz ⊢
    have H1 := Lib.hid o1
    have H2 := Lib.hid o2
    clear hn h0 o1 o2
    go_enter Try.func26, Try.ntmps26
    go_wp2
    go_loopw [5] (fun i wr => ∃ k : Nat, k ≤ n ∧ i = .int .i64 k ∧ Below w.heap.size w wr) (fun i _ => n - (intOf i).toNat)
    case atStart => exact ⟨0, Nat.zero_le _, rfl, Below.refl _ _⟩
    case round =>
      obtain ⟨k, hk, rfl, hb⟩ := hrel
      by_cases hlt : k < n
      · have e1 := (H1.out.below hb (Nat.le_refl _)).cell HN.out k (by have := HN.out; omega)
        have e2 := (H2.out.below hb (Nat.le_refl _)).cell HN.out k (by have := HN.out; omega)
        obtain ⟨z, hzz⟩ : ∃ z, z = zs.getD k ByteArray.empty := ⟨_, rfl⟩
        rw [← hzz] at e1 e2
        have i1 : (0 : Int) ≤ (k : Int) := by omega
        have i2 : (k : Int) < (n : Int) := by omega
        have HB := Lib.hid hb
        clear hzz hb
        go_wp2_with fail
        go_quiet (fail)
        go_wp2
        go_roundw
        case rel => exact ⟨k + 1, by omega, by go_num, below_drewN HB.out _⟩
        case measure => simp [intOf]; omega
      · have HB := Lib.hid hb
        clear hb
        go_wp2
        go_ret
        exact ⟨rfl, HB.out⟩

/-- a number's digits -/
def digits : Nat → Nat → List Int
  | 0, _ => []
  | f + 1, k => if k = 0 then [] else digits f (k / 10) ++ [48 + ((k % 10 : Nat) : Int)]
def markOf (k : Nat) : ByteArray := strOfNums (109 :: digits k k)
theorem digits_more : ∀ (f k : Nat) (r : List Int), 0 < k → digits f (k / 10) ++ ((48 + ((k % 10 : Nat) : Int)) :: r) = digits (f + 1) k ++ r := by
  intro f k r hk
  rw [digits, if_neg (by omega), List.append_assoc]; rfl
theorem digits_fuel : ∀ (f g k : Nat), k ≤ f → k ≤ g → digits f k = digits g k := by
  intro f
  induction f with
  | zero =>
    intro g k h1 h2
    obtain rfl : k = 0 := by omega
    cases g with
    | zero => rfl
    | succ g => rw [digits, digits, if_pos rfl]
  | succ f ih =>
    intro g k h1 h2
    by_cases hk : k = 0
    · subst hk
      cases g with
      | zero => rw [digits, digits, if_pos rfl]
      | succ g => rw [digits, digits, if_pos rfl, if_pos rfl]
    · cases g with
      | zero => omega
      | succ g => rw [digits, digits, if_neg hk, if_neg hk, ih g (k / 10) (by omega) (by omega)]
theorem digits_step (k : Nat) (hk : 0 < k) (r : List Int) : digits (k / 10) (k / 10) ++ ((48 + ((k % 10 : Nat) : Int)) :: r) = digits k k ++ r := by
  obtain ⟨f, rfl⟩ : ∃ f, k = f + 1 := ⟨k - 1, by omega⟩
  rw [digits_fuel ((f + 1) / 10) f _ (by omega) (by omega)]
  exact digits_more f (f + 1) r hk
theorem strOfNums_append (a b : List Int) : strOfNums a ++ strOfNums b = strOfNums (a ++ b) := by
  apply ByteArray.ext
  apply Array.ext'
  simp [strOfNums, ByteArray.data_append]
@[simp] theorem size_strOfNums (a : List Int) : (strOfNums a).size = a.length := strOfNums_size a
theorem str_cons {x : Int} {o : ByteArray} {r : List Int} (ho : o = strOfNums r) : Value.string (strOfNums [x] ++ o) = .string (strOfNums (x :: r)) := by
  rw [ho, strOfNums_append]; rfl
theorem digits_len : ∀ (f k : Nat), (digits f k).length ≤ f
  | 0, _ => by simp [digits]
  | f + 1, k => by
    rw [digits]
    split
    · simp
    · have := digits_len f (k / 10)
      simp; omega

set_option maxHeartbeats 1000000 in
theorem markText_any (k : Nat) (hk : 0 < k) (hk2 : k ≤ 1000000) (w : World) :
    Calls Try.prog 57 #[.int .i64 (k : Int)] w fun e w' => e = .returned (.string (markOf k)) ∧ Below w.heap.size w w' := by
  go_enter Try.func57, Try.ntmps57
  go_wp2
  go_loopw [0, 3] (fun q o wr => ∃ (kj : Nat) (r : List Int), kj ≤ 1000000 ∧ q = .int .i64 (kj : Int) ∧ o = .string (strOfNums r) ∧ digits kj kj ++ r = digits k k ∧ r.length ≤ 1000000 ∧ Below w.heap.size w wr) (fun q _ _ => (intOf q).toNat)
  case atStart => exact ⟨k, [], by omega, rfl, rfl, List.append_nil _, by simp, Below.refl _ _⟩
  case round =>
    obtain ⟨kj, r, hkj, rfl, rfl, hd, hr, hb⟩ := hrel
    obtain ⟨o, ho⟩ : ∃ o, o = strOfNums r := ⟨_, rfl⟩
    rw [← ho]
    have hos : o.size ≤ 1000000 := by rw [ho, size_strOfNums]; exact hr
    have HO := Lib.hid ho
    have HD := Lib.hid hd
    have HB := Lib.hid hb
    have hz := hb.size
    clear ho hd hb
    by_cases h0 : 0 < kj
    · have HS := Lib.hid (digits_step kj h0 r)
      have hm : (kj : Int) % 10 = ((kj % 10 : Nat) : Int) := by omega
      obtain ⟨d, hdd⟩ : ∃ d, d = kj % 10 := ⟨_, rfl⟩
      rw [← hdd] at HS hm
      have hd9 : d ≤ 9 := by omega
      have HE : Hid (digits (kj / 10) (kj / 10) ++ ((48 + (d : Int)) :: r) = digits k k) := by rw [HS.out]; exact HD.out
      have HL : Hid (((48 + (d : Int)) :: r).length ≤ 1000000) := by
        have h1 := congrArg List.length HE.out
        have h2 := digits_len k k
        rw [List.length_append] at h1
        exact Lib.hid (by omega)
      have hconv := run_convert_bytes_arg (P := Try.prog) (wr.alloc (.cells #[.int .u8 (48 + (d : Int))] 5)) 79 5 Try.underlying79 Try.underlying5 wr.heap.size 0 1 1 [48 + (d : Int)] rfl (fun i hi => by
        obtain rfl : i = 0 := by omega
        simp) 9 Try.underlying9
      clear hdd hr
      go_wp2
      go_roundw
      case rel => exact ⟨kj / 10, (48 + (d : Int)) :: r, by omega, int_eq (by omega), str_cons HO.out, by rw [HE.out], HL.out, HB.out.alloc (by omega) _⟩
      case measure => simp [intOf]; omega
    · have hk0 : kj = 0 := by omega
      subst hk0
      have HF : Hid (strOfNums [109] ++ o = markOf k) := by
        rw [HO.out, strOfNums_append]
        unfold markOf
        rw [← HD.out]; exact rfl
      go_wp2
      go_ret
      exact ⟨ret_str HF.out, HB.out⟩

/-- the texts of the marks from k0 on -/
def marksS (k0 n : Nat) : List ByteArray := (List.range n).map fun i => markOf (k0 + i)
@[simp] theorem length_marksS (k0 n : Nat) : (marksS k0 n).length = n := by simp [marksS]
theorem getD_marksS (k0 n j : Nat) (hj : j < n) : (marksS k0 n).getD j ByteArray.empty = markOf (k0 + j) := by simp [marksS, List.getD_eq_getElem?_getD, hj]
def markedS (zs : List ByteArray) (k0 j : Nat) : List ByteArray := (List.range j).map (fun i => markOf (k0 + i)) ++ zs.drop j
theorem length_markedS (zs : List ByteArray) (k0 j : Nat) (hj : j ≤ zs.length) : (markedS zs k0 j).length = zs.length := by simp [markedS]; omega
theorem markedS_zero (zs : List ByteArray) (k0 : Nat) : markedS zs k0 0 = zs := by simp [markedS]
theorem markedS_succ (zs : List ByteArray) (k0 j : Nat) (hj : j < zs.length) : (markedS zs k0 j).set j (markOf (k0 + j)) = markedS zs k0 (j + 1) := by
  unfold markedS
  rw [List.drop_eq_getElem_cons hj, List.range_succ, List.map_append, List.append_assoc, List.set_append_right _ _ (by simp), List.length_map, List.length_range, Nat.sub_self, List.set_cons_zero]
  rfl
theorem markedS_all (zs : List ByteArray) (k0 : Nat) : markedS zs k0 zs.length = marksS k0 zs.length := by simp [markedS, marksS]
theorem sizeOf_mark (k : Nat) (hk : k ≤ 1000000) : (markOf k).size ≤ 1000001 := by
  unfold markOf
  rw [size_strOfNums]
  have := digits_len k k
  simp only [List.length_cons]; omega

set_option maxHeartbeats 2000000 in
theorem markStringS_any (w : World) (B : Nat) (v : Value) (zs : List ByteArray) (hz : zs.length ≤ 900000) (o1 : OwnS w B v zs) :
    Calls Try.prog 27 #[v, .int .i64 1] w fun e w' => e = .returned (.int .i64 (1 + (zs.length : Nat))) ∧ OwnS w' B v (marksS 1 zs.length) ∧ w.grownBy w' v.ownBlock := by
  obtain ⟨n, hn⟩ : ∃ n, n = zs.length := ⟨_, rfl⟩
  have HN := Lib.hid hn
  rcases Nat.eq_zero_or_pos zs.length with h0 | h0
  · have hnil : zs = [] := List.eq_nil_of_length_eq_zero h0
    subst hnil
    obtain ⟨a1, c1, rfl⟩ := o1.any
    have H1 := Lib.hid o1
    clear o1 hn h0 hz HN
    go_enter Try.func27, Try.ntmps27
    go_wp2
    go_loop [1, 5] (fun q i => q = .int .i64 1 ∧ i = .int .i64 0) (fun _ _ => 0)
    case atStart => exact ⟨rfl, rfl⟩
    case round =>
      obtain ⟨rfl, rfl⟩ := hrel
      go_wp2
      go_ret
      exact ⟨ret_int (by simp), H1.out, World.grownBy.refl _ _⟩
  · obtain ⟨g1, c1, rfl, _, l1⟩ := o1.point h0
    rw [← hn] at hz
    have HE : Hid (markedS zs 1 n = marksS 1 n) := by rw [hn]; exact markedS_all zs 1
    have H0 : Hid (OwnS w B (.slice (some ⟨g1, 0, none⟩) n c1) (markedS zs 1 0)) := by rw [markedS_zero, hn]; exact o1
    rw [← hn]
    clear hn h0 o1
    go_enter Try.func27, Try.ntmps27
    go_wp2
    go_loopw [1, 5] (fun q i wr => ∃ k : Nat, k ≤ n ∧ i = .int .i64 k ∧ q = .int .i64 ((k : Int) + 1) ∧ OwnS wr B (.slice (some ⟨g1, 0, none⟩) n c1) (markedS zs 1 k) ∧ w.grownBy wr (some g1)) (fun _ i _ => n - (intOf i).toNat)
    case atStart => exact ⟨0, Nat.zero_le _, rfl, by simp, H0.out, World.grownBy.refl _ _⟩
    case round =>
      obtain ⟨k, hk, rfl, rfl, ho, hG⟩ := hrel
      have hl := length_markedS zs 1 k (by have := HN.out; omega)
      by_cases hlt : k < n
      · have HM := Lib.hid (fun w2 => markText_any (k + 1) (by omega) (by omega) w2)
        have ek : ((k + 1 : Nat) : Int) = (k : Int) + 1 := by omega
        rw [ek] at HM
        have HO := Lib.hid ho
        have HG := Lib.hid hG
        clear ho hG ek
        go_wp2_with fail
        go_at_call 57
        refine (HM.out _).mono ?_
        rintro e w2 ⟨rfl, hb2⟩
        have ho2 := HO.out.below hb2 (Nat.le_refl _)
        have hG2 : w.grownBy w2 (some g1) := grownBy_trans HG.out (below_grownBy hb2 _)
        have e1 := ho2.cell (by have := HN.out; omega) k (by have := HN.out; omega)
        have f1 := ho2.free (by have := HN.out; omega) k
        obtain ⟨z, hzz⟩ : ∃ z, z = (markedS zs 1 k).getD k ByteArray.empty := ⟨_, rfl⟩
        rw [← hzz] at e1
        have HS : Hid (OwnS (w2.setCell ⟨g1, k, none⟩ (.string (markOf (k + 1)))) B (.slice (some ⟨g1, 0, none⟩) n c1) (markedS zs 1 (k + 1))) := by
          rw [← markedS_succ zs 1 k (by have := HN.out; omega), Nat.add_comm 1 k]; exact ho2.set (by have := HN.out; omega) k _
        have HGS : Hid (w.grownBy (w2.setCell ⟨g1, k, none⟩ (.string (markOf (k + 1)))) (some g1)) := grownBy_trans hG2 (set_grown _ _ _ _)
        clear hzz ho2 hG2 hb2 hl
        go_wp2
        go_roundw
        case rel => exact ⟨k + 1, by omega, by go_num, int_eq (by omega), HS.out, HGS.out⟩
        case measure => simp [intOf]; omega
      · have hkn : k = n := by omega
        have HO : Hid (OwnS wr B (.slice (some ⟨g1, 0, none⟩) n c1) (marksS 1 n)) := by rw [← HE.out, ← hkn]; exact hkn ▸ ho
        have HG := Lib.hid hG
        have hkn2 : Hid ((k : Int) = (n : Int)) := Lib.hid (by omega)
        clear hkn ho hG hl
        go_wp2
        go_ret
        exact ⟨ret_int (by rw [hkn2.out]; omega), HO.out, HG.out⟩

theorem keep_one {w w' : World} {g a : Nat} {x : Value} (hb : Below w.heap.size w w') (hg : g < w.heap.size) (h : w.cell? ⟨g, a, none⟩ = some x) : w'.cell? ⟨g, a, none⟩ = some x := (hb.cell (p := ⟨g, a, none⟩) hg).trans h

set_option maxHeartbeats 2000000 in
theorem heldStringS_any (w : World) (B : Nat) (v : Value) (n : Nat) (hz : n ≤ 900000) (o1 : OwnS w B v (marksS 1 n)) :
    Calls Try.prog 28 #[v, .int .i64 1] w fun e w' => e = .returned (.int .i64 (1 + (n : Nat))) ∧ Below w.heap.size w w' := by
  rcases Nat.eq_zero_or_pos n with h0 | h0
  · subst h0
    obtain ⟨a1, c1, rfl⟩ := o1.any
    rw [length_marksS]
    clear o1 hz
    go_enter Try.func28, Try.ntmps28
    go_wp2
    go_loop [1, 5] (fun q i => q = .int .i64 1 ∧ i = .int .i64 0) (fun _ _ => 0)
    case atStart => exact ⟨rfl, rfl⟩
    case round =>
      obtain ⟨rfl, rfl⟩ := hrel
      go_wp2
      go_ret
      exact ⟨ret_int (by simp), Below.refl _ _⟩
  · obtain ⟨g1, c1, rfl, _, l1⟩ := o1.point (by rw [length_marksS]; exact h0)
    rw [length_marksS] at o1 ⊢
    have H1 := Lib.hid o1
    clear o1
    go_enter Try.func28, Try.ntmps28
    go_wp2
    go_loopw [1, 5] (fun q i wr => ∃ k : Nat, k ≤ n ∧ i = .int .i64 k ∧ q = .int .i64 ((k : Int) + 1) ∧ Below w.heap.size w wr) (fun _ i _ => n - (intOf i).toNat)
    case atStart => exact ⟨0, Nat.zero_le _, rfl, by simp, Below.refl _ _⟩
    case round =>
      obtain ⟨k, hk, rfl, rfl, hb⟩ := hrel
      by_cases hlt : k < n
      · have e1 := (H1.out.below hb (Nat.le_refl _)).cell (length_marksS 1 n).symm k (by rw [length_marksS]; exact hlt)
        rw [getD_marksS 1 n k hlt, Nat.add_comm 1 k] at e1
        have HM := Lib.hid (fun w2 => markText_any (k + 1) (by omega) (by omega) w2)
        have ek : ((k + 1 : Nat) : Int) = (k : Int) + 1 := by omega
        rw [ek] at HM
        obtain ⟨z, hzz⟩ : ∃ z, z = markOf (k + 1) := ⟨_, rfl⟩
        rw [← hzz] at e1 HM
        have i1 : (0 : Int) ≤ (k : Int) := by omega
        have i2 : (k : Int) < (n : Int) := by omega
        have hgw : g1 < wr.heap.size := by have := hb.size; omega
        have HB := Lib.hid hb
        clear hzz hb ek
        go_wp2_with fail
        go_region_held3 (fun w' => w'.cell? ⟨g1, k, none⟩ = some (.string z)) (first | go_keep | (exact keep_one hb1 (by simp; omega) (by assumption)))
          (first | (go_at_call 57; refine (HM.out _).mono ?_; rintro e w' ⟨rfl, hb1⟩))
        have HB1 := Lib.hid (below_kept HB.out hb1 (Nat.le_refl _))
        clear hb1
        go_wp2
        go_roundw
        case rel => exact ⟨k + 1, by omega, by go_num, int_eq (by omega), HB1.out⟩
        case measure => simp [intOf]; omega
      · have hkn2 : Hid ((k : Int) = (n : Int)) := Lib.hid (by omega)
        have HB := Lib.hid hb
        clear hb
        go_wp2
        go_ret
        exact ⟨ret_int (by rw [hkn2.out]; omega), HB.out⟩

end Go.Proofs.Ytejlllmbcakacab
