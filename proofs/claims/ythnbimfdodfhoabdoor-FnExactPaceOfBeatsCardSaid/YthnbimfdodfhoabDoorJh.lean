/- Chapter 5, the program: hasBeats, PaceOfBeats. -/
import Derived.Test.YthnbimfdodfhoabDoorJa
import Derived.Test.YthnbimfdodfhoabDoorPm
import Derived.Test.YthnbimfdodfhoabDoorLw
import Derived.Lib.SlTrimSet
import Derived.Lib.Bytealg
namespace Go.Proofs.YthnbimfdodfhoabDoor
open Go.ChangeShapes Go.WideShapes Go.ChangeAt Go.RowKit
open Dr Pa

namespace Pa
theorem many_one (e f i : Nat) : many [(e, f)] i = if i % e = f then 1 else 0 := by
  unfold many onL onTo
  rw [asInts_len]
  by_cases h : i % e = f
  · rw [if_pos h]; simp [h]
  · rw [if_neg h]; simp [h]
theorem beatTo_txt {g : Nat → Nat} (h : ∀ t, g t ≤ 6) : ∀ n, beatTo g n = txt ((List.range n).map fun i => dg (g i))
  | 0 => rfl
  | n + 1 => by
    rw [beatTo, beatTo_txt h n, numL_small (by have := h n; omega), txt_append, List.range_succ, List.map_append]; rfl
theorem txt_inj {l : List UInt8} {s : ByteArray} : txt l = s ↔ l = s.data.toList := by
  constructor
  · rintro rfl; rfl
  · rintro rfl; exact (txt_all s).symm
/-- the sign of a time -/
def sgn (e f i : Nat) : UInt8 := if i % e = f then 49 else 48
theorem beatB_iff {s : ByteArray} {e f : Nat} : beatB s e f = true ↔ ∀ i (h : i < s.size), s[i] = sgn e f i := by
  unfold beatB
  rw [decide_eq_true_iff, beatTo_txt (fun t => by rw [many_one]; split <;> omega), txt_inj]
  have hd : ∀ i, dg (many [(e, f)] i) = sgn e f i := fun i => by
    rw [many_one]; unfold sgn
    by_cases h : i % e = f
    · rw [if_pos h, if_pos h]; rfl
    · rw [if_neg h, if_neg h]; rfl
  have hl : s.data.toList.length = s.size := Array.length_toList
  constructor
  · intro h i hi
    have h2 : s.data.toList[i]'(by rw [hl]; exact hi) = sgn e f i := by
      rw [← hd i]
      have := congrArg (fun l : List UInt8 => l[i]?) h
      simp only [List.getElem?_map, List.getElem?_range hi, Option.map_some] at this
      rw [List.getElem?_eq_getElem (by rw [hl]; exact hi)] at this
      exact (Option.some.inj this).symm
    rw [← h2]; exact (Array.getElem_toList _).symm
  · intro h
    refine List.ext_getElem (by rw [List.length_map, List.length_range, hl]) (fun i h1 h2 => ?_)
    rw [List.getElem_map, List.getElem_range, hd i, ← h i (by rw [← hl]; exact h2)]
    exact (Array.getElem_toList _).symm
/-- all signs are 0 or 1 -/
def Bits (s : ByteArray) : Prop := ∀ i (h : i < s.size), s[i] = 48 ∨ s[i] = 49
theorem not_bits {s : ByteArray} (h : ¬ Bits s) (e f : Nat) : beatB s e f = false := by
  rcases hb : beatB s e f with _ | _
  · rfl
  · refine absurd (fun i hi => ?_) h
    rw [beatB_iff.1 hb i hi]; unfold sgn
    split
    · exact .inr rfl
    · exact .inl rfl
theorem firstP_none {p : Nat → Nat → Bool} : ∀ n, (∀ e f, 1 ≤ e → e ≤ n → f < e → p e f = false) → firstP p n = none
  | 0, _ => rfl
  | n + 1, h => firstP_miss (firstP_none n (fun e f h1 h2 h3 => h e f h1 (by omega) h3)) (fun j hj => h (n + 1) j (by omega) (Nat.le_refl _) hj)
/-- where the first 1 is, or behind all -/
structure Start (s : ByteArray) (k : Nat) : Prop where
  le : k ≤ s.size
  zero : ∀ i (h : i < s.size), i < k → s[i] ≠ 49
  one : ∀ (h : k < s.size), s[k] = 49
theorem start_only {s : ByteArray} {k e f : Nat} (hs : Start s k) (hf : f < e) (h : beatB s e f = true) : k ≤ f ∧ (f = k ∨ s.size = k) := by
  have hb := beatB_iff.1 h
  have h1 : k ≤ f := by
    apply Decidable.byContradiction
    intro hlt
    have hfs : f < s.size := by have := hs.le; omega
    have := hb f hfs
    unfold sgn at this
    rw [Nat.mod_eq_of_lt hf, if_pos rfl] at this
    exact hs.zero f hfs (by omega) this
  refine ⟨h1, ?_⟩
  rcases Nat.lt_or_ge k s.size with hk | hk
  · left
    have h2 := hb k hk
    rw [hs.one hk] at h2
    unfold sgn at h2
    by_cases h3 : k % e = f
    · rw [Nat.mod_eq_of_lt (by omega)] at h3; exact h3.symm
    · rw [if_neg h3] at h2; exact absurd h2 (by decide)
  · exact .inr (by have := hs.le; omega)
/-- no pace with a lesser Every, and none at this Every but from there -/
theorem start_miss {s : ByteArray} {k e f : Nat} (hs : Start s k) (h1 : e ≤ k) (hf : f < e) : beatB s e f = false := by
  rcases hb : beatB s e f with _ | _
  · rfl
  · have := (start_only hs hf hb).1; omega
theorem start_less {s : ByteArray} {k e f : Nat} (hs : Start s k) (hf : f < e) (hk : f < k) : beatB s e f = false := by
  rcases hb : beatB s e f with _ | _
  · rfl
  · have := (start_only hs hf hb).1; omega
/-- behind the last sign nothing is told: the first pace is at once the right one -/
theorem start_end {s : ByteArray} (hB : Bits s) (hs : Start s s.size) : beatB s (s.size + 1) s.size = true := by
  rw [beatB_iff]
  intro i hi
  have h1 := hs.zero i hi hi
  unfold sgn
  rw [Nat.mod_eq_of_lt (by omega), if_neg (by omega)]
  exact (hB i hi).resolve_right h1
theorem start_step {s : ByteArray} {k e : Nat} (hB : Bits s) (hs : Start s k) (hk : k < e) (hn : firstP (beatB s) (e - 1) = none) (hb : beatB s e k = false) : firstP (beatB s) e = none := by
  refine firstP_missE (by omega) hn (fun j hj => ?_)
  rcases hjb : beatB s e j with _ | _
  · rfl
  · obtain ⟨h1, h2 | h2⟩ := start_only hs hj hjb
    · rw [h2] at hjb; rw [hjb] at hb; exact hb
    · exfalso
      -- no 1 at all: the pace at Every = size + 1 has been met before
      subst h2
      rcases Nat.lt_or_ge (s.size + 1) e with h3 | h3
      · have h4 : ∀ n, s.size + 1 ≤ n → firstP (beatB s) n ≠ none := by
          intro n hle hnn
          have h5 : firstP (beatB s) (s.size + 1) = some (s.size + 1, s.size) := by
            refine firstP_hit (firstP_none _ (fun e f _ h6 h7 => start_miss hs h6 h7)) (by omega) (fun j hj => start_less hs (by omega) hj) (start_end hB hs) (Nat.le_refl _)
          have := firstP_stay h5 (n - (s.size + 1))
          rw [show s.size + 1 + (n - (s.size + 1)) = n by omega, hnn] at this
          cases this
        exact h4 (e - 1) (by omega) hn
      · have : e = s.size + 1 := by omega
        subst this
        rw [start_end hB hs] at hb; cases hb
theorem start_hit {s : ByteArray} {k e : Nat} (hs : Start s k) (hk : k < e) (he : e ≤ 60) (hn : firstP (beatB s) (e - 1) = none) (hb : beatB s e k = true) : paceO s = some (e, k) :=
  firstP_hitE (by omega) hn hk (fun _ hj => start_less hs (by omega) hj) hb he
end Pa

set_option maxRecDepth 20000 in
set_option maxHeartbeats 4000000 in
theorem hasBeats_any (e f : Nat) (h1 : 1 ≤ e) (h2 : e ≤ 60) (h3 : f < e) (s : ByteArray) (hs : s.size ≤ 200) (hB : Bits s) (w : World) :
    Calls Tryd.prog 22 #[.agg #[.int .i64 (e : Int), .int .i64 (f : Int)], .string s] w fun en w' => en = .returned (.bool (beatB s e f)) ∧ Below w.heap.size w w' := by
  have HA : Hid (Below w.heap.size w (w.alloc (.cells #[.int .i64 (e : Int), .int .i64 (f : Int)] 23))) := Lib.hid ((Below.refl _ _).alloc (Nat.le_refl _) _)
  obtain ⟨e0, e1⟩ := pace_cells w (e : Int) (f : Int)
  obtain ⟨w1, hw1⟩ : ∃ w1, w1 = w.alloc (.cells #[.int .i64 (e : Int), .int .i64 (f : Int)] 23) := ⟨_, rfl⟩
  have HC : Hid (∀ w2, Below w1.heap.size w1 w2 → w2.cell? ⟨w.heap.size, 0, none⟩ = some (.int .i64 (e : Int)) ∧ w2.cell? ⟨w.heap.size, 1, none⟩ = some (.int .i64 (f : Int))) := Lib.hid (fun w2 h => by
    rw [← hw1] at e0 e1
    exact ⟨(h.cell (World.block_lt_of_cell? _ _ e0)).trans e0, (h.cell (World.block_lt_of_cell? _ _ e1)).trans e1⟩)
  have HW : Hid (Below w.heap.size w w1) := Lib.hid (by rw [hw1]; exact HA.out)
  have HBT := Lib.hid hB
  have HT := Lib.hid (fun t w2 (ht : t ≤ 1000000000000) => stepsAt_any e f t h1 h2 h3 ht w2)
  have HIF : Hid ((∀ i (h : i < s.size), s[i] = sgn e f i) → beatB s e f = true) := Lib.hid beatB_iff.2
  have HNO : Hid (∀ i (h : i < s.size), s[i] ≠ sgn e f i → beatB s e f = false) := Lib.hid (fun i h hne => by
    rcases hb : beatB s e f with _ | _
    · rfl
    · exact absurd (beatB_iff.1 hb i h) hne)
  clear e0 e1 hB HA
  go_enter Tryd.func22, Tryd.ntmps22
  go_wp2_with fail
  rw [← hw1]
  clear hw1
  go_wp2
  go_loopw [8] (fun i wr => ∃ k : Nat, k ≤ s.size ∧ i = .int .i64 (k : Int) ∧ Hid (∀ j (h : j < s.size), j < k → s[j] = sgn e f j) ∧ Hid (Below w1.heap.size w1 wr)) (fun i _ => s.size - (intOf i).toNat)
  case atStart => exact ⟨0, Nat.zero_le _, rfl, Lib.hid (fun _ _ h => absurd h (Nat.not_lt_zero _)), Lib.hid (Below.refl _ _)⟩
  case round =>
    obtain ⟨k, hk, rfl, HK, HB⟩ := hrel
    by_cases hlt : k < s.size
    · obtain ⟨c0, c1⟩ := HC.out wr HB.out
      have ex0 : ∀ X : Lw wr, X.w.cell? ⟨w.heap.size, 0, none⟩ = some (.int .i64 (e : Int)) := fun X => X.cell c0
      have ex1 : ∀ X : Lw wr, X.w.cell? ⟨w.heap.size, 1, none⟩ = some (.int .i64 (f : Int)) := fun X => X.cell c1
      have i1 : (0 : Int) ≤ (k : Int) := by omega
      have i2 : (k : Int) < (s.size : Int) := by omega
      have i3 : (k : Int).toNat = k := by omega
      clear c0 c1
      by_cases hm : k % e = f
      · rcases HBT.out k hlt with hz | hz
        · have hT := HT.out k
          rw [decide_eq_true hm] at hT
          have HT2 := Lib.hid (fun w2 => hT w2 (by omega))
          have hby : ((s[k]).toNat : Int) = 48 := by rw [hz]; rfl
          have HSG : Hid (s[k] ≠ sgn e f k) := Lib.hid (by rw [hz]; unfold sgn; rw [if_pos hm]; decide)
          clear hT hz hm
          go_wp2_with fail
          refine wp_region_lw (by kernel_rfl) (by kernel_rfl) ?_
          repeat (go_big_quiet_step ((go_at_call 37; exact lw_call (fun w2 _ => HT2.out w2) _)))
          refine wpQuiet_nil ?_
          rintro w' ⟨X, rfl⟩
          have HB2 : Hid (Below w1.heap.size w1 X.w) := Lib.hid (HB.out.trans (X.b.mono HB.out.size))
          have HF := Lib.hid (HNO.out k hlt HSG.out)
          go_wp2
          go_ret
          exact ⟨ret_bool (by rw [HF.out]), HW.out.trans (HB2.out.mono HW.out.size)⟩
        · have hT := HT.out k
          rw [decide_eq_true hm] at hT
          have HT2 := Lib.hid (fun w2 => hT w2 (by omega))
          have hby : ((s[k]).toNat : Int) = 49 := by rw [hz]; rfl
          have HSG : Hid (s[k] = sgn e f k) := Lib.hid (by rw [hz]; unfold sgn; rw [if_pos hm])
          clear hT hz hm
          go_wp2_with fail
          refine wp_region_lw (by kernel_rfl) (by kernel_rfl) ?_
          repeat (go_big_quiet_step ((go_at_call 37; exact lw_call (fun w2 _ => HT2.out w2) _)))
          refine wpQuiet_nil ?_
          rintro w' ⟨X, rfl⟩
          have HB2 : Hid (Below w1.heap.size w1 X.w) := Lib.hid (HB.out.trans (X.b.mono HB.out.size))
          have HK2 : Hid (∀ j (h : j < s.size), j < k + 1 → s[j] = sgn e f j) := Lib.hid (fun j h hj => by
            rcases Nat.lt_or_ge j k with h4 | h4
            · exact HK.out j h h4
            · obtain rfl : j = k := by omega
              exact HSG.out)
          go_wp2
          go_roundw
          case rel => exact ⟨k + 1, by omega, by go_num, HK2, HB2⟩
          case measure => simp [intOf]; omega
      · rcases HBT.out k hlt with hz | hz
        · have hT := HT.out k
          rw [decide_eq_false hm] at hT
          have HT2 := Lib.hid (fun w2 => hT w2 (by omega))
          have hby : ((s[k]).toNat : Int) = 48 := by rw [hz]; rfl
          have HSG : Hid (s[k] = sgn e f k) := Lib.hid (by rw [hz]; unfold sgn; rw [if_neg hm])
          clear hT hz hm
          go_wp2_with fail
          refine wp_region_lw (by kernel_rfl) (by kernel_rfl) ?_
          repeat (go_big_quiet_step ((go_at_call 37; exact lw_call (fun w2 _ => HT2.out w2) _)))
          refine wpQuiet_nil ?_
          rintro w' ⟨X, rfl⟩
          have HB2 : Hid (Below w1.heap.size w1 X.w) := Lib.hid (HB.out.trans (X.b.mono HB.out.size))
          have HK2 : Hid (∀ j (h : j < s.size), j < k + 1 → s[j] = sgn e f j) := Lib.hid (fun j h hj => by
            rcases Nat.lt_or_ge j k with h4 | h4
            · exact HK.out j h h4
            · obtain rfl : j = k := by omega
              exact HSG.out)
          go_wp2
          go_roundw
          case rel => exact ⟨k + 1, by omega, by go_num, HK2, HB2⟩
          case measure => simp [intOf]; omega
        · have hT := HT.out k
          rw [decide_eq_false hm] at hT
          have HT2 := Lib.hid (fun w2 => hT w2 (by omega))
          have hby : ((s[k]).toNat : Int) = 49 := by rw [hz]; rfl
          have HSG : Hid (s[k] ≠ sgn e f k) := Lib.hid (by rw [hz]; unfold sgn; rw [if_neg hm]; decide)
          clear hT hz hm
          go_wp2_with fail
          refine wp_region_lw (by kernel_rfl) (by kernel_rfl) ?_
          repeat (go_big_quiet_step ((go_at_call 37; exact lw_call (fun w2 _ => HT2.out w2) _)))
          refine wpQuiet_nil ?_
          rintro w' ⟨X, rfl⟩
          have HB2 : Hid (Below w1.heap.size w1 X.w) := Lib.hid (HB.out.trans (X.b.mono HB.out.size))
          have HF := Lib.hid (HNO.out k hlt HSG.out)
          go_wp2
          go_ret
          exact ⟨ret_bool (by rw [HF.out]), HW.out.trans (HB2.out.mono HW.out.size)⟩
    · obtain rfl : k = s.size := by omega
      have HF := Lib.hid (HIF.out (fun i h => HK.out i h h))
      go_wp2
      go_ret
      exact ⟨ret_bool (by rw [HF.out]), HW.out.trans (HB.out.mono HW.out.size)⟩

theorem dropWhile_nil (p : UInt8 → Bool) : ∀ m : List UInt8, m.dropWhile p = [] ↔ ∀ b ∈ m, p b = true
  | [] => by simp
  | a :: m => by
    rw [List.dropWhile_cons]
    cases h : p a with
    | true => simp only [if_true]; rw [dropWhile_nil p m]; simp [h]
    | false => simp [h]
theorem dropWhile_head (p : UInt8 → Bool) : ∀ (m : List UInt8) (x : UInt8) (r : List UInt8), m.dropWhile p = x :: r → p x = false
  | [], x, r, h => by simp at h
  | a :: m, x, r, h => by
    rw [List.dropWhile_cons] at h
    cases ha : p a with
    | true => rw [ha, if_pos rfl] at h; exact dropWhile_head p m x r h
    | false => rw [ha, if_neg (by decide)] at h; injection h with h1 h2; rw [← h1]; exact ha
theorem trim_none {l cs : List UInt8} : Lib.trimS l cs = [] ↔ ∀ b ∈ l, cs.contains b = true := by
  unfold Lib.trimS Lib.trimLeftS Lib.trimRightS
  have h1 : ∀ m : List UInt8, m.dropWhile (cs.contains ·) = [] ↔ ∀ b ∈ m, cs.contains b = true := fun m => dropWhile_nil _ m
  rw [h1]
  constructor
  · intro h
    have h2 : l.reverse.dropWhile (cs.contains ·) = [] := by
      cases hd : l.reverse.dropWhile (cs.contains ·) with
      | nil => rfl
      | cons x r =>
        have h3 : cs.contains x = true := h x (by rw [hd]; simp)
        have h4 := dropWhile_head (cs.contains ·) l.reverse x r hd
        have h5 : cs.contains x = false := h4
        rw [h3] at h5; cases h5
    intro b hb
    exact (h1 _).1 h2 b (List.mem_reverse.2 hb)
  · intro h b hb
    rw [(h1 _).2 (fun b hb => h b (List.mem_reverse.1 hb))] at hb
    simp at hb
theorem bits_iff {s : ByteArray} : Pa.Bits s ↔ ∀ b ∈ s.data.toList, [(48 : UInt8), 49].contains b = true := by
  have hc : ∀ b : UInt8, [(48 : UInt8), 49].contains b = true ↔ b = 48 ∨ b = 49 := fun b => by simp
  constructor
  · intro h b hb
    obtain ⟨i, hi, rfl⟩ := List.getElem_of_mem hb
    rw [hc, Array.getElem_toList]
    exact h i (by rw [Array.length_toList] at hi; exact hi)
  · intro h i hi
    have := h s[i] (by rw [Array.mem_toList_iff]; exact Array.getElem_mem hi)
    exact (hc _).1 this
def areB (s : ByteArray) : Bool := lenB s && s.data.toList.all fun b => [(48 : UInt8), 49].contains b
theorem areB_iff {s : ByteArray} : areB s = true ↔ lenB s = true ∧ Pa.Bits s := by
  unfold areB; rw [Bool.and_eq_true, List.all_eq_true, bits_iff]
theorem are_yes {s : ByteArray} (h : Pa.Bits s) : Lib.trimS s.data.toList [48, 49] = [] := trim_none.2 (bits_iff.1 h)
theorem are_no {s : ByteArray} (h : ¬ Pa.Bits s) : Lib.trimS s.data.toList [48, 49] ≠ [] := fun e => h (bits_iff.2 (trim_none.1 e))
set_option maxRecDepth 20000 in
set_option maxHeartbeats 2000000 in
theorem areBeats_any (s : ByteArray) (hs : s.size ≤ 1048576) (w : World)
    (hT : ∀ w, Calls Tryd.prog 35 #[.string s, .string ⟨#[48, 49]⟩] w fun e w' => e = .returned (.string ⟨(Lib.trimS s.data.toList [48, 49]).toArray⟩) ∧ Below w.heap.size w w') :
    Calls Tryd.prog 20 #[.string s] w fun e w' => e = .returned (.bool (areB s)) ∧ Below w.heap.size w w' := by
  have HLB : Hid (lenB s = inB s.size 1 200) := Lib.hid rfl
  have HT := Lib.hid hT
  clear hT
  by_cases h1 : 1 ≤ s.size
  · by_cases h2 : s.size ≤ 200
    · have HL : Hid (lenB s = true) := Lib.hid (by rw [HLB.out]; exact inB_of (by omega))
      obtain ⟨q, hq⟩ : ∃ q : ByteArray, q = ⟨(Lib.trimS s.data.toList [48, 49]).toArray⟩ := ⟨_, rfl⟩
      rw [← hq] at HT
      have hql : q.data.toList = Lib.trimS s.data.toList [48, 49] := by rw [hq]
      by_cases hb : Bits s
      · have e1 : q.toList = [] := by rw [ByteArray.toList_eq, hql]; exact are_yes hb
        have HBB : Hid (areB s = true) := Lib.hid (areB_iff.2 ⟨HL.out, hb⟩)
        clear hb hql hq
        go_enter Tryd.func20, Tryd.ntmps20
        go_wp2_with (go_at_call 35; refine (HT.out _).mono ?_; rintro e w2 ⟨rfl, b2⟩; have B2 := Lib.hid b2; clear b2)
        go_ret
        exact ⟨ret_bool (by rw [HBB.out]), B2.out⟩
      · have e1 : q.toList ≠ [] := by rw [ByteArray.toList_eq, hql]; exact are_no hb
        have e2 : q.toList.isEmpty = false := by cases h : q.toList with | nil => exact absurd h e1 | cons _ _ => rfl
        have e3 : (q.toList == []) = false := by cases h : q.toList with | nil => exact absurd h e1 | cons _ _ => rfl
        have HBB : Hid (areB s = false) := Lib.hid (Bool.eq_false_iff.2 fun h => hb (areB_iff.1 h).2)
        clear hb hql hq e1
        go_enter Tryd.func20, Tryd.ntmps20
        go_wp2_with (go_at_call 35; refine (HT.out _).mono ?_; rintro e w2 ⟨rfl, b2⟩; have B2 := Lib.hid b2; clear b2)
        go_ret
        exact ⟨ret_bool (by rw [HBB.out]), B2.out⟩
    · have HL : Hid (areB s = false) := Lib.hid (by unfold areB; rw [HLB.out, inB_no (by omega)]; rfl)
      go_enter Tryd.func20, Tryd.ntmps20
      go_wp2
      go_ret
      exact ⟨ret_bool (by rw [HL.out]), Below.refl _ _⟩
  · have HL : Hid (areB s = false) := Lib.hid (by unfold areB; rw [HLB.out, inB_no (by omega)]; rfl)
    go_enter Tryd.func20, Tryd.ntmps20
    go_wp2
    go_ret
    exact ⟨ret_bool (by rw [HL.out]), Below.refl _ _⟩

theorem start_some {s : ByteArray} : ∀ (l : List UInt8) (d : Nat), (∀ i (h : i < s.size), d ≤ i → l[i - d]? = some s[i]) → l.length + d = s.size → (∀ i (h : i < s.size), i < d → s[i] ≠ 49) →
    (Lib.indexByte l 49 = -1 ∧ Pa.Start s s.size) ∨ ∃ k : Nat, Lib.indexByte l 49 = (k : Int) ∧ Pa.Start s (k + d) ∧ k + d < s.size
  | [], d, _, hl, hz => by
    left
    refine ⟨rfl, ⟨Nat.le_refl _, fun i h _ => hz i h (by simp at hl; omega), fun h => absurd h (Nat.lt_irrefl _)⟩⟩
  | b :: l, d, hg, hl, hz => by
    simp only [List.length_cons] at hl
    have hd : d < s.size := by omega
    have hb : b = s[d] := by
      have := hg d hd (Nat.le_refl _)
      rw [Nat.sub_self, List.getElem?_cons_zero] at this
      exact Option.some.inj this
    by_cases h : b = 49
    · right
      refine ⟨0, by simp [Lib.indexByte, h], ?_⟩
      rw [Nat.zero_add]
      exact ⟨⟨by omega, hz, fun _ => by rw [← hb]; exact h⟩, hd⟩
    · have ih := start_some l (d + 1) (fun i hi hdi => by
        have := hg i hi (by omega)
        rw [show i - d = (i - (d + 1)) + 1 by omega, List.getElem?_cons_succ] at this
        exact this) (by omega) (fun i hi hlt => by
          rcases Nat.lt_or_ge i d with h1 | h1
          · exact hz i hi h1
          · obtain rfl : i = d := by omega
            rw [← hb]; exact h)
      have hbe : (b == 49) = false := by rw [beq_eq_false_iff_ne]; exact h
      rcases ih with ⟨h1, h2⟩ | ⟨k, h1, h2, h3⟩
      · left; exact ⟨by simp [Lib.indexByte, hbe, h1], h2⟩
      · right
        have hk : ((k : Int) == -1) = false := by rw [beq_eq_false_iff_ne]; omega
        refine ⟨k + 1, ?_, by rw [show k + 1 + d = k + (d + 1) by omega]; exact h2, by omega⟩
        rw [Lib.indexByte, hbe, h1, hk]; simp
theorem start_of (s : ByteArray) : (Lib.indexByte s.data.toList 49 = -1 ∧ Pa.Start s s.size) ∨ ∃ k : Nat, Lib.indexByte s.data.toList 49 = (k : Int) ∧ Pa.Start s k ∧ k < s.size :=
  start_some s.data.toList 0 (fun i h _ => by rw [Nat.sub_zero, List.getElem?_eq_getElem (by rw [Array.length_toList]; exact h), Array.getElem_toList]; rfl) (by rw [Array.length_toList]; rfl) (fun _ _ h => absurd h (Nat.not_lt_zero _))
theorem zero_cells {w w2 : World} (h : Below (w.alloc (.cells #[.int .i64 0, .int .i64 0] 23)).heap.size (w.alloc (.cells #[.int .i64 0, .int .i64 0] 23)) w2) :
    (w2.cell? ⟨w.heap.size, 0, none⟩ = some (.int .i64 0) ∧ w2.cell? ⟨w.heap.size, 1, none⟩ = some (.int .i64 0)) ∧ w2.frozen? ⟨w.heap.size, 0, none⟩ = false ∧ w2.frozen? ⟨w.heap.size, 1, none⟩ = false := by
  have hze : w2.heap[w.heap.size]? = some (.cells #[.int .i64 0, .int .i64 0] 23) := (h.block _ (by rw [alloc_size1]; exact Nat.lt_succ_self _)).trans (heap_alloc_new w _)
  exact ⟨⟨by simp [World.cell?, hze], by simp [World.cell?, hze]⟩, by simp [World.frozen?, hze], by simp [World.frozen?, hze]⟩
set_option maxRecDepth 20000 in
set_option maxHeartbeats 4000000 in
theorem implPaceOfBeats_of (w : World) (s : ByteArray) (hls : s.size ≤ 1048576)
    (hT : ∀ w, Calls Tryd.prog 35 #[.string s, .string ⟨#[48, 49]⟩] w fun e w' => e = .returned (.string ⟨(Lib.trimS s.data.toList [48, 49]).toArray⟩) ∧ Below w.heap.size w w')
    (hX : ∀ w, Calls Tryd.prog 21 #[.string s, .int .u8 49] w fun e w' => e = .returned (.int .i64 (Lib.indexByte s.data.toList 49)) ∧ w' = w) :
    Calls Tryd.prog 7 #[.string s] w fun e w' => e = .returned (.tuple #[.agg #[.int .i64 (outPaceOfBeats_0 s).1, .int .i64 (outPaceOfBeats_0 s).2], .bool (outPaceOfBeats_1 s)]) ∧ Below w.heap.size w w' := by
  obtain ⟨w1, hw1⟩ : ∃ w1, w1 = w.alloc (.cells #[.int .i64 0, .int .i64 0] 23) := ⟨_, rfl⟩
  have HB1 : Hid (Below w.heap.size w w1) := Lib.hid (by rw [hw1]; exact (Below.refl _ _).alloc (Nat.le_refl _) _)
  have HZC : Hid (∀ w2, Below w1.heap.size w1 w2 → (w2.cell? ⟨w.heap.size, 0, none⟩ = some (.int .i64 0) ∧ w2.cell? ⟨w.heap.size, 1, none⟩ = some (.int .i64 0)) ∧ w2.frozen? ⟨w.heap.size, 0, none⟩ = false ∧ w2.frozen? ⟨w.heap.size, 1, none⟩ = false) := Lib.hid (by rw [hw1]; exact fun w2 h => zero_cells h)
  have HG := Lib.hid (areBeats_any s hls w1 hT)
  have HX := Lib.hid hX
  clear hT hX
  by_cases ha : areB s = true
  · obtain ⟨hlb, hbits⟩ := areB_iff.1 ha
    have hsz := inB_yes (show inB s.size 1 200 = true from hlb)
    rw [ha] at HG
    have HBT := Lib.hid hbits
    have H0 : Hid (∀ o, paceO s = o → outPaceOfBeats_0 s = (match o with | some q => ((q.1 : Int), (q.2 : Int)) | none => (0, 0)) ∧ outPaceOfBeats_1 s = o.isSome) := Lib.hid (fun o ho => by unfold outPaceOfBeats_0 outPaceOfBeats_1; rw [hlb, ho]; exact ⟨rfl, rfl⟩)
    clear ha hlb hbits
    rcases start_of s with ⟨h1, h2⟩ | ⟨k, h1, h2, h3⟩
    · have HS := Lib.hid h2
      have HX2 : Hid (∀ w, Calls Tryd.prog 21 #[.string s, .int .u8 49] w fun e w' => e = .returned (.int .i64 (-1)) ∧ w' = w) := Lib.hid (by have h := HX.out; rw [h1] at h; exact h)
      have hk2 : s.size ≤ 200 := by omega
      clear h1 h2
      go_enter Tryd.func7, Tryd.ntmps7
      go_wp2_with fail
      rw [← hw1]
      clear hw1
      go_at_call 20
      refine HG.out.mono ?_
      rintro e w2 ⟨rfl, b2⟩
      have B2 : Hid (Below w1.heap.size w1 w2) := Lib.hid b2
      clear b2
      go_wp2_with (go_at_call 21; refine (HX2.out _).mono ?_; rintro e w' ⟨rfl, rfl⟩)
      have HN0 : Hid (firstP (beatB s) s.size = none) := Lib.hid (firstP_none _ (fun e f _ h6 h7 => start_miss HS.out h6 h7))
      go_loopw [5] (fun v wr => ∃ E : Nat, s.size < E ∧ (s.size + 1 ≤ 60 → E ≤ 61) ∧ v = .int .i64 (E : Int) ∧ Hid (firstP (beatB s) (E - 1) = none) ∧ Hid (Below w1.heap.size w1 wr)) (fun v _ => 61 - (intOf v).toNat)
      case atStart => exact ⟨s.size + 1, by omega, by omega, by go_num, Lib.hid (by rw [Nat.add_sub_cancel]; exact HN0.out), B2⟩
      case round =>
        obtain ⟨E, hE1, hE2, rfl, HN, HB⟩ := hrel
        by_cases hlt : E ≤ 60
        · have hE3 : (E : Int) ≤ 60 := by omega
          obtain ⟨⟨z2, z3⟩, z4, z5⟩ := HZC.out wr HB.out
          obtain ⟨p0, p1⟩ := pace_cells wr (E : Int) ((s.size : Nat) : Int)
          have HP := Lib.hid (hasBeats_any E s.size (by omega) hlt hE1 s (by omega) HBT.out (wr.alloc (.cells #[.int .i64 (E : Int), .int .i64 ((s.size : Nat) : Int)] 23)))
          have HBA : Hid (Below w1.heap.size w1 (wr.alloc (.cells #[.int .i64 (E : Int), .int .i64 ((s.size : Nat) : Int)] 23))) := Lib.hid (HB.out.alloc HB.out.size _)
          have HP0 := Lib.hid p0
          have HP1 := Lib.hid p1
          clear z2 z3 z4 z5 p0 p1
          rcases hbt : beatB s E s.size with _ | _
          · have HN2 : Hid (firstP (beatB s) (E + 1 - 1) = none) := Lib.hid (by rw [Nat.add_sub_cancel]; exact start_step HBT.out HS.out hE1 HN.out hbt)
            rw [hbt] at HP
            clear hbt
            go_wp2_with fail
            go_at_call 22
            refine HP.out.mono ?_
            rintro e w3 ⟨rfl, b3⟩
            have HB3 : Hid (Below w1.heap.size w1 w3) := Lib.hid (HBA.out.trans (b3.mono HBA.out.size))
            clear b3
            go_wp2
            go_roundw
            case rel => exact ⟨E + 1, by omega, by omega, by go_num, HN2, HB3⟩
            case measure => simp [intOf]; omega
          · have H1 := Lib.hid (H0.out (some (E, s.size)) (start_hit HS.out hE1 hlt HN.out hbt))
            rw [hbt] at HP
            clear hbt
            go_wp2_with fail
            go_at_call 22
            refine HP.out.mono ?_
            rintro e w3 ⟨rfl, b3⟩
            have HB3 : Hid (Below w1.heap.size w1 w3) := Lib.hid (HBA.out.trans (b3.mono HBA.out.size))
            have d0 := (b3.cell (World.block_lt_of_cell? _ _ HP0.out)).trans HP0.out
            have d1 := (b3.cell (World.block_lt_of_cell? _ _ HP1.out)).trans HP1.out
            obtain ⟨⟨c2, c3⟩, f2, f3⟩ := HZC.out w3 HB3.out
            clear b3
            go_wp2
            (try simp only [Exit.inBlock, Exit.then])
            refine bodyPost_ret (results_cell2 rfl _ _ w.heap.size (E : Int) ((s.size : Nat) : Int) rfl rfl (setTwo0 c2 c3) (setTwo1 c2 c3)) rfl ?_
            exact ⟨by rw [H1.out.1, H1.out.2]; exact rfl, (HB1.out.trans (HB3.out.mono HB1.out.size)).setCell (Nat.le_refl _) _ |>.setCell (Nat.le_refl _) _⟩
        · have H1 := Lib.hid (H0.out none (by
            unfold paceO
            rcases Nat.lt_or_ge 60 (s.size + 1) with h | h
            · exact firstP_none _ (fun e f _ h6 h7 => start_miss HS.out (by omega) h7)
            · have := hE2 h
              rw [show (60 : Nat) = E - 1 by omega]; exact HN.out))
          have hE3 : ¬ (E : Int) ≤ 60 := by omega
          obtain ⟨⟨c2, c3⟩, f2, f3⟩ := HZC.out wr HB.out
          go_wp2
          (try simp only [Exit.inBlock, Exit.then])
          refine bodyPost_ret (results_cell2 rfl _ _ w.heap.size 0 0 rfl rfl (setTwo0 c2 c3) (setTwo1 c2 c3)) rfl ?_
          exact ⟨by rw [H1.out.1, H1.out.2]; exact rfl, (HB1.out.trans (HB.out.mono HB1.out.size)).setCell (Nat.le_refl _) _ |>.setCell (Nat.le_refl _) _⟩
    · have HS := Lib.hid h2
      have HX2 : Hid (∀ w, Calls Tryd.prog 21 #[.string s, .int .u8 49] w fun e w' => e = .returned (.int .i64 (k : Int)) ∧ w' = w) := Lib.hid (by have h := HX.out; rw [h1] at h; exact h)
      have hk2 : k ≤ 200 := by omega
      clear h1 h2
      go_enter Tryd.func7, Tryd.ntmps7
      go_wp2_with fail
      rw [← hw1]
      clear hw1
      go_at_call 20
      refine HG.out.mono ?_
      rintro e w2 ⟨rfl, b2⟩
      have B2 : Hid (Below w1.heap.size w1 w2) := Lib.hid b2
      clear b2
      go_wp2_with (go_at_call 21; refine (HX2.out _).mono ?_; rintro e w' ⟨rfl, rfl⟩)
      have HN0 : Hid (firstP (beatB s) k = none) := Lib.hid (firstP_none _ (fun e f _ h6 h7 => start_miss HS.out h6 h7))
      go_loopw [5] (fun v wr => ∃ E : Nat, k < E ∧ (k + 1 ≤ 60 → E ≤ 61) ∧ v = .int .i64 (E : Int) ∧ Hid (firstP (beatB s) (E - 1) = none) ∧ Hid (Below w1.heap.size w1 wr)) (fun v _ => 61 - (intOf v).toNat)
      case atStart => exact ⟨k + 1, by omega, by omega, by go_num, Lib.hid (by rw [Nat.add_sub_cancel]; exact HN0.out), B2⟩
      case round =>
        obtain ⟨E, hE1, hE2, rfl, HN, HB⟩ := hrel
        by_cases hlt : E ≤ 60
        · have hE3 : (E : Int) ≤ 60 := by omega
          obtain ⟨⟨z2, z3⟩, z4, z5⟩ := HZC.out wr HB.out
          obtain ⟨p0, p1⟩ := pace_cells wr (E : Int) ((k : Nat) : Int)
          have HP := Lib.hid (hasBeats_any E k (by omega) hlt hE1 s (by omega) HBT.out (wr.alloc (.cells #[.int .i64 (E : Int), .int .i64 ((k : Nat) : Int)] 23)))
          have HBA : Hid (Below w1.heap.size w1 (wr.alloc (.cells #[.int .i64 (E : Int), .int .i64 ((k : Nat) : Int)] 23))) := Lib.hid (HB.out.alloc HB.out.size _)
          have HP0 := Lib.hid p0
          have HP1 := Lib.hid p1
          clear z2 z3 z4 z5 p0 p1
          rcases hbt : beatB s E k with _ | _
          · have HN2 : Hid (firstP (beatB s) (E + 1 - 1) = none) := Lib.hid (by rw [Nat.add_sub_cancel]; exact start_step HBT.out HS.out hE1 HN.out hbt)
            rw [hbt] at HP
            clear hbt
            go_wp2_with fail
            go_at_call 22
            refine HP.out.mono ?_
            rintro e w3 ⟨rfl, b3⟩
            have HB3 : Hid (Below w1.heap.size w1 w3) := Lib.hid (HBA.out.trans (b3.mono HBA.out.size))
            clear b3
            go_wp2
            go_roundw
            case rel => exact ⟨E + 1, by omega, by omega, by go_num, HN2, HB3⟩
            case measure => simp [intOf]; omega
          · have H1 := Lib.hid (H0.out (some (E, k)) (start_hit HS.out hE1 hlt HN.out hbt))
            rw [hbt] at HP
            clear hbt
            go_wp2_with fail
            go_at_call 22
            refine HP.out.mono ?_
            rintro e w3 ⟨rfl, b3⟩
            have HB3 : Hid (Below w1.heap.size w1 w3) := Lib.hid (HBA.out.trans (b3.mono HBA.out.size))
            have d0 := (b3.cell (World.block_lt_of_cell? _ _ HP0.out)).trans HP0.out
            have d1 := (b3.cell (World.block_lt_of_cell? _ _ HP1.out)).trans HP1.out
            obtain ⟨⟨c2, c3⟩, f2, f3⟩ := HZC.out w3 HB3.out
            clear b3
            go_wp2
            (try simp only [Exit.inBlock, Exit.then])
            refine bodyPost_ret (results_cell2 rfl _ _ w.heap.size (E : Int) ((k : Nat) : Int) rfl rfl (setTwo0 c2 c3) (setTwo1 c2 c3)) rfl ?_
            exact ⟨by rw [H1.out.1, H1.out.2]; exact rfl, (HB1.out.trans (HB3.out.mono HB1.out.size)).setCell (Nat.le_refl _) _ |>.setCell (Nat.le_refl _) _⟩
        · have H1 := Lib.hid (H0.out none (by
            unfold paceO
            rcases Nat.lt_or_ge 60 (k + 1) with h | h
            · exact firstP_none _ (fun e f _ h6 h7 => start_miss HS.out (by omega) h7)
            · have := hE2 h
              rw [show (60 : Nat) = E - 1 by omega]; exact HN.out))
          have hE3 : ¬ (E : Int) ≤ 60 := by omega
          obtain ⟨⟨c2, c3⟩, f2, f3⟩ := HZC.out wr HB.out
          go_wp2
          (try simp only [Exit.inBlock, Exit.then])
          refine bodyPost_ret (results_cell2 rfl _ _ w.heap.size 0 0 rfl rfl (setTwo0 c2 c3) (setTwo1 c2 c3)) rfl ?_
          exact ⟨by rw [H1.out.1, H1.out.2]; exact rfl, (HB1.out.trans (HB.out.mono HB1.out.size)).setCell (Nat.le_refl _) _ |>.setCell (Nat.le_refl _) _⟩
  · have hf : areB s = false := Bool.eq_false_iff.2 ha
    have H0 : Hid (outPaceOfBeats_0 s = (0, 0) ∧ outPaceOfBeats_1 s = false) := Lib.hid (by
      have h0 : lenB s = true → paceO s = none := fun hl => firstP_none _ (fun e f _ _ _ => not_bits (fun hb => ha (areB_iff.2 ⟨hl, hb⟩)) e f)
      unfold outPaceOfBeats_0 outPaceOfBeats_1
      rcases hl : lenB s with _ | _
      · exact ⟨rfl, rfl⟩
      · rw [h0 hl]; exact ⟨rfl, rfl⟩)
    rw [hf] at HG
    clear ha hf
    go_enter Tryd.func7, Tryd.ntmps7
    go_wp2_with fail
    rw [← hw1]
    clear hw1
    go_at_call 20
    refine HG.out.mono ?_
    rintro e w2 ⟨rfl, b2⟩
    have B2 := Lib.hid b2
    obtain ⟨⟨c2, c3⟩, f2, f3⟩ := HZC.out w2 b2
    clear b2
    go_wp2
    (try simp only [Exit.inBlock, Exit.then])
    refine bodyPost_ret (results_cell2 rfl _ _ w.heap.size 0 0 rfl rfl (setTwo0 c2 c3) (setTwo1 c2 c3)) rfl ?_
    exact ⟨by rw [H0.out.1, H0.out.2]; exact rfl, (HB1.out.trans (B2.out.mono HB1.out.size)).setCell (Nat.le_refl _) _ |>.setCell (Nat.le_refl _) _⟩

end Go.Proofs.YthnbimfdodfhoabDoor
