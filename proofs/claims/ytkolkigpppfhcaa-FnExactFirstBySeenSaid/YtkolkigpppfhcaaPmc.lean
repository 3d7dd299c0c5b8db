/- Chapter 2, the program: bothSeen. -/
import Derived.Test.YtkolkigpppfhcaaPmb
import Derived.Test.YtkolkigpppfhcaaAny
namespace Go.Proofs.Ytkolkigpppfhcaa
open Go.ChangeShapes Go.WideShapes Go.ChangeAt Go.RowKit

def bs2 (x y : Nat) : List Value := [.int .i64 (x : Int), .int .i64 (y : Int)]
theorem bs2_one (x y : Nat) : ∀ v ∈ bs2 x y, v.oneCell' = true := by
  intro v hv
  unfold bs2 at hv
  simp at hv
  rcases hv with rfl | rfl <;> rfl
theorem Try.info_bothSeen : (Try.prog.info? 35).map (fun i => (i.zero, i.size)) = some (some (.agg (bs2 0 0).toArray), 2) := by kernel_rfl
theorem Try.size_bothSeen : (Try.prog.info? 35).map (·.size) = some 2 := by kernel_rfl
theorem not_gotP {l : Array Bool} {i : Nat} (h : l.getD i true = false) : l.getD i false = false := by
  simp only [Array.getD_eq_getD_getElem?] at h ⊢
  cases hl : l[i]? with
  | none => rfl
  | some b => rw [hl] at h; simpa using h
def StoreI (w0 : World) (r x y : Nat) (l : Array Bool) (w : World) : Prop :=
  Below w0.heap.size w0 w ∧ (l.getD 8 false = false → Blk w r 35 (bs2 0 0)) ∧ (l.getD 8 false = true → Blk w r 35 (bs2 x y))
theorem StoreI.step {w0 w : World} {r x y i : Nat} {l : Array Bool} (h : Hid (StoreI w0 r x y l w)) (hi : i ≠ 8) : Hid (StoreI w0 r x y (l.setIfInBounds i true) w) :=
  Lib.hid ⟨h.out.1, fun k => h.out.2.1 ((got hi).symm.trans k), fun k => h.out.2.2 ((got hi).symm.trans k)⟩
theorem StoreI.call {w0 w w2 : World} {r x y i : Nat} {l : Array Bool} (h : Hid (StoreI w0 r x y l w)) (hi : i ≠ 8) (hb : Below w.heap.size w w2) : Hid (StoreI w0 r x y (l.setIfInBounds i true) w2) :=
  Lib.hid ⟨h.out.1.trans (hb.mono h.out.1.size), fun k => (h.out.2.1 ((got hi).symm.trans k)).below hb (h.out.2.1 ((got hi).symm.trans k)).lt, fun k => (h.out.2.2 ((got hi).symm.trans k)).below hb (h.out.2.2 ((got hi).symm.trans k)).lt⟩
theorem StoreI.store {w0 w w2 : World} {r x y : Nat} {l : Array Bool} (h : Hid (StoreI w0 r x y l w)) (hl : l.size = 9) (hr : w0.heap.size ≤ r) (hb : Blk w2 r 35 (bs2 x y)) (hg : w.grownBy w2 (some r)) : Hid (StoreI w0 r x y (l.setIfInBounds 8 true) w2) :=
  Lib.hid ⟨grownBy_below h.out.1 hg (Nat.le_refl _) hr, fun k => (by rw [got_same (by omega)] at k; cases k), fun _ => hb⟩
structure BsIV (w0 : World) (g1 r : Nat) (hs : List Nat) (l : Array Bool) (ww : World) (v3 v4 v5 v6 v7 v8 v9 v10 : Value) : Prop where
  f0 : l.getD 0 false = true → v3 = .agg (hc hs).toArray
  f1 : l.getD 1 false = true → ∃ (ao : Option Addr) (c : Nat), v4 = .slice ao (Pm.seenN hs) c
  f2 : l.getD 2 false = true → v5 = .int .i64 ((Pm.seenN hs : Nat) : Int)
  f3 : l.getD 3 false = true → v6 = .agg (hc hs).toArray
  f4 : l.getD 4 false = true → v7 = .agg (hc hs.reverse).toArray
  f5 : l.getD 5 false = true → ∃ (ao : Option Addr) (c : Nat), v8 = .slice ao (Pm.seenN hs.reverse) c
  f6 : l.getD 6 false = true → v9 = .int .i64 ((Pm.seenN hs.reverse : Nat) : Int)
  f7 : l.getD 7 false = true → v10 = .agg #[.int .i64 ((Pm.seenN hs : Nat) : Int), .int .i64 ((Pm.seenN hs.reverse : Nat) : Int)]
def BsI (w0 : World) (g1 r : Nat) (hs : List Nat) (l : Array Bool) (a : Act) (w : World) : Prop :=
  ∃ v3 v4 v5 v6 v7 v8 v9 v10 : Value, a = { tmps := List.toArray (Value.agg (hc hs).toArray :: Value.pointer (some ⟨g1, 0, none⟩) :: Value.pointer (some ⟨r, 0, none⟩) :: v3 :: v4 :: v5 :: v6 :: v7 :: v8 :: v9 :: v10 :: []), defers := [] } ∧ Hid (BsIV w0 g1 r hs l w v3 v4 v5 v6 v7 v8 v9 v10) ∧ Hid (StoreI w0 r (Pm.seenN hs) (Pm.seenN hs.reverse) l w)

set_option maxHeartbeats 8000000 in
theorem bothSeen_p (w : World) (hs : List Nat) (h1 : 1 ≤ hs.length) (h2 : hs.length ≤ 40) :
    Calls Try.prog 18 #[.agg (hc hs).toArray] w fun e w' => e = .returned (.agg #[.int .i64 ((Pm.seenN hs : Nat) : Int), .int .i64 ((Pm.seenN hs.reverse : Nat) : Int)]) ∧ Below w.heap.size w w' := by
  have h3 : 1 ≤ hs.reverse.length := by rw [List.length_reverse]; exact h1
  have h4 : hs.reverse.length ≤ 40 := by rw [List.length_reverse]; exact h2
  go_enter Try.func18, Try.ntmps18
  go_wp2_with (refine wpList_box 39 _ rfl rfl (hc hs) rfl ?_; intro w1 g1 G1 B1 L1)
  refine ⟨?_⟩
  go_wp2_with (refine wpList_new 35 rfl rfl _ _ Try.info_bothSeen ?_; intro w2 r G2 B2 L2)
  refine ⟨?_⟩
  have L2' := L2
  have HR : Hid (w1.heap.size ≤ r) := Lib.hid (by rw [G2.out]; exact Nat.le_refl _)
  go_wp2_with fail
  refine wp_region_inv (by kernel_rfl) (BsI w1 g1 r hs) (by kernel_rfl) ?_ ?_ ?_
  · exact ⟨_, _, _, _, _, _, _, _, rfl, Lib.hid ⟨fun h => by simp at h, fun h => by simp at h, fun h => by simp at h, fun h => by simp at h, fun h => by simp at h, fun h => by simp at h, fun h => by simp at h, fun h => by simp at h⟩, Lib.hid ⟨⟨L2'.out.os, L2'.out.tape, L2'.out.output, L2'.out.size, L2'.out.block⟩, fun _ => B2.out, fun h => by simp at h⟩⟩
  · intro i o l a w' ho hsz hl hdep hI
    obtain ⟨v3, v4, v5, v6, v7, v8, v9, v10, rfl, HV, BL⟩ := hI
    have HSZ := Lib.hid hsz
    have HL := Lib.hid hl
    clear hsz hl
    match i, ho with
    | 0, ho =>
      obtain rfl := Option.some.inj ho
      clear hdep ho
      refine wpList_loadAll 39 _ rfl rfl g1 _ (hc hs) _ Try.underlying39 rfl 41 Try.size_heights rfl (Lib.hid (B1.out.below BL.out.1 B1.out.lt)) (length_hc _ h2) ?_
      refine ⟨?_⟩
      go_wp2
      have BX := StoreI.step BL (i := 0) (by decide)
      exact ⟨_, v4, v5, v6, v7, v8, v9, v10, rfl, Lib.hid ⟨fun _ => rfl, fun h => HV.out.f1 (ung (by decide) h), fun h => HV.out.f2 (ung (by decide) h), fun h => HV.out.f3 (ung (by decide) h), fun h => HV.out.f4 (ung (by decide) h), fun h => HV.out.f5 (ung (by decide) h), fun h => HV.out.f6 (ung (by decide) h), fun h => HV.out.f7 (ung (by decide) h)⟩, BX⟩
    | 1, ho =>
      obtain rfl := Option.some.inj ho
      obtain rfl := HV.out.f0 (hdep ⟨0, .data⟩ (by simp) rfl)
      clear hdep ho
      go_wp2_with fail
      go_at_call 26
      refine (seen_any _ hs h1 h2).mono ?_
      rintro e w5 ⟨v, rfl, o2, b2⟩
      obtain ⟨ao, c, e2⟩ := o2.any
      rw [asInts_len] at e2
      have HO2 := Lib.hid o2
      clear o2
      subst e2
      have BX := StoreI.call BL (i := 1) (by decide) b2
      have HBB := Lib.hid b2
      have HY := BL.out.1.size
      clear b2
      go_wp2
      exact ⟨_, _, v5, v6, v7, v8, v9, v10, rfl, Lib.hid ⟨fun h => HV.out.f0 (ung (by decide) h), fun _ => ⟨_, _, rfl⟩, fun h => HV.out.f2 (ung (by decide) h), fun h => HV.out.f3 (ung (by decide) h), fun h => HV.out.f4 (ung (by decide) h), fun h => HV.out.f5 (ung (by decide) h), fun h => HV.out.f6 (ung (by decide) h), fun h => HV.out.f7 (ung (by decide) h)⟩, BX⟩
    | 2, ho =>
      obtain rfl := Option.some.inj ho
      obtain ⟨a4, c4, rfl⟩ := HV.out.f1 (hdep ⟨1, .data⟩ (by simp) rfl)
      clear hdep ho
      go_wp2
      have BX := StoreI.step BL (i := 2) (by decide)
      exact ⟨v3, _, _, v6, v7, v8, v9, v10, rfl, Lib.hid ⟨fun h => HV.out.f0 (ung (by decide) h), fun h => HV.out.f1 (ung (by decide) h), fun _ => rfl, fun h => HV.out.f3 (ung (by decide) h), fun h => HV.out.f4 (ung (by decide) h), fun h => HV.out.f5 (ung (by decide) h), fun h => HV.out.f6 (ung (by decide) h), fun h => HV.out.f7 (ung (by decide) h)⟩, BX⟩
    | 3, ho =>
      obtain rfl := Option.some.inj ho
      clear hdep ho
      refine wpList_loadAll 39 _ rfl rfl g1 _ (hc hs) _ Try.underlying39 rfl 41 Try.size_heights rfl (Lib.hid (B1.out.below BL.out.1 B1.out.lt)) (length_hc _ h2) ?_
      refine ⟨?_⟩
      go_wp2
      have BX := StoreI.step BL (i := 3) (by decide)
      exact ⟨v3, v4, v5, _, v7, v8, v9, v10, rfl, Lib.hid ⟨fun h => HV.out.f0 (ung (by decide) h), fun h => HV.out.f1 (ung (by decide) h), fun h => HV.out.f2 (ung (by decide) h), fun _ => rfl, fun h => HV.out.f4 (ung (by decide) h), fun h => HV.out.f5 (ung (by decide) h), fun h => HV.out.f6 (ung (by decide) h), fun h => HV.out.f7 (ung (by decide) h)⟩, BX⟩
    | 4, ho =>
      obtain rfl := Option.some.inj ho
      obtain rfl := HV.out.f3 (hdep ⟨3, .data⟩ (by simp) rfl)
      clear hdep ho
      go_wp2_with fail
      go_at_call 27
      refine (mirrored_any _ hs h2).mono ?_
      rintro e w5 ⟨rfl, b2⟩
      
      have BX := StoreI.call BL (i := 4) (by decide) b2
      have HBB := Lib.hid b2
      have HY := BL.out.1.size
      clear b2
      go_wp2
      exact ⟨v3, v4, v5, _, _, v8, v9, v10, rfl, Lib.hid ⟨fun h => HV.out.f0 (ung (by decide) h), fun h => HV.out.f1 (ung (by decide) h), fun h => HV.out.f2 (ung (by decide) h), fun h => HV.out.f3 (ung (by decide) h), fun _ => rfl, fun h => HV.out.f5 (ung (by decide) h), fun h => HV.out.f6 (ung (by decide) h), fun h => HV.out.f7 (ung (by decide) h)⟩, BX⟩
    | 5, ho =>
      obtain rfl := Option.some.inj ho
      obtain rfl := HV.out.f4 (hdep ⟨4, .data⟩ (by simp) rfl)
      clear hdep ho
      go_wp2_with fail
      go_at_call 26
      refine (seen_any _ hs.reverse h3 h4).mono ?_
      rintro e w5 ⟨v, rfl, o2, b2⟩
      obtain ⟨ao, c, e2⟩ := o2.any
      rw [asInts_len] at e2
      have HO2 := Lib.hid o2
      clear o2
      subst e2
      have BX := StoreI.call BL (i := 5) (by decide) b2
      have HBB := Lib.hid b2
      have HY := BL.out.1.size
      clear b2
      go_wp2
      exact ⟨v3, v4, v5, v6, _, _, v9, v10, rfl, Lib.hid ⟨fun h => HV.out.f0 (ung (by decide) h), fun h => HV.out.f1 (ung (by decide) h), fun h => HV.out.f2 (ung (by decide) h), fun h => HV.out.f3 (ung (by decide) h), fun h => HV.out.f4 (ung (by decide) h), fun _ => ⟨_, _, rfl⟩, fun h => HV.out.f6 (ung (by decide) h), fun h => HV.out.f7 (ung (by decide) h)⟩, BX⟩
    | 6, ho =>
      obtain rfl := Option.some.inj ho
      obtain ⟨a8, c8, rfl⟩ := HV.out.f5 (hdep ⟨5, .data⟩ (by simp) rfl)
      clear hdep ho
      go_wp2
      have BX := StoreI.step BL (i := 6) (by decide)
      exact ⟨v3, v4, v5, v6, v7, _, _, v10, rfl, Lib.hid ⟨fun h => HV.out.f0 (ung (by decide) h), fun h => HV.out.f1 (ung (by decide) h), fun h => HV.out.f2 (ung (by decide) h), fun h => HV.out.f3 (ung (by decide) h), fun h => HV.out.f4 (ung (by decide) h), fun h => HV.out.f5 (ung (by decide) h), fun _ => rfl, fun h => HV.out.f7 (ung (by decide) h)⟩, BX⟩
    | 7, ho =>
      obtain rfl := Option.some.inj ho
      obtain rfl := HV.out.f2 (hdep ⟨2, .data⟩ (by simp) rfl)
      obtain rfl := HV.out.f6 (hdep ⟨6, .data⟩ (by simp) rfl)
      clear hdep ho
      go_wp2
      have BX := StoreI.step BL (i := 7) (by decide)
      exact ⟨v3, v4, _, v6, v7, v8, _, _, rfl, Lib.hid ⟨fun h => HV.out.f0 (ung (by decide) h), fun h => HV.out.f1 (ung (by decide) h), fun h => HV.out.f2 (ung (by decide) h), fun h => HV.out.f3 (ung (by decide) h), fun h => HV.out.f4 (ung (by decide) h), fun h => HV.out.f5 (ung (by decide) h), fun h => HV.out.f6 (ung (by decide) h), fun _ => rfl⟩, BX⟩
    | 8, ho =>
      obtain rfl := Option.some.inj ho
      obtain rfl := HV.out.f7 (hdep ⟨7, .data⟩ (by simp) rfl)
      clear hdep ho
      refine wpList_storeAll 35 _ _ rfl rfl r _ (bs2 0 0) (bs2 (Pm.seenN hs) (Pm.seenN hs.reverse)) 2 Try.size_bothSeen rfl rfl (Lib.hid (BL.out.2.1 (not_gotP HL.out))) rfl rfl (bs2_one _ _) ?_
      intro w5 B5 G5
      refine ⟨?_⟩
      have BX := StoreI.store BL HSZ.out HR.out B5.out G5.out
      have G5O := G5.out
      clear G5O
      go_wp2
      exact ⟨v3, v4, v5, v6, v7, v8, v9, _, rfl, Lib.hid ⟨fun h => HV.out.f0 (ung (by decide) h), fun h => HV.out.f1 (ung (by decide) h), fun h => HV.out.f2 (ung (by decide) h), fun h => HV.out.f3 (ung (by decide) h), fun h => HV.out.f4 (ung (by decide) h), fun h => HV.out.f5 (ung (by decide) h), fun h => HV.out.f6 (ung (by decide) h), fun h => HV.out.f7 (ung (by decide) h)⟩, BX⟩
    | i + 9, ho => simp at ho
  · intro l a w2 hall hI
    obtain ⟨v3, v4, v5, v6, v7, v8, v9, v10, rfl, HV, BL⟩ := hI
    obtain rfl := HV.out.f0 (hall 0 (by decide))
    obtain ⟨a4, c4, rfl⟩ := HV.out.f1 (hall 1 (by decide))
    obtain rfl := HV.out.f2 (hall 2 (by decide))
    obtain rfl := HV.out.f3 (hall 3 (by decide))
    obtain rfl := HV.out.f4 (hall 4 (by decide))
    obtain ⟨a8, c8, rfl⟩ := HV.out.f5 (hall 5 (by decide))
    obtain rfl := HV.out.f6 (hall 6 (by decide))
    obtain rfl := HV.out.f7 (hall 7 (by decide))
    have H8 := hall 8 (by decide)
    clear hall HV
    go_wp2
    have B9 := Lib.hid (BL.out.2.2 H8)
    refine ret_cell 2 35 (by kernel_rfl) r _ (bs2 (Pm.seenN hs) (Pm.seenN hs.reverse)) _ Try.underlying35 rfl 2 Try.size_bothSeen rfl B9.out rfl rfl ?_
    exact ⟨rfl, L1.out.trans (BL.out.1.mono L1.out.size)⟩

end Go.Proofs.Ytkolkigpppfhcaa
