/- Chapter 4: the model's commands between facings, and counts. Written by a program of mine (tools/mk/mk_drd.py). -/
import Derived.Test.YtamodlmdlaeoiaaDrC
namespace Go.Proofs.Ytamodlmdlaeoiaa
open Go.ChangeShapes Go.WideShapes Go.ChangeAt Go.RowKit
open Dr

def comAt (fs gs : List Nat) (k : Nat) : Nat := (4 + gs.getD k 0 - fs.getD k 0) % 4
def comTo (fs gs : List Nat) (k : Nat) : ByteArray := word ((List.range k).map (comAt fs gs))
theorem size_comTo (fs gs : List Nat) (k : Nat) : (comTo fs gs k).size = k := by unfold comTo; rw [size_word]; simp
theorem comTo_succ (fs gs : List Nat) (k : Nat) : comTo fs gs (k + 1) = comTo fs gs k ++ word [comAt fs gs k] := by unfold comTo; rw [word_app, List.range_succ, List.map_append]; rfl
theorem comAt_lt (fs gs : List Nat) (k : Nat) : comAt fs gs k < 4 := Nat.mod_lt _ (by omega)
def betwB (f g : ByteArray) : Bool := faceB f && (faceB g && decide (f.size = g.size))
def outCommandsBetween_0 (f g : ByteArray) : ByteArray := if faceB f then (if faceB g then (if decide (f.size = g.size) then comTo (fsOf f) (fsOf g) f.size else ByteArray.empty) else ByteArray.empty) else ByteArray.empty
def outCommandsBetween_1 (f g : ByteArray) : Bool := betwB f g

def cntB (n t : Int) : Bool := inB n 0 24 && inB t 0 3
def outCountCommandWords_0 (n t : Int) : Int := if inB n 0 24 then (if inB t 0 3 then (if n = 0 then (if t = 0 then 1 else 0) else ((4 ^ (n.toNat - 1) : Nat) : Int)) else 0) else 0
def outCountCommandWords_1 (n t : Int) : Bool := cntB n t

structure CbIV (f g p q : ByteArray) (k x y c : Nat) (l : Array Bool) (v29 v30 v31 v32 v33 v34 v35 v36 v37 v38 v39 v40 v41 v42 v6 : Value) : Prop where
  f0 : l.getD 0 false = true → v29 = .string p
  f1 : l.getD 1 false = true → v30 = .string g
  f2 : l.getD 2 false = true → v31 = .int .i64 (k : Int)
  f3 : l.getD 3 false = true → v32 = .int .u8 (48 + (y : Int))
  f4 : l.getD 4 false = true → v33 = .int .i64 (48 + (y : Int))
  f5 : l.getD 5 false = true → v34 = .int .i64 (4 + (48 + (y : Int)))
  f6 : l.getD 6 false = true → v35 = .string f
  f7 : l.getD 7 false = true → v36 = .int .i64 (k : Int)
  f8 : l.getD 8 false = true → v37 = .int .u8 (48 + (x : Int))
  f9 : l.getD 9 false = true → v38 = .int .i64 (48 + (x : Int))
  f10 : l.getD 10 false = true → v39 = .int .i64 (4 + (y : Int) - (x : Int))
  f11 : l.getD 11 false = true → v40 = .int .i64 (c : Int)
  f12 : l.getD 12 false = true → v41 = .string q
  f13 : l.getD 13 false = true → v42 = .string (p ++ q)
  f14 : l.getD 14 false = true → v6 = .string (p ++ q)
  g14 : l.getD 0 false = false → v6 = .string p
def CbI (w0 : World) (f g p q : ByteArray) (k x y c : Nat) (l : Array Bool) (a : Act) (w : World) : Prop :=
  ∃ v6 u27 u28 v29 v30 v31 v32 v33 v34 v35 v36 v37 v38 v39 v40 v41 v42 : Value, a = { tmps := List.toArray (Value.string f :: Value.string g :: undef :: undef :: Value.string { data := #[] } :: Value.bool false :: v6 :: Value.int IntKind.i64 ↑k :: Value.string f :: Value.bool true :: Value.bool false :: Value.bool false :: Value.string g :: Value.bool true :: Value.bool false :: Value.bool false :: Value.bool false :: Value.string f :: Value.int IntKind.i64 ↑f.size :: Value.string g :: Value.int IntKind.i64 ↑g.size :: Value.bool false :: Value.bool false :: Value.int IntKind.i64 ↑k :: Value.string f :: Value.int IntKind.i64 ↑f.size :: Value.bool true :: u27 :: u28 :: v29 :: v30 :: v31 :: v32 :: v33 :: v34 :: v35 :: v36 :: v37 :: v38 :: v39 :: v40 :: v41 :: v42 :: undef :: []), defers := [] } ∧ Hid (CbIV f g p q k x y c l v29 v30 v31 v32 v33 v34 v35 v36 v37 v38 v39 v40 v41 v42 v6) ∧ Hid (Below w0.heap.size w0 w)


theorem pow_cnt : ∀ d : Nat, d ≤ 23 → wrap64 ((2 : Int) ^ (2 * d)) = ((4 ^ d : Nat) : Int) := by decide +kernel
theorem inB_yes' {n lo hi : Int} (h : inB n lo hi = true) : lo ≤ n ∧ n ≤ hi := by unfold inB at h; simpa using h
set_option maxHeartbeats 1000000 in
theorem specCountCommandWords_any (w : World) (n : Int) (t : Int) (_wn : (Lit.int .i64 n).wf = true) (_wt : (Lit.int .i64 t).wf = true) :
    Calls Try.prog 7 #[.int .i64 n, .int .i64 t] w fun e w' => e = .returned (.tuple #[.int .i64 (outCountCommandWords_0 n t), .bool (outCountCommandWords_1 n t)]) ∧ Below w.heap.size w w' := by
  have HG00 := Lib.hid (l1In_any n 0 24 w)
  have HG10 := Lib.hid (l1In_any t 0 3 w)
  clear _wn _wt
  rcases hb0 : inB n 0 24 with _ | _
  · have H0 : Hid (outCountCommandWords_0 n t = 0 ∧ outCountCommandWords_1 n t = false) := Lib.hid (by unfold outCountCommandWords_0 outCountCommandWords_1 cntB; rw [hb0]; exact ⟨rfl, rfl⟩)
    rw [hb0] at HG00
    clear hb0
    go_enter Try.func7, Try.ntmps7
    go_wp2_with (go_at_call 12; refine HG00.out.mono ?_; rintro e w' ⟨rfl, rfl⟩)
    go_ret2
    exact ⟨by rw [H0.out.1, H0.out.2]; exact rfl, Below.refl _ _⟩
  · rcases hb1 : inB t 0 3 with _ | _
    · have H0 : Hid (outCountCommandWords_0 n t = 0 ∧ outCountCommandWords_1 n t = false) := Lib.hid (by unfold outCountCommandWords_0 outCountCommandWords_1 cntB; rw [hb0, hb1]; exact ⟨rfl, rfl⟩)
      rw [hb0] at HG00
      rw [hb1] at HG10
      clear hb0 hb1
      go_enter Try.func7, Try.ntmps7
      go_wp2_with fail
      go_at_call 12
      refine HG00.out.mono ?_
      rintro e w' ⟨rfl, rfl⟩
      go_wp2_with fail
      go_at_call 12
      refine HG10.out.mono ?_
      rintro e w' ⟨rfl, rfl⟩
      go_wp2
      go_ret2
      exact ⟨by rw [H0.out.1, H0.out.2]; exact rfl, Below.refl _ _⟩
    · have h1 := inB_yes' hb0
      have h2 := inB_yes' hb1
      obtain ⟨h1a, h1b⟩ := h1
      obtain ⟨h2a, h2b⟩ := h2
      rw [hb0] at HG00
      rw [hb1] at HG10
      obtain ⟨m, rfl⟩ : ∃ m : Nat, n = (m : Int) := ⟨n.toNat, by omega⟩
      have H0 : Hid (outCountCommandWords_0 m t = (if (m : Int) = 0 then (if t = 0 then 1 else 0) else ((4 ^ (m - 1) : Nat) : Int)) ∧ outCountCommandWords_1 m t = true) := Lib.hid (by unfold outCountCommandWords_0 outCountCommandWords_1 cntB; rw [hb0, hb1]; exact ⟨rfl, rfl⟩)
      have hm : m ≤ 24 := by omega
      clear hb0 hb1
      by_cases hm0 : m = 0
      · subst hm0
        by_cases ht0 : t = 0
        · subst ht0
          go_enter Try.func7, Try.ntmps7
          go_wp2_with fail
          go_at_call 12
          refine HG00.out.mono ?_
          rintro e w' ⟨rfl, rfl⟩
          go_wp2_with fail
          go_at_call 12
          refine HG10.out.mono ?_
          rintro e w' ⟨rfl, rfl⟩
          go_wp2
          go_ret2
          exact ⟨by rw [H0.out.1, H0.out.2]; exact rfl, Below.refl _ _⟩
        · have hb : (t == 0) = false := by rw [beq_eq_false_iff_ne]; exact ht0
          have HT := Lib.hid ht0
          clear ht0
          go_enter Try.func7, Try.ntmps7
          go_wp2_with fail
          go_at_call 12
          refine HG00.out.mono ?_
          rintro e w' ⟨rfl, rfl⟩
          go_wp2_with fail
          go_at_call 12
          refine HG10.out.mono ?_
          rintro e w' ⟨rfl, rfl⟩
          go_wp2
          go_ret2
          exact ⟨by rw [H0.out.1, H0.out.2, if_pos (by rfl), if_neg HT.out]; exact rfl, Below.refl _ _⟩
      · have hb : ((m : Int) == 0) = false := by rw [beq_eq_false_iff_ne]; omega
        obtain ⟨d, hd⟩ : ∃ d, m = d + 1 := ⟨m - 1, by omega⟩
        subst hd
        have HT : Hid (¬ ((d + 1 : Nat) : Int) = 0) := Lib.hid (by omega)
        have hd23 : d ≤ 23 := by omega
        clear hm0
        go_enter Try.func7, Try.ntmps7
        go_wp2_with fail
        go_at_call 12
        refine HG00.out.mono ?_
        rintro e w' ⟨rfl, rfl⟩
        go_wp2_with fail
        go_at_call 12
        refine HG10.out.mono ?_
        rintro e w' ⟨rfl, rfl⟩
        go_wp2
        go_ret2
        exact ⟨by rw [H0.out.1, H0.out.2, if_neg HT.out, Nat.add_sub_cancel, ← pow_cnt d hd23]; exact rfl, Below.refl _ _⟩

end Go.Proofs.Ytamodlmdlaeoiaa
