/- Chapter 4: the model's ways that most face. Written by a program of mine (tools/mk/mk_dre.py). -/
import Derived.Test.YtamodlmdlaeoiabDrC
import Derived.Lib.SlBytesConst
namespace Go.Proofs.Ytamodlmdlaeoiab
open Go.ChangeShapes Go.WideShapes Go.ChangeAt Go.RowKit
open Dr

namespace Dr
/-- how many of the first k face a way, if all turn by t -/
def cntS (fs : List Nat) (t w : Nat) : Nat → Nat
  | 0 => 0
  | k + 1 => if (fs.getD k 0 + t) % 4 = w then cntS fs t w k + 1 else cntS fs t w k
theorem cntS_le (fs : List Nat) (t w : Nat) : ∀ k, cntS fs t w k ≤ k
  | 0 => Nat.le_refl _
  | k + 1 => by have := cntS_le fs t w k; rw [cntS]; split <;> omega
theorem cntS_yes {fs : List Nat} {t w k : Nat} (h : (fs.getD k 0 + t) % 4 = w) : cntS fs t w (k + 1) = cntS fs t w k + 1 := by rw [cntS, if_pos h]
theorem cntS_no {fs : List Nat} {t w k : Nat} (h : ¬ (fs.getD k 0 + t) % 4 = w) : cntS fs t w (k + 1) = cntS fs t w k := by rw [cntS, if_neg h]
/-- the way that most face, and how many, of the first ways -/
def most (fs : List Nat) : Nat → Nat × Nat
  | 0 => (0, 0)
  | w + 1 => if (most fs w).2 < cntS fs 0 w fs.length then (w, cntS fs 0 w fs.length) else most fs w
theorem most_yes {fs : List Nat} {w : Nat} (h : (most fs w).2 < cntS fs 0 w fs.length) : most fs (w + 1) = (w, cntS fs 0 w fs.length) := by rw [most, if_pos h]
theorem most_no {fs : List Nat} {w : Nat} (h : ¬ (most fs w).2 < cntS fs 0 w fs.length) : most fs (w + 1) = most fs w := by rw [most, if_neg h]
theorem most_le (fs : List Nat) : ∀ w, (most fs w).1 ≤ w ∧ (most fs w).2 ≤ fs.length
  | 0 => ⟨Nat.le_refl _, Nat.zero_le _⟩
  | w + 1 => by
    have h1 := most_le fs w
    have h2 := cntS_le fs 0 w fs.length
    rw [most]; split
    · exact ⟨by omega, by omega⟩
    · exact ⟨by omega, h1.2⟩
/-- the commands in the order in which they are tried: S, L, R, A -/
def tried (j : Nat) : Nat := if j = 0 then 0 else if j = 1 then 3 else if j = 2 then 1 else 2
theorem tried_lt (j : Nat) : tried j < 4 := by unfold tried; split; omega; split; omega; split <;> omega
def bestC (fs : List Nat) (w : Nat) : Nat → ByteArray × Int
  | 0 => (ByteArray.empty, -1)
  | j + 1 => if (bestC fs w j).2 < ((cntS fs (tried j) w fs.length : Nat) : Int) then (word [tried j], ((cntS fs (tried j) w fs.length : Nat) : Int)) else bestC fs w j
theorem bestC_yes {fs : List Nat} {w j : Nat} (h : (bestC fs w j).2 < ((cntS fs (tried j) w fs.length : Nat) : Int)) : bestC fs w (j + 1) = (word [tried j], ((cntS fs (tried j) w fs.length : Nat) : Int)) := by rw [bestC, if_pos h]
theorem bestC_no {fs : List Nat} {w j : Nat} (h : ¬ (bestC fs w j).2 < ((cntS fs (tried j) w fs.length : Nat) : Int)) : bestC fs w (j + 1) = bestC fs w j := by rw [bestC, if_neg h]
theorem bestC_bd (fs : List Nat) (w : Nat) : ∀ j, -1 ≤ (bestC fs w j).2 ∧ (bestC fs w j).2 ≤ fs.length
  | 0 => ⟨Int.le_refl _, by show (-1 : Int) ≤ _; omega⟩
  | j + 1 => by
    have h1 := bestC_bd fs w j
    have h2 := cntS_le fs (tried j) w fs.length
    rw [bestC]; split
    · exact ⟨by show (-1 : Int) ≤ ((cntS fs (tried j) w fs.length : Nat) : Int); omega, by show ((cntS fs (tried j) w fs.length : Nat) : Int) ≤ _; omega⟩
    · exact h1
end Dr
def outMostFaced_0 (f : ByteArray) : Int := if faceB f then ((most (fsOf f) 4).1 : Nat) else 0
def outMostFaced_1 (f : ByteArray) : Int := if faceB f then ((most (fsOf f) 4).2 : Nat) else 0
def outMostFaced_2 (f : ByteArray) : Bool := faceB f
def outBestCommand_0 (f : ByteArray) (y : Int) : ByteArray := if faceB f then (if inB y 0 3 then (bestC (fsOf f) y.toNat 4).1 else ByteArray.empty) else ByteArray.empty
def outBestCommand_1 (f : ByteArray) (y : Int) : Int := if faceB f then (if inB y 0 3 then (bestC (fsOf f) y.toNat 4).2 else 0) else 0
def outBestCommand_2 (f : ByteArray) (y : Int) : Bool := faceB f && inB y 0 3

set_option maxHeartbeats 1000000 in
theorem specMostFaced_any (w : World) (f : ByteArray) (_wf : f.size ≤ maxLen) (hlf : f.size ≤ 1048576) :
    Calls Try.prog 4 #[.string f] w fun e w' => e = .returned (.tuple #[.int .i64 (outMostFaced_0 f), .int .i64 (outMostFaced_1 f), .bool (outMostFaced_2 f)]) ∧ Below w.heap.size w w' := by
  have HG00 := Lib.hid (drFacing_any f w hlf)
  clear _wf
  rcases hb0 : faceB f with _ | _
  · have H0 : Hid (outMostFaced_0 f = 0 ∧ outMostFaced_1 f = 0 ∧ outMostFaced_2 f = false) := Lib.hid (by unfold outMostFaced_0 outMostFaced_1 outMostFaced_2; rw [hb0]; exact ⟨rfl, rfl, rfl⟩)
    rw [hb0] at HG00
    clear hb0
    go_enter Try.func4, Try.ntmps4
    go_wp2_with (go_at_call 6; refine HG00.out.mono ?_; rintro e w' ⟨rfl, rfl⟩)
    go_ret3
    exact ⟨by rw [H0.out.1, H0.out.2.1, H0.out.2.2]; exact rfl, Below.refl _ _⟩
  · obtain ⟨fs, rfl, h1, h2, h3⟩ := face_of hb0
    have H0 : Hid (outMostFaced_0 (face fs) = ((most fs 4).1 : Nat) ∧ outMostFaced_1 (face fs) = ((most fs 4).2 : Nat) ∧ outMostFaced_2 (face fs) = true) := Lib.hid (by unfold outMostFaced_0 outMostFaced_1 outMostFaced_2; rw [hb0, fsOf_face h3]; exact ⟨rfl, rfl, rfl⟩)
    rw [hb0] at HG00
    have HFB := Lib.hid (face_byte fs h3)
    have HFL := Lib.hid (getD_lt h3 (by omega))
    have hz : (face fs).size ≤ 30 := by rw [size_face]; exact h2
    have HZ : Hid (fs.length = (face fs).size) := Lib.hid (size_face fs).symm
    obtain ⟨f, hf⟩ : ∃ g, g = face fs := ⟨_, rfl⟩
    rw [← hf] at H0 HG00 HZ hz ⊢
    have HFB2 : Hid (∀ k, (hk : k < f.size) → ((f[k]).toNat : Int) = 48 + ((fs.getD k 0 : Nat) : Int)) := Lib.hid (by subst hf; exact HFB.out)
    clear hb0 hf h3 HFB
    go_enter Try.func4, Try.ntmps4
    go_wp2_with (go_at_call 6; refine HG00.out.mono ?_; rintro e w' ⟨rfl, rfl⟩)
    go_loop [5, 6, 7] (fun b m i => ∃ y : Nat, y ≤ 4 ∧ i = .int .i64 (y : Int) ∧ b = .int .i64 ((most fs y).1 : Nat) ∧ m = .int .i64 ((most fs y).2 : Nat)) (fun _ _ i => 4 - (intOf i).toNat)
    case atStart => exact ⟨0, by omega, rfl, rfl, rfl⟩
    case round =>
      obtain ⟨y, hy, rfl, rfl, rfl⟩ := hrel
      have hml := most_le fs y
      obtain ⟨hm1, hm2⟩ := hml
      rw [HZ.out] at hm2
      by_cases hlt : y < 4
      · have HY := Lib.hid (fun h => most_yes (fs := fs) (w := y) h)
        have HN := Lib.hid (fun h => most_no (fs := fs) (w := y) h)
        obtain ⟨mb, hmb⟩ : ∃ x, x = (most fs y).1 := ⟨_, rfl⟩
        obtain ⟨mm, hmm⟩ : ∃ x, x = (most fs y).2 := ⟨_, rfl⟩
        have HMB : Hid (most fs y = (mb, mm)) := Lib.hid (by rw [hmb, hmm])
        rw [← hmb] at hm1 ⊢
        rw [← hmm] at hm2 HY HN ⊢
        clear hmb hmm
        go_wp2
        go_loop [8, 9] (fun n i => ∃ k : Nat, k ≤ f.size ∧ i = .int .i64 (k : Int) ∧ n = .int .i64 (cntS fs 0 y k : Nat)) (fun _ i => f.size - (intOf i).toNat)
        case atStart => exact ⟨0, Nat.zero_le _, rfl, rfl⟩
        case round =>
          obtain ⟨k, hk, rfl, rfl⟩ := hrel
          have hcl := cntS_le fs 0 y k
          by_cases hlk : k < f.size
          · have e1 := HFB2.out k hlk
            have hxl := HFL.out k
            have HCY := Lib.hid (fun h => cntS_yes (fs := fs) (t := 0) (w := y) (k := k) h)
            have HCN := Lib.hid (fun h => cntS_no (fs := fs) (t := 0) (w := y) (k := k) h)
            obtain ⟨x, hx⟩ : ∃ x, x = fs.getD k 0 := ⟨_, rfl⟩
            obtain ⟨c, hc⟩ : ∃ x, x = cntS fs 0 y k := ⟨_, rfl⟩
            rw [← hx] at e1 hxl HCY HCN
            rw [← hc] at hcl HCY HCN ⊢
            clear hx hc
            by_cases hxy : x = y
            · have HS := Lib.hid (HCY.out (by omega))
              have hbb : ((x : Int) == (y : Int)) = true := by rw [beq_iff_eq]; omega
              have hbn : (x == y) = true := by rw [beq_iff_eq]; exact hxy
              clear HCY HCN hxy
              go_wp2
              go_round
              case rel => exact ⟨k + 1, by omega, by go_num, int_eq (by rw [HS.out]; simp)⟩
              case measure => simp [intOf]; omega
            · have HS := Lib.hid (HCN.out (by omega))
              have hbb : ((x : Int) == (y : Int)) = false := by rw [beq_eq_false_iff_ne]; omega
              have hbn : (x == y) = false := by rw [beq_eq_false_iff_ne]; exact hxy
              clear HCY HCN hxy
              go_wp2
              go_round
              case rel => exact ⟨k + 1, by omega, by go_num, int_eq (by rw [HS.out])⟩
              case measure => simp [intOf]; omega
          · have HCE : Hid (cntS fs 0 y fs.length = cntS fs 0 y k) := Lib.hid (by rw [HZ.out, show f.size = k from by omega])
            obtain ⟨c, hc⟩ : ∃ x, x = cntS fs 0 y k := ⟨_, rfl⟩
            rw [← hc] at hcl HCE ⊢
            clear hc
            by_cases hmc : mm < c
            · have HS : Hid (most fs (y + 1) = (y, c)) := Lib.hid (by rw [HY.out (by rw [HCE.out]; exact hmc), HCE.out])
              go_wp2
              go_round
              case rel => exact ⟨y + 1, by omega, by go_num, int_eq (by rw [HS.out]), int_eq (by rw [HS.out])⟩
              case measure => simp [intOf]; omega
            · have HS : Hid (most fs (y + 1) = (mb, mm)) := Lib.hid (by rw [HN.out (by rw [HCE.out]; omega), HMB.out])
              go_wp2
              go_round
              case rel => exact ⟨y + 1, by omega, by go_num, int_eq (by rw [HS.out]), int_eq (by rw [HS.out])⟩
              case measure => simp [intOf]; omega
      · obtain rfl : y = 4 := by omega
        go_wp2
        go_ret3
        exact ⟨by rw [H0.out.1, H0.out.2.1, H0.out.2.2]; exact rfl, Below.refl _ _⟩

structure BcIV (f : ByteArray) (s : Int) (k x t y : Nat) (b : Bool) (l : Array Bool) (v34 v35 v36 v37 v38 v39 v40 v41 v42 v43 v44 : Value) : Prop where
  f0 : l.getD 0 false = true → v34 = .string f
  f1 : l.getD 1 false = true → v35 = .int .i64 (k : Int)
  f2 : l.getD 2 false = true → v36 = .int .u8 (48 + (x : Int))
  f3 : l.getD 3 false = true → v37 = .int .u8 (x : Int)
  f4 : l.getD 4 false = true → v38 = .int .i64 (x : Int)
  f5 : l.getD 5 false = true → v39 = .int .u8 s
  f6 : l.getD 6 false = true → v40 = .int .i64 (t : Int)
  f7 : l.getD 7 false = true → v41 = .int .i64 ((x : Int) + (t : Int))
  f8 : l.getD 8 false = true → v42 = .int .i64 (((x : Int) + (t : Int)) % 4)
  f9 : l.getD 9 false = true → v43 = .int .i64 (y : Int)
  f10 : l.getD 10 false = true → v44 = .bool b
def BcI (w0 : World) (B : Nat) (f mb : ByteArray) (mm s : Int) (k x t y c j : Nat) (b : Bool) (u32 u33 u45 u46 u47 u48 u49 u50 u51 u52 u53 u54 : Value) (l : Array Bool) (a : Act) (w : World) : Prop :=
  ∃ v34 v35 v36 v37 v38 v39 v40 v41 v42 v43 v44 : Value, a = { tmps := List.toArray (Value.string f :: Value.int IntKind.i64 ↑y :: undef :: undef :: Value.string { data := #[] } :: Value.int IntKind.i64 0 :: Value.bool false :: Value.string mb :: Value.int IntKind.i64 mm :: undef :: Value.int IntKind.u8 s :: Value.int IntKind.i64 ↑c :: Value.int IntKind.i64 ↑k :: Value.string f :: Value.bool true :: Value.bool false :: Value.bool false :: Value.int IntKind.i64 ↑y :: Value.bool true :: Value.bool false :: Value.bool false :: Value.slice (some { block := B, off := 0 }) 4 4 :: Value.slice (some { block := B, off := 0 }) 4 4 :: Value.int IntKind.i64 4 :: Value.int IntKind.i64 ↑j :: Value.bool true :: Value.pointer (some { block := B, off := j }) :: Value.int IntKind.u8 s :: Value.int IntKind.i64 ↑k :: Value.string f :: Value.int IntKind.i64 ↑f.size :: Value.bool true :: u32 :: u33 :: v34 :: v35 :: v36 :: v37 :: v38 :: v39 :: v40 :: v41 :: v42 :: v43 :: v44 :: u45 :: u46 :: u47 :: u48 :: u49 :: u50 :: u51 :: u52 :: u53 :: u54 :: undef :: undef :: []), defers := [] } ∧ Hid (BcIV f s k x t y b l v34 v35 v36 v37 v38 v39 v40 v41 v42 v43 v44) ∧ Hid (Below w0.heap.size w0 w)

theorem inB_yes2 {n lo hi : Int} (h : inB n lo hi = true) : lo ≤ n ∧ n ≤ hi := by unfold inB at h; simpa using h

end Go.Proofs.Ytamodlmdlaeoiab
