/- Chapter 4: the model's ways that most face. Written by a program of mine (tools/mk/mk_dre.py). -/
import Derived.Test.YtjbomclildkjaaaDoorDrC
import Derived.Lib.SlBytesConst
namespace Go.Proofs.YtjbomclildkjaaaDoor
open Go.ChangeShapes Go.WideShapes Go.ChangeAt Go.RowKit
open Dr

namespace Dr
/-- how many of the first k face a way, if all turn by t -/
def cntS (fs : List Nat) (t w : Nat) : Nat → Nat
  | 0 => 0
  | k + 1 => if (fs.getD k 0 + t) % 4 = w then cntS fs t w k + 1 else cntS fs t w k
theorem cntS_le (fs : List Nat) (t w : Nat) : ∀ k, cntS fs t w k ≤ k
  | 0 => Nat.le_refl _
  | k + 1 => by have := cntS_le fs t w k; rw [cntS]; split <;> omega
theorem cntS_yes {fs : List Nat} {t w k : Nat} (h : (fs.getD k 0 + t) % 4 = w) : cntS fs t w (k + 1) = cntS fs t w k + 1 := by rw [cntS, if_pos h]
theorem cntS_no {fs : List Nat} {t w k : Nat} (h : ¬ (fs.getD k 0 + t) % 4 = w) : cntS fs t w (k + 1) = cntS fs t w k := by rw [cntS, if_neg h]
/-- the way that most face, and how many, of the first ways -/
def most (fs : List Nat) : Nat → Nat × Nat
  | 0 => (0, 0)
  | w + 1 => if (most fs w).2 < cntS fs 0 w fs.length then (w, cntS fs 0 w fs.length) else most fs w
theorem most_yes {fs : List Nat} {w : Nat} (h : (most fs w).2 < cntS fs 0 w fs.length) : most fs (w + 1) = (w, cntS fs 0 w fs.length) := by rw [most, if_pos h]
theorem most_no {fs : List Nat} {w : Nat} (h : ¬ (most fs w).2 < cntS fs 0 w fs.length) : most fs (w + 1) = most fs w := by rw [most, if_neg h]
theorem most_le (fs : List Nat) : ∀ w, (most fs w).1 ≤ w ∧ (most fs w).2 ≤ fs.length
  | 0 => ⟨Nat.le_refl _, Nat.zero_le _⟩
  | w + 1 => by
    have h1 := most_le fs w
    have h2 := cntS_le fs 0 w fs.length
    rw [most]; split
    · exact ⟨by omega, by omega⟩
    · exact ⟨by omega, h1.2⟩
/-- the commands in the order in which they are tried: S, L, R, A -/
def tried (j : Nat) : Nat := if j = 0 then 0 else if j = 1 then 3 else if j = 2 then 1 else 2
theorem tried_lt (j : Nat) : tried j < 4 := by unfold tried; split; omega; split; omega; split <;> omega
def bestC (fs : List Nat) (w : Nat) : Nat → ByteArray × Int
  | 0 => (ByteArray.empty, -1)
  | j + 1 => if (bestC fs w j).2 < ((cntS fs (tried j) w fs.length : Nat) : Int) then (word [tried j], ((cntS fs (tried j) w fs.length : Nat) : Int)) else bestC fs w j
theorem bestC_yes {fs : List Nat} {w j : Nat} (h : (bestC fs w j).2 < ((cntS fs (tried j) w fs.length : Nat) : Int)) : bestC fs w (j + 1) = (word [tried j], ((cntS fs (tried j) w fs.length : Nat) : Int)) := by rw [bestC, if_pos h]
theorem bestC_no {fs : List Nat} {w j : Nat} (h : ¬ (bestC fs w j).2 < ((cntS fs (tried j) w fs.length : Nat) : Int)) : bestC fs w (j + 1) = bestC fs w j := by rw [bestC, if_neg h]
theorem bestC_bd (fs : List Nat) (w : Nat) : ∀ j, -1 ≤ (bestC fs w j).2 ∧ (bestC fs w j).2 ≤ fs.length
  | 0 => ⟨Int.le_refl _, by show (-1 : Int) ≤ _; omega⟩
  | j + 1 => by
    have h1 := bestC_bd fs w j
    have h2 := cntS_le fs (tried j) w fs.length
    rw [bestC]; split
    · exact ⟨by show (-1 : Int) ≤ ((cntS fs (tried j) w fs.length : Nat) : Int); omega, by show ((cntS fs (tried j) w fs.length : Nat) : Int) ≤ _; omega⟩
    · exact h1
end Dr
def outMostFaced_0 (f : ByteArray) : Int := if faceB f then ((most (fsOf f) 4).1 : Nat) else 0
def outMostFaced_1 (f : ByteArray) : Int := if faceB f then ((most (fsOf f) 4).2 : Nat) else 0
def outMostFaced_2 (f : ByteArray) : Bool := faceB f
def outBestCommand_0 (f : ByteArray) (y : Int) : ByteArray := if faceB f then (if inB y 0 3 then (bestC (fsOf f) y.toNat 4).1 else ByteArray.empty) else ByteArray.empty
def outBestCommand_1 (f : ByteArray) (y : Int) : Int := if faceB f then (if inB y 0 3 then (bestC (fsOf f) y.toNat 4).2 else 0) else 0
def outBestCommand_2 (f : ByteArray) (y : Int) : Bool := faceB f && inB y 0 3

set_option maxRecDepth 20000 in
set_option maxHeartbeats 1000000 in
theorem specMostFaced_any (w : World) (f : ByteArray) (_wf : f.size ≤ maxLen) (hlf : f.size ≤ 1048576) :
    Calls Tryd.prog 36 #[.string f] w fun e w' => e = .returned (.tuple #[.int .i64 (outMostFaced_0 f), .int .i64 (outMostFaced_1 f), .bool (outMostFaced_2 f)]) ∧ Below w.heap.size w w' := by
  have HG00 := Lib.hid (drFacing_any f w hlf)
  clear _wf
  rcases hb0 : faceB f with _ | _
  · have H0 : Hid (outMostFaced_0 f = 0 ∧ outMostFaced_1 f = 0 ∧ outMostFaced_2 f = false) := Lib.hid (by unfold outMostFaced_0 outMostFaced_1 outMostFaced_2; rw [hb0]; exact ⟨rfl, rfl, rfl⟩)
    rw [hb0] at HG00
    clear hb0
    go_enter Tryd.func36, Tryd.ntmps36
    go_wp2_with (go_at_call 55; refine HG00.out.mono ?_; rintro e w' ⟨rfl, rfl⟩)
    go_ret3
    exact ⟨by rw [H0.out.1, H0.out.2.1, H0.out.2.2]; exact rfl, Below.refl _ _⟩
  · obtain ⟨fs, rfl, h1, h2, h3⟩ := face_of hb0
    have H0 : Hid (outMostFaced_0 (face fs) = ((most fs 4).1 : Nat) ∧ outMostFaced_1 (face fs) = ((most fs 4).2 : Nat) ∧ outMostFaced_2 (face fs) = true) := Lib.hid (by unfold outMostFaced_0 outMostFaced_1 outMostFaced_2; rw [hb0, fsOf_face h3]; exact ⟨rfl, rfl, rfl⟩)
    rw [hb0] at HG00
    have HFB := Lib.hid (face_byte fs h3)
    have HFL := Lib.hid (getD_lt h3 (by omega))
    have hz : (face fs).size ≤ 30 := by rw [size_face]; exact h2
    have HZ : Hid (fs.length = (face fs).size) := Lib.hid (size_face fs).symm
    obtain ⟨f, hf⟩ : ∃ g, g = face fs := ⟨_, rfl⟩
    rw [← hf] at H0 HG00 HZ hz ⊢
    have HFB2 : Hid (∀ k, (hk : k < f.size) → ((f[k]).toNat : Int) = 48 + ((fs.getD k 0 : Nat) : Int)) := Lib.hid (by subst hf; exact HFB.out)
    clear hb0 hf h3 HFB
    go_enter Tryd.func36, Tryd.ntmps36
    go_wp2_with (go_at_call 55; refine HG00.out.mono ?_; rintro e w' ⟨rfl, rfl⟩)
    go_loop [5, 6, 7] (fun b m i => ∃ y : Nat, y ≤ 4 ∧ i = .int .i64 (y : Int) ∧ b = .int .i64 ((most fs y).1 : Nat) ∧ m = .int .i64 ((most fs y).2 : Nat)) (fun _ _ i => 4 - (intOf i).toNat)
    case atStart => exact ⟨0, by omega, rfl, rfl, rfl⟩
    case round =>
      obtain ⟨y, hy, rfl, rfl, rfl⟩ := hrel
      have hml := most_le fs y
      obtain ⟨hm1, hm2⟩ := hml
      rw [HZ.out] at hm2
      by_cases hlt : y < 4
      · have HY := Lib.hid (fun h => most_yes (fs := fs) (w := y) h)
        have HN := Lib.hid (fun h => most_no (fs := fs) (w := y) h)
        obtain ⟨mb, hmb⟩ : ∃ x, x = (most fs y).1 := ⟨_, rfl⟩
        obtain ⟨mm, hmm⟩ : ∃ x, x = (most fs y).2 := ⟨_, rfl⟩
        have HMB : Hid (most fs y = (mb, mm)) := Lib.hid (by rw [hmb, hmm])
        rw [← hmb] at hm1 ⊢
        rw [← hmm] at hm2 HY HN ⊢
        clear hmb hmm
        go_wp2
        go_loop [8, 9] (fun n i => ∃ k : Nat, k ≤ f.size ∧ i = .int .i64 (k : Int) ∧ n = .int .i64 (cntS fs 0 y k : Nat)) (fun _ i => f.size - (intOf i).toNat)
        case atStart => exact ⟨0, Nat.zero_le _, rfl, rfl⟩
        case round =>
          obtain ⟨k, hk, rfl, rfl⟩ := hrel
          have hcl := cntS_le fs 0 y k
          by_cases hlk : k < f.size
          · have e1 := HFB2.out k hlk
            have hxl := HFL.out k
            have HCY := Lib.hid (fun h => cntS_yes (fs := fs) (t := 0) (w := y) (k := k) h)
            have HCN := Lib.hid (fun h => cntS_no (fs := fs) (t := 0) (w := y) (k := k) h)
            obtain ⟨x, hx⟩ : ∃ x, x = fs.getD k 0 := ⟨_, rfl⟩
            obtain ⟨c, hc⟩ : ∃ x, x = cntS fs 0 y k := ⟨_, rfl⟩
            rw [← hx] at e1 hxl HCY HCN
            rw [← hc] at hcl HCY HCN ⊢
            clear hx hc
            by_cases hxy : x = y
            · have HS := Lib.hid (HCY.out (by omega))
              have hbb : ((x : Int) == (y : Int)) = true := by rw [beq_iff_eq]; omega
              have hbn : (x == y) = true := by rw [beq_iff_eq]; exact hxy
              clear HCY HCN hxy
              go_wp2
              go_round
              case rel => exact ⟨k + 1, by omega, by go_num, int_eq (by rw [HS.out]; simp)⟩
              case measure => simp [intOf]; omega
            · have HS := Lib.hid (HCN.out (by omega))
              have hbb : ((x : Int) == (y : Int)) = false := by rw [beq_eq_false_iff_ne]; omega
              have hbn : (x == y) = false := by rw [beq_eq_false_iff_ne]; exact hxy
              clear HCY HCN hxy
              go_wp2
              go_round
              case rel => exact ⟨k + 1, by omega, by go_num, int_eq (by rw [HS.out])⟩
              case measure => simp [intOf]; omega
          · have HCE : Hid (cntS fs 0 y fs.length = cntS fs 0 y k) := Lib.hid (by rw [HZ.out, show f.size = k from by omega])
            obtain ⟨c, hc⟩ : ∃ x, x = cntS fs 0 y k := ⟨_, rfl⟩
            rw [← hc] at hcl HCE ⊢
            clear hc
            by_cases hmc : mm < c
            · have HS : Hid (most fs (y + 1) = (y, c)) := Lib.hid (by rw [HY.out (by rw [HCE.out]; exact hmc), HCE.out])
              go_wp2
              go_round
              case rel => exact ⟨y + 1, by omega, by go_num, int_eq (by rw [HS.out]), int_eq (by rw [HS.out])⟩
              case measure => simp [intOf]; omega
            · have HS : Hid (most fs (y + 1) = (mb, mm)) := Lib.hid (by rw [HN.out (by rw [HCE.out]; omega), HMB.out])
              go_wp2
              go_round
              case rel => exact ⟨y + 1, by omega, by go_num, int_eq (by rw [HS.out]), int_eq (by rw [HS.out])⟩
              case measure => simp [intOf]; omega
      · obtain rfl : y = 4 := by omega
        go_wp2
        go_ret3
        exact ⟨by rw [H0.out.1, H0.out.2.1, H0.out.2.2]; exact rfl, Below.refl _ _⟩

structure BcIV (f : ByteArray) (s : Int) (k x t y : Nat) (b : Bool) (l : Array Bool) (v34 v35 v36 v37 v38 v39 v40 v41 v42 v43 v44 : Value) : Prop where
  f0 : l.getD 0 false = true → v34 = .string f
  f1 : l.getD 1 false = true → v35 = .int .i64 (k : Int)
  f2 : l.getD 2 false = true → v36 = .int .u8 (48 + (x : Int))
  f3 : l.getD 3 false = true → v37 = .int .u8 (x : Int)
  f4 : l.getD 4 false = true → v38 = .int .i64 (x : Int)
  f5 : l.getD 5 false = true → v39 = .int .u8 s
  f6 : l.getD 6 false = true → v40 = .int .i64 (t : Int)
  f7 : l.getD 7 false = true → v41 = .int .i64 ((x : Int) + (t : Int))
  f8 : l.getD 8 false = true → v42 = .int .i64 (((x : Int) + (t : Int)) % 4)
  f9 : l.getD 9 false = true → v43 = .int .i64 (y : Int)
  f10 : l.getD 10 false = true → v44 = .bool b
def BcI (w0 : World) (B : Nat) (f mb : ByteArray) (mm s : Int) (k x t y c j : Nat) (b : Bool) (u32 u33 u45 u46 u47 u48 u49 u50 u51 u52 u53 u54 : Value) (l : Array Bool) (a : Act) (w : World) : Prop :=
  ∃ v34 v35 v36 v37 v38 v39 v40 v41 v42 v43 v44 : Value, a = { tmps := List.toArray (Value.string f :: Value.int IntKind.i64 ↑y :: undef :: undef :: Value.string { data := #[] } :: Value.int IntKind.i64 0 :: Value.bool false :: Value.string mb :: Value.int IntKind.i64 mm :: undef :: Value.int IntKind.u8 s :: Value.int IntKind.i64 ↑c :: Value.int IntKind.i64 ↑k :: Value.string f :: Value.bool true :: Value.bool false :: Value.bool false :: Value.int IntKind.i64 ↑y :: Value.bool true :: Value.bool false :: Value.bool false :: Value.slice (some { block := B, off := 0 }) 4 4 :: Value.slice (some { block := B, off := 0 }) 4 4 :: Value.int IntKind.i64 4 :: Value.int IntKind.i64 ↑j :: Value.bool true :: Value.pointer (some { block := B, off := j }) :: Value.int IntKind.u8 s :: Value.int IntKind.i64 ↑k :: Value.string f :: Value.int IntKind.i64 ↑f.size :: Value.bool true :: u32 :: u33 :: v34 :: v35 :: v36 :: v37 :: v38 :: v39 :: v40 :: v41 :: v42 :: v43 :: v44 :: u45 :: u46 :: u47 :: u48 :: u49 :: u50 :: u51 :: u52 :: u53 :: u54 :: undef :: undef :: []), defers := [] } ∧ Hid (BcIV f s k x t y b l v34 v35 v36 v37 v38 v39 v40 v41 v42 v43 v44) ∧ Hid (Below w0.heap.size w0 w)

theorem inB_yes2 {n lo hi : Int} (h : inB n lo hi = true) : lo ≤ n ∧ n ≤ hi := by unfold inB at h; simpa using h
set_option maxRecDepth 20000 in
set_option maxHeartbeats 1000000 in
theorem specBestCommand_any (w : World) (f : ByteArray) (y : Int) (_wf : f.size ≤ maxLen) (_wy : (Lit.int .i64 y).wf = true) (hlf : f.size ≤ 1048576) :
    Calls Tryd.prog 33 #[.string f, .int .i64 y] w fun e w' => e = .returned (.tuple #[.string (outBestCommand_0 f y), .int .i64 (outBestCommand_1 f y), .bool (outBestCommand_2 f y)]) ∧ Below w.heap.size w w' := by
  have HG00 := Lib.hid (drFacing_any f w hlf)
  have HG10 := Lib.hid (l1In_any y 0 3 w)
  clear _wf _wy
  rcases hb0 : faceB f with _ | _
  · have H0 : Hid (outBestCommand_0 f y = ByteArray.empty ∧ outBestCommand_1 f y = 0 ∧ outBestCommand_2 f y = false) := Lib.hid (by unfold outBestCommand_0 outBestCommand_1 outBestCommand_2; rw [hb0]; exact ⟨rfl, rfl, rfl⟩)
    rw [hb0] at HG00
    clear hb0
    go_enter Tryd.func33, Tryd.ntmps33
    go_wp2_with (go_at_call 55; refine HG00.out.mono ?_; rintro e w' ⟨rfl, rfl⟩)
    go_ret3
    exact ⟨by rw [H0.out.1, H0.out.2.1, H0.out.2.2]; exact rfl, Below.refl _ _⟩
  · rcases hb1 : inB y 0 3 with _ | _
    · have H0 : Hid (outBestCommand_0 f y = ByteArray.empty ∧ outBestCommand_1 f y = 0 ∧ outBestCommand_2 f y = false) := Lib.hid (by unfold outBestCommand_0 outBestCommand_1 outBestCommand_2; rw [hb0, hb1]; exact ⟨rfl, rfl, rfl⟩)
      rw [hb0] at HG00
      rw [hb1] at HG10
      clear hb0 hb1
      go_enter Tryd.func33, Tryd.ntmps33
      go_wp2_with (first | (go_at_call 55; refine HG00.out.mono ?_; rintro e w' ⟨rfl, rfl⟩) | (go_at_call 69; refine HG10.out.mono ?_; rintro e w' ⟨rfl, rfl⟩))
      go_ret3
      exact ⟨by rw [H0.out.1, H0.out.2.1, H0.out.2.2]; exact rfl, Below.refl _ _⟩
    · obtain ⟨fs, rfl, h1, h2, h3⟩ := face_of hb0
      obtain ⟨hy1, hy2⟩ := inB_yes2 hb1
      obtain ⟨y, rfl⟩ : ∃ m : Nat, y = (m : Int) := ⟨y.toNat, by omega⟩
      have H0 : Hid (outBestCommand_0 (face fs) y = (bestC fs y 4).1 ∧ outBestCommand_1 (face fs) y = (bestC fs y 4).2 ∧ outBestCommand_2 (face fs) y = true) := Lib.hid (by unfold outBestCommand_0 outBestCommand_1 outBestCommand_2; rw [hb0, hb1, fsOf_face h3]; exact ⟨rfl, rfl, rfl⟩)
      rw [hb0] at HG00
      rw [hb1] at HG10
      have HFB := Lib.hid (face_byte fs h3)
      have HFL := Lib.hid (getD_lt h3 (by omega))
      have hz : (face fs).size ≤ 30 := by rw [size_face]; exact h2
      have HZ : Hid (fs.length = (face fs).size) := Lib.hid (size_face fs).symm
      obtain ⟨f, hf⟩ : ∃ g, g = face fs := ⟨_, rfl⟩
      rw [← hf] at H0 HG00 HZ hz ⊢
      have HFB2 : Hid (∀ k, (hk : k < f.size) → ((f[k]).toNat : Int) = 48 + ((fs.getD k 0 : Nat) : Int)) := Lib.hid (by subst hf; exact HFB.out)
      clear hb0 hb1 hf h3 HFB
      have kc := fun (w : World) (C : Array Value) (n c : Nat) => Lib.run_convert_bytes_const (P := Tryd.prog) w 22 5 C n c Tryd.underlying22 Tryd.underlying5
      go_enter Tryd.func33, Tryd.ntmps33
      go_wp2_with (first | (go_at_call 55; refine HG00.out.mono ?_; rintro e w' ⟨rfl, rfl⟩) | (go_at_call 69; refine HG10.out.mono ?_; rintro e w' ⟨rfl, rfl⟩))
      clear kc
      have HBS : Hid (∀ j, j < 4 → ∀ w5, Below (w.heap.size + 1) (w.alloc (.cells #[.int .u8 83, .int .u8 76, .int .u8 82, .int .u8 65] 5 (4, 5))) w5 → w5.cell? ⟨w.heap.size, j, none⟩ = some (.int .u8 ((sg (tried j)).toNat : Int))) := Lib.hid (fun j hj w5 h5 => by
        rw [World.cell?_of_block (h5.block w.heap.size (by omega))]
        match j, hj with
        | 0, _ => exact cell_of_row _ _ _ _ _ _ (heap_alloc_new w _)
        | 1, _ => exact cell_of_row _ _ _ _ _ _ (heap_alloc_new w _)
        | 2, _ => exact cell_of_row _ _ _ _ _ _ (heap_alloc_new w _)
        | 3, _ => exact cell_of_row _ _ _ _ _ _ (heap_alloc_new w _))
      go_loopw [7, 8, 24] (fun b m i wr => ∃ j : Nat, j ≤ 4 ∧ i = .int .i64 (j : Int) ∧ b = .string (bestC fs y j).1 ∧ m = .int .i64 (bestC fs y j).2 ∧ Hid (Below (w.heap.size + 1) (w.alloc (.cells #[.int .u8 83, .int .u8 76, .int .u8 82, .int .u8 65] 5 (4, 5))) wr)) (fun _ _ i _ => 4 - (intOf i).toNat)
      case atStart => exact ⟨0, by omega, rfl, rfl, rfl, Lib.hid (Below.refl _ _)⟩
      case round =>
        obtain ⟨j, hj, rfl, rfl, rfl, HB⟩ := hrel
        have hbd := bestC_bd fs y j
        obtain ⟨hm1, hm2⟩ := hbd
        rw [HZ.out] at hm2
        by_cases hlt : j < 4
        · have HY := Lib.hid (fun h => bestC_yes (fs := fs) (w := y) (j := j) h)
          have HN := Lib.hid (fun h => bestC_no (fs := fs) (w := y) (j := j) h)
          have es := HBS.out j hlt wr HB.out
          have htl := tried_lt j
          have hst := sg_turn htl
          obtain ⟨hs0, hs1⟩ := byte_bd (sg (tried j))
          have HT := Lib.hid (fun w2 => drTurn_any ((sg (tried j)).toNat : Int) w2 hs0 hs1)
          rw [hst] at HT
          have HSG := Lib.hid (fun w2 => drSign_any (tried j) htl w2)
          have i1 : (0 : Int) ≤ (j : Int) := by omega
          have i2 : (j : Int) < 4 := by omega
          obtain ⟨mb, hmb⟩ : ∃ x, x = (bestC fs y j).1 := ⟨_, rfl⟩
          obtain ⟨mm, hmm⟩ : ∃ x, x = (bestC fs y j).2 := ⟨_, rfl⟩
          have HMB : Hid (bestC fs y j = (mb, mm)) := Lib.hid (by rw [hmb, hmm])
          rw [← hmb]
          rw [← hmm] at hm1 hm2 HY HN ⊢
          obtain ⟨t, ht⟩ : ∃ x, x = tried j := ⟨_, rfl⟩
          rw [← ht] at HY HN HT HSG htl es hs0 hs1
          obtain ⟨s, hs⟩ : ∃ x : Int, x = ((sg t).toNat : Int) := ⟨_, rfl⟩
          rw [← hs] at es HT hs0 hs1
          clear hmb hmm ht hst hs
          obtain ⟨wo, rfl⟩ : ∃ wo : World, wo = wr := ⟨_, rfl⟩
          go_wp2
          go_loopw [11, 12] (fun n i wr => ∃ k : Nat, k ≤ f.size ∧ i = .int .i64 (k : Int) ∧ n = .int .i64 (cntS fs t y k : Nat) ∧ Hid (Below (w.heap.size + 1) (w.alloc (.cells #[.int .u8 83, .int .u8 76, .int .u8 82, .int .u8 65] 5 (4, 5))) wr)) (fun _ i _ => f.size - (intOf i).toNat)
          case atStart => exact ⟨0, Nat.zero_le _, rfl, rfl, HB⟩
          case round =>
            obtain ⟨k, hk, rfl, rfl, HB2⟩ := hrel
            have hcl := cntS_le fs t y k
            by_cases hlk : k < f.size
            · have e1 := HFB2.out k hlk
              have hxl := HFL.out k
              have HCY := Lib.hid (fun h => cntS_yes (fs := fs) (t := t) (w := y) (k := k) h)
              have HCN := Lib.hid (fun h => cntS_no (fs := fs) (t := t) (w := y) (k := k) h)
              obtain ⟨x, hx⟩ : ∃ x, x = fs.getD k 0 := ⟨_, rfl⟩
              obtain ⟨c, hc⟩ : ∃ x, x = cntS fs t y k := ⟨_, rfl⟩
              rw [← hx] at e1 hxl HCY HCN
              rw [← hc] at hcl HCY HCN ⊢
              clear hx hc
              obtain ⟨b, hb⟩ : ∃ b, b = decide ((x + t) % 4 = y) := ⟨_, rfl⟩
              have hbb : ((((x : Int) + (t : Int)) % 4) == (y : Int)) = b := by
                rw [hb, Bool.eq_iff_iff]; simp; omega
              have HBV := Lib.hid hb
              clear hb
              go_wp2_with fail
              refine wp_region_inv (by kernel_rfl) (BcI wr w.heap.size f mb mm s k x t y c j b u32 u33 u45 u46 u47 u48 u49 u50 u51 u52 u53 u54) (by kernel_rfl) ?_ ?_ ?_
              · exact ⟨_, _, _, _, _, _, _, _, _, _, _, rfl, Lib.hid ⟨fun h => by simp at h, fun h => by simp at h, fun h => by simp at h, fun h => by simp at h, fun h => by simp at h, fun h => by simp at h, fun h => by simp at h, fun h => by simp at h, fun h => by simp at h, fun h => by simp at h, fun h => by simp at h⟩, Lib.hid ⟨rfl, rfl, rfl, Nat.le_refl _, fun _ _ => rfl⟩⟩
              · intro i o l a w' ho hsz hl hdep hI
                obtain ⟨v34, v35, v36, v37, v38, v39, v40, v41, v42, v43, v44, rfl, HV, BL⟩ := hI
                have HSZ : Hid (l.size = 11) := Lib.hid hsz
                have HLF : Hid (l.getD i false = false) := Lib.hid (by rcases h : l.getD i false with _ | _; rfl; rw [getD_flip (by have hs := HSZ.out; have := (Array.getElem?_eq_some_iff.1 ho).1; simp at this; omega), h] at hl; cases hl)
                clear hsz hl
                match i, ho with
                | 0, ho =>
                  obtain rfl := Option.some.inj ho
                  clear hdep ho
                  go_wp2
                  exact ⟨_, v35, v36, v37, v38, v39, v40, v41, v42, v43, v44, rfl, Lib.hid ⟨fun _ => by first | rfl | exact int_eq (by omega), fun h => HV.out.f1 (ung (by decide) h), fun h => HV.out.f2 (ung (by decide) h), fun h => HV.out.f3 (ung (by decide) h), fun h => HV.out.f4 (ung (by decide) h), fun h => HV.out.f5 (ung (by decide) h), fun h => HV.out.f6 (ung (by decide) h), fun h => HV.out.f7 (ung (by decide) h), fun h => HV.out.f8 (ung (by decide) h), fun h => HV.out.f9 (ung (by decide) h), fun h => HV.out.f10 (ung (by decide) h)⟩, BL⟩
                | 1, ho =>
                  obtain rfl := Option.some.inj ho
                  clear hdep ho
                  go_wp2
                  exact ⟨v34, _, v36, v37, v38, v39, v40, v41, v42, v43, v44, rfl, Lib.hid ⟨fun h => HV.out.f0 (ung (by decide) h), fun _ => by first | rfl | exact int_eq (by omega), fun h => HV.out.f2 (ung (by decide) h), fun h => HV.out.f3 (ung (by decide) h), fun h => HV.out.f4 (ung (by decide) h), fun h => HV.out.f5 (ung (by decide) h), fun h => HV.out.f6 (ung (by decide) h), fun h => HV.out.f7 (ung (by decide) h), fun h => HV.out.f8 (ung (by decide) h), fun h => HV.out.f9 (ung (by decide) h), fun h => HV.out.f10 (ung (by decide) h)⟩, BL⟩
                | 2, ho =>
                  obtain rfl := Option.some.inj ho
                  obtain rfl := HV.out.f0 (hdep ⟨0, .data⟩ (by simp) rfl)
                  obtain rfl := HV.out.f1 (hdep ⟨1, .data⟩ (by simp) rfl)
                  clear hdep ho
                  go_wp2
                  exact ⟨_, _, _, v37, v38, v39, v40, v41, v42, v43, v44, rfl, Lib.hid ⟨fun h => HV.out.f0 (ung (by decide) h), fun h => HV.out.f1 (ung (by decide) h), fun _ => by first | rfl | (rw [e1]), fun h => HV.out.f3 (ung (by decide) h), fun h => HV.out.f4 (ung (by decide) h), fun h => HV.out.f5 (ung (by decide) h), fun h => HV.out.f6 (ung (by decide) h), fun h => HV.out.f7 (ung (by decide) h), fun h => HV.out.f8 (ung (by decide) h), fun h => HV.out.f9 (ung (by decide) h), fun h => HV.out.f10 (ung (by decide) h)⟩, BL⟩
                | 3, ho =>
                  obtain rfl := Option.some.inj ho
                  obtain rfl := HV.out.f2 (hdep ⟨2, .data⟩ (by simp) rfl)
                  clear hdep ho
                  go_wp2
                  exact ⟨v34, v35, _, _, v38, v39, v40, v41, v42, v43, v44, rfl, Lib.hid ⟨fun h => HV.out.f0 (ung (by decide) h), fun h => HV.out.f1 (ung (by decide) h), fun h => HV.out.f2 (ung (by decide) h), fun _ => by first | rfl | (congr 1; omega), fun h => HV.out.f4 (ung (by decide) h), fun h => HV.out.f5 (ung (by decide) h), fun h => HV.out.f6 (ung (by decide) h), fun h => HV.out.f7 (ung (by decide) h), fun h => HV.out.f8 (ung (by decide) h), fun h => HV.out.f9 (ung (by decide) h), fun h => HV.out.f10 (ung (by decide) h)⟩, BL⟩
                | 4, ho =>
                  obtain rfl := Option.some.inj ho
                  obtain rfl := HV.out.f3 (hdep ⟨3, .data⟩ (by simp) rfl)
                  clear hdep ho
                  go_wp2
                  exact ⟨v34, v35, v36, _, _, v39, v40, v41, v42, v43, v44, rfl, Lib.hid ⟨fun h => HV.out.f0 (ung (by decide) h), fun h => HV.out.f1 (ung (by decide) h), fun h => HV.out.f2 (ung (by decide) h), fun h => HV.out.f3 (ung (by decide) h), fun _ => by first | rfl | exact int_eq (by omega), fun h => HV.out.f5 (ung (by decide) h), fun h => HV.out.f6 (ung (by decide) h), fun h => HV.out.f7 (ung (by decide) h), fun h => HV.out.f8 (ung (by decide) h), fun h => HV.out.f9 (ung (by decide) h), fun h => HV.out.f10 (ung (by decide) h)⟩, BL⟩
                | 5, ho =>
                  obtain rfl := Option.some.inj ho
                  clear hdep ho
                  go_wp2
                  exact ⟨v34, v35, v36, v37, v38, _, v40, v41, v42, v43, v44, rfl, Lib.hid ⟨fun h => HV.out.f0 (ung (by decide) h), fun h => HV.out.f1 (ung (by decide) h), fun h => HV.out.f2 (ung (by decide) h), fun h => HV.out.f3 (ung (by decide) h), fun h => HV.out.f4 (ung (by decide) h), fun _ => by first | rfl | exact int_eq (by omega), fun h => HV.out.f6 (ung (by decide) h), fun h => HV.out.f7 (ung (by decide) h), fun h => HV.out.f8 (ung (by decide) h), fun h => HV.out.f9 (ung (by decide) h), fun h => HV.out.f10 (ung (by decide) h)⟩, BL⟩
                | 6, ho =>
                  obtain rfl := Option.some.inj ho
                  obtain rfl := HV.out.f5 (hdep ⟨5, .data⟩ (by simp) rfl)
                  clear hdep ho
                  go_wp2_with fail
                  go_at_call 73
                  refine (HT.out _).mono ?_
                  rintro e w2 ⟨rfl, rfl⟩
                  go_wp2
                  exact ⟨v34, v35, v36, v37, v38, _, _, v41, v42, v43, v44, rfl, Lib.hid ⟨fun h => HV.out.f0 (ung (by decide) h), fun h => HV.out.f1 (ung (by decide) h), fun h => HV.out.f2 (ung (by decide) h), fun h => HV.out.f3 (ung (by decide) h), fun h => HV.out.f4 (ung (by decide) h), fun h => HV.out.f5 (ung (by decide) h), fun _ => by first | rfl | exact int_eq (by omega), fun h => HV.out.f7 (ung (by decide) h), fun h => HV.out.f8 (ung (by decide) h), fun h => HV.out.f9 (ung (by decide) h), fun h => HV.out.f10 (ung (by decide) h)⟩, BL⟩
                | 7, ho =>
                  obtain rfl := Option.some.inj ho
                  obtain rfl := HV.out.f4 (hdep ⟨4, .data⟩ (by simp) rfl)
                  obtain rfl := HV.out.f6 (hdep ⟨6, .data⟩ (by simp) rfl)
                  clear hdep ho
                  go_wp2
                  exact ⟨v34, v35, v36, v37, _, v39, _, _, v42, v43, v44, rfl, Lib.hid ⟨fun h => HV.out.f0 (ung (by decide) h), fun h => HV.out.f1 (ung (by decide) h), fun h => HV.out.f2 (ung (by decide) h), fun h => HV.out.f3 (ung (by decide) h), fun h => HV.out.f4 (ung (by decide) h), fun h => HV.out.f5 (ung (by decide) h), fun h => HV.out.f6 (ung (by decide) h), fun _ => by first | rfl | exact int_eq (by omega), fun h => HV.out.f8 (ung (by decide) h), fun h => HV.out.f9 (ung (by decide) h), fun h => HV.out.f10 (ung (by decide) h)⟩, BL⟩
                | 8, ho =>
                  obtain rfl := Option.some.inj ho
                  obtain rfl := HV.out.f7 (hdep ⟨7, .data⟩ (by simp) rfl)
                  clear hdep ho
                  go_wp2
                  exact ⟨v34, v35, v36, v37, v38, v39, v40, _, _, v43, v44, rfl, Lib.hid ⟨fun h => HV.out.f0 (ung (by decide) h), fun h => HV.out.f1 (ung (by decide) h), fun h => HV.out.f2 (ung (by decide) h), fun h => HV.out.f3 (ung (by decide) h), fun h => HV.out.f4 (ung (by decide) h), fun h => HV.out.f5 (ung (by decide) h), fun h => HV.out.f6 (ung (by decide) h), fun h => HV.out.f7 (ung (by decide) h), fun _ => by first | rfl | exact int_eq (by omega), fun h => HV.out.f9 (ung (by decide) h), fun h => HV.out.f10 (ung (by decide) h)⟩, BL⟩
                | 9, ho =>
                  obtain rfl := Option.some.inj ho
                  clear hdep ho
                  go_wp2
                  exact ⟨v34, v35, v36, v37, v38, v39, v40, v41, v42, _, v44, rfl, Lib.hid ⟨fun h => HV.out.f0 (ung (by decide) h), fun h => HV.out.f1 (ung (by decide) h), fun h => HV.out.f2 (ung (by decide) h), fun h => HV.out.f3 (ung (by decide) h), fun h => HV.out.f4 (ung (by decide) h), fun h => HV.out.f5 (ung (by decide) h), fun h => HV.out.f6 (ung (by decide) h), fun h => HV.out.f7 (ung (by decide) h), fun h => HV.out.f8 (ung (by decide) h), fun _ => by first | rfl | exact int_eq (by omega), fun h => HV.out.f10 (ung (by decide) h)⟩, BL⟩
                | 10, ho =>
                  obtain rfl := Option.some.inj ho
                  obtain rfl := HV.out.f8 (hdep ⟨8, .data⟩ (by simp) rfl)
                  obtain rfl := HV.out.f9 (hdep ⟨9, .data⟩ (by simp) rfl)
                  clear hdep ho
                  go_wp2
                  exact ⟨v34, v35, v36, v37, v38, v39, v40, v41, _, _, _, rfl, Lib.hid ⟨fun h => HV.out.f0 (ung (by decide) h), fun h => HV.out.f1 (ung (by decide) h), fun h => HV.out.f2 (ung (by decide) h), fun h => HV.out.f3 (ung (by decide) h), fun h => HV.out.f4 (ung (by decide) h), fun h => HV.out.f5 (ung (by decide) h), fun h => HV.out.f6 (ung (by decide) h), fun h => HV.out.f7 (ung (by decide) h), fun h => HV.out.f8 (ung (by decide) h), fun h => HV.out.f9 (ung (by decide) h), fun _ => by first | rfl | (rw [hbb])⟩, BL⟩
                | i + 11, ho => simp at ho
              · intro l a w2 hall hI
                obtain ⟨v34, v35, v36, v37, v38, v39, v40, v41, v42, v43, v44, rfl, HV, BL⟩ := hI
                obtain rfl := HV.out.f0 (hall 0 (by decide))
                obtain rfl := HV.out.f1 (hall 1 (by decide))
                obtain rfl := HV.out.f2 (hall 2 (by decide))
                obtain rfl := HV.out.f3 (hall 3 (by decide))
                obtain rfl := HV.out.f4 (hall 4 (by decide))
                obtain rfl := HV.out.f5 (hall 5 (by decide))
                obtain rfl := HV.out.f6 (hall 6 (by decide))
                obtain rfl := HV.out.f7 (hall 7 (by decide))
                obtain rfl := HV.out.f8 (hall 8 (by decide))
                obtain rfl := HV.out.f9 (hall 9 (by decide))
                obtain rfl := HV.out.f10 (hall 10 (by decide))
                clear hall HV
                have HB5 : Hid (Below (w.heap.size + 1) (w.alloc (.cells #[.int .u8 83, .int .u8 76, .int .u8 82, .int .u8 65] 5 (4, 5))) w2) := Lib.hid (HB2.out.trans (BL.out.mono (by have := HB2.out.size; simp at this; omega)))
                rcases b with _ | _
                · have HS := Lib.hid (HCN.out (of_decide_eq_false HBV.out.symm))
                  go_wp2
                  go_roundw
                  case rel => exact ⟨k + 1, by omega, by go_num, int_eq (by rw [HS.out]), HB5⟩
                  case measure => simp [intOf]; omega
                · have HS := Lib.hid (HCY.out (of_decide_eq_true HBV.out.symm))
                  go_wp2
                  go_roundw
                  case rel => exact ⟨k + 1, by omega, by go_num, int_eq (by rw [HS.out]; simp), HB5⟩
                  case measure => simp [intOf]; omega
            · have HCE : Hid (cntS fs t y fs.length = cntS fs t y k) := Lib.hid (by rw [HZ.out, show f.size = k from by omega])
              obtain ⟨c, hc⟩ : ∃ x, x = cntS fs t y k := ⟨_, rfl⟩
              rw [← hc] at hcl HCE ⊢
              clear hc
              by_cases hmc : mm < (c : Int)
              · have HS : Hid (bestC fs y (j + 1) = (word [t], (c : Int))) := Lib.hid (by rw [HY.out (by rw [HCE.out]; exact hmc), HCE.out])
                go_wp2_with (first | (go_at_call 73; refine (HT.out _).mono ?_; rintro e w' ⟨rfl, rfl⟩) | (go_at_call 60; refine (HSG.out _).mono ?_; rintro e w' ⟨rfl, rfl⟩))
                go_roundw
                case rel => exact ⟨j + 1, by omega, by go_num, by rw [HS.out], by rw [HS.out], HB2⟩
                case measure => simp [intOf]; omega
              · have HS : Hid (bestC fs y (j + 1) = (mb, mm)) := Lib.hid (by rw [HN.out (by rw [HCE.out]; omega), HMB.out])
                go_wp2
                go_roundw
                case rel => exact ⟨j + 1, by omega, by go_num, by rw [HS.out], by rw [HS.out], HB2⟩
                case measure => simp [intOf]; omega
        · obtain rfl : j = 4 := by omega
          have HB5 : Hid (Below w.heap.size w wr) := Lib.hid (((Below.refl _ _).alloc (Nat.le_refl _) _).trans (HB.out.mono (by omega)))
          go_wp2
          go_ret3
          exact ⟨by rw [H0.out.1, H0.out.2.1, H0.out.2.2]; exact rfl, HB5.out⟩

end Go.Proofs.YtjbomclildkjaaaDoor
