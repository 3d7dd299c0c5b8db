/- Numbers as texts: the model's l1Num. -/
import Derived.Test.YtjbomclildkjaaaDoorDr
import Derived.Test.YtjbomclildkjaaaDoorAny
import Derived.Laws.BytesArg
import Derived.WalkSpells
namespace Go.Proofs.YtjbomclildkjaaaDoor
open Go.ChangeShapes Go.WideShapes Go.ChangeAt Go.RowKit
open Dr

/-- the digits of a number -/
def numL (n : Nat) : List UInt8 := if _h : n < 10 then [dg n] else numL (n / 10) ++ [dg (n % 10)]
termination_by n
decreasing_by omega
theorem numL_small {n : Nat} (h : n < 10) : numL n = [dg n] := by rw [numL, dif_pos h]
theorem numL_big {n : Nat} (h : ¬ n < 10) : numL n = numL (n / 10) ++ [dg (n % 10)] := by rw [numL, dif_neg h]
theorem numL_len (n : Nat) : ∀ k, n < 10 ^ k → 1 ≤ k → (numL n).length ≤ k := by
  induction n using Nat.strongRecOn with
  | _ n ih =>
    intro k hk h1
    by_cases h : n < 10
    · rw [numL_small h]; exact h1
    · rw [numL_big h, List.length_append, List.length_singleton]
      rcases k with _ | k
      · omega
      · have hk2 : n / 10 < 10 ^ k := by rw [Nat.pow_succ] at hk; omega
        have hk1 : 1 ≤ k := by
          rcases k with _ | k
          · simp at hk2; omega
          · omega
        have := ih (n / 10) (by omega) k hk2 hk1
        omega
theorem str_one (d : Nat) (_h : d < 10) : strOfNums [48 + (d : Int)] = txt [dg d] := by
  apply ByteArray.ext
  apply Array.ext'
  rw [strOfNums_data]
  show [UInt8.ofNat (48 + (d : Int)).toNat] = [dg d]
  unfold dg
  rw [show (48 + (d : Int)).toNat = 48 + d from by omega]
theorem conv_one (w : World) (g : Nat) (d : Nat) (h : d < 10) (hc : w.cell? ⟨g, 0, none⟩ = some (.int .u8 (48 + (d : Int)))) :
    (convert 22 9 (.slice (some ⟨g, 0, none⟩) 1 1)).run Tryd.prog w = .ok (.string (txt [dg d])) w := by
  have := run_convert_bytes_arg (P := Tryd.prog) w 22 5 Tryd.underlying22 Tryd.underlying5 g 0 1 1 [48 + (d : Int)] rfl (fun i hi => by
    obtain rfl : i = 0 := by omega
    exact hc) 9 Tryd.underlying9
  rw [str_one d h] at this
  exact this

set_option maxRecDepth 20000 in
set_option maxHeartbeats 1000000 in
theorem l1Num_small (n : Nat) (h : n < 10) (w : World) :
    Calls Tryd.prog 57 #[.int .i64 (n : Int)] w fun e w' => e = .returned (.string (txt (numL n))) ∧ Below w.heap.size w w' := by
  have HE : Hid (numL n = [dg n]) := Lib.hid (numL_small h)
  have hcv := conv_one (w.alloc (.cells #[.int .u8 (48 + (n : Int))] 5)) w.heap.size n h (by simp)
  obtain ⟨t, ht⟩ : ∃ t, t = txt [dg n] := ⟨_, rfl⟩
  rw [← ht] at hcv
  have HT := Lib.hid ht
  clear ht
  go_enter Tryd.func57, Tryd.ntmps57
  go_wp2
  go_ret
  exact ⟨ret_str (by rw [HE.out, HT.out]), (Below.refl _ _).alloc (Nat.le_refl _) _⟩
structure NumV (n q r : Nat) (T D : ByteArray) (l : Array Bool) (v10 v11 v12 v13 v14 v15 v16 v18 v19 v2 : Value) : Prop where
  f0 : l.getD 0 false = true → v10 = .int .i64 (n : Int)
  f1 : l.getD 1 false = true → v11 = .int .i64 (q : Int)
  f2 : l.getD 2 false = true → v12 = .string T
  f3 : l.getD 3 false = true → v13 = .int .i64 (n : Int)
  f4 : l.getD 4 false = true → v14 = .int .i64 (r : Int)
  f5 : l.getD 5 false = true → v15 = .int .i64 (48 + (r : Int))
  f6 : l.getD 6 false = true → v16 = .int .u8 (48 + (r : Int))
  f8 : l.getD 8 false = true → v18 = .string D
  f9 : l.getD 9 false = true → v19 = .string (T ++ D)
  f10 : l.getD 10 false = true → v2 = .string (T ++ D)
def NumI (w0 : World) (n q r : Nat) (T D : ByteArray) (l : Array Bool) (a : Act) (w : World) : Prop :=
  ∃ v2 v10 v11 v12 v13 v14 v15 v16 v17 v18 v19 : Value, a = { tmps := #[.int .i64 (n : Int), undef, v2, .int .i64 (n : Int), .bool false, undef, undef, undef, undef, undef, v10, v11, v12, v13, v14, v15, v16, v17, v18, v19], defers := [] } ∧
    Hid (NumV n q r T D l v10 v11 v12 v13 v14 v15 v16 v18 v19 v2) ∧
    Hid (l.getD 7 false = true → ∃ g, v17 = .slice (some ⟨g, 0, none⟩) 1 1 ∧ g < w.heap.size ∧ w.cell? ⟨g, 0, none⟩ = some (.int .u8 (48 + (r : Int)))) ∧ Hid (Below w0.heap.size w0 w)
set_option maxRecDepth 20000 in
set_option maxHeartbeats 4000000 in
theorem l1Num_any : ∀ (n : Nat), n ≤ 1000000000000000000 → ∀ (w : World),
    Calls Tryd.prog 57 #[.int .i64 (n : Int)] w fun e w' => e = .returned (.string (txt (numL n))) ∧ Below w.heap.size w w' := by
  intro n
  induction n using Nat.strongRecOn with
  | _ n ih =>
  intro hn w
  by_cases h : n < 10
  · exact l1Num_small n h w
  have HC := Lib.hid (fun w2 => ih (n / 10) (by omega) (by omega) w2)
  have HE : Hid (txt (numL n) = txt (numL (n / 10)) ++ txt [dg (n % 10)]) := Lib.hid (by rw [numL_big h, txt_append])
  have hr : n % 10 < 10 := Nat.mod_lt _ (by omega)
  have e1 : (n : Int) / 10 = ((n / 10 : Nat) : Int) := by omega
  have e2 : (n : Int) % 10 = ((n % 10 : Nat) : Int) := by omega
  have hq : n / 10 ≤ 1000000000000000000 := by omega
  obtain ⟨q, hqq⟩ : ∃ q, q = n / 10 := ⟨_, rfl⟩
  obtain ⟨r, hrr⟩ : ∃ r, r = n % 10 := ⟨_, rfl⟩
  obtain ⟨T, hT⟩ : ∃ T, T = txt (numL q) := ⟨_, rfl⟩
  obtain ⟨D, hD⟩ : ∃ D, D = txt [dg r] := ⟨_, rfl⟩
  rw [← hqq] at HC HE e1 hq
  rw [← hrr] at HE e2 hr
  rw [← hT] at HC HE
  rw [← hD] at HE
  have HD := Lib.hid hD
  have hTs : T.size ≤ 30 := by rw [hT, size_txt]; have := numL_len q 19 (by omega) (by omega); omega
  have hDs : D.size ≤ 1 := by rw [hD, size_txt]; simp
  have hb4 : decide ((n : Int) < 10) = false := by simp; omega
  clear hqq hrr hT hD ih
  go_enter Tryd.func57, Tryd.ntmps57
  go_wp2_with fail
  refine wp_region_inv (by kernel_rfl) (NumI w n q r T D) (by kernel_rfl) ?_ ?_ ?_
  · exact ⟨_, undef, undef, undef, undef, undef, undef, undef, undef, undef, undef, rfl, Lib.hid ⟨fun h => by simp at h, fun h => by simp at h, fun h => by simp at h, fun h => by simp at h, fun h => by simp at h, fun h => by simp at h, fun h => by simp at h, fun h => by simp at h, fun h => by simp at h, fun h => by simp at h⟩, Lib.hid (fun h => by simp at h), Lib.hid ⟨rfl, rfl, rfl, Nat.le_refl _, fun _ _ => rfl⟩⟩
  · intro i o l a w' ho hsz hl hdep hI
    obtain ⟨v2, v10, v11, v12, v13, v14, v15, v16, v17, v18, v19, rfl, HV, H7, BL⟩ := hI
    have HSZ : Hid (l.size = 11) := Lib.hid hsz
    clear hsz
    match i, ho with
    | 0, ho =>
      obtain rfl := Option.some.inj ho
      clear hdep ho hl
      go_wp2
      exact ⟨v2, _, v11, v12, v13, v14, v15, v16, v17, v18, v19, rfl, Lib.hid ⟨fun _ => rfl, fun h => HV.out.f1 (ung (by decide) h), fun h => HV.out.f2 (ung (by decide) h), fun h => HV.out.f3 (ung (by decide) h), fun h => HV.out.f4 (ung (by decide) h), fun h => HV.out.f5 (ung (by decide) h), fun h => HV.out.f6 (ung (by decide) h), fun h => HV.out.f8 (ung (by decide) h), fun h => HV.out.f9 (ung (by decide) h), fun h => HV.out.f10 (ung (by decide) h)⟩, Lib.hid (fun h => H7.out (ung (by decide) h)), BL⟩
    | 1, ho =>
      obtain rfl := Option.some.inj ho
      obtain rfl := HV.out.f0 (hdep ⟨0, .data⟩ (by simp) rfl)
      clear hdep ho hl
      go_wp2
      exact ⟨v2, _, _, v12, v13, v14, v15, v16, v17, v18, v19, rfl, Lib.hid ⟨fun h => HV.out.f0 (ung (by decide) h), fun _ => rfl, fun h => HV.out.f2 (ung (by decide) h), fun h => HV.out.f3 (ung (by decide) h), fun h => HV.out.f4 (ung (by decide) h), fun h => HV.out.f5 (ung (by decide) h), fun h => HV.out.f6 (ung (by decide) h), fun h => HV.out.f8 (ung (by decide) h), fun h => HV.out.f9 (ung (by decide) h), fun h => HV.out.f10 (ung (by decide) h)⟩, Lib.hid (fun h => H7.out (ung (by decide) h)), BL⟩
    | 2, ho =>
      obtain rfl := Option.some.inj ho
      obtain rfl := HV.out.f1 (hdep ⟨1, .data⟩ (by simp) rfl)
      clear hdep ho hl
      go_wp2_with fail
      go_at_call 57
      refine (HC.out _).mono ?_
      rintro e w2 ⟨rfl, b2⟩
      have B2 := Lib.hid b2
      clear b2
      go_wp2
      exact ⟨v2, v10, _, _, v13, v14, v15, v16, v17, v18, v19, rfl, Lib.hid ⟨fun h => HV.out.f0 (ung (by decide) h), fun h => HV.out.f1 (ung (by decide) h), fun _ => rfl, fun h => HV.out.f3 (ung (by decide) h), fun h => HV.out.f4 (ung (by decide) h), fun h => HV.out.f5 (ung (by decide) h), fun h => HV.out.f6 (ung (by decide) h), fun h => HV.out.f8 (ung (by decide) h), fun h => HV.out.f9 (ung (by decide) h), fun h => HV.out.f10 (ung (by decide) h)⟩, Lib.hid (fun h => by obtain ⟨g, h1, h2, h3⟩ := H7.out (ung (by decide) h); exact ⟨g, h1, Nat.lt_of_lt_of_le h2 B2.out.size, (World.cell?_of_block (B2.out.block g h2)).trans h3⟩), Lib.hid (BL.out.trans (B2.out.mono BL.out.size))⟩
    | 3, ho =>
      obtain rfl := Option.some.inj ho
      clear hdep ho hl
      go_wp2
      exact ⟨v2, v10, v11, v12, _, v14, v15, v16, v17, v18, v19, rfl, Lib.hid ⟨fun h => HV.out.f0 (ung (by decide) h), fun h => HV.out.f1 (ung (by decide) h), fun h => HV.out.f2 (ung (by decide) h), fun _ => rfl, fun h => HV.out.f4 (ung (by decide) h), fun h => HV.out.f5 (ung (by decide) h), fun h => HV.out.f6 (ung (by decide) h), fun h => HV.out.f8 (ung (by decide) h), fun h => HV.out.f9 (ung (by decide) h), fun h => HV.out.f10 (ung (by decide) h)⟩, Lib.hid (fun h => H7.out (ung (by decide) h)), BL⟩
    | 4, ho =>
      obtain rfl := Option.some.inj ho
      obtain rfl := HV.out.f3 (hdep ⟨3, .data⟩ (by simp) rfl)
      clear hdep ho hl
      go_wp2
      exact ⟨v2, v10, v11, v12, _, _, v15, v16, v17, v18, v19, rfl, Lib.hid ⟨fun h => HV.out.f0 (ung (by decide) h), fun h => HV.out.f1 (ung (by decide) h), fun h => HV.out.f2 (ung (by decide) h), fun h => HV.out.f3 (ung (by decide) h), fun _ => by first | rfl | exact int_eq e2, fun h => HV.out.f5 (ung (by decide) h), fun h => HV.out.f6 (ung (by decide) h), fun h => HV.out.f8 (ung (by decide) h), fun h => HV.out.f9 (ung (by decide) h), fun h => HV.out.f10 (ung (by decide) h)⟩, Lib.hid (fun h => H7.out (ung (by decide) h)), BL⟩
    | 5, ho =>
      obtain rfl := Option.some.inj ho
      obtain rfl := HV.out.f4 (hdep ⟨4, .data⟩ (by simp) rfl)
      clear hdep ho hl
      go_wp2
      exact ⟨v2, v10, v11, v12, v13, _, _, v16, v17, v18, v19, rfl, Lib.hid ⟨fun h => HV.out.f0 (ung (by decide) h), fun h => HV.out.f1 (ung (by decide) h), fun h => HV.out.f2 (ung (by decide) h), fun h => HV.out.f3 (ung (by decide) h), fun h => HV.out.f4 (ung (by decide) h), fun _ => rfl, fun h => HV.out.f6 (ung (by decide) h), fun h => HV.out.f8 (ung (by decide) h), fun h => HV.out.f9 (ung (by decide) h), fun h => HV.out.f10 (ung (by decide) h)⟩, Lib.hid (fun h => H7.out (ung (by decide) h)), BL⟩
    | 6, ho =>
      obtain rfl := Option.some.inj ho
      obtain rfl := HV.out.f5 (hdep ⟨5, .data⟩ (by simp) rfl)
      clear hdep ho hl
      go_wp2
      exact ⟨v2, v10, v11, v12, v13, v14, _, _, v17, v18, v19, rfl, Lib.hid ⟨fun h => HV.out.f0 (ung (by decide) h), fun h => HV.out.f1 (ung (by decide) h), fun h => HV.out.f2 (ung (by decide) h), fun h => HV.out.f3 (ung (by decide) h), fun h => HV.out.f4 (ung (by decide) h), fun h => HV.out.f5 (ung (by decide) h), fun _ => rfl, fun h => HV.out.f8 (ung (by decide) h), fun h => HV.out.f9 (ung (by decide) h), fun h => HV.out.f10 (ung (by decide) h)⟩, Lib.hid (fun h => H7.out (ung (by decide) h)), BL⟩
    | 7, ho =>
      obtain rfl := Option.some.inj ho
      obtain rfl := HV.out.f6 (hdep ⟨6, .data⟩ (by simp) rfl)
      clear hdep ho hl
      go_wp2
      exact ⟨v2, v10, v11, v12, v13, v14, v15, _, _, v18, v19, rfl, Lib.hid ⟨fun h => HV.out.f0 (ung (by decide) h), fun h => HV.out.f1 (ung (by decide) h), fun h => HV.out.f2 (ung (by decide) h), fun h => HV.out.f3 (ung (by decide) h), fun h => HV.out.f4 (ung (by decide) h), fun h => HV.out.f5 (ung (by decide) h), fun h => HV.out.f6 (ung (by decide) h), fun h => HV.out.f8 (ung (by decide) h), fun h => HV.out.f9 (ung (by decide) h), fun h => HV.out.f10 (ung (by decide) h)⟩, Lib.hid (fun _ => ⟨_, rfl, by simp, by simp⟩), Lib.hid (BL.out.alloc BL.out.size _)⟩
    | 8, ho =>
      obtain rfl := Option.some.inj ho
      obtain ⟨g, rfl, hgl, hgc⟩ := H7.out (hdep ⟨7, .data⟩ (by simp) rfl)
      clear hdep ho hl
      have hcv := conv_one w' g r hr hgc
      rw [← HD.out] at hcv
      go_wp2
      exact ⟨v2, v10, v11, v12, v13, v14, v15, v16, _, _, v19, rfl, Lib.hid ⟨fun h => HV.out.f0 (ung (by decide) h), fun h => HV.out.f1 (ung (by decide) h), fun h => HV.out.f2 (ung (by decide) h), fun h => HV.out.f3 (ung (by decide) h), fun h => HV.out.f4 (ung (by decide) h), fun h => HV.out.f5 (ung (by decide) h), fun h => HV.out.f6 (ung (by decide) h), fun _ => rfl, fun h => HV.out.f9 (ung (by decide) h), fun h => HV.out.f10 (ung (by decide) h)⟩, Lib.hid (fun _ => ⟨g, rfl, hgl, hgc⟩), BL⟩
    | 9, ho =>
      obtain rfl := Option.some.inj ho
      obtain rfl := HV.out.f2 (hdep ⟨2, .data⟩ (by simp) rfl)
      obtain rfl := HV.out.f8 (hdep ⟨8, .data⟩ (by simp) rfl)
      clear hdep ho hl
      go_wp2
      exact ⟨v2, v10, v11, _, v13, v14, v15, v16, v17, _, _, rfl, Lib.hid ⟨fun h => HV.out.f0 (ung (by decide) h), fun h => HV.out.f1 (ung (by decide) h), fun h => HV.out.f2 (ung (by decide) h), fun h => HV.out.f3 (ung (by decide) h), fun h => HV.out.f4 (ung (by decide) h), fun h => HV.out.f5 (ung (by decide) h), fun h => HV.out.f6 (ung (by decide) h), fun h => HV.out.f8 (ung (by decide) h), fun _ => rfl, fun h => HV.out.f10 (ung (by decide) h)⟩, Lib.hid (fun h => H7.out (ung (by decide) h)), BL⟩
    | 10, ho =>
      obtain rfl := Option.some.inj ho
      obtain rfl := HV.out.f9 (hdep ⟨9, .data⟩ (by simp) rfl)
      clear hdep ho hl
      go_wp2
      exact ⟨_, v10, v11, v12, v13, v14, v15, v16, v17, v18, _, rfl, Lib.hid ⟨fun h => HV.out.f0 (ung (by decide) h), fun h => HV.out.f1 (ung (by decide) h), fun h => HV.out.f2 (ung (by decide) h), fun h => HV.out.f3 (ung (by decide) h), fun h => HV.out.f4 (ung (by decide) h), fun h => HV.out.f5 (ung (by decide) h), fun h => HV.out.f6 (ung (by decide) h), fun h => HV.out.f8 (ung (by decide) h), fun h => HV.out.f9 (ung (by decide) h), fun _ => rfl⟩, Lib.hid (fun h => H7.out (ung (by decide) h)), BL⟩
    | i + 11, ho => simp at ho
  · intro l a w2 hall hI
    obtain ⟨v2, v10, v11, v12, v13, v14, v15, v16, v17, v18, v19, rfl, HV, H7, BL⟩ := hI
    obtain rfl := HV.out.f10 (hall 10 (by decide))
    clear hall HV H7
    go_wp2
    go_ret
    exact ⟨ret_str (by rw [HE.out]), BL.out⟩

end Go.Proofs.YtjbomclildkjaaaDoor
