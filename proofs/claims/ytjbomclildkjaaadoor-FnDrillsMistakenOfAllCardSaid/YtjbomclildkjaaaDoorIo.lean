/- Chapter 4, the program: turnsOfEach. -/
import Derived.Test.YtjbomclildkjaaaDoorIl
import Derived.Test.YtjbomclildkjaaaDoorIm
import Derived.Test.YtjbomclildkjaaaDoorTail
namespace Go.Proofs.YtjbomclildkjaaaDoor
open Go.ChangeShapes Go.WideShapes Go.ChangeAt Go.RowKit
open Dr

/-- how far one turns behind the first k mistakes, as the program adds it up -/
def accP (ts : List Nat) (ps : List RMistake) (i : Nat) : Nat → Nat
  | 0 => net ts
  | k + 1 => if (ps.getD k zMistake).1 = (i : Int) then accP ts ps i k + ((turnI (byt (ps.getD k zMistake).2.2 0)).toNat + 4 - ts.getD (ps.getD k zMistake).2.1.toNat 0) % 4 else accP ts ps i k
theorem accP_le (ts : List Nat) (ps : List RMistake) (i : Nat) : ∀ k, accP ts ps i k ≤ 3 + 3 * k
  | 0 => by have := net_lt ts; unfold accP; omega
  | k + 1 => by
    have h := accP_le ts ps i k
    rw [accP]
    split <;> omega
theorem accP_mod {n : Nat} {ts : List Nat} {ps : List RMistake} (hts : ∀ t ∈ ts, t < 4) (h : ∀ k, k < ps.length → OkM n ts (ps.getD k zMistake)) (i : Nat) : ∀ k, k ≤ ps.length → ((accP ts ps i k : Nat) : Int) % 4 = accTo ts ps i k % 4
  | 0, _ => rfl
  | k + 1, hk => by
    have h1 := accP_mod hts h i k (by omega)
    have h2 := (h k (by omega)).turn
    have h3 := turnI_le (byt (ps.getD k zMistake).2.2 0)
    have h4 := getD_lt hts (by omega) (ps.getD k zMistake).2.1.toNat
    rw [accP, accTo]
    split <;> omega
theorem accP_done {n : Nat} {ts : List Nat} {ps : List RMistake} (hts : ∀ t ∈ ts, t < 4) (h : ∀ k, k < ps.length → OkM n ts (ps.getD k zMistake)) (i : Nat) : accP ts ps i ps.length % 4 = doneN ts ps i := by
  have h1 := accP_mod hts h i ps.length (Nat.le_refl _)
  unfold doneN
  omega
def trL (ts : List Nat) (ps : List RMistake) (n k : Nat) : List Int := upTo (fun i => ((accP ts ps i k : Nat) : Int)) n
theorem length_trL (ts : List Nat) (ps : List RMistake) (n k : Nat) : (trL ts ps n k).length = n := length_upTo _ _
theorem trL_zero (ts : List Nat) (ps : List RMistake) (n : Nat) : trL ts ps n 0 = List.replicate n ((net ts : Nat) : Int) := by
  unfold trL upTo accP
  rw [List.map_const', List.length_range]
theorem trL_get (ts : List Nat) (ps : List RMistake) (n k i : Nat) (hi : i < n) : (trL ts ps n k).getD i 0 = ((accP ts ps i k : Nat) : Int) := getD_upTo _ _ _ hi
theorem trL_succ (ts : List Nat) (ps : List RMistake) (n k i : Nat) (hi : i < n) (hp : (ps.getD k zMistake).1 = (i : Int)) :
    (trL ts ps n k).set i (((accP ts ps i k + ((turnI (byt (ps.getD k zMistake).2.2 0)).toNat + 4 - ts.getD (ps.getD k zMistake).2.1.toNat 0) % 4 : Nat)) : Int) = trL ts ps n (k + 1) := by
  refine ext_getD 0 (by rw [List.length_set, length_trL, length_trL]) fun j hj => ?_
  rw [List.length_set, length_trL] at hj
  rw [getD_set, trL_get _ _ _ _ _ hj, trL_get _ _ _ _ _ hj, length_trL]
  by_cases e : i = j
  · subst e
    rw [if_pos ⟨rfl, hi⟩, accP, if_pos hp]
  · rw [if_neg (fun h => e h.1), accP, if_neg (fun h => e (by omega))]
theorem net_one {x : Nat} (h : x < 4) : net [x] = x := by
  unfold net
  simp [sumTo]
  omega
theorem word_sub (ts : List Nat) (m : Nat) (h : m < (word ts).size) : (word ts).extract m (m + 1) = word [ts.getD m 0] := by
  have hk' : m < ts.length := by rw [size_word] at h; exact h
  rw [sub_one _ _ h]
  have e : (word ts)[m] = sg (ts.getD m 0) := by
    have := txt_get (ts.map sg) m h
    rw [getD_mapZ _ _ _ hk'] at this
    exact this
  rw [e]
  rfl
theorem did_word {x : ByteArray} (h : x.size = 1) (ht : 0 ≤ turnI (byt x 0)) : x = word [(turnI (byt x 0)).toNat] ∧ (turnI (byt x 0)).toNat < 4 := by
  obtain ⟨b, rfl⟩ := one_of h
  rw [show byt ⟨#[b]⟩ 0 = (b.toNat : Int) from rfl] at ht ⊢
  obtain ⟨t, h1, rfl⟩ := turn_sg ht
  rw [sg_turn h1, Int.toNat_natCast]
  exact ⟨rfl, h1⟩
/-- what holds at the label -/
def TeJ (w0 : World) (n : Nat) (s : ByteArray) (ts : List Nat) (a : Option Addr) (len cap : Nat) (ps : List RMistake) (a' : Act) (w' : World) : Prop :=
  ∃ (k g c : Nat) (u9 u12 u15 u16 u17 u18 u19 u20 u21 u22 u23 u24 u25 u26 u27 u28 u29 u30 u31 u32 u33 u34 u35 u36 u37 u38 u39 u40 u41 u42 u43 u44 : Value), k ≤ len ∧ w0.heap.size ≤ g ∧ a' = { tmps := List.toArray (Value.int .i64 (n : Int) :: Value.string s :: Value.slice a len cap :: undef :: undef :: undef :: Value.slice none 0 0 :: Value.slice (some ⟨g, 0, none⟩) n c :: Value.int .i64 (k : Int) :: u9 :: Value.string s :: Value.int .i64 (net ts : Nat) :: u12 :: Value.int .i64 (n : Int) :: Value.slice (some ⟨g, 0, none⟩) n c :: u15 :: u16 :: u17 :: u18 :: u19 :: u20 :: u21 :: u22 :: u23 :: u24 :: u25 :: u26 :: u27 :: u28 :: u29 :: u30 :: u31 :: u32 :: u33 :: u34 :: u35 :: u36 :: u37 :: u38 :: u39 :: u40 :: u41 :: u42 :: u43 :: u44 :: []), defers := [] } ∧ Hid (Own w' w0.heap.size (.slice (some ⟨g, 0, none⟩) n c) (trL ts ps n k)) ∧ Hid (Below w0.heap.size w0 w')
set_option maxRecDepth 20000 in
set_option maxHeartbeats 500000 in
theorem turnsOfEach_any (w : World) (n : Nat) (ts : List Nat) (a : Option Addr) (len cap : Nat) (ps : List RMistake) (hn1 : 1 ≤ n) (hn : n ≤ 30) (hts : ts.length ≤ 60) (ht4 : ∀ t ∈ ts, t < 4) (h20 : ps.length ≤ 20) (hok : ∀ k, k < ps.length → OkM n ts (ps.getD k zMistake)) (hsol : ∀ k, k < ps.length → ∃ i : Nat, (ps.getD k zMistake).1 = (i : Int) ∧ i < n) (hc : CameMistake w a len ps) (hT : Tab_signOfTurn w) :
    Calls Tryd.prog 77 #[.int .i64 (n : Int), .string (word ts), .slice a len cap] w fun e w' => ∃ v, e = .returned v ∧ Own w' w.heap.size v (trL ts ps n len) ∧ Below w.heap.size w w' := by
  have HZ : Hid (ps.length = len) := Lib.hid hc.1
  have HC := Lib.hid hc
  have HOK := Lib.hid hok
  have HSOL := Lib.hid hsol
  have HN0 := Lib.hid (netTurn_any ts w hts ht4 hT)
  have hnl := net_lt ts
  have HWS := Lib.hid (word_sub ts)
  have HGL := Lib.hid (getD_lt ht4 (by omega))
  have HSZ : Hid (ts.length = (word ts).size) := Lib.hid (size_word ts).symm
  have hsz : (word ts).size ≤ 60 := by rw [size_word]; exact hts
  have hl20 : len ≤ 20 := by have := hc.1; omega
  have HNT := Lib.hid (fun (x : Nat) (hx : x < 4) (w2 : World) (hb : Below w.heap.size w w2) => show Calls Tryd.prog 59 #[.string (word [x])] w2 fun e w' => e = .returned (.int .i64 (x : Int)) ∧ Below w2.heap.size w2 w' from by
    have h := netTurn_any [x] w2 (by simp) (by intro t ht; simp at ht; omega) (hT.below hb)
    rw [net_one hx] at h
    exact h)
  have HRP := Lib.hid (fun (w2 : World) (g0 : Nat) (c0 : w2.cell? ⟨g0, 0, none⟩ = some (.int .i64 ((net ts : Nat) : Int))) => repeat_any ((net ts : Nat) : Int) n hn1 (by omega) w2 g0 c0)
  have HTZ := Lib.hid (trL_zero ts ps n)
  obtain ⟨s, hs⟩ : ∃ s, s = word ts := ⟨_, rfl⟩
  rw [← hs] at HN0 HSZ hsz ⊢
  have HWS2 : Hid (∀ m, m < s.size → s.extract m (m + 1) = word [ts.getD m 0]) := Lib.hid (by subst hs; exact HWS.out)
  clear hc hok hsol hs HWS ht4 hT h20 hts
  go_enter Tryd.func77, Tryd.ntmps77
  go_wp2
  refine wp_scope_pass 0 (TeJ w n s ts a len cap ps) (fun a' _ => len + 1 - (intOf (a'.tmps.getD 8 undef)).toNat) rfl ?_ ?_
  · rintro a' wr ⟨k, g, c, u9, u12, u15, u16, u17, u18, u19, u20, u21, u22, u23, u24, u25, u26, u27, u28, u29, u30, u31, u32, u33, u34, u35, u36, u37, u38, u39, u40, u41, u42, u43, u44, hk, hg, rfl, HO, HB⟩
    by_cases hlt : k < len
    · have bk : ((k : Int) == (len : Int)) = false := by rw [beq_eq_false_iff_ne]; omega
      obtain ⟨b, off, rfl, hcell⟩ := (HC.out.below HB.out).2 (by omega)
      obtain ⟨e0, e1, e2, hsm⟩ := hcell k hlt
      obtain ⟨⟨m, hm, hml⟩, hone, htn⟩ := HOK.out k (by rw [HZ.out]; exact hlt)
      obtain ⟨i, hi, hin⟩ := HSOL.out k (by rw [HZ.out]; exact hlt)
      have HS := Lib.hid (trL_succ ts ps n k i hin hi)
      rw [hm, Int.toNat_natCast] at HS
      have hms : m < s.size := by have := HSZ.out; omega
      have hsub := HWS2.out m hms
      have hxl := HGL.out m
      obtain ⟨x, hx⟩ : ∃ x, x = ts.getD m 0 := ⟨_, rfl⟩
      rw [← hx] at hsub hxl HS
      obtain ⟨hdid, hdl⟩ := did_word hone htn
      obtain ⟨y, hy⟩ : ∃ y, y = (turnI (byt (ps.getD k zMistake).2.2 0)).toNat := ⟨_, rfl⟩
      rw [← hy] at hdid hdl HS
      rw [hi] at e0
      rw [hm] at e1
      rw [hdid] at e2
      have hle := accP_le ts ps i k
      have HBX : Hid (Below wr.heap.size wr (wr.alloc (.cells #[.int .i64 (i : Int), .int .i64 (m : Int), .string (word [y])] 55))) := Lib.hid ((Below.refl _ wr).alloc (Nat.le_refl _) _)
      have HOX := Lib.hid (own_alloc HO.out (.cells #[.int .i64 (i : Int), .int .i64 (m : Int), .string (word [y])] 55))
      have r0 := HOX.out.cell (length_trL _ _ _ _).symm i (by rw [length_trL]; exact hin)
      have rf := fun X : Lw (wr.alloc (.cells #[.int .i64 (i : Int), .int .i64 (m : Int), .string (word [y])] 55)) => (HOX.out.below X.b (Nat.le_refl _)).free (length_trL _ _ _ _).symm i
      rw [trL_get _ _ _ _ _ hin] at r0
      have HOS : Hid (∀ (X : Lw (wr.alloc (.cells #[.int .i64 (i : Int), .int .i64 (m : Int), .string (word [y])] 55))), Own (X.w.setCell ⟨g, i, none⟩ (.int .i64 ((accP ts ps i k + (y + 4 - x) % 4 : Nat) : Int))) w.heap.size (.slice (some ⟨g, 0, none⟩) n c) (trL ts ps n (k + 1))) := Lib.hid (fun X => by
        rw [← HS.out]; exact (HOX.out.below X.b (Nat.le_refl _)).set (length_trL _ _ _ _).symm i _)
      have HBS : Hid (∀ (X : Lw (wr.alloc (.cells #[.int .i64 (i : Int), .int .i64 (m : Int), .string (word [y])] 55))) (v : Value), Below w.heap.size w (X.w.setCell ⟨g, i, none⟩ v)) := Lib.hid (fun X v => ((HB.out.trans (HBX.out.mono HB.out.size)).trans (X.b.mono (Nat.le_trans HB.out.size HBX.out.size))).setCell (p := ⟨g, i, none⟩) hg v)
      have HNX := Lib.hid (fun (tt : ByteArray) (zz : Nat) (hh : Hid (tt = word [zz] ∧ zz < 4)) (w2 : World) (hb : Below (wr.alloc (.cells #[.int .i64 (i : Int), .int .i64 (m : Int), .string (word [y])] 55)).heap.size (wr.alloc (.cells #[.int .i64 (i : Int), .int .i64 (m : Int), .string (word [y])] 55)) w2) => show Calls Tryd.prog 59 #[.string tt] w2 fun e w' => e = .returned (.int .i64 (zz : Int)) ∧ Below w2.heap.size w2 w' from by
        rw [hh.out.1]
        exact HNT.out zz hh.out.2 w2 ((HB.out.trans (HBX.out.mono HB.out.size)).trans (hb.mono (Nat.le_trans HB.out.size HBX.out.size))))
      have HTB := Lib.hid (fun w2 => by
        have h := turnBetween_any (x : Int) (y : Int) w2 (by omega) (by omega) (by omega)
        rw [show ((y : Int) - (x : Int) + 4) % 4 = (((y + 4 - x) % 4 : Nat) : Int) from by omega] at h
        exact h)
      obtain ⟨z, hz⟩ : ∃ z, z = (y + 4 - x) % 4 := ⟨_, rfl⟩
      have hzl : z < 4 := by omega
      rw [← hz] at HTB HOS
      obtain ⟨q, hq⟩ : ∃ q, q = accP ts ps i k := ⟨_, rfl⟩
      rw [← hq] at r0 HOS hle
      obtain ⟨tx, htx⟩ : ∃ t, t = word [x] := ⟨_, rfl⟩
      have HWX : Hid (tx = word [x] ∧ x < 4) := Lib.hid ⟨htx, hxl⟩
      rw [← htx] at hsub
      obtain ⟨ty, hty⟩ : ∃ t, t = word [y] := ⟨_, rfl⟩
      have HWY : Hid (ty = word [y] ∧ y < 4) := Lib.hid ⟨hty, hdl⟩
      rw [← hty] at e2 HBX HOX r0 rf HOS HBS HNX
      have k0 := fun X : Lw (wr.alloc (.cells #[.int .i64 (i : Int), .int .i64 (m : Int), .string ty] 55)) => X.cell (p := ⟨wr.heap.size, 0, none⟩) (v := .int .i64 (i : Int)) (by simp)
      have k1 := fun X : Lw (wr.alloc (.cells #[.int .i64 (i : Int), .int .i64 (m : Int), .string ty] 55)) => X.cell (p := ⟨wr.heap.size, 1, none⟩) (v := .int .i64 (m : Int)) (by simp)
      have k2 := fun X : Lw (wr.alloc (.cells #[.int .i64 (i : Int), .int .i64 (m : Int), .string ty] 55)) => X.cell (p := ⟨wr.heap.size, 2, none⟩) (v := .string ty) (by simp)
      have kr := fun X : Lw (wr.alloc (.cells #[.int .i64 (i : Int), .int .i64 (m : Int), .string ty] 55)) => X.cell r0
      have i1 : (0 : Int) ≤ (k : Int) := by omega
      have i2 : (k : Int) < (len : Int) := by omega
      have i3 : (0 : Int) ≤ (i : Int) := by omega
      have i4 : (i : Int) < (n : Int) := by omega
      have i5 : (0 : Int) ≤ (m : Int) := by omega
      have i6 : (m : Int) + 1 ≤ (s.size : Int) := by omega
      clear hcell hm hml hone htn hi HS hx hy hdid hsm hz hq htx hty HO HB HOX HBX r0
      go_wp2_with fail
      refine wp_region_lwt 19 rfl rfl (by kernel_rfl) rfl (by kernel_rfl) (by kernel_rfl) (by kernel_rfl) (by kernel_rfl) ?_
      simp only [List.take_succ_cons, List.take_zero, List.cons_append, List.nil_append, mvOf]
      repeat (go_big_quiet_step (first | (go_at_call 59; exact lw_call (HNX.out _ _ (by assumption)) _) | (go_at_call 67; exact lw_still HTB.out _)))
      refine wpQuiet_nil ?_
      rintro w' ⟨X, rfl⟩
      have HOX := HOS.out X
      rw [show ((q + z : Nat) : Int) = (q : Int) + (z : Int) from by omega] at HOX
      have HO2 := Lib.hid HOX
      have HB2 := Lib.hid (HBS.out X (.int .i64 ((q : Int) + (z : Int))))
      have rf2 := rf X
      have kr2 := kr X
      clear HOX k0 k1 k2 kr rf
      go_wp2
      go_step3
      exact ⟨rfl, ⟨k + 1, g, c, _, _, _, _, _, _, _, _, _, _, _, _, _, _, _, _, _, _, _, _, _, _, _, _, _, _, _, _, _, _, _, _, by omega, hg, rfl, HO2, HB2⟩, by simp [intOf]; omega⟩
    · obtain rfl : k = len := by omega
      have bk : ((k : Int) == (k : Int)) = true := by simp
      go_wp2
      simp only [Exit.jump]
      go_ret
      exact ⟨_, rfl, HO.out, HB.out⟩
  · intro H
    go_wp2_with fail
    go_at_call 59
    refine HN0.out.mono ?_
    rintro e w1 ⟨rfl, b1⟩
    have HB1 := Lib.hid b1
    have HR1 := Lib.hid (HRP.out (w1.alloc (.cells #[.int .i64 ((net ts : Nat) : Int)] 3)) w1.heap.size (by simp))
    clear b1
    go_wp2_with fail
    go_at_call 89
    refine HR1.out.mono ?_
    rintro e w3 ⟨v, rfl, o3, b3⟩
    have HB3 : Hid (Below w.heap.size w w3) := Lib.hid ((HB1.out.alloc HB1.out.size _).trans (b3.mono (by rw [alloc_sizeZ]; have := HB1.out.size; omega)))
    have o4 : Own w3 w.heap.size v (trL ts ps n 0) := by
      rw [HTZ.out]
      exact o3.mono (by rw [alloc_sizeZ]; have := HB1.out.size; omega)
    obtain ⟨g, c, rfl, hgB, hgl⟩ := o4.point (by rw [length_trL]; omega)
    rw [length_trL] at o4 ⊢
    have HO4 := Lib.hid o4
    clear o3 o4 b3 hgl
    go_wp2
    go_step3
    simp only [Exit.then]
    rename_i K hK
    refine hK _ _ (H _ _ ?_)
    exact ⟨0, g, c, _, _, _, _, _, _, _, _, _, _, _, _, _, _, _, _, _, _, _, _, _, _, _, _, _, _, _, _, _, _, _, _, Nat.zero_le _, hgB, rfl, HO4, HB3⟩

end Go.Proofs.YtjbomclildkjaaaDoor
