/- Chapter 9: the model's pzText, PuzzleText. -/
import Derived.Test.YtodlpdbmiicdfabDoorPzj
import Derived.Test.YtodlpdbmiicdfabDoorNum
namespace Go.Proofs.YtodlpdbmiicdfabDoor
open Go.ChangeShapes Go.WideShapes Go.ChangeAt Go.RowKit
open Pz Dr

namespace Pz
/-- the numbers of a clue are small -/
theorem clue_nat {n : Nat} (hn : n ≤ 8) {c : RClue} (h : clueB (n : Int) c = true) : ∃ k a b d : Nat, c = ((k : Int), (a : Int), (b : Int), (d : Int)) ∧ k ≤ 20 ∧ a ≤ 20 ∧ b ≤ 20 ∧ d ≤ 20 := by
  obtain ⟨k, a, b, d⟩ := c
  have key : (0 ≤ k ∧ k ≤ 20) → (0 ≤ a ∧ a ≤ 20) → (0 ≤ b ∧ b ≤ 20) → (0 ≤ d ∧ d ≤ 20) → ∃ k' a' b' d' : Nat, ((k, a, b, d) : RClue) = ((k' : Int), (a' : Int), (b' : Int), (d' : Int)) ∧ k' ≤ 20 ∧ a' ≤ 20 ∧ b' ≤ 20 ∧ d' ≤ 20 := fun h1 h2 h3 h4 =>
    ⟨k.toNat, a.toNat, b.toNat, d.toNat, by rw [Int.toNat_of_nonneg h1.1, Int.toNat_of_nonneg h2.1, Int.toNat_of_nonneg h3.1, Int.toNat_of_nonneg h4.1], by omega, by omega, by omega, by omega⟩
  unfold clueB at h
  simp only at h
  by_cases h0 : k = 0
  · rw [if_pos h0, Bool.and_eq_true, Bool.and_eq_true] at h
    have := inB_yes h.1; have := inB_yes h.2.1; have := inB_yes h.2.2
    exact key (by omega) (by omega) (by omega) (by omega)
  rw [if_neg h0] at h
  by_cases h1 : k = 1
  · rw [if_pos h1, Bool.and_eq_true, Bool.and_eq_true, decide_eq_true_eq, decide_eq_true_eq] at h
    have := inB_yes h.2.2
    exact key (by omega) (by omega) (by omega) (by omega)
  rw [if_neg h1] at h
  by_cases h2 : k = 2
  · rw [if_pos h2, Bool.and_eq_true, Bool.and_eq_true, decide_eq_true_eq, decide_eq_true_eq] at h
    have := inB_yes h.2.2
    exact key (by omega) (by omega) (by omega) (by omega)
  rw [if_neg h2] at h
  by_cases h3 : k = 3
  · rw [if_pos h3, Bool.and_eq_true, Bool.and_eq_true, decide_eq_true_eq, decide_eq_true_eq] at h
    have := inB_yes h.2.2
    exact key (by omega) (by omega) (by omega) (by omega)
  rw [if_neg h3] at h
  by_cases h4 : k = 4
  · rw [if_pos h4, Bool.and_eq_true, Bool.and_eq_true, decide_eq_true_eq] at h
    have := inB_yes h.1; have := inB_yes h.2.2
    exact key (by omega) (by omega) (by omega) (by omega)
  rw [if_neg h4] at h
  cases h
/-- a clue's text -/
def clueT (k a b d : Nat) : ByteArray := txt (numL k) ++ (⟨#[46]⟩ : ByteArray) ++ txt (numL a) ++ (⟨#[46]⟩ : ByteArray) ++ txt (numL b) ++ (⟨#[46]⟩ : ByteArray) ++ txt (numL d)
def clueTC (c : RClue) : ByteArray := clueT c.1.toNat c.2.1.toNat c.2.2.1.toNat c.2.2.2.toNat
/-- the text of a puzzle with the first clues -/
def puzTo (n : Nat) (cs : List RClue) : Nat → ByteArray
  | 0 => txt (numL n) ++ (⟨#[58]⟩ : ByteArray)
  | k + 1 => (if 0 < k then puzTo n cs k ++ (⟨#[44]⟩ : ByteArray) else puzTo n cs k) ++ clueTC (cs.getD k zClue)
def puzT (n : Nat) (cs : List RClue) : ByteArray := puzTo n cs cs.length
theorem size_num20 {k : Nat} (h : k ≤ 20) : (txt (numL k)).size ≤ 2 := by rw [size_txt]; exact numL_len k 2 (by omega) (by omega)
theorem size_puzTo {n : Nat} (hn : n ≤ 8) {cs : List RClue} (h : ∀ k, k < cs.length → clueB (n : Int) (cs.getD k zClue) = true) : ∀ k, k ≤ cs.length → (puzTo n cs k).size ≤ 3 + k * 12
  | 0, _ => by
    rw [puzTo, ByteArray.size_append]
    have := size_num20 (k := n) (by omega)
    have e : (⟨#[58]⟩ : ByteArray).size = 1 := rfl
    omega
  | k + 1, hk => by
    have ih := size_puzTo hn h k (by omega)
    obtain ⟨x, a, b, d, hc, h1, h2, h3, h4⟩ := clue_nat hn (h k (by omega))
    have e : (⟨#[44]⟩ : ByteArray).size = 1 := rfl
    have e2 : (⟨#[46]⟩ : ByteArray).size = 1 := rfl
    have hT : (clueTC (cs.getD k zClue)).size ≤ 11 := by
      unfold clueTC
      rw [hc]
      simp only [Int.toNat_natCast]
      unfold clueT
      simp only [ByteArray.size_append]
      have := size_num20 h1; have := size_num20 h2; have := size_num20 h3; have := size_num20 h4
      omega
    rw [puzTo, ByteArray.size_append]
    split
    · rw [ByteArray.size_append]; omega
    · omega
end Pz

structure NumQ (k : Nat) (t : ByteArray) : Prop where
  small : k ≤ 20
  text : txt (numL k) = t
set_option maxHeartbeats 8000000 in
theorem pzText_any (w : World) (n : Nat) (a : Option Addr) (len cap : Nat) (cs : List RClue) (hn : n ≤ 8) (hl : len ≤ 6) (hcl : ∀ k, k < cs.length → clueB (n : Int) (cs.getD k zClue) = true) (hc : CameClue w a len cs) :
    Calls Tryd.prog 16 #[.agg #[.int .i64 (n : Int), .slice a len cap]] w fun e w' => e = .returned (.string (puzT n cs)) ∧ Below w.heap.size w w' := by
  have HZ : Hid (cs.length = len) := Lib.hid hc.1
  have HC := Lib.hid hc
  have HSZ := Lib.hid (fun k (h : k ≤ len) => size_puzTo hn hcl k (by rw [HZ.out]; exact h))
  have HCL := Lib.hid hcl
  have HN0 := Lib.hid (fun w2 => l1Num_any n (by omega) w2)
  have HNX : Hid (∀ (k : Nat) (t : ByteArray), NumQ k t → ∀ w2, Calls Tryd.prog 32 #[.int .i64 (k : Int)] w2 fun e w' => e = .returned (.string t) ∧ Below w2.heap.size w2 w') := Lib.hid (fun k t h w2 => by have := l1Num_any k (by have := h.small; omega) w2; rwa [h.text] at this)
  have HPT : Hid (puzT n cs = puzTo n cs len) := Lib.hid (by unfold puzT; rw [HZ.out])
  have HP0 : Hid (puzTo n cs 0 = txt (numL n) ++ (⟨#[58]⟩ : ByteArray)) := Lib.hid rfl
  have HPS : Hid (∀ k, puzTo n cs (k + 1) = (if 0 < k then puzTo n cs k ++ (⟨#[44]⟩ : ByteArray) else puzTo n cs k) ++ clueTC (cs.getD k zClue)) := Lib.hid (fun k => rfl)
  obtain ⟨tn, htn⟩ : ∃ t, t = txt (numL n) := ⟨_, rfl⟩
  have htns : tn.size ≤ 2 := by rw [htn]; exact size_num20 (by omega)
  rw [← htn] at HN0 HP0
  clear hc hcl htn
  have K0 := Lib.hid (KZ.start w n a len cap)
  have c0 := K0.out.c0
  go_enter Tryd.func16, Tryd.ntmps16
  go_wp2_with fail
  go_at_call 32
  refine (HN0.out _).mono ?_
  rintro e w2 ⟨rfl, b2⟩
  have K2 : Hid (KZ w n a len cap w2) := Lib.hid b2
  clear b2 c0
  have c1 := K2.out.c1
  go_wp2_with fail
  go_loopw [3, 4, 5, 13] (fun o x4 x5 i wr => ∃ k : Nat, k ≤ len ∧ i = .int .i64 (k : Int) ∧ o = .string (puzTo n cs k) ∧ Hid (KZ w n a len cap wr)) (fun _ _ _ i _ => len - (intOf i).toNat)
  case atStart => exact ⟨0, Nat.zero_le _, rfl, by rw [HP0.out], K2⟩
  case round =>
    obtain ⟨k, hk, rfl, rfl, HB⟩ := hrel
    clear c1
    by_cases hlt : k < len
    · obtain ⟨b, off, rfl, hcell⟩ := (HC.out.below HB.out.down).2 (by omega)
      obtain ⟨e0, e1, e2, e3⟩ := hcell k hlt
      obtain ⟨x, y, z, d, hcc, h1, h2, h3, h4⟩ := clue_nat hn (HCL.out k (by have := HZ.out; omega))
      rw [hcc] at e0 e1 e2 e3
      simp only at e0 e1 e2 e3
      have hs := HSZ.out k hk
      have HS := Lib.hid (HPS.out k)
      obtain ⟨qx, hqx⟩ : ∃ q, q = txt (numL x) := ⟨_, rfl⟩
      obtain ⟨qy, hqy⟩ : ∃ q, q = txt (numL y) := ⟨_, rfl⟩
      obtain ⟨qz, hqz⟩ : ∃ q, q = txt (numL z) := ⟨_, rfl⟩
      obtain ⟨qd, hqd⟩ : ∃ q, q = txt (numL d) := ⟨_, rfl⟩
      have nx : NumQ x qx := ⟨h1, hqx.symm⟩
      have ny : NumQ y qy := ⟨h2, hqy.symm⟩
      have nz : NumQ z qz := ⟨h3, hqz.symm⟩
      have nd : NumQ d qd := ⟨h4, hqd.symm⟩
      have s1 : qx.size ≤ 2 := by rw [hqx]; exact size_num20 h1
      have s2 : qy.size ≤ 2 := by rw [hqy]; exact size_num20 h2
      have s3 : qz.size ≤ 2 := by rw [hqz]; exact size_num20 h3
      have s4 : qd.size ≤ 2 := by rw [hqd]; exact size_num20 h4
      have HTC : Hid (clueTC (cs.getD k zClue) = qx ++ (⟨#[46]⟩ : ByteArray) ++ qy ++ (⟨#[46]⟩ : ByteArray) ++ qz ++ (⟨#[46]⟩ : ByteArray) ++ qd) := Lib.hid (by
        unfold clueTC; rw [hcc]; simp only [Int.toNat_natCast]; unfold clueT; rw [hqx, hqy, hqz, hqd])
      rw [HTC.out] at HS
      have hd : (⟨#[46]⟩ : ByteArray).size = 1 := rfl
      have z1 : (qx ++ (⟨#[46]⟩ : ByteArray)).size ≤ 3 := by rw [ByteArray.size_append]; omega
      have z2 : (qx ++ (⟨#[46]⟩ : ByteArray) ++ qy).size ≤ 5 := by rw [ByteArray.size_append]; omega
      have z3 : (qx ++ (⟨#[46]⟩ : ByteArray) ++ qy ++ (⟨#[46]⟩ : ByteArray)).size ≤ 6 := by rw [ByteArray.size_append]; omega
      have z4 : (qx ++ (⟨#[46]⟩ : ByteArray) ++ qy ++ (⟨#[46]⟩ : ByteArray) ++ qz).size ≤ 8 := by rw [ByteArray.size_append]; omega
      have z5 : (qx ++ (⟨#[46]⟩ : ByteArray) ++ qy ++ (⟨#[46]⟩ : ByteArray) ++ qz ++ (⟨#[46]⟩ : ByteArray)).size ≤ 9 := by rw [ByteArray.size_append]; omega
      have z6 : (qx ++ (⟨#[46]⟩ : ByteArray) ++ qy ++ (⟨#[46]⟩ : ByteArray) ++ qz ++ (⟨#[46]⟩ : ByteArray) ++ qd).size ≤ 11 := by rw [ByteArray.size_append]; omega
      obtain ⟨P, hP⟩ : ∃ P, P = puzTo n cs k := ⟨_, rfl⟩
      rw [← hP] at hs HS ⊢
      have i1 : (0 : Int) ≤ (k : Int) := by omega
      have i2 : (k : Int) < (len : Int) := by omega
      have hps : P.size ≤ 80 := by omega
      obtain ⟨ws, hws⟩ : ∃ ws, ws = wr.alloc (.cells #[.int .i64 (x : Int), .int .i64 (y : Int), .int .i64 (z : Int), .int .i64 (d : Int)] 44) := ⟨_, rfl⟩
      have HBW : Hid (Below wr.heap.size wr ws) := Lib.hid (by rw [hws]; exact (Below.refl _ _).alloc (Nat.le_refl _) _)
      have HCW : Hid (ws.cell? ⟨wr.heap.size, 0, none⟩ = some (.int .i64 (x : Int)) ∧ ws.cell? ⟨wr.heap.size, 1, none⟩ = some (.int .i64 (y : Int)) ∧ ws.cell? ⟨wr.heap.size, 2, none⟩ = some (.int .i64 (z : Int)) ∧ ws.cell? ⟨wr.heap.size, 3, none⟩ = some (.int .i64 (d : Int))) := Lib.hid (by
        rw [hws]; exact ⟨by rw [World.cell?_alloc_new]; rfl, by rw [World.cell?_alloc_new]; rfl, by rw [World.cell?_alloc_new]; rfl, by rw [World.cell?_alloc_new]; rfl⟩)
      have ex0 : ∀ X : Lw ws, X.w.cell? ⟨wr.heap.size, 0, none⟩ = some (.int .i64 (x : Int)) := fun X => X.cell HCW.out.1
      have ex1 : ∀ X : Lw ws, X.w.cell? ⟨wr.heap.size, 1, none⟩ = some (.int .i64 (y : Int)) := fun X => X.cell HCW.out.2.1
      have ex2 : ∀ X : Lw ws, X.w.cell? ⟨wr.heap.size, 2, none⟩ = some (.int .i64 (z : Int)) := fun X => X.cell HCW.out.2.2.1
      have ex3 : ∀ X : Lw ws, X.w.cell? ⟨wr.heap.size, 3, none⟩ = some (.int .i64 (d : Int)) := fun X => X.cell HCW.out.2.2.2
      clear hcell hcc hqx hqy hqz hqd hP h1 h2 h3 h4 hd
      by_cases hk0 : 0 < k
      · have hk0i : (0 : Int) < (k : Int) := by omega
        have zc : (P ++ (⟨#[44]⟩ : ByteArray)).size ≤ 81 := by rw [ByteArray.size_append]; have e : (⟨#[44]⟩ : ByteArray).size = 1 := rfl; omega
        rw [if_pos hk0] at HS
        clear hk0
        go_wp2_with fail
        rw [← hws]
        clear hws e0 e1 e2 e3
        refine wp_region_lw (by kernel_rfl) (by kernel_rfl) ?_
        repeat (go_big_quiet_step ((go_at_call 32; exact lw_call (fun w2 _ => HNX.out _ _ (by assumption) w2) _)))
        refine wpQuiet_nil ?_
        rintro w' ⟨X, rfl⟩
        have HB6 : Hid (KZ w n (some ⟨b, off, none⟩) len cap X.w) := Lib.hid (HB.out.more (HBW.out.trans (X.b.mono HBW.out.size)))
        go_wp2
        go_roundw
        case rel => exact ⟨k + 1, by omega, by go_num, by rw [HS.out], HB6⟩
        case measure => simp [intOf]; omega
      · have hk0i : ¬ (0 : Int) < (k : Int) := by omega
        rw [if_neg hk0] at HS
        clear hk0
        go_wp2_with fail
        rw [← hws]
        clear hws e0 e1 e2 e3
        refine wp_region_lw (by kernel_rfl) (by kernel_rfl) ?_
        repeat (go_big_quiet_step ((go_at_call 32; exact lw_call (fun w2 _ => HNX.out _ _ (by assumption) w2) _)))
        refine wpQuiet_nil ?_
        rintro w' ⟨X, rfl⟩
        have HB6 : Hid (KZ w n (some ⟨b, off, none⟩) len cap X.w) := Lib.hid (HB.out.more (HBW.out.trans (X.b.mono HBW.out.size)))
        go_wp2
        go_roundw
        case rel => exact ⟨k + 1, by omega, by go_num, by rw [HS.out], HB6⟩
        case measure => simp [intOf]; omega
    · obtain rfl : k = len := by omega
      have i2 : ¬ (k : Int) < (k : Int) := by omega
      go_wp2
      go_ret
      exact ⟨by rw [HPT.out]; exact rfl, HB.out.down⟩

def outPuzzleText_1 (s : Int) (cs : List RClue) : Bool := goodP s cs
def outPuzzleText_0 (s : Int) (cs : List RClue) : ByteArray := if goodP s cs then puzT s.toNat cs else ByteArray.empty
set_option maxHeartbeats 4000000 in
theorem specPuzzleText_any (w : World) (s : Int) (a : Option Addr) (len cap : Nat) (cs : List RClue) (hl : len ≤ 1048576) (hc : CameClue w a len cs) :
    Calls Tryd.prog 6 #[.agg #[.int .i64 s, .slice a len cap]] w fun e w' => e = .returned (.tuple #[.string (outPuzzleText_0 s cs), .bool (outPuzzleText_1 s cs)]) ∧ Below w.heap.size w w' := by
  have HZ : Hid (cs.length = len) := Lib.hid hc.1
  have HG := Lib.hid (fun w2 (h : Below w.heap.size w w2) => pzGood_any w2 s a len cap cs hl (hc.below h))
  have HC := Lib.hid hc
  have c0 := (KZ.start w s a len cap).c0
  have c1 := (KZ.start w s a len cap).c1
  clear hc
  rcases hb : goodP s cs with _ | _
  · have HE : Hid (outPuzzleText_0 s cs = ByteArray.empty ∧ outPuzzleText_1 s cs = false) := Lib.hid (by unfold outPuzzleText_0 outPuzzleText_1; rw [hb]; exact ⟨rfl, rfl⟩)
    rw [hb] at HG
    clear hb
    go_enter Tryd.func6, Tryd.ntmps6
    go_wp2_with fail
    go_at_call 15
    refine (HG.out _ (KZ.start ..).down).mono ?_
    rintro e w2 ⟨rfl, b2⟩
    have K2 : Hid (KZ w s a len cap w2) := Lib.hid b2
    clear b2 c0 c1
    go_wp2
    go_ret2
    exact ⟨by rw [HE.out.1, HE.out.2]; exact rfl, K2.out.down⟩
  obtain ⟨⟨n, rfl, hn1, hn8⟩, hl6, hcl⟩ := pz_of hb
  have hl6' : len ≤ 6 := by have := HZ.out; omega
  have HE : Hid (outPuzzleText_0 (n : Int) cs = puzT n cs ∧ outPuzzleText_1 (n : Int) cs = true) := Lib.hid (by unfold outPuzzleText_0 outPuzzleText_1; rw [hb]; exact ⟨rfl, rfl⟩)
  have HT := Lib.hid (fun w2 (h : Below w.heap.size w w2) => pzText_any w2 n a len cap cs hn8 hl6' hcl (HC.out.below h))
  rw [hb] at HG
  clear hb hcl hl6
  go_enter Tryd.func6, Tryd.ntmps6
  go_wp2_with fail
  go_at_call 15
  refine (HG.out _ (KZ.start ..).down).mono ?_
  rintro e w2 ⟨rfl, b2⟩
  have K2 : Hid (KZ w n a len cap w2) := Lib.hid b2
  clear b2 c0 c1
  have c0 := K2.out.c0
  have c1 := K2.out.c1
  go_wp2_with fail
  go_at_call 16
  refine (HT.out _ K2.out.down).mono ?_
  rintro e w3 ⟨rfl, b3⟩
  have K3 := Lib.hid (K2.out.more b3)
  clear b3 c0 c1
  go_wp2
  go_ret2
  exact ⟨by rw [HE.out.1, HE.out.2]; exact rfl, K3.out.down⟩

end Go.Proofs.YtodlpdbmiicdfabDoor
