/- Chapter 9: the model's LeftByClues, BestClue. -/
import Derived.Test.YtodlpdbmiicdfabPzj
import Derived.Test.YtodlpdbmiicdfabAppI
namespace Go.Proofs.Ytodlpdbmiicdfab
open Go.ChangeShapes Go.WideShapes Go.ChangeAt Go.RowKit
open Pz

namespace Pz
theorem clues_take {n : Int} {cs : List RClue} {k : Nat} (h : ∀ j, j < cs.length → clueB n (cs.getD j zClue) = true) : ∀ j, j < (cs.take k).length → clueB n ((cs.take k).getD j zClue) = true := by
  intro j hj
  rw [List.length_take] at hj
  have := h j (by omega)
  simpa [List.getD_eq_getElem?_getD, List.getElem?_take, show j < k by omega] using this
theorem clues_drop {n : Int} {cs : List RClue} {k : Nat} (h : ∀ j, j < cs.length → clueB n (cs.getD j zClue) = true) : ∀ j, j < (cs.drop k).length → clueB n ((cs.drop k).getD j zClue) = true := by
  intro j hj
  rw [List.length_drop] at hj
  have := h (k + j) (by omega)
  simpa [List.getD_eq_getElem?_getD, List.getElem?_drop] using this
/-- how many rows fit the first clues -/
def leftN (n : Nat) (cs : List RClue) (k : Nat) : Nat := (solL n (cs.take k)).length
def leftTo (n : Nat) (cs : List RClue) (k : Nat) : List Int := asInts ((List.range k).map (leftN n cs))
theorem leftTo_succ (n : Nat) (cs : List RClue) (k : Nat) : leftTo n cs (k + 1) = leftTo n cs k ++ [((leftN n cs k : Nat) : Int)] := by unfold leftTo asInts; rw [List.range_succ, List.map_append, List.map_append]; rfl
theorem length_leftTo (n : Nat) (cs : List RClue) (k : Nat) : (leftTo n cs k).length = k := by unfold leftTo; rw [asInts_len, List.length_map, List.length_range]
def oneN (n : Nat) (cs : List RClue) (k : Nat) : Nat := (solL n ((cs.drop k).take 1)).length
/-- the first of the first k that the fewest rows fit, and how many -/
def bestTo (f : Nat → Nat) : Nat → Nat × Nat
  | 0 => (0, 0)
  | k + 1 => if k = 0 ∨ f k < (bestTo f k).2 then (k, f k) else bestTo f k
theorem bestTo_lt (f : Nat → Nat) : ∀ k, (bestTo f k).1 ≤ k
  | 0 => Nat.le_refl _
  | k + 1 => by have := bestTo_lt f k; rw [bestTo]; split <;> (try simp only) <;> omega
theorem bestTo_le (f : Nat → Nat) (M : Nat) (h : ∀ k, f k ≤ M) : ∀ k, (bestTo f k).2 ≤ M
  | 0 => Nat.zero_le _
  | k + 1 => by have := bestTo_le f M h k; have := h k; rw [bestTo]; split <;> (try simp only) <;> omega
end Pz

def outLeftByClues_1 (s : Int) (cs : List RClue) : Bool := goodP s cs
def outLeftByClues_0 (s : Int) (cs : List RClue) : List Int := if goodP s cs then leftTo s.toNat cs (cs.length + 1) else []
theorem lenLeftByClues_0 (s : Int) (cs : List RClue) : (outLeftByClues_0 s cs).length ≤ 1048576 := by
  unfold outLeftByClues_0
  split
  · rename_i h
    have h6 := (pz_of h).2.1
    rw [length_leftTo]; omega
  · simp
set_option maxHeartbeats 4000000 in
set_option maxRecDepth 20000 in
theorem specLeftByClues_any (w : World) (s : Int) (a : Option Addr) (len cap : Nat) (cs : List RClue) (hl : len ≤ 1048576) (hc : CameClue w a len cs) (hcp : len ≤ cap ∧ cap ≤ 9223372036854775807) :
    Calls Try.prog 17 #[.agg #[.int .i64 s, .slice a len cap]] w fun e w' => ∃ v0, e = .returned (.tuple #[v0, .bool (outLeftByClues_1 s cs)]) ∧ Own w' w.heap.size v0 (outLeftByClues_0 s cs) ∧ Below w.heap.size w w' := by
  have HZ : Hid (cs.length = len) := Lib.hid hc.1
  have HG := Lib.hid (fun w2 (h : Below w.heap.size w w2) => pzGood_any w2 s a len cap cs hl (hc.below h))
  have HC := Lib.hid hc
  have HCP := Lib.hid hcp
  clear hc
  rcases hb : goodP s cs with _ | _
  · have HE : Hid (outLeftByClues_1 s cs = false ∧ outLeftByClues_0 s cs = []) := Lib.hid (by unfold outLeftByClues_0 outLeftByClues_1; rw [hb]; exact ⟨rfl, rfl⟩)
    rw [hb] at HG
    clear hb hcp
    go_enter Try.func17, Try.ntmps17
    go_wp2_with fail
    go_at_call 27
    refine (HG.out _ (KZ.start ..).down).mono ?_
    rintro e w2 ⟨rfl, b2⟩
    have K2 : Hid (KZ w s a len cap w2) := Lib.hid b2
    clear b2
    go_wp2
    go_ret2
    exact ⟨_, by rw [HE.out.1]; exact rfl, by rw [HE.out.2]; exact own_nil _ _, K2.out.down⟩
  obtain ⟨⟨n, rfl, hn1, hn8⟩, hl6, hcl⟩ := pz_of hb
  have hl6' : len ≤ 6 := by have := HZ.out; omega
  obtain ⟨hcp1, hcp2⟩ := hcp
  have HE : Hid (outLeftByClues_1 (n : Int) cs = true ∧ outLeftByClues_0 (n : Int) cs = leftTo n cs (len + 1)) := Lib.hid (by unfold outLeftByClues_0 outLeftByClues_1; rw [hb, HZ.out]; exact ⟨rfl, rfl⟩)
  have HA := Lib.hid (fun k (hk : k ≤ len) (w2 : World) (h : Below w.heap.size w w2) => show Calls Try.prog 28 #[.int .i64 (n : Int), .slice a k cap] w2 (fun e w' => ∃ ao cp, e = .returned (.slice ao (leftN n cs k) cp) ∧ Below w2.heap.size w2 w') from (pzAll_any w2 n hn1 hn8 a k cap (cs.take k) (by omega) (clues_take hcl) ((HC.out.below h).takeC (by omega))).mono (by
    rintro e w' ⟨v, he, ho, hb⟩
    obtain ⟨ao, cp, rfl, _⟩ := ho.read
    exact ⟨ao, cp, he, hb⟩))
  have HSU := Lib.hid (fun k => leftTo_succ n cs k)
  have HLE := Lib.hid (fun k => show leftN n cs k ≤ 256 from solL_le hn8 _)
  rw [hb] at HG
  clear hb hcl hl6
  go_enter Try.func17, Try.ntmps17
  go_wp2_with fail
  go_at_call 27
  refine (HG.out _ (KZ.start ..).down).mono ?_
  rintro e w2 ⟨rfl, b2⟩
  have K2 : Hid (KZ w n a len cap w2) := Lib.hid b2
  clear b2
  go_wp2_with fail
  go_loopw [4, 5] (fun v i wr => ∃ k : Nat, k ≤ len + 1 ∧ i = .int .i64 (k : Int) ∧ Hid (Own wr (w.heap.size + 1) v (leftTo n cs k)) ∧ Hid (KZ w n a len cap wr)) (fun _ i _ => len + 1 - (intOf i).toNat)
  case atStart => exact ⟨0, Nat.zero_le _, rfl, Lib.hid (own_nil _ _), K2⟩
  case round =>
    obtain ⟨k, hk, rfl, HO, HB⟩ := hrel
    have c0 := HB.out.c0
    have c1 := HB.out.c1
    by_cases hlt : k ≤ len
    · have i1 : (0 : Int) ≤ (k : Int) := by omega
      have i2 : (k : Int) ≤ (len : Int) := by omega
      have i3 : (k : Int) ≤ (cap : Int) := by omega
      have HAk := Lib.hid (HA.out k hlt)
      have HS := Lib.hid (HSU.out k)
      have hle := HLE.out k
      obtain ⟨m, hm⟩ : ∃ m, m = leftN n cs k := ⟨_, rfl⟩
      rw [← hm] at HAk HS hle
      have hbl : (leftTo n cs k).length ≤ 1000000000 := by rw [length_leftTo]; omega
      clear hm
      go_wp2_with fail
      go_region_held_law (fun w' => w'.cell? ⟨w.heap.size, 0, none⟩ = some (.int .i64 (n : Int)) ∧ w'.cell? ⟨w.heap.size, 1, none⟩ = some (.slice a len cap)) (first | go_keep | exact ⟨k5.c0, k5.c1⟩ | exact ⟨k6.c0, k6.c1⟩)
        (first
          | (go_at_call 28; refine (HAk.out _ (by exact ⟨HB.out.down.os, HB.out.down.tape, HB.out.down.output, HB.out.down.size, HB.out.down.block⟩)).mono ?_; rintro e w5 ⟨ao5, cp5, rfl, b5⟩; have k5 : KZ w n a len cap w5 := HB.out.more ⟨b5.os, b5.tape, b5.output, b5.size, b5.block⟩)
          | (refine step_appInt rfl _ _ rfl (w.heap.size + 1) _ (leftTo n cs k) (m : Int) _ rfl rfl (own_alloc (HO.out.below (show Below wr.heap.size wr w5 from ⟨b5.os, b5.tape, b5.output, b5.size, b5.block⟩) (Nat.le_refl _)) _) (by simp) (by have := k5.big; simp; omega) hbl ?_; intro v6 w6 hO6 hB6 hG6; have k6 : KZ w n a len cap w6 := Below.trans (Below.alloc k5 (Below.size k5) _) (by rw [pz_size1]; exact hB6)))
      have HO6 : Hid (Own w6 (w.heap.size + 1) v6 (leftTo n cs (k + 1))) := Lib.hid (by rw [HS.out]; exact hO6)
      have HK6 : Hid (KZ w n a len cap w6) := Lib.hid k6
      clear b5 k5 hO6 hB6 hG6 k6 c0 c1
      simp only [List.getElem_toArray, List.getElem_cons_zero, List.getElem_cons_succ, List.setIfInBounds_toArray, List.set_cons_zero, List.set_cons_succ]
      go_wp2
      go_roundw
      case rel => exact ⟨k + 1, by omega, by go_num, HO6, HK6⟩
      case measure => simp [intOf]; omega
    · obtain rfl : k = len + 1 := by omega
      have i2 : ¬ ((len + 1 : Nat) : Int) ≤ (len : Int) := by omega
      go_wp2
      go_ret2
      exact ⟨_, by rw [HE.out.1]; exact rfl, by rw [HE.out.2]; exact HO.out.mono (by omega), HB.out.down⟩

def okBestClue (s : Int) (cs : List RClue) : Bool := goodP s cs && decide (0 < cs.length)
def outBestClue_0 (s : Int) (cs : List RClue) : Int := if okBestClue s cs then ((bestTo (oneN s.toNat cs) cs.length).1 : Nat) else 0
def outBestClue_1 (s : Int) (cs : List RClue) : Bool := okBestClue s cs
set_option maxHeartbeats 4000000 in
set_option maxRecDepth 20000 in
theorem specBestClue_any (w : World) (s : Int) (a : Option Addr) (len cap : Nat) (cs : List RClue) (hl : len ≤ 1048576) (hc : CameClue w a len cs) (hcp : len ≤ cap ∧ cap ≤ 9223372036854775807) :
    Calls Try.prog 19 #[.agg #[.int .i64 s, .slice a len cap]] w fun e w' => e = .returned (.tuple #[.int .i64 (outBestClue_0 s cs), .bool (outBestClue_1 s cs)]) ∧ Below w.heap.size w w' := by
  have HZ : Hid (cs.length = len) := Lib.hid hc.1
  have HG := Lib.hid (fun w2 (h : Below w.heap.size w w2) => pzGood_any w2 s a len cap cs hl (hc.below h))
  have HC := Lib.hid hc
  have HCP := Lib.hid hcp
  have HF : okBestClue s cs = false → Hid (outBestClue_0 s cs = 0 ∧ outBestClue_1 s cs = false) := fun h => Lib.hid (by unfold outBestClue_0 outBestClue_1; rw [h]; exact ⟨rfl, rfl⟩)
  clear hc
  rcases hb : goodP s cs with _ | _
  · have HE := HF (by unfold okBestClue; rw [hb]; rfl)
    rw [hb] at HG
    clear hb HF hcp
    go_enter Try.func19, Try.ntmps19
    go_wp2_with fail
    go_at_call 27
    refine (HG.out _ (KZ.start ..).down).mono ?_
    rintro e w2 ⟨rfl, b2⟩
    have K2 : Hid (KZ w s a len cap w2) := Lib.hid b2
    clear b2
    go_wp2
    go_ret2
    exact ⟨by rw [HE.out.1, HE.out.2]; exact rfl, K2.out.down⟩
  by_cases hl0 : len = 0
  · have HE := HF (by unfold okBestClue; rw [HZ.out, hl0]; simp)
    rw [hb] at HG
    have hq : ((len : Int) == 0) = true := by rw [beq_iff_eq]; omega
    clear hb HF hcp hl0
    go_enter Try.func19, Try.ntmps19
    go_wp2_with fail
    go_at_call 27
    refine (HG.out _ (KZ.start ..).down).mono ?_
    rintro e w2 ⟨rfl, b2⟩
    have K2 : Hid (KZ w s a len cap w2) := Lib.hid b2
    clear b2
    have c1 := K2.out.c1
    go_wp2
    go_ret2
    exact ⟨by rw [HE.out.1, HE.out.2]; exact rfl, K2.out.down⟩
  obtain ⟨⟨n, rfl, hn1, hn8⟩, hl6, hcl⟩ := pz_of hb
  have hl6' : len ≤ 6 := by have := HZ.out; omega
  have hq : ((len : Int) == 0) = false := by rw [beq_eq_false_iff_ne]; omega
  obtain ⟨hcp1, hcp2⟩ := hcp
  have HE : Hid (outBestClue_0 (n : Int) cs = ((bestTo (oneN n cs) len).1 : Nat) ∧ outBestClue_1 (n : Int) cs = true) := Lib.hid (by
    have h : okBestClue (n : Int) cs = true := by unfold okBestClue; rw [HZ.out, hb, decide_eq_true (by omega)]; rfl
    unfold outBestClue_0 outBestClue_1; rw [h, HZ.out]; exact ⟨rfl, rfl⟩)
  have HA := Lib.hid (fun k (hk : k < len) (w2 : World) (h : Below w.heap.size w w2) => show ∃ b off, a = some ⟨b, off, none⟩ ∧ ∀ cap', Calls Try.prog 28 #[.int .i64 (n : Int), .slice (some ⟨b, off + k * 4, none⟩) 1 cap'] w2 (fun e w' => ∃ ao cp, e = .returned (.slice ao (oneN n cs k) cp) ∧ Below w2.heap.size w2 w') from by
    obtain ⟨b, off, rfl, _⟩ := (HC.out.below h).2 (by omega)
    refine ⟨b, off, rfl, fun cap' => ?_⟩
    have hd := (HC.out.below h).dropC (k := k)
    have ht := hd.takeC (k := 1) (by omega)
    exact (pzAll_any w2 n hn1 hn8 _ 1 cap' ((cs.drop k).take 1) (by omega) (clues_take (clues_drop hcl)) ht).mono (by
      rintro e w' ⟨v, he, ho, hb⟩
      obtain ⟨ao, cp, rfl, _⟩ := ho.read
      exact ⟨ao, cp, he, hb⟩))
  have HSU : Hid (∀ k, bestTo (oneN n cs) (k + 1) = if k = 0 ∨ oneN n cs k < (bestTo (oneN n cs) k).2 then (k, oneN n cs k) else bestTo (oneN n cs) k) := Lib.hid (fun k => rfl)
  have HLE := Lib.hid (fun k => show oneN n cs k ≤ 256 from solL_le hn8 _)
  have HB1 := Lib.hid (fun k => bestTo_lt (oneN n cs) k)
  have HB2 := Lib.hid (fun k => bestTo_le (oneN n cs) 256 HLE.out k)
  rw [hb] at HG
  clear hb hcl hl6 HF
  go_enter Try.func19, Try.ntmps19
  go_wp2_with fail
  go_at_call 27
  refine (HG.out _ (KZ.start ..).down).mono ?_
  rintro e w2 ⟨rfl, b2⟩
  have K2 : Hid (KZ w n a len cap w2) := Lib.hid b2
  clear b2
  have c1 := K2.out.c1
  go_wp2_with fail
  go_loopw [4, 5, 6, 7, 20] (fun bi le x6 x7 i wr => ∃ k : Nat, k ≤ len ∧ i = .int .i64 (k : Int) ∧ bi = .int .i64 ((bestTo (oneN n cs) k).1 : Nat) ∧ le = .int .i64 ((bestTo (oneN n cs) k).2 : Nat) ∧ Hid (KZ w n a len cap wr)) (fun _ _ _ _ i _ => len - (intOf i).toNat)
  case atStart => exact ⟨0, Nat.zero_le _, rfl, rfl, rfl, K2⟩
  case round =>
    obtain ⟨k, hk, rfl, rfl, rfl, HB⟩ := hrel
    clear c1
    have c0 := HB.out.c0
    have c1 := HB.out.c1
    have hb1 := HB1.out k
    have hb2 := HB2.out k
    by_cases hlt : k < len
    · have i1 : (0 : Int) ≤ (k : Int) := by omega
      have i2 : (k : Int) < (len : Int) := by omega
      have i3 : (k : Int) + 1 ≤ (cap : Int) := by omega
      have i4 : (0 : Int) ≤ (k : Int) + 1 := by omega
      have i5 : (k : Int) ≤ (k : Int) + 1 := by omega
      have i6 : (k : Int) ≤ (cap : Int) := by omega
      have i7 : (k : Int) ≤ (len : Int) := by omega
      have hnc : ¬ cap = k := by omega
      have ew : IntKind.i64.wrap ((k : Int) + 1) = (k : Int) + 1 := by rw [IntKind.wrap_i64]; omega
      obtain ⟨b, off, rfl, HAk⟩ := HA.out k hlt wr HB.out.down
      have HAk := Lib.hid (fun w2 (h : Below w.heap.size w w2) cap' => show Calls Try.prog 28 #[.int .i64 (n : Int), .slice (some ⟨b, off + k * 4, none⟩) 1 cap'] w2 (fun e w' => ∃ ao cp, e = .returned (.slice ao (oneN n cs k) cp) ∧ Below w2.heap.size w2 w') from by
        obtain ⟨b', off', he, hh⟩ := HA.out k hlt w2 h
        injection he with he; injection he with he1 he2 _
        subst he1 he2
        exact hh cap')
      have HSk := Lib.hid (HSU.out k)
      have hle := HLE.out k
      obtain ⟨m, hm⟩ : ∃ m, m = oneN n cs k := ⟨_, rfl⟩
      obtain ⟨p, hp⟩ : ∃ m, m = (bestTo (oneN n cs) k).1 := ⟨_, rfl⟩
      obtain ⟨q, hqq⟩ : ∃ m, m = (bestTo (oneN n cs) k).2 := ⟨_, rfl⟩
      have HPQ : Hid (bestTo (oneN n cs) k = (p, q)) := Lib.hid (by rw [hp, hqq])
      rw [← hm] at HAk hle HSk
      rw [← hp] at hb1 ⊢
      rw [← hqq] at hb2 HSk ⊢
      clear hm hp hqq
      go_wp2_with fail
      go_region_held_law (fun w' => w'.cell? ⟨w.heap.size, 0, none⟩ = some (.int .i64 (n : Int)) ∧ w'.cell? ⟨w.heap.size, 1, none⟩ = some (.slice (some ⟨b, off, none⟩) len cap)) (first | go_keep | exact ⟨k5.c0, k5.c1⟩)
        (first
          | (go_at_call 28; refine (HAk.out _ (by exact ⟨HB.out.down.os, HB.out.down.tape, HB.out.down.output, HB.out.down.size, HB.out.down.block⟩) _).mono ?_; rintro e w5 ⟨ao5, cp5, rfl, b5⟩; have k5 : KZ w n (some ⟨b, off, none⟩) len cap w5 := HB.out.more ⟨b5.os, b5.tape, b5.output, b5.size, b5.block⟩))
      have HK5 : Hid (KZ w n (some ⟨b, off, none⟩) len cap w5) := Lib.hid k5
      clear b5 k5 c0 c1
      by_cases hk0 : k = 0
      · have e0 : ((k : Int) == 0) = true := by rw [beq_iff_eq]; omega
        have e1 : (k : Int) = 0 := by omega
        have HS := Lib.hid (show bestTo (oneN n cs) (k + 1) = (k, m) by rw [HSk.out, if_pos (.inl hk0)])
        clear hk0
        go_wp2
        go_roundw
        case rel => exact ⟨k + 1, by omega, by go_num, by rw [HS.out], by rw [HS.out], HK5⟩
        case measure => simp [intOf]; omega
      have e0 : ((k : Int) == 0) = false := by rw [beq_eq_false_iff_ne]; omega
      have e1 : ¬ (k : Int) = 0 := by omega
      by_cases hmq : m < q
      · have e2 : (m : Int) < (q : Int) := by omega
        have HS := Lib.hid (show bestTo (oneN n cs) (k + 1) = (k, m) by rw [HSk.out, if_pos (.inr hmq)])
        clear hk0 hmq
        go_wp2
        go_roundw
        case rel => exact ⟨k + 1, by omega, by go_num, by rw [HS.out], by rw [HS.out], HK5⟩
        case measure => simp [intOf]; omega
      · have e2 : ¬ (m : Int) < (q : Int) := by omega
        have HS := Lib.hid (show bestTo (oneN n cs) (k + 1) = (p, q) by rw [HSk.out, if_neg (by omega), HPQ.out])
        clear hk0 hmq
        go_wp2
        go_roundw
        case rel => exact ⟨k + 1, by omega, by go_num, by rw [HS.out], by rw [HS.out], HK5⟩
        case measure => simp [intOf]; omega
    · obtain rfl : k = len := by omega
      have i2 : ¬ (k : Int) < (k : Int) := by omega
      go_wp2
      go_ret2
      exact ⟨by rw [HE.out.1, HE.out.2]; exact rfl, HB.out.down⟩

end Go.Proofs.Ytodlpdbmiicdfab
