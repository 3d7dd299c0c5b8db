/- For the walk of FnDrillsMistakenOfAll: plain facts; vHas; a struct of a row copied and read. -/
import Derived.Test.YtjbomclildkjaaaDoorQdt
import Derived.Test.YtjbomclildkjaaaDoorMj
import Derived.Test.YtjbomclildkjaaaDoorWb
import Derived.Test.YtjbomclildkjaaaDoorQl
import Derived.Test.YtjbomclildkjaaaDoorOwn
import Derived.Test.YtjbomclildkjaaaDoorDrew
import Derived.Test.YtjbomclildkjaaaDoorSs
import Derived.Test.YtjbomclildkjaaaDoorRMistake
namespace Go.Proofs.YtjbomclildkjaaaDoor
open Go.ChangeShapes Go.WideShapes Go.ChangeAt Go.RowKit
open Dr Dt Qs
namespace Dm
theorem getD_face (ts : List Nat) (i : Nat) (h : i < ts.length) : (face ts).extract i (i + 1) = face [ts.getD i 0] := by
  unfold face
  apply ByteArray.ext
  simp only [ByteArray.data_extract, txt]
  rw [List.extract_toArray]
  simp only [List.extract_eq_take_drop, List.map_cons, List.map_nil]
  congr 1
  rw [show i + 1 - i = 1 by omega]
  rw [List.drop_eq_getElem_cons (by simpa using h)]
  simp [List.getD_eq_getElem?_getD, h]
theorem sg_at {s : ByteArray} {ts : List Nat} (h : s = word ts) (i : Nat) (hi : i < s.size) : s[i] = sg (ts.getD i 0) := by
  subst h
  have h2 : i < ts.length := by rwa [size_word] at hi
  exact (txt_get (ts.map sg) i hi).trans (getD_mapZ _ _ _ h2)
theorem dg_at {s : ByteArray} {ts : List Nat} (h : s = face ts) (hl : ∀ t ∈ ts, t < 4) (i : Nat) (hi : i < s.size) : ((s[i]).toNat : Int) = 48 + ((ts.getD i 0 : Nat) : Int) := by
  subst h
  have h2 : i < ts.length := by rwa [size_face] at hi
  have e : (face ts)[i] = dg (ts.getD i 0) := (txt_get (ts.map dg) i hi).trans (getD_mapZ _ _ _ h2)
  have := getD_lt hl (by omega) i
  rw [e, dg_nat (by omega)]
theorem sg_eq {c : Nat} (hc : c < 4) : ((sg c).toNat : Int) = 83 ↔ c = 0 := by
  rcases (by omega : c = 0 ∨ c = 1 ∨ c = 2 ∨ c = 3) with q | q | q | q <;> subst q <;> decide
def inL (xs : List Int) (n : Int) : Bool := decide (n ∈ xs)
theorem wro_has (ts : List Nat) (ps : List RMistake) {n i : Nat} (h : i < n) : inL (wroTo ts ps n) (i : Int) = decide (doneN ts ps i ≠ net ts) := by
  unfold inL wroTo asInts
  rw [decide_eq_decide]
  constructor
  · intro hm
    obtain ⟨j, hj, he⟩ := List.mem_map.1 hm
    obtain rfl : j = i := by omega
    exact of_decide_eq_true (List.mem_filter.1 hj).2
  · intro hm
    exact List.mem_map.2 ⟨i, List.mem_filter.2 ⟨List.mem_range.2 h, decide_eq_true hm⟩, rfl⟩
theorem wro_rise (ts : List Nat) (ps : List RMistake) (n : Nat) : (wroTo ts ps n).Pairwise (· < ·) := by
  unfold wroTo asInts
  rw [List.pairwise_map]
  exact (List.pairwise_lt_range.filter _).imp fun h => by omega
/-- how many of the first k mistakes are the first soldier's -/
def cntZ (ps : List RMistake) : Nat → Nat
  | 0 => 0
  | k + 1 => cntZ ps k + if (ps.getD k zMistake).1 = 0 then 1 else 0
theorem cntZ_le (ps : List RMistake) : ∀ k, cntZ ps k ≤ k
  | 0 => Nat.le_refl 0
  | k + 1 => by have := cntZ_le ps k; rw [cntZ]; split <;> omega
theorem acc_zero {ts : List Nat} {ps : List RMistake} (hn : net ts < 4)
    (h : ∀ k, k < ps.length → ∃ T S : Int, turnI (byt (ps.getD k zMistake).2.2 0) = T ∧ ((ts.getD (ps.getD k zMistake).2.1.toNat 0 : Nat) : Int) = S ∧ 0 ≤ T ∧ T ≤ 3 ∧ 0 ≤ S ∧ S ≤ 3 ∧ T ≠ S) :
    ∀ k, k ≤ ps.length → (cntZ ps k = 0 → accTo ts ps 0 k = (net ts : Nat)) ∧ (cntZ ps k = 1 → accTo ts ps 0 k % 4 ≠ (net ts : Nat))
  | 0, _ => ⟨fun _ => rfl, fun h => by rw [cntZ] at h; omega⟩
  | k + 1, hk => by
    obtain ⟨h1, h2⟩ := acc_zero hn h k (by omega)
    obtain ⟨T, S, e1, e2, t1, t2, t3, t4, t5⟩ := h k (by omega)
    rw [cntZ, accTo, e1, e2]
    have e0 : ((0 : Nat) : Int) = 0 := rfl
    rw [e0]
    by_cases hz : (ps.getD k zMistake).1 = 0
    · rw [if_pos hz, if_pos hz]
      refine ⟨fun e => by omega, fun e => ?_⟩
      have := h1 (by omega)
      omega
    · rw [if_neg hz, if_neg hz]
      exact ⟨fun e => h1 (by omega), fun e => h2 (by omega)⟩
theorem did_other {n : Nat} {ts : List Nat} {ps : List RMistake} (hts : ∀ t ∈ ts, t < 4) (h : mistB n (word ts) ps = true) : ∀ k, k < ps.length → ∃ T S : Int, turnI (byt (ps.getD k zMistake).2.2 0) = T ∧ ((ts.getD (ps.getD k zMistake).2.1.toNat 0 : Nat) : Int) = S ∧ 0 ≤ T ∧ T ≤ 3 ∧ 0 ≤ S ∧ S ≤ 3 ∧ T ≠ S := by
  intro k hk
  obtain ⟨_, _, _, hM⟩ := mist_ok h
  obtain ⟨⟨m, hm1, hm2⟩, ho, ht⟩ := hM k hk
  have h3 := turnI_le (byt (ps.getD k zMistake).2.2 0)
  have h4 := getD_lt hts (by omega) (ps.getD k zMistake).2.1.toNat
  refine ⟨_, _, rfl, rfl, ht, h3, by omega, by omega, fun he => ?_⟩
  unfold mistB at h
  simp only [Bool.and_eq_true, List.all_eq_true, List.mem_range] at h
  have h6 := h.2.2.2 k hk
  unfold okR at h6
  simp only [Bool.and_eq_true] at h6
  have h7 := h6.2.2.2.2.1
  have hne : ¬ byt (ps.getD k zMistake).2.2 0 = byt (word ts) (ps.getD k zMistake).2.1.toNat := by
    intro e; rw [decide_eq_true e] at h7; cases h7
  apply hne
  have hs : (ps.getD k zMistake).2.1.toNat < (word ts).size := by rw [size_word]; omega
  rw [byt_get _ _ hs, sg_at rfl _ hs]
  rw [byt_get _ 0 (by omega)] at he ht ⊢
  obtain ⟨t, ht4, hb⟩ := turn_sg ht
  rw [hb] at he ⊢
  rw [sg_turn ht4] at he
  have : t = ts.getD (ps.getD k zMistake).2.1.toNat 0 := by omega
  rw [← this]
structure MistF (facing s : ByteArray) (ps : List RMistake) (af : ByteArray) (wr : List Int) (co pl : ByteArray) (n : Nat) : Prop where
  n1 : 1 ≤ n
  n2 : n ≤ 30
  p2 : ps.length ≤ 20
  fz : facing.size = n
  az : af.size = n
  cz : co.size = n
  pz : pl.size = n
  wz : s.size ≤ 60
  wl : wr.length ≤ 30
  asc : ∀ i (h : i < facing.size), (facing[i]'h).toNat < 128
  each : ∀ i, i < n → ∃ a c p : Nat, a < 4 ∧ c < 4 ∧ p < 4 ∧ (a + c) % 4 = p ∧ af.extract i (i + 1) = face [a] ∧ co.extract i (i + 1) = word [c] ∧ pl.extract i (i + 1) = face [p] ∧
    (∀ h : i < af.size, ((af[i]'h).toNat : Int) = 48 + (a : Int)) ∧ (∀ h : i < pl.size, ((pl[i]'h).toNat : Int) = 48 + (p : Int)) ∧ (∀ h : i < co.size, ((co[i]'h).toNat : Int) = ((sg c).toNat : Int)) ∧ inL wr (i : Int) = decide (a ≠ p) ∧ (c = 0 ↔ a = p)
  rise : riseB wr = true
  good : outFacingAfter_1 facing s = true
  mis : outAreMistakes_0 (n : Int) s ps = true
  few : cntZ ps ps.length = 0 → inL wr 0 = false
  one : cntZ ps ps.length = 1 → inL wr 0 = true
theorem mistF {f s : ByteArray} {ps : List RMistake} (h : outFacingWithMistakes_1 f s ps = true) : MistF f s ps (outFacingWithMistakes_0 f s ps) (outWrongSoldiers_0 f s ps) (outCorrectionsOf_0 f s ps) (outFacingAfter_0 f s) f.size := by
  have hq : askB f s ps = true := h
  unfold outFacingWithMistakes_0 outWrongSoldiers_0 outCorrectionsOf_0
  rw [if_pos hq, if_pos hq, if_pos hq]
  unfold askB at hq
  rw [Bool.and_eq_true] at hq
  obtain ⟨hf, hm⟩ := hq
  have Y := faceF hf
  have hw : wordB s = true := by
    unfold mistB at hm
    simp only [Bool.and_eq_true] at hm
    exact hm.2.1
  have X := wordF hw
  obtain ⟨fs, hfs⟩ : ∃ x, x = fsOf f := ⟨_, rfl⟩
  obtain ⟨ts, hts⟩ : ∃ x, x = tsOf s := ⟨_, rfl⟩
  rw [← hfs] at Y ⊢
  rw [← hts] at X ⊢
  have hz := Y.size
  have hm2 : mistB f.size (word ts) ps = true := by rw [← X.eq]; exact hm
  obtain ⟨⟨k1, k2⟩, _, k3, _⟩ := mist_ok hm2
  have hn := net_lt ts
  have AZ := acc_zero (ps := ps) hn (did_other X.lt hm2) ps.length (Nat.le_refl _)
  have hdl := fun i => doneN_lt ts ps i
  refine ⟨k1, k2, k3, rfl, size_facMTo _ _ _ _, size_corTo _ _ _, by rw [after0 Y X, size_face, hz]; unfold turnL; rw [List.length_map], by rw [X.eq, size_word]; exact X.len, Nat.le_trans (length_wroTo _ _ _) k2, fun i hi => ?_, fun i hi => ?_, riseB_of (wro_rise _ _ _), ?_, hm, fun e => ?_, fun e => ?_⟩
  · have e := dg_at Y.eq Y.lt i hi
    have := getD_lt Y.lt (by omega) i
    omega
  · have hil : i < fs.length := by omega
    have hg : fs.getD i 0 < 4 := getD_lt Y.lt (by omega) i
    have hd := hdl i
    have g1 : ((List.range f.size).map fun i => (fs.getD i 0 + doneN ts ps i) % 4).getD i 0 = (fs.getD i 0 + doneN ts ps i) % 4 := by simp [List.getD_eq_getElem?_getD, hi]
    have g2 : ((List.range f.size).map (corN ts ps)).getD i 0 = corN ts ps i := by simp [List.getD_eq_getElem?_getD, hi]
    have g3 := getD_turn fs (net ts) i hil
    have gl : ∀ t ∈ (List.range f.size).map fun i => (fs.getD i 0 + doneN ts ps i) % 4, t < 4 := fun t ht => by obtain ⟨x, _, rfl⟩ := List.mem_map.1 ht; exact Nat.mod_lt _ (by omega)
    refine ⟨(fs.getD i 0 + doneN ts ps i) % 4, corN ts ps i, (fs.getD i 0 + net ts) % 4, Nat.mod_lt _ (by omega), Nat.mod_lt _ (by omega), Nat.mod_lt _ (by omega), by unfold corN; omega, ?_, ?_, ?_, fun h => ?_, fun h => ?_, fun h => ?_, ?_, by unfold corN; omega⟩
    · unfold facMTo; rw [getD_face _ i (by simpa using hi), g1]
    · unfold corTo; rw [getD_word _ i (by simpa using hi), g2]
    · rw [after0 Y X, getD_face _ i (by unfold turnL; rw [List.length_map]; exact hil), g3]
    · rw [dg_at (s := facMTo fs ts ps f.size) rfl gl i h, g1]
    · rw [dg_at (after0 Y X) (Y.turn (net ts)).lt i h, g3]
    · rw [sg_at (s := corTo ts ps f.size) rfl i h, g2]
    · rw [wro_has ts ps hi, decide_eq_decide]; omega
  · unfold outFacingAfter_1; rw [hf, hw]; rfl
  · have := wro_has ts ps (show 0 < f.size from k1)
    rw [show ((0 : Nat) : Int) = 0 from rfl] at this
    rw [this]
    have h1 := AZ.1 e
    refine decide_eq_false (fun hc => hc ?_)
    unfold doneN
    rw [h1]; omega
  · have := wro_has ts ps (show 0 < f.size from k1)
    rw [show ((0 : Nat) : Int) = 0 from rfl] at this
    rw [this]
    have h1 := AZ.2 e
    refine decide_eq_true (fun hc => h1 ?_)
    unfold doneN at hc
    omega
/-! ### ways -/
def ch : Nat → Nat → Nat
  | _, 0 => 1
  | 0, _ + 1 => 0
  | n + 1, k + 1 => ch n k + ch n (k + 1)
theorem ch_none : ∀ n k, n < k → ch n k = 0
  | 0, k + 1, _ => rfl
  | n + 1, k + 1, h => by rw [ch, ch_none n k (by omega), ch_none n (k + 1) (by omega)]
theorem ch_le : ∀ n k, ch n k * 3 ^ k ≤ 4 ^ n
  | n, 0 => by rw [ch]; exact Nat.one_le_pow _ _ (by omega)
  | 0, k + 1 => by rw [ch, Nat.zero_mul]; exact Nat.zero_le _
  | n + 1, k + 1 => by
    have h1 := ch_le n k
    have h2 := ch_le n (k + 1)
    rw [ch, Nat.add_mul, Nat.pow_succ 4 n]
    have e : ch n k * 3 ^ (k + 1) = 3 * (ch n k * 3 ^ k) := by rw [Nat.pow_succ, ← Nat.mul_assoc, Nat.mul_comm]
    omega
theorem ch_next : ∀ n, n < 13 → ∀ i, i < 13 → i ≤ n → ch n i * (n - i) = ch n (i + 1) * (i + 1) := by decide
theorem ch_small : ∀ n, n < 13 → ∀ i, i < 13 → ch n i ≤ 1000 := by decide
theorem ch_bd {n : Nat} (h : n ≤ 12) (i : Nat) : ch n i ≤ 1000 := by
  by_cases hi : i < 13
  · exact ch_small n (by omega) i hi
  · rw [ch_none n i (by omega)]; omega
theorem ch_step {n : Nat} (h : n ≤ 12) (i : Nat) : (ch n i : Int) * ((n : Int) - (i : Int)) = ((ch n (i + 1) : Nat) : Int) * ((i : Int) + 1) := by
  by_cases hi : i ≤ n
  · have e := ch_next n (by omega) i (by omega) hi
    have e2 : ((n - i : Nat) : Int) = (n : Int) - (i : Int) := by omega
    rw [← e2, ← Int.natCast_mul, e, Int.natCast_mul]
    rfl
  · rw [ch_none n i (by omega), ch_none n (i + 1) (by omega)]
    simp
theorem pull_sum (f : Nat → Nat → Nat) (c m : Nat) (hc : c < 4) (F : Nat → Nat) (hF : ∀ t, F t = pull f c m t 0 + pull f c m t 1 + pull f c m t 2 + pull f c m t 3) :
    F 0 + F 1 + F 2 + F 3 = f m 0 + f m 1 + f m 2 + f m 3 + 3 * (match m with | 0 => 0 | m + 1 => f m 0 + f m 1 + f m 2 + f m 3) := by
  rw [hF, hF, hF, hF]
  rcases (by omega : c = 0 ∨ c = 1 ∨ c = 2 ∨ c = 3) with q | q | q | q <;> subst q <;> cases m <;> simp [pull] <;> omega
theorem ways_sum {ts : List Nat} (hl : ∀ t ∈ ts, t < 4) : ∀ k m, waysTo ts k m 0 + waysTo ts k m 1 + waysTo ts k m 2 + waysTo ts k m 3 = ch k m * 3 ^ m
  | 0, 0 => rfl
  | 0, m + 1 => by simp [waysTo, ch]
  | k + 1, m => by
    rw [pull_sum (waysTo ts k) (ts.getD k 0) m (getD_lt hl (by omega) k) (fun t => waysTo ts (k + 1) m t) (fun t => rfl), ways_sum hl k m]
    match m with
    | 0 => simp [ch]
    | m + 1 =>
      have e := ways_sum hl k m
      dsimp only
      rw [e, ch, Nat.add_mul, Nat.pow_succ]
      have e2 : ch k m * (3 ^ m * 3) = 3 * (ch k m * 3 ^ m) := by rw [← Nat.mul_assoc, Nat.mul_comm]
      omega
theorem ways_zero (ts : List Nat) (hl : ∀ t ∈ ts, t < 4) : ∀ k t, t < 4 → waysTo ts k 0 t = if sumTo ts k % 4 = t then 1 else 0
  | 0, t, ht => by
    rw [waysTo, sumTo]
    by_cases e : t = 0
    · subst e; simp
    · rw [if_neg (by omega), if_neg (by omega)]
  | k + 1, t, ht => by
    have hc := getD_lt hl (by omega) k
    have e : waysTo ts (k + 1) 0 t = waysTo ts k 0 ((t + 4 - ts.getD k 0) % 4) := by
      rw [waysTo]
      generalize ts.getD k 0 = c at hc ⊢
      rcases (by omega : c = 0 ∨ c = 1 ∨ c = 2 ∨ c = 3) with q | q | q | q <;> subst q <;> simp [pull]
    rw [e, ways_zero ts hl k _ (Nat.mod_lt _ (by omega)), sumTo]
    by_cases e2 : sumTo ts k % 4 = (t + 4 - ts.getD k 0) % 4
    · rw [if_pos e2, if_pos (by omega)]
    · rw [if_neg e2, if_neg (by omega)]
def sumW (s : ByteArray) (k : Int) : Nat → Int
  | 0 => 0
  | t + 1 => sumW s k t + outWaysToFace_0 s k (t : Int)
structure WayF (s : ByteArray) (k turn : Int) (n K T : Nat) : Prop where
  sz : s.size = n
  n12 : n ≤ 12
  hk : k = (K : Int)
  k60 : K ≤ 60
  ht : turn = (T : Int)
  t4 : T < 4
  each : ∀ t : Nat, t < 4 → outWaysToFace_1 s k (t : Int) = true ∧ 0 ≤ outWaysToFace_0 s k (t : Int)
  sum : ∀ t : Nat, t ≤ 4 → 0 ≤ sumW s k t ∧ sumW s k t ≤ ((ch n K * 3 ^ K : Nat) : Int)
  all : sumW s k 4 = ((ch n K * 3 ^ K : Nat) : Int)
  le : ch n K * 3 ^ K ≤ 16777216
  good : outNetTurn_1 s = true
  zero : K = 0 → outWaysToFace_0 s k turn = if outNetTurn_0 s = turn then 1 else 0
theorem wayF {s : ByteArray} {k turn : Int} (h : outWaysToFace_1 s k turn = true) (hz : s.size ≤ 12) : WayF s k turn s.size k.toNat turn.toNat := by
  unfold outWaysToFace_1 at h
  rw [Bool.and_eq_true] at h
  have hb := h.1
  unfold wayB at hb
  simp only [Bool.and_eq_true] at hb
  obtain ⟨h1, h2, h3⟩ := hb
  have i2 := inB_yes h2
  have i3 := inB_yes h3
  have X := wordF h1
  obtain ⟨ts, hts⟩ : ∃ x, x = tsOf s := ⟨_, rfl⟩
  rw [← hts] at X
  have hsz : ts.length = s.size := by rw [X.eq, size_word]
  have hs := ways_sum X.lt s.size k.toNat
  have hle := ch_le s.size k.toNat
  have h4 : (4 : Nat) ^ s.size ≤ 4 ^ 12 := Nat.pow_le_pow_right (by omega) hz
  have h44 : (4 : Nat) ^ 12 = 16777216 := by decide
  obtain ⟨C, hC⟩ : ∃ C, C = ch s.size k.toNat * 3 ^ k.toNat := ⟨_, rfl⟩
  rw [← hC] at hs hle
  have hw : ∀ t : Nat, t < 4 → wayB s k (t : Int) = true ∧ wayN s k (t : Int) = waysTo ts s.size k.toNat t := fun t ht => by
    refine ⟨?_, by unfold wayN; rw [← hts, Int.toNat_natCast]⟩
    unfold wayB
    rw [h1, h2]
    unfold inB
    simp; omega
  have hb : ∀ t : Nat, t < 4 → waysTo ts s.size k.toNat t ≤ C := fun t ht => by
    rcases (by omega : t = 0 ∨ t = 1 ∨ t = 2 ∨ t = 3) with q | q | q | q <;> subst q <;> omega
  have ho : ∀ t : Nat, t < 4 → outWaysToFace_0 s k (t : Int) = ((waysTo ts s.size k.toNat t : Nat) : Int) ∧ outWaysToFace_1 s k (t : Int) = true := fun t ht => by
    have a1 := hw t ht
    have a2 := hb t ht
    unfold outWaysToFace_0 outWaysToFace_1
    rw [a1.1, a1.2, decide_eq_true (by omega : waysTo ts s.size k.toNat t ≤ 1000000000000000)]
    exact ⟨rfl, rfl⟩
  have o0 := (ho 0 (by omega)).1
  have o1 := (ho 1 (by omega)).1
  have o2 := (ho 2 (by omega)).1
  have o3 := (ho 3 (by omega)).1
  have s1 : sumW s k 1 = outWaysToFace_0 s k ((0 : Nat) : Int) := by rw [sumW, sumW]; omega
  have s2 : sumW s k 2 = sumW s k 1 + outWaysToFace_0 s k ((1 : Nat) : Int) := rfl
  have s3 : sumW s k 3 = sumW s k 2 + outWaysToFace_0 s k ((2 : Nat) : Int) := rfl
  have s4 : sumW s k 4 = sumW s k 3 + outWaysToFace_0 s k ((3 : Nat) : Int) := rfl
  have s0 : sumW s k 0 = 0 := rfl
  rw [o0] at s1
  rw [o1] at s2
  rw [o2] at s3
  rw [o3] at s4
  refine ⟨rfl, hz, by omega, by omega, by omega, by omega, fun t ht => ⟨(ho t ht).2, by rw [(ho t ht).1]; omega⟩, fun t ht => ?_, by rw [← hC]; omega, by rw [← hC]; omega, X.good, fun hk0 => ?_⟩
  · rw [← hC]
    rcases (by omega : t = 0 ∨ t = 1 ∨ t = 2 ∨ t = 3 ∨ t = 4) with q | q | q | q | q <;> subst q <;> omega
  · have e := ho turn.toNat (by omega)
    rw [show ((turn.toNat : Nat) : Int) = turn by omega, hk0, ways_zero ts X.lt _ _ (by omega), X.net0] at *
    rw [e.1]
    unfold net
    rw [hsz]
    by_cases q : sumTo ts s.size % 4 = turn.toNat
    · rw [if_pos q, if_pos (by omega)]; rfl
    · rw [if_neg q, if_neg (by omega)]; rfl
end Dm
end Go.Proofs.YtjbomclildkjaaaDoor

namespace Go.Proofs.YtjbomclildkjaaaDoor
open Go.ChangeShapes Go.WideShapes Go.ChangeAt Go.RowKit
open Dm
namespace Dm
theorem inL_yes {xs : List Int} {n : Int} {k : Nat} (hk : k < xs.length) (h : xs.getD k 0 = n) : inL xs n = true := by
  refine decide_eq_true ?_
  rw [← h, List.getD_eq_getElem?_getD, List.getElem?_eq_getElem hk]
  exact List.getElem_mem _
theorem inL_no {xs : List Int} {n : Int} (h : ∀ j, j < xs.length → xs.getD j 0 ≠ n) : inL xs n = false := by
  refine decide_eq_false fun hm => ?_
  obtain ⟨j, hj, e⟩ := List.getElem_of_mem hm
  refine h j hj ?_
  rw [List.getD_eq_getElem?_getD, List.getElem?_eq_getElem hj]; exact e
end Dm
set_option maxRecDepth 20000 in
set_option maxHeartbeats 2000000 in
theorem vHas_q (w : World) (a : Option Addr) (la ca : Nat) (xs : List Int) (n : Int) (h1 : la ≤ 4611686018427387904) (ha : Came w a la xs) :
    Calls Tryd.prog 47 #[.slice a la ca, .int .i64 n] w fun e w' => e = .returned (.bool (inL xs n)) ∧ w = w' := by
  have HA := Lib.hid ha
  have HZ : Hid (xs.length = la) := Lib.hid ha.1
  clear ha
  go_enter Tryd.func47, Tryd.ntmps47
  go_wp2
  go_loop [9] (fun i => ∃ k : Nat, k ≤ la ∧ i = .int .i64 (k : Int) ∧ Hid (∀ j, j < k → xs.getD j 0 ≠ n)) (fun i => la - (intOf i).toNat)
  case atStart => exact ⟨0, Nat.zero_le _, rfl, Lib.hid (fun j h => absurd h (Nat.not_lt_zero _))⟩
  case round =>
    obtain ⟨k, hk, rfl, HK⟩ := hrel
    by_cases hlt : k < la
    · obtain ⟨g1, o1, rfl, hc1⟩ := HA.out.2 (by omega)
      have e3 := hc1 k hlt
      have i1 : (0 : Int) ≤ (k : Int) := by omega
      have i2 : (k : Int) < (la : Int) := by omega
      obtain ⟨x, hx⟩ : ∃ x, x = xs.getD k 0 := ⟨_, rfl⟩
      rw [← hx] at e3
      have HX := Lib.hid hx
      clear hx hc1
      by_cases hxn : x = n
      · subst hxn
        have HE := Lib.hid (inL_yes (n := x) (show k < xs.length by have := HZ.out; omega) HX.out.symm)
        go_wp2
        go_ret
        exact ⟨ret_bool (by rw [HE.out]), rfl⟩
      · have HK2 : Hid (∀ j, j < k + 1 → xs.getD j 0 ≠ n) := Lib.hid (fun j hj => by
          by_cases e : j = k
          · rw [e, ← HX.out]; exact hxn
          · exact HK.out j (by omega))
        go_wp2
        go_round
        case rel => exact ⟨k + 1, by omega, by go_num, HK2⟩
        case measure => simp [intOf]; omega
    · have HE := Lib.hid (inL_no (n := n) (xs := xs) (fun j hj => HK.out j (by have := HZ.out; omega)))
      have i2 : ¬ (k : Int) < (la : Int) := by omega
      go_wp2
      go_ret
      exact ⟨ret_bool (by rw [HE.out]), rfl⟩
end Go.Proofs.YtjbomclildkjaaaDoor

namespace Go.Proofs.YtjbomclildkjaaaDoor
open Go.ChangeShapes Go.WideShapes Go.ChangeAt Go.RowKit
namespace Sp
variable {P : Program} {N : Nat} {S S' : St} {ops : Array Oper} {rest : List Oper} {w w' : World} {Q : Exit → Act → World → Prop} {d : Nat} {ty t : TypeId} {pos : String} {after : Array Edge} {g : Option (Nat × Bool)} {x y : Operand} {u v r : Value}
theorem L.alloc (hr : (Instr.alloc t true (.tuple #[])).run P w = .ok v w') (hc : chk N S ops d g true = true) (h : L P N ops rest ((d, v) :: S) w' Q) :
    L P N ops (⟨some d, .alloc t, ty, pos, after, g⟩ :: rest) S w Q := by
  refine L.step hc (fun a ha => ?_) h
  simp [execOp, hr]
theorem L.store (hx : opn S x = some u) (hy : opn S y = some v) (hr : (Instr.storeAt t u v).run P w = .ok () w') (hc : Sp.want S ops g = some true) (h : L P N ops rest S w' Q) :
    L P N ops (⟨none, .store t x y, ty, pos, after, g⟩ :: rest) S w Q := by
  refine L.want hc fun a ha => ?_
  have h1 := ha.eval hx
  have h2 := ha.eval hy
  unfold Oper.wp
  have e : (execOp a.eval ⟨none, .store t x y, ty, pos, after, g⟩).run P w = .ok .skip w' := by
    generalize a.eval = ρ at h1 h2 ⊢
    simp [execOp, h1, h2, hr]
  rw [e]
  exact h a ha
theorem Runs.fieldAddr {f : Nat} (hx : opn S x = some u) (h : (Instr.fieldAt t u f).run P w = .ok r w) : Runs P N S ⟨some d, .fieldAddr t x f, ty, pos, after, g⟩ w r := fun a ha => by
  have h1 := ha.eval hx
  generalize a.eval = ρ at h1 ⊢
  simp [execOp, h1, h]
theorem Runs.eqBF {t' : TypeId} {m n : Bool} (ht : P.underlying t = some .bool) (hx : opn S x = some (.bool m)) (hy : opn S y = some (.bool n)) (h : ¬ m = n) : Runs P N S ⟨some d, .binOp .eql t x y t', ty, pos, after, g⟩ w (.bool false) := by
  have := @Runs.eqB P N S w d ty pos after g x y t t' m n ht hx hy; rwa [show (m == n) = false from by simpa using h] at this
theorem Runs.eqBT {t' : TypeId} {m n : Bool} (ht : P.underlying t = some .bool) (hx : opn S x = some (.bool m)) (hy : opn S y = some (.bool n)) (h : m = n) : Runs P N S ⟨some d, .binOp .eql t x y t', ty, pos, after, g⟩ w (.bool true) := by
  have := @Runs.eqB P N S w d ty pos after g x y t t' m n ht hx hy; rwa [show (m == n) = true from by simpa using h] at this
theorem idx_mis {w : World} {b o l c : Nat} {k : IntKind} {n : Int} (j : Nat) (hn : n = (j : Int)) (hj : j < l) :
    (Instr.indexAt 43 (.slice (some ⟨b, o, none⟩) l c) (.int k n)).run Tryd.prog w = .ok (.pointer (some ⟨b, o + j * 3, none⟩)) w := by
  subst hn
  have h2 : (j : Int) < (l : Int) := by omega
  simp [go_sem, h2, Addr.add_lit]
theorem load_mis {w : World} {b o : Nat} {p q : Int} {s : ByteArray} (h0 : w.cell? ⟨b, o, none⟩ = some (.int .i64 p)) (h1 : w.cell? ⟨b, o + 1, none⟩ = some (.int .i64 q)) (h2 : w.cell? ⟨b, o + 2, none⟩ = some (.string s)) :
    (Instr.loadAt 55 (.pointer (some ⟨b, o, none⟩))).run Tryd.prog w = .ok (.agg #[.int .i64 p, .int .i64 q, .string s]) w := by
  simp [go_sem, h0, h1, h2, Addr.add_lit]
theorem came_mis {w : World} {a : Option Addr} {l c : Nat} {ps : List RMistake} {k : IntKind} {n : Int} (h : CameMistake w a l ps) (j : Nat) (hj : j < l) (hn : n = (j : Int)) :
    ∃ p, ∀ w', Below w.heap.size w w' → (Instr.indexAt 43 (.slice a l c) (.int k n)).run Tryd.prog w' = .ok p w' ∧ (Instr.loadAt 55 p).run Tryd.prog w' = .ok (.agg #[.int .i64 (ps.getD j zMistake).1, .int .i64 (ps.getD j zMistake).2.1, .string (ps.getD j zMistake).2.2]) w' := by
  obtain ⟨_, h2⟩ := h
  obtain ⟨b, o, rfl, h3⟩ := h2 (by omega)
  obtain ⟨c0, c1, c2, _⟩ := h3 j hj
  exact ⟨_, fun w' hb => ⟨idx_mis j hn hj, load_mis ((hb.cell (World.block_lt_of_cell? w _ c0)).trans c0) ((hb.cell (World.block_lt_of_cell? w _ c1)).trans c1) ((hb.cell (World.block_lt_of_cell? w _ c2)).trans c2)⟩⟩
theorem alloc_mis : (Instr.alloc 55 true (.tuple #[])).run Tryd.prog w = .ok (.pointer (some ⟨w.heap.size, 0, none⟩)) (w.alloc (.cells #[.int .i64 0, .int .i64 0, .string ByteArray.empty] 55)) := by
  simp [go_sem]
  rfl
theorem store_mis {p q : Int} {s : ByteArray} : ∃ w2, (Instr.storeAt 55 (.pointer (some ⟨w.heap.size, 0, none⟩)) (.agg #[.int .i64 p, .int .i64 q, .string s])).run Tryd.prog (w.alloc (.cells #[.int .i64 0, .int .i64 0, .string ByteArray.empty] 55)) = .ok () w2 ∧ Below w.heap.size w w2 ∧ w2.cell? ⟨w.heap.size, 0, none⟩ = some (.int .i64 p) := by
  refine ⟨w.alloc (.cells #[.int .i64 p, .int .i64 q, .string s] 55), by simp [go_sem], (Below.refl _ w).alloc (Nat.le_refl _) _, by simp [go_sem]⟩
theorem field_mis {w : World} {b : Nat} : (Instr.fieldAt 55 (.pointer (some ⟨b, 0, none⟩)) 0).run Tryd.prog w = .ok (.pointer (some ⟨b, 0, none⟩)) w := by
  simp [go_sem, Addr.add_lit]
end Sp
end Go.Proofs.YtjbomclildkjaaaDoor
