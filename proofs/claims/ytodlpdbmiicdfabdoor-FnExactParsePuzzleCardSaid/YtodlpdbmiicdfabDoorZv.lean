/- Chapter 9, the program: a clue's text, PuzzleText. -/
import Derived.Test.YtodlpdbmiicdfabDoorZd
import Derived.Test.YtodlpdbmiicdfabDoorPzm
import Derived.Test.YtodlpdbmiicdfabDoorAppT
import Derived.Test.YtodlpdbmiicdfabDoorRPuzzle
import Derived.Test.YtodlpdbmiicdfabDoorAgg
import Derived.Lib.ItoaNum
import Derived.Lib.Join
namespace Go.Proofs.YtodlpdbmiicdfabDoor
open Go.ChangeShapes Go.WideShapes Go.ChangeAt Go.RowKit
open Dr Pz

namespace Pz
theorem digits_eqZ : ∀ n : Nat, Lib.decDigits n = numL n := by
  intro n
  induction n using Nat.strongRecOn with
  | _ n ih =>
    rw [Lib.decDigits, numL]
    by_cases h : n < 10
    · rw [dif_pos h, dif_pos h]; rfl
    · rw [dif_neg h, dif_neg h, ih (n / 10) (by omega)]; rfl
theorem join_snocZ (xs : List (List UInt8)) (y sep : List UInt8) (h : xs ≠ []) : Lib.join (xs ++ [y]) sep = Lib.join xs sep ++ sep ++ y := by
  cases xs with
  | nil => exact absurd rfl h
  | cons x r =>
    rw [List.cons_append, Lib.join_cons, Lib.join_cons]
    simp [Lib.joinTail, List.append_assoc]
theorem data_appendZ (a b : ByteArray) : (a ++ b).data.toList = a.data.toList ++ b.data.toList := by rw [ByteArray.data_append, Array.toList_append]
/-- the texts of the first numbers of a clue -/
def numTo (c : List Nat) (k : Nat) : List ByteArray := (c.take k).map fun x => txt (numL x)
theorem numTo_succ (c : List Nat) (k : Nat) (h : k < c.length) : numTo c (k + 1) = numTo c k ++ [txt (numL (c.getD k 0))] := by
  unfold numTo
  rw [List.take_succ_eq_append_getElem h, List.map_append, List.getD_eq_getElem?_getD, List.getElem?_eq_getElem h]; rfl
theorem length_numTo (c : List Nat) (k : Nat) (h : k ≤ c.length) : (numTo c k).length = k := by unfold numTo; rw [List.length_map, List.length_take]; omega
theorem clue_join (x y z d : Nat) : (⟨(Lib.join ((numTo [x, y, z, d] 4).map (·.data.toList)) (⟨#[46]⟩ : ByteArray).data.toList).toArray⟩ : ByteArray) = clueT x y z d := by
  apply ByteArray.ext
  apply Array.ext'
  unfold clueT
  simp only [data_appendZ, numTo, List.take_succ_cons, List.take_nil, List.map_cons, List.map_nil]
  rw [Lib.join_cons]
  simp [Lib.joinTail]
/-- the texts of the first clues -/
def cluesTo (cs : List RClue) (k : Nat) : List ByteArray := (List.range k).map fun i => clueTC (cs.getD i zClue)
theorem cluesTo_succ (cs : List RClue) (k : Nat) : cluesTo cs (k + 1) = cluesTo cs k ++ [clueTC (cs.getD k zClue)] := by unfold cluesTo; rw [List.range_succ, List.map_append]; rfl
theorem length_cluesTo (cs : List RClue) (k : Nat) : (cluesTo cs k).length = k := by unfold cluesTo; rw [List.length_map, List.length_range]
def joinB (xs : List ByteArray) : ByteArray := ⟨(Lib.join (xs.map (·.data.toList)) (⟨#[44]⟩ : ByteArray).data.toList).toArray⟩
theorem joinB_data (xs : List ByteArray) : (joinB xs).data.toList = Lib.join (xs.map (·.data.toList)) [44] := rfl
theorem puz_join (n : Nat) (cs : List RClue) : ∀ k, (puzTo n cs k).data.toList = (txt (numL n) ++ (⟨#[58]⟩ : ByteArray)).data.toList ++ (joinB (cluesTo cs k)).data.toList
  | 0 => by
    rw [puzTo, joinB_data]
    have e : (cluesTo cs 0).map (·.data.toList) = [] := rfl
    rw [e, Lib.join_nil, List.append_nil]
  | 1 => by
    rw [puzTo, if_neg (by omega), data_appendZ, puz_join n cs 0, joinB_data, joinB_data, cluesTo_succ, List.map_append]
    have e : (cluesTo cs 0).map (·.data.toList) = [] := rfl
    rw [e, List.nil_append, List.map_cons, List.map_nil, Lib.join_one, Lib.join_nil, List.append_nil]
  | k + 2 => by
    rw [puzTo, if_pos (by omega), data_appendZ, data_appendZ, puz_join n cs (k + 1), joinB_data, joinB_data, cluesTo_succ cs (k + 1), List.map_append, List.map_cons, List.map_nil, join_snocZ _ _ _ (fun e => by
      have := congrArg List.length e
      rw [List.length_map, length_cluesTo] at this
      cases this)]
    simp only [List.append_assoc]
theorem puz_is (n : Nat) (cs : List RClue) (k : Nat) : puzTo n cs k = txt (numL n) ++ (⟨#[58]⟩ : ByteArray) ++ joinB (cluesTo cs k) := by
  apply ByteArray.ext
  apply Array.ext'
  rw [puz_join]
  exact (data_appendZ _ _).symm
end Pz

/-- what the walks take of strconv.Itoa and strings.Join -/
def ItoaQ : Prop := ∀ (i : Nat) (w : World), i < 100 → Calls Tryd.prog 20 #[.int .i64 (i : Int)] w fun e w' => e = .returned (.string (txt (numL i))) ∧ w = w'
def JoinQ : Prop := ∀ (B : Nat) (v : Value) (xs : List ByteArray) (c : UInt8) (w : World), OwnT w B v xs → xs.length ≤ 6 → (Lib.join (xs.map (·.data.toList)) (⟨#[c]⟩ : ByteArray).data.toList).length ≤ 200 →
  Calls Tryd.prog 21 #[v, .string ⟨#[c]⟩] w fun e w' => e = .returned (.string ⟨(Lib.join (xs.map (·.data.toList)) (⟨#[c]⟩ : ByteArray).data.toList).toArray⟩) ∧ Below w.heap.size w w'

set_option maxHeartbeats 4000000 in
set_option maxRecDepth 20000 in
theorem clueText_any (hI : ItoaQ) (hJ : JoinQ) (x y z d : Nat) (h1 : x ≤ 20) (h2 : y ≤ 20) (h3 : z ≤ 20) (h4 : d ≤ 20) (w : World) :
    Calls Tryd.prog 19 #[.agg #[.int .i64 (x : Int), .int .i64 (y : Int), .int .i64 (z : Int), .int .i64 (d : Int)]] w fun e w' => e = .returned (.string (clueT x y z d)) ∧ Below w.heap.size w w' := by
  obtain ⟨L, hL⟩ : ∃ L, L = [x, y, z, d] := ⟨_, rfl⟩
  have hL4 : L.length = 4 := by rw [hL]; rfl
  have HLK : Hid (∀ k, k < 4 → L.getD k 0 ≤ 20) := Lib.hid (fun k hk => by
    rw [hL]
    rcases k with _ | _ | _ | _ | k
    · exact h1
    · exact h2
    · exact h3
    · exact h4
    · omega)
  have HCJ : Hid ((⟨(Lib.join ((numTo L 4).map (·.data.toList)) (⟨#[46]⟩ : ByteArray).data.toList).toArray⟩ : ByteArray) = clueT x y z d) := Lib.hid (by rw [hL]; exact clue_join x y z d)
  have HSZ : Hid ((clueT x y z d).size ≤ 11) := Lib.hid (by
    unfold clueT
    simp only [ByteArray.size_append]
    have := size_num20 h1; have := size_num20 h2; have := size_num20 h3; have := size_num20 h4
    have e2 : (⟨#[46]⟩ : ByteArray).size = 1 := rfl
    omega)
  have HI := Lib.hid hI
  have HJ := Lib.hid hJ
  obtain ⟨w1, hw1⟩ : ∃ w1, w1 = w.alloc (.cells #[.int .i64 (x : Int), .int .i64 (y : Int), .int .i64 (z : Int), .int .i64 (d : Int)] 44) := ⟨_, rfl⟩
  have HB1 : Hid (Below w.heap.size w w1) := Lib.hid (by rw [hw1]; exact (Below.refl _ _).alloc (Nat.le_refl _) _)
  obtain ⟨w2, hw2⟩ : ∃ w2, w2 = w1.alloc (.cells #[.int .i64 (x : Int), .int .i64 (y : Int), .int .i64 (z : Int), .int .i64 (d : Int)] 3) := ⟨_, rfl⟩
  obtain ⟨g, hg⟩ : ∃ g, g = w.heap.size + 1 := ⟨_, rfl⟩
  have y1 : w1.heap.size = w.heap.size + 1 := by rw [hw1]; exact Array.size_push _
  have HB2 : Hid (Below w.heap.size w w2) := Lib.hid (by rw [hw2]; exact HB1.out.alloc HB1.out.size _)
  have HBK : Hid (Blk w2 g 3 (L.map fun i : Nat => Value.int .i64 (i : Int))) := Lib.hid (by
    rw [hw2, hg, ← y1, hL]; unfold Blk; exact heap_alloc_new w1 _)
  obtain ⟨res, hres⟩ : ∃ r, r = clueT x y z d := ⟨_, rfl⟩
  rw [← hres] at HCJ HSZ ⊢
  clear hL y1 hI hJ hres
  go_enter Tryd.func19, Tryd.ntmps19
  go_wp2_with fail
  rw [← hw1, ← hw2, ← hg]
  clear hw1 hw2 hg
  go_loopw [3, 16] (fun v i wr => ∃ k : Nat, k ≤ 4 ∧ i = .int .i64 (k : Int) ∧ Hid (OwnT wr w2.heap.size v (numTo L k)) ∧ Hid (Below w2.heap.size w2 wr)) (fun _ i _ => 4 - (intOf i).toNat)
  case atStart => exact ⟨0, Nat.zero_le _, rfl, Lib.hid (ownT_nil _ _), Lib.hid (Below.refl _ _)⟩
  case round =>
    obtain ⟨k, hk, rfl, HO, HB⟩ := hrel
    by_cases hlt : k < 4
    · have hbk := HBK.out.below HB.out HBK.out.lt
      have e1 : wr.cell? ⟨g, k, none⟩ = some (.int .i64 ((L.getD k 0 : Nat) : Int)) := by
        rw [hbk.cell k, List.getElem?_map, List.getD_eq_getElem?_getD, List.getElem?_eq_getElem (by omega)]; rfl
      have HS := Lib.hid (numTo_succ L k (by omega))
      have hx20 := HLK.out k hlt
      obtain ⟨q, hq⟩ : ∃ q, q = L.getD k 0 := ⟨_, rfl⟩
      rw [← hq] at e1 HS hx20
      have HIX := Lib.hid (fun w5 => HI.out q w5 (by omega))
      obtain ⟨t, ht⟩ : ∃ t, t = txt (numL q) := ⟨_, rfl⟩
      rw [← ht] at HS HIX
      have i1 : (0 : Int) ≤ (k : Int) := by omega
      have i2 : (k : Int) < 4 := by omega
      have hz := HB.out.size
      have hpl : (numTo L k).length ≤ 1000000000 := by rw [length_numTo L k (by omega)]; omega
      clear hbk hq ht
      go_wp2_with fail
      go_at_call 20
      refine (HIX.out _).mono ?_
      rintro e w' ⟨rfl, rfl⟩
      go_wp2_with (at_builtin; refine wpList_appT rfl _ _ rfl wr _ _ _ _ rfl rfl HO.out hz hpl ?_; intro v' w6 hO hB6; have HO6 : Hid (OwnT w6 w2.heap.size v' (numTo L (k + 1))) := Lib.hid (by rw [HS.out]; exact hO); have HB6 : Hid (Below w2.heap.size w2 w6) := Lib.hid (HB.out.trans hB6); clear hO hB6)
      go_roundw
      case rel => exact ⟨k + 1, by omega, by go_num, HO6, HB6⟩
      case measure => simp [intOf]; omega
    · obtain rfl : k = 4 := by omega
      have hjl : (Lib.join ((numTo L 4).map (·.data.toList)) (⟨#[46]⟩ : ByteArray).data.toList).length ≤ 200 := by
        have h := congrArg ByteArray.size HCJ.out
        have h2 : (⟨(Lib.join ((numTo L 4).map (·.data.toList)) (⟨#[46]⟩ : ByteArray).data.toList).toArray⟩ : ByteArray).size = (Lib.join ((numTo L 4).map (·.data.toList)) (⟨#[46]⟩ : ByteArray).data.toList).length := List.size_toArray
        have := HSZ.out
        rw [← h2, h]; omega
      have HJJ := Lib.hid (HJ.out _ _ _ 46 wr HO.out (by rw [length_numTo L 4 (by omega)]; omega) hjl)
      rw [HCJ.out] at HJJ
      clear HO hjl
      go_wp2_with fail
      go_at_call 21
      refine HJJ.out.mono ?_
      rintro e w3 ⟨rfl, b3⟩
      have B3 : Hid (Below w.heap.size w w3) := Lib.hid (HB2.out.trans ((HB.out.trans (b3.mono HB.out.size)).mono HB2.out.size))
      clear b3
      go_wp2
      go_ret
      exact ⟨rfl, B3.out⟩

set_option maxHeartbeats 4000000 in
set_option maxRecDepth 20000 in
theorem implPuzzleText_of (hI : ItoaQ) (hJ : JoinQ) (w : World) (s : Int) (a : Option Addr) (len cap : Nat) (cs : List RClue) (hl : len ≤ 1048576) (hc : CameClue w a len cs) :
    Calls Tryd.prog 8 #[.agg #[.int .i64 s, .slice a len cap]] w fun e w' => e = .returned (.tuple #[.string (if goodP s cs then puzT s.toNat cs else ByteArray.empty), .bool (goodP s cs)]) ∧ Below w.heap.size w w' := by
  have HZ : Hid (cs.length = len) := Lib.hid hc.1
  obtain ⟨w0, hw0⟩ : ∃ w0, w0 = w.alloc (.cells #[.int .i64 s, .slice a len cap] 30) := ⟨_, rfl⟩
  have HW0 : Hid (Below w.heap.size w w0) := Lib.hid (by rw [hw0]; exact (Below.refl _ _).alloc (Nat.le_refl _) _)
  obtain ⟨pb, hpb⟩ : ∃ pb, pb = w.heap.size := ⟨_, rfl⟩
  have HPC : Hid (∀ w2, Below w0.heap.size w0 w2 → BoxZ w2 pb s (.slice a len cap)) := Lib.hid (fun w2 h => by
    have c0 : BoxZ w0 pb s (.slice a len cap) := by rw [hw0, hpb]; exact BoxZ.new _ _ _ _
    exact c0.below h c0.lt)
  have HC : Hid (CameClue w0 a len cs) := Lib.hid (hc.below HW0.out)
  have HG := Lib.hid (implIsPuzzle_any w0 s a len cap cs hl HC.out)
  obtain ⟨c0, c1⟩ := HPC.out w0 (Below.refl _ _)
  clear hc
  rcases hb : goodP s cs with _ | _
  · rw [hb] at HG
    simp only [Bool.false_eq_true, if_false]
    clear hb
    go_enter Tryd.func8, Tryd.ntmps8
    go_wp2_with fail
    rw [← hw0, ← hpb]
    clear hw0 hpb
    go_at_call 18
    refine HG.out.mono ?_
    rintro e w2 ⟨rfl, b2⟩
    have HB2 : Hid (Below w.heap.size w w2) := Lib.hid (HW0.out.trans (b2.mono HW0.out.size))
    clear b2
    go_wp2
    go_ret2
    exact ⟨rfl, HB2.out⟩
  obtain ⟨⟨n, rfl, hn1, hn8⟩, hl6, hcl⟩ := pz_of hb
  have hl6' : len ≤ 6 := by have := HZ.out; omega
  rw [hb] at HG
  simp only [if_true, Int.toNat_natCast]
  have HSZ := Lib.hid (fun k (h : k ≤ len) => size_puzTo hn8 hcl k (by rw [HZ.out]; exact h))
  have HCL := Lib.hid hcl
  have HPT : Hid (puzT n cs = txt (numL n) ++ (⟨#[58]⟩ : ByteArray) ++ joinB (cluesTo cs len)) := Lib.hid (by unfold puzT; rw [HZ.out]; exact puz_is n cs len)
  have HIN := Lib.hid (fun w5 => hI n w5 (by omega))
  have htns : (txt (numL n)).size ≤ 2 := size_num20 (by omega)
  have HJS : Hid ((joinB (cluesTo cs len)).size ≤ 100) := Lib.hid (by
    have h := congrArg ByteArray.size HPT.out
    have h2 := HSZ.out len (Nat.le_refl _)
    have h3 : (puzT n cs).size = (puzTo n cs len).size := by unfold puzT; rw [HZ.out]
    rw [ByteArray.size_append, ByteArray.size_append] at h
    omega)
  obtain ⟨res, hres⟩ : ∃ r, r = puzT n cs := ⟨_, rfl⟩
  rw [← hres] at HPT ⊢
  obtain ⟨tn, htn⟩ : ∃ t, t = txt (numL n) := ⟨_, rfl⟩
  rw [← htn] at HPT HIN htns
  have HI := Lib.hid hI
  have HJ := Lib.hid hJ
  clear hb hcl hl6 hres htn hI hJ
  go_enter Tryd.func8, Tryd.ntmps8
  go_wp2_with fail
  rw [← hw0, ← hpb]
  clear hw0 hpb
  go_at_call 18
  refine HG.out.mono ?_
  rintro e w2 ⟨rfl, b2⟩
  have HB2 : Hid (Below w0.heap.size w0 w2) := Lib.hid b2
  clear b2 c0 c1
  obtain ⟨c0, c1⟩ := HPC.out w2 HB2.out
  go_wp2
  go_loopw [4, 13] (fun v i wr => ∃ k : Nat, k ≤ len ∧ i = .int .i64 (k : Int) ∧ Hid (OwnT wr w0.heap.size v (cluesTo cs k)) ∧ Hid (Below w0.heap.size w0 wr)) (fun _ i _ => len - (intOf i).toNat)
  case atStart => exact ⟨0, Nat.zero_le _, rfl, Lib.hid (ownT_nil _ _), HB2⟩
  case round =>
    obtain ⟨k, hk, rfl, HO, HB⟩ := hrel
    clear c0 c1
    by_cases hlt : k < len
    · obtain ⟨b, off, rfl, hcell⟩ := (HC.out.below HB.out).2 (by omega)
      obtain ⟨e0, e1, e2, e3⟩ := hcell k hlt
      obtain ⟨x, y, z, d, hcc, g1, g2, g3, g4⟩ := clue_nat hn8 (HCL.out k (by have := HZ.out; omega))
      rw [hcc] at e0 e1 e2 e3
      simp only at e0 e1 e2 e3
      have HS := Lib.hid (cluesTo_succ cs k)
      have HTC : Hid (clueTC (cs.getD k zClue) = clueT x y z d) := Lib.hid (by unfold clueTC; rw [hcc]; simp only [Int.toNat_natCast])
      rw [HTC.out] at HS
      have HCT := Lib.hid (fun w5 => clueText_any HI.out HJ.out x y z d g1 g2 g3 g4 w5)
      obtain ⟨t, ht⟩ : ∃ t, t = clueT x y z d := ⟨_, rfl⟩
      rw [← ht] at HS HCT
      have i1 : (0 : Int) ≤ (k : Int) := by omega
      have i2 : (k : Int) < (len : Int) := by omega
      have hpl : (cluesTo cs k).length ≤ 1000000000 := by rw [length_cluesTo]; omega
      have HBA : Hid (Below w0.heap.size w0 (wr.alloc (.cells #[.int .i64 (x : Int), .int .i64 (y : Int), .int .i64 (z : Int), .int .i64 (d : Int)] 44))) := Lib.hid (HB.out.alloc HB.out.size _)
      have HOA : Hid (OwnT (wr.alloc (.cells #[.int .i64 (x : Int), .int .i64 (y : Int), .int .i64 (z : Int), .int .i64 (d : Int)] 44)) w0.heap.size _ (cluesTo cs k)) := Lib.hid (ownT_alloc HO.out _)
      clear hcell hcc ht g1 g2 g3 g4
      go_wp2_with fail
      go_at_call 19
      refine (HCT.out _).mono ?_
      rintro e w5 ⟨rfl, b5⟩
      have HB5 : Hid (Below w0.heap.size w0 w5) := Lib.hid (HBA.out.trans (b5.mono HBA.out.size))
      have HO5 := Lib.hid (HOA.out.below b5 (Nat.le_refl _))
      have hz := HB5.out.size
      clear b5
      go_wp2_with (at_builtin; refine wpList_appT rfl _ _ rfl w5 _ _ _ _ rfl rfl HO5.out hz hpl ?_; intro v' w6 hO hB6; have HO6 : Hid (OwnT w6 w0.heap.size v' (cluesTo cs (k + 1))) := Lib.hid (by rw [HS.out]; exact hO); have HB6 : Hid (Below w0.heap.size w0 w6) := Lib.hid (HB5.out.trans hB6); clear hO hB6)
      go_roundw
      case rel => exact ⟨k + 1, by omega, by go_num, HO6, HB6⟩
      case measure => simp [intOf]; omega
    · have hkl : k = len := by omega
      have HO2 : Hid (OwnT wr w0.heap.size _ (cluesTo cs len)) := Lib.hid (by rw [← hkl]; exact HO.out)
      have hjl : (Lib.join ((cluesTo cs len).map (·.data.toList)) (⟨#[44]⟩ : ByteArray).data.toList).length ≤ 200 := by
        have h2 : (joinB (cluesTo cs len)).size = (Lib.join ((cluesTo cs len).map (·.data.toList)) (⟨#[44]⟩ : ByteArray).data.toList).length := List.size_toArray
        have := HJS.out
        rw [← h2]; omega
      have HJJ := Lib.hid (HJ.out _ _ _ 44 wr HO2.out (by rw [length_cluesTo]; omega) hjl)
      have hjs := HJS.out
      obtain ⟨j, hj⟩ : ∃ j, j = joinB (cluesTo cs len) := ⟨_, rfl⟩
      have HJK : Hid (Calls Tryd.prog 21 #[_, .string ⟨#[44]⟩] wr fun e w' => e = .returned (.string j) ∧ Below wr.heap.size wr w') := Lib.hid (by rw [hj]; exact HJJ.out)
      rw [← hj] at HPT hjs
      obtain ⟨c0, c1⟩ := HPC.out wr HB.out
      have hp1 : (tn ++ (⟨#[58]⟩ : ByteArray)).size ≤ 3 := by rw [ByteArray.size_append]; have e : (⟨#[58]⟩ : ByteArray).size = 1 := rfl; omega
      clear HO hj HJJ hkl hjl
      go_wp2_with fail
      go_at_call 20
      refine (HIN.out _).mono ?_
      rintro e w' ⟨rfl, rfl⟩
      go_wp2_with fail
      go_at_call 21
      refine HJK.out.mono ?_
      rintro e w3 ⟨rfl, b3⟩
      have B3 : Hid (Below w.heap.size w w3) := Lib.hid (HW0.out.trans ((HB.out.trans (b3.mono HB.out.size)).mono HW0.out.size))
      clear b3
      go_wp2
      go_ret2
      exact ⟨by rw [HPT.out]; exact rfl, B3.out⟩

end Go.Proofs.YtodlpdbmiicdfabDoor
