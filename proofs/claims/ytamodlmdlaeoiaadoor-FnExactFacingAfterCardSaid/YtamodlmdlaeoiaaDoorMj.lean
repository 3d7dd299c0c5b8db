/- Chapter 4: the model's words that are done with mistakes: drAsked, drDone, FacingWithMistakes, WrongSoldiers, CorrectionsOf. -/
import Derived.Test.YtamodlmdlaeoiaaDoorMi
import Derived.Test.YtamodlmdlaeoiaaDoorUp
import Derived.Test.YtamodlmdlaeoiaaDoorDrB
import Derived.Test.YtamodlmdlaeoiaaDoorDrC
namespace Go.Proofs.YtamodlmdlaeoiaaDoor
open Go.ChangeShapes Go.WideShapes Go.ChangeAt Go.RowKit
open Dr

namespace Dr
def askB (f s : ByteArray) (ps : List RMistake) : Bool := faceB f && mistB f.size s ps
/-- how far one has turned behind the first k mistakes, told from 0 on -/
def accTo (ts : List Nat) (ps : List RMistake) (i : Nat) : Nat → Int
  | 0 => (net ts : Nat)
  | k + 1 => if (ps.getD k zMistake).1 = (i : Int) then accTo ts ps i k + (4 + turnI (byt (ps.getD k zMistake).2.2 0) - ((ts.getD (ps.getD k zMistake).2.1.toNat 0 : Nat) : Int)) else accTo ts ps i k
def doneN (ts : List Nat) (ps : List RMistake) (i : Nat) : Nat := (accTo ts ps i ps.length % 4).toNat
theorem doneN_lt (ts : List Nat) (ps : List RMistake) (i : Nat) : doneN ts ps i < 4 := by unfold doneN; omega
def doneL (ts : List Nat) (ps : List RMistake) (n : Nat) : List Int := upTo (fun i => ((doneN ts ps i : Nat) : Int)) n
structure OkM (n : Nat) (ts : List Nat) (p : RMistake) : Prop where
  at' : ∃ m : Nat, p.2.1 = (m : Int) ∧ m < ts.length
  one : p.2.2.size = 1
  turn : 0 ≤ turnI (byt p.2.2 0)
theorem turnI_le (z : Int) : turnI z ≤ 3 := by unfold turnI; split; omega; split; omega; split; omega; split <;> omega
theorem mist_ok {n : Nat} {ts : List Nat} {ps : List RMistake} (h : mistB n (word ts) ps = true) : (1 ≤ n ∧ n ≤ 30) ∧ wordB (word ts) = true ∧ ps.length ≤ 20 ∧ ∀ k, k < ps.length → OkM n ts (ps.getD k zMistake) := by
  unfold mistB at h
  simp only [Bool.and_eq_true, List.all_eq_true, List.mem_range] at h
  obtain ⟨h1, h2, h3, h4⟩ := h
  have h5 := inB_yes h1
  refine ⟨⟨by omega, by omega⟩, h2, of_decide_eq_true h3, fun k hk => ?_⟩
  have h6 := h4 k hk
  unfold okR at h6
  simp only [Bool.and_eq_true] at h6
  obtain ⟨_, h7, h8, h9, _⟩ := h6
  have h10 := inB_yes h7
  rw [size_word] at h10
  exact ⟨⟨(ps.getD k zMistake).2.1.toNat, by omega, by omega⟩, of_decide_eq_true h8, of_decide_eq_true h9⟩
theorem accTo_bd {n : Nat} {ts : List Nat} {ps : List RMistake} (hts : ∀ t ∈ ts, t < 4) (h : ∀ k, k < ps.length → OkM n ts (ps.getD k zMistake)) (i : Nat) : ∀ k, k ≤ ps.length → 0 ≤ accTo ts ps i k ∧ accTo ts ps i k ≤ 3 + 7 * k
  | 0, _ => by have := net_lt ts; unfold accTo; omega
  | k + 1, hk => by
    have h1 := accTo_bd hts h i k (by omega)
    have h2 := (h k (by omega)).turn
    have h3 := turnI_le (byt (ps.getD k zMistake).2.2 0)
    have h4 := getD_lt hts (by omega) (ps.getD k zMistake).2.1.toNat
    rw [accTo]
    split <;> omega
def facMTo (fs ts : List Nat) (ps : List RMistake) (k : Nat) : ByteArray := face ((List.range k).map fun i => (fs.getD i 0 + doneN ts ps i) % 4)
theorem facMTo_succ (fs ts : List Nat) (ps : List RMistake) (k : Nat) : facMTo fs ts ps (k + 1) = facMTo fs ts ps k ++ face [(fs.getD k 0 + doneN ts ps k) % 4] := by
  unfold facMTo
  rw [face_app, List.range_succ, List.map_append]
  rfl
theorem size_facMTo (fs ts : List Nat) (ps : List RMistake) (k : Nat) : (facMTo fs ts ps k).size = k := by unfold facMTo; rw [size_face]; simp
def wroTo (ts : List Nat) (ps : List RMistake) (k : Nat) : List Int := asInts ((List.range k).filter fun i => decide (doneN ts ps i ≠ net ts))
theorem wroTo_yes {ts : List Nat} {ps : List RMistake} {k : Nat} (h : doneN ts ps k ≠ net ts) : wroTo ts ps (k + 1) = wroTo ts ps k ++ [(k : Int)] := by
  unfold wroTo
  rw [List.range_succ, List.filter_append]
  simp [h, asInts]
theorem wroTo_no {ts : List Nat} {ps : List RMistake} {k : Nat} (h : ¬ doneN ts ps k ≠ net ts) : wroTo ts ps (k + 1) = wroTo ts ps k := by
  unfold wroTo
  rw [List.range_succ, List.filter_append]
  simp [h]
theorem length_wroTo (ts : List Nat) (ps : List RMistake) (k : Nat) : (wroTo ts ps k).length ≤ k := by
  unfold wroTo
  rw [asInts_len]
  refine Nat.le_trans (List.length_filter_le _ _) ?_
  rw [List.length_range]
  exact Nat.le_refl _
def corN (ts : List Nat) (ps : List RMistake) (i : Nat) : Nat := (4 + net ts - doneN ts ps i) % 4
def corTo (ts : List Nat) (ps : List RMistake) (k : Nat) : ByteArray := word ((List.range k).map (corN ts ps))
theorem corTo_succ (ts : List Nat) (ps : List RMistake) (k : Nat) : corTo ts ps (k + 1) = corTo ts ps k ++ word [corN ts ps k] := by
  unfold corTo
  rw [word_app, List.range_succ, List.map_append]
  rfl
theorem size_corTo (ts : List Nat) (ps : List RMistake) (k : Nat) : (corTo ts ps k).size = k := by unfold corTo; rw [size_word]; simp
end Dr
def outAreMistakes_0 (n : Int) (s : ByteArray) (ps : List RMistake) : Bool := mistB n s ps
def outFacingWithMistakes_0 (f s : ByteArray) (ps : List RMistake) : ByteArray := if askB f s ps then facMTo (fsOf f) (tsOf s) ps f.size else ByteArray.empty
def outFacingWithMistakes_1 (f s : ByteArray) (ps : List RMistake) : Bool := askB f s ps
def outWrongSoldiers_0 (f s : ByteArray) (ps : List RMistake) : List Int := if askB f s ps then wroTo (tsOf s) ps f.size else []
def outWrongSoldiers_1 (f s : ByteArray) (ps : List RMistake) : Bool := askB f s ps
def outCorrectionsOf_0 (f s : ByteArray) (ps : List RMistake) : ByteArray := if askB f s ps then corTo (tsOf s) ps f.size else ByteArray.empty
def outCorrectionsOf_1 (f s : ByteArray) (ps : List RMistake) : Bool := askB f s ps
theorem lenWrongSoldiers_0 (f s : ByteArray) (ps : List RMistake) (_hf : f.size ≤ 1048576) (_hs : s.size ≤ 1048576) : (outWrongSoldiers_0 f s ps).length ≤ 4611686018427387904 := by
  unfold outWrongSoldiers_0
  split
  · exact Nat.le_trans (length_wroTo _ _ _) (by omega)
  · simp

set_option maxHeartbeats 1000000 in
theorem specAreMistakes_any (w : World) (n : Int) (s : ByteArray) (a : Option Addr) (len cap : Nat) (ps : List RMistake) (_wn : (Lit.int .i64 n).wf = true) (_ws : s.size ≤ maxLen) (hs : s.size ≤ 1048576) (hl : len ≤ 1048576) (hc : CameMistake w a len ps) (hcp : len ≤ cap ∧ cap ≤ 9223372036854775807) :
    Calls Tryd.prog 26 #[.int .i64 n, .string s, .slice a len cap] w fun e w' => e = .returned (.bool (outAreMistakes_0 n s ps)) ∧ Below w.heap.size w w' := by
  have HM := Lib.hid (drMistakes_any w n s a len cap ps hs hl hc hcp)
  have HE : Hid (outAreMistakes_0 n s ps = mistB n s ps) := rfl
  clear _wn _ws hc
  go_enter Tryd.func26, Tryd.ntmps26
  go_wp2_with fail
  go_at_call 42
  refine HM.out.mono ?_
  rintro e w2 ⟨rfl, b2⟩
  have B2 := Lib.hid b2
  clear b2
  go_wp2
  go_ret
  exact ⟨ret_bool (by rw [HE.out]), B2.out⟩






end Go.Proofs.YtamodlmdlaeoiaaDoor
