/- Chapter 4: the model's words that are done with mistakes: drAsked, drDone, FacingWithMistakes, WrongSoldiers, CorrectionsOf. -/
import Derived.Test.YtjbomclildkjaaaDoorMi
import Derived.Test.YtjbomclildkjaaaDoorUp
import Derived.Test.YtjbomclildkjaaaDoorDrB
import Derived.Test.YtjbomclildkjaaaDoorDrC
namespace Go.Proofs.YtjbomclildkjaaaDoor
open Go.ChangeShapes Go.WideShapes Go.ChangeAt Go.RowKit
open Dr

namespace Dr
def askB (f s : ByteArray) (ps : List RMistake) : Bool := faceB f && mistB f.size s ps
/-- how far one has turned behind the first k mistakes, told from 0 on -/
def accTo (ts : List Nat) (ps : List RMistake) (i : Nat) : Nat → Int
  | 0 => (net ts : Nat)
  | k + 1 => if (ps.getD k zMistake).1 = (i : Int) then accTo ts ps i k + (4 + turnI (byt (ps.getD k zMistake).2.2 0) - ((ts.getD (ps.getD k zMistake).2.1.toNat 0 : Nat) : Int)) else accTo ts ps i k
def doneN (ts : List Nat) (ps : List RMistake) (i : Nat) : Nat := (accTo ts ps i ps.length % 4).toNat
theorem doneN_lt (ts : List Nat) (ps : List RMistake) (i : Nat) : doneN ts ps i < 4 := by unfold doneN; omega
def doneL (ts : List Nat) (ps : List RMistake) (n : Nat) : List Int := upTo (fun i => ((doneN ts ps i : Nat) : Int)) n
structure OkM (n : Nat) (ts : List Nat) (p : RMistake) : Prop where
  at' : ∃ m : Nat, p.2.1 = (m : Int) ∧ m < ts.length
  one : p.2.2.size = 1
  turn : 0 ≤ turnI (byt p.2.2 0)
theorem turnI_le (z : Int) : turnI z ≤ 3 := by unfold turnI; split; omega; split; omega; split; omega; split <;> omega
theorem mist_ok {n : Nat} {ts : List Nat} {ps : List RMistake} (h : mistB n (word ts) ps = true) : (1 ≤ n ∧ n ≤ 30) ∧ wordB (word ts) = true ∧ ps.length ≤ 20 ∧ ∀ k, k < ps.length → OkM n ts (ps.getD k zMistake) := by
  unfold mistB at h
  simp only [Bool.and_eq_true, List.all_eq_true, List.mem_range] at h
  obtain ⟨h1, h2, h3, h4⟩ := h
  have h5 := inB_yes h1
  refine ⟨⟨by omega, by omega⟩, h2, of_decide_eq_true h3, fun k hk => ?_⟩
  have h6 := h4 k hk
  unfold okR at h6
  simp only [Bool.and_eq_true] at h6
  obtain ⟨_, h7, h8, h9, _⟩ := h6
  have h10 := inB_yes h7
  rw [size_word] at h10
  exact ⟨⟨(ps.getD k zMistake).2.1.toNat, by omega, by omega⟩, of_decide_eq_true h8, of_decide_eq_true h9⟩
theorem accTo_bd {n : Nat} {ts : List Nat} {ps : List RMistake} (hts : ∀ t ∈ ts, t < 4) (h : ∀ k, k < ps.length → OkM n ts (ps.getD k zMistake)) (i : Nat) : ∀ k, k ≤ ps.length → 0 ≤ accTo ts ps i k ∧ accTo ts ps i k ≤ 3 + 7 * k
  | 0, _ => by have := net_lt ts; unfold accTo; omega
  | k + 1, hk => by
    have h1 := accTo_bd hts h i k (by omega)
    have h2 := (h k (by omega)).turn
    have h3 := turnI_le (byt (ps.getD k zMistake).2.2 0)
    have h4 := getD_lt hts (by omega) (ps.getD k zMistake).2.1.toNat
    rw [accTo]
    split <;> omega
def facMTo (fs ts : List Nat) (ps : List RMistake) (k : Nat) : ByteArray := face ((List.range k).map fun i => (fs.getD i 0 + doneN ts ps i) % 4)
theorem facMTo_succ (fs ts : List Nat) (ps : List RMistake) (k : Nat) : facMTo fs ts ps (k + 1) = facMTo fs ts ps k ++ face [(fs.getD k 0 + doneN ts ps k) % 4] := by
  unfold facMTo
  rw [face_app, List.range_succ, List.map_append]
  rfl
theorem size_facMTo (fs ts : List Nat) (ps : List RMistake) (k : Nat) : (facMTo fs ts ps k).size = k := by unfold facMTo; rw [size_face]; simp
def wroTo (ts : List Nat) (ps : List RMistake) (k : Nat) : List Int := asInts ((List.range k).filter fun i => decide (doneN ts ps i ≠ net ts))
theorem wroTo_yes {ts : List Nat} {ps : List RMistake} {k : Nat} (h : doneN ts ps k ≠ net ts) : wroTo ts ps (k + 1) = wroTo ts ps k ++ [(k : Int)] := by
  unfold wroTo
  rw [List.range_succ, List.filter_append]
  simp [h, asInts]
theorem wroTo_no {ts : List Nat} {ps : List RMistake} {k : Nat} (h : ¬ doneN ts ps k ≠ net ts) : wroTo ts ps (k + 1) = wroTo ts ps k := by
  unfold wroTo
  rw [List.range_succ, List.filter_append]
  simp [h]
theorem length_wroTo (ts : List Nat) (ps : List RMistake) (k : Nat) : (wroTo ts ps k).length ≤ k := by
  unfold wroTo
  rw [asInts_len]
  refine Nat.le_trans (List.length_filter_le _ _) ?_
  rw [List.length_range]
  exact Nat.le_refl _
def corN (ts : List Nat) (ps : List RMistake) (i : Nat) : Nat := (4 + net ts - doneN ts ps i) % 4
def corTo (ts : List Nat) (ps : List RMistake) (k : Nat) : ByteArray := word ((List.range k).map (corN ts ps))
theorem corTo_succ (ts : List Nat) (ps : List RMistake) (k : Nat) : corTo ts ps (k + 1) = corTo ts ps k ++ word [corN ts ps k] := by
  unfold corTo
  rw [word_app, List.range_succ, List.map_append]
  rfl
theorem size_corTo (ts : List Nat) (ps : List RMistake) (k : Nat) : (corTo ts ps k).size = k := by unfold corTo; rw [size_word]; simp
end Dr
def outAreMistakes_0 (n : Int) (s : ByteArray) (ps : List RMistake) : Bool := mistB n s ps
def outFacingWithMistakes_0 (f s : ByteArray) (ps : List RMistake) : ByteArray := if askB f s ps then facMTo (fsOf f) (tsOf s) ps f.size else ByteArray.empty
def outFacingWithMistakes_1 (f s : ByteArray) (ps : List RMistake) : Bool := askB f s ps
def outWrongSoldiers_0 (f s : ByteArray) (ps : List RMistake) : List Int := if askB f s ps then wroTo (tsOf s) ps f.size else []
def outWrongSoldiers_1 (f s : ByteArray) (ps : List RMistake) : Bool := askB f s ps
def outCorrectionsOf_0 (f s : ByteArray) (ps : List RMistake) : ByteArray := if askB f s ps then corTo (tsOf s) ps f.size else ByteArray.empty
def outCorrectionsOf_1 (f s : ByteArray) (ps : List RMistake) : Bool := askB f s ps
theorem lenWrongSoldiers_0 (f s : ByteArray) (ps : List RMistake) (_hf : f.size ≤ 1048576) (_hs : s.size ≤ 1048576) : (outWrongSoldiers_0 f s ps).length ≤ 4611686018427387904 := by
  unfold outWrongSoldiers_0
  split
  · exact Nat.le_trans (length_wroTo _ _ _) (by omega)
  · simp

set_option maxRecDepth 20000 in
set_option maxHeartbeats 1000000 in
theorem specAreMistakes_any (w : World) (n : Int) (s : ByteArray) (a : Option Addr) (len cap : Nat) (ps : List RMistake) (_wn : (Lit.int .i64 n).wf = true) (_ws : s.size ≤ maxLen) (hs : s.size ≤ 1048576) (hl : len ≤ 1048576) (hc : CameMistake w a len ps) (hcp : len ≤ cap ∧ cap ≤ 9223372036854775807) :
    Calls Tryd.prog 52 #[.int .i64 n, .string s, .slice a len cap] w fun e w' => e = .returned (.bool (outAreMistakes_0 n s ps)) ∧ Below w.heap.size w w' := by
  have HM := Lib.hid (drMistakes_any w n s a len cap ps hs hl hc hcp)
  have HE : Hid (outAreMistakes_0 n s ps = mistB n s ps) := rfl
  clear _wn _ws hc
  go_enter Tryd.func52, Tryd.ntmps52
  go_wp2_with fail
  go_at_call 86
  refine HM.out.mono ?_
  rintro e w2 ⟨rfl, b2⟩
  have B2 := Lib.hid b2
  clear b2
  go_wp2
  go_ret
  exact ⟨ret_bool (by rw [HE.out]), B2.out⟩

set_option maxRecDepth 20000 in
set_option maxHeartbeats 1000000 in
theorem drAsked_any (w : World) (f s : ByteArray) (a : Option Addr) (len cap : Nat) (ps : List RMistake) (hf : f.size ≤ 1048576) (hs : s.size ≤ 1048576) (hl : len ≤ 1048576) (hc : CameMistake w a len ps) (hcp : len ≤ cap ∧ cap ≤ 9223372036854775807) :
    Calls Tryd.prog 78 #[.string f, .string s, .slice a len cap] w fun e w' => e = .returned (.bool (askB f s ps)) ∧ Below w.heap.size w w' := by
  have HM := Lib.hid (drMistakes_any w f.size s a len cap ps hs hl hc hcp)
  have HF := Lib.hid (drFacing_any f w hf)
  clear hc
  rcases hb : faceB f with _ | _
  · have HE : Hid (askB f s ps = false) := Lib.hid (by unfold askB; rw [hb]; rfl)
    rw [hb] at HF
    clear hb
    go_enter Tryd.func78, Tryd.ntmps78
    go_wp2_with (go_at_call 55; refine HF.out.mono ?_; rintro e w' ⟨rfl, rfl⟩)
    go_ret
    exact ⟨ret_bool (by rw [HE.out]), Below.refl _ _⟩
  · have HE : Hid (askB f s ps = mistB f.size s ps) := Lib.hid (by unfold askB; rw [hb]; rfl)
    rw [hb] at HF
    clear hb
    go_enter Tryd.func78, Tryd.ntmps78
    go_wp2_with fail
    go_at_call 55
    refine HF.out.mono ?_
    rintro e w' ⟨rfl, rfl⟩
    go_wp2_with fail
    go_at_call 86
    refine HM.out.mono ?_
    rintro e w2 ⟨rfl, b2⟩
    have B2 := Lib.hid b2
    clear b2
    go_wp2
    go_ret
    exact ⟨ret_bool (by rw [HE.out]), B2.out⟩

set_option maxRecDepth 20000 in
set_option maxHeartbeats 4000000 in
theorem drDone_any (w : World) (n : Nat) (ts : List Nat) (a : Option Addr) (len cap : Nat) (ps : List RMistake) (hn : n ≤ 30) (hts : ts.length ≤ 60) (ht4 : ∀ t ∈ ts, t < 4) (h20 : ps.length ≤ 20) (hok : ∀ k, k < ps.length → OkM n ts (ps.getD k zMistake)) (hc : CameMistake w a len ps) :
    Calls Tryd.prog 79 #[.int .i64 n, .string (word ts), .slice a len cap] w fun e w' => ∃ v, e = .returned v ∧ Own w' w.heap.size v (doneL ts ps n) ∧ Below w.heap.size w w' := by
  have HZ : Hid (ps.length = len) := Lib.hid hc.1
  have HC := Lib.hid hc
  have HOK := Lib.hid hok
  have HBD := Lib.hid (fun i => accTo_bd ht4 hok i)
  have HNET := Lib.hid (fun w2 => drNet_any ts w2 hts ht4)
  have hnl := net_lt ts
  have HWB := Lib.hid (word_byte ts ht4)
  have HGL := Lib.hid (getD_lt ht4 (by omega))
  have HSZ : Hid (ts.length = (word ts).size) := Lib.hid (size_word ts).symm
  have hsz : (word ts).size ≤ 60 := by rw [size_word]; exact hts
  have hl20 : len ≤ 20 := by have := hc.1; omega
  obtain ⟨s, hs⟩ : ∃ s, s = word ts := ⟨_, rfl⟩
  rw [← hs] at HNET HSZ hsz ⊢
  have HWB2 : Hid (∀ k, (hk : k < s.size) → turnI ((s[k]).toNat : Int) = ((ts.getD k 0 : Nat) : Int)) := Lib.hid (by subst hs; exact HWB.out)
  clear hc hok hs HWB ht4 hnl
  go_enter Tryd.func79, Tryd.ntmps79
  go_wp2
  go_loopw [7, 8] (fun v i wr => ∃ k : Nat, k ≤ n ∧ i = .int .i64 (k : Int) ∧ Hid (Own wr w.heap.size v (doneL ts ps k)) ∧ Hid (Below w.heap.size w wr)) (fun _ i _ => n - (intOf i).toNat)
  case atStart => exact ⟨0, Nat.zero_le _, rfl, Lib.hid (own_nil _ _), Lib.hid (Below.refl _ _)⟩
  case round =>
    obtain ⟨k, hk, rfl, HO, HB⟩ := hrel
    by_cases hlt : k < n
    · obtain ⟨wo, rfl⟩ : ∃ wo : World, wo = wr := ⟨_, rfl⟩
      go_wp2_with fail
      go_at_call 58
      refine (HNET.out _).mono ?_
      rintro e w' ⟨rfl, rfl⟩
      go_wp2
      go_loopw [9, 21] (fun t i wr => ∃ j : Nat, j ≤ len ∧ i = .int .i64 (j : Int) ∧ t = .int .i64 (accTo ts ps k j) ∧ Hid (Below wo.heap.size wo wr)) (fun _ i _ => len - (intOf i).toNat)
      case atStart => exact ⟨0, Nat.zero_le _, rfl, rfl, Lib.hid (Below.refl _ _)⟩
      case round =>
        obtain ⟨j, hj, rfl, rfl, HB2⟩ := hrel
        have HB3 : Hid (Below w.heap.size w wr) := Lib.hid (HB.out.trans (HB2.out.mono HB.out.size))
        by_cases hlt2 : j < len
        · obtain ⟨b, off, rfl, hcell⟩ := (HC.out.below HB3.out).2 (by omega)
          obtain ⟨e0, e1, e2, _⟩ := hcell j hlt2
          have hbd := HBD.out k j (by have := HZ.out; omega)
          have hbd2 := HBD.out k (j + 1) (by have := HZ.out; omega)
          obtain ⟨⟨m, hm, hml⟩, hone, htn⟩ := HOK.out j (by rw [HZ.out]; exact hlt2)
          have HS : Hid (accTo ts ps k (j + 1) = if (ps.getD j zMistake).1 = (k : Int) then accTo ts ps k j + (4 + turnI (byt (ps.getD j zMistake).2.2 0) - ((ts.getD (ps.getD j zMistake).2.1.toNat 0 : Nat) : Int)) else accTo ts ps k j) := Lib.hid rfl
          rw [hm, Int.toNat_natCast] at HS
          rw [hm] at e1
          obtain ⟨x0, hx0⟩ : ∃ x, x = (ps.getD j zMistake).1 := ⟨_, rfl⟩
          obtain ⟨x2, hx2⟩ : ∃ x, x = (ps.getD j zMistake).2.2 := ⟨_, rfl⟩
          rw [← hx0] at e0 HS
          rw [← hx2] at e2 HS hone htn
          have hx20 : 0 < x2.size := by omega
          have hms : m < s.size := by have := HSZ.out; omega
          have hby2 := byt_get x2 0 hx20
          have hws := HWB2.out m hms
          have hgl := HGL.out m
          obtain ⟨z2, ez2⟩ : ∃ z : UInt8, x2[0]'hx20 = z := ⟨_, rfl⟩
          obtain ⟨z3, ez3⟩ : ∃ z : UInt8, s[m]'hms = z := ⟨_, rfl⟩
          rw [ez2] at hby2
          rw [ez3] at hws
          obtain ⟨hb0, hb1⟩ := byte_bd z2
          obtain ⟨hc0, hc1⟩ := byte_bd z3
          have HTX : Hid (∀ (z : UInt8) (w2 : World), Calls Tryd.prog 73 #[.int .u8 (z.toNat : Int)] w2 fun e w' => e = .returned (.int .i64 (turnI (z.toNat : Int))) ∧ w' = w2) := Lib.hid (fun z w2 => (drTurn_any (z.toNat : Int) w2 (byte_bd z).1 (byte_bd z).2).mono fun e w' ⟨h1, h2⟩ => ⟨h1, h2.symm⟩)
          rw [hby2] at HS htn
          have ht3 := turnI_le (z2.toNat : Int)
          obtain ⟨t, ht⟩ : ∃ t, turnI (z2.toNat : Int) = t := ⟨_, rfl⟩
          obtain ⟨u, hu⟩ : ∃ u, u = ts.getD m 0 := ⟨_, rfl⟩
          obtain ⟨acc, hacc⟩ : ∃ u, u = accTo ts ps k j := ⟨_, rfl⟩
          rw [ht] at HS htn ht3
          rw [← hu] at hws HS hgl
          rw [← hacc] at HS hbd ⊢
          have i1 : (0 : Int) ≤ (j : Int) := by omega
          have i2 : (j : Int) < (len : Int) := by omega
          have i3 : (0 : Int) ≤ (m : Int) := by omega
          have i4 : (m : Int) < (s.size : Int) := by omega
          have i5 : (0 : Int) < (x2.size : Int) := by omega
          obtain ⟨hbd0, hbd1⟩ := hbd
          have HB4 : Hid (Below wo.heap.size wo (wr.alloc (.cells #[.int .i64 x0, .int .i64 (m : Int), .string x2] 55))) := Lib.hid (HB2.out.alloc HB2.out.size _)
          clear hcell hx0 hx2 hby2 hu hacc hm hone hbd2 hb0 hb1 hc0 hc1
          by_cases hs0 : x0 = (k : Int)
          · have HS2 : Hid (accTo ts ps k (j + 1) = acc + (4 + t - (u : Int))) := Lib.hid (by rw [HS.out, if_pos hs0])
            have hq0 : (x0 == (k : Int)) = true := by rw [beq_iff_eq]; exact hs0
            clear hs0
            go_wp2_with fail
            go_quiet ((go_at_call 73; exact Calls.quiet_of_same (HTX.out _ _)))
            go_wp2
            go_roundw
            case rel => exact ⟨j + 1, by omega, by go_num, int_eq (by rw [HS2.out]), Lib.hid (HB4.out.trans ((drewN_down _ _).mono HB4.out.size))⟩
            case measure => simp [intOf]; omega
          · have HS2 : Hid (accTo ts ps k (j + 1) = acc) := Lib.hid (by rw [HS.out, if_neg hs0])
            have hq0 : (x0 == (k : Int)) = false := by rw [beq_eq_false_iff_ne]; exact hs0
            clear hs0
            go_wp2
            go_roundw
            case rel => exact ⟨j + 1, by omega, by go_num, int_eq (by rw [HS2.out]), HB4⟩
            case measure => simp [intOf]; omega
        · obtain rfl : j = len := by omega
          have hbd := HBD.out k j (by have := HZ.out; omega)
          have HD : Hid (((doneN ts ps k : Nat) : Int) = accTo ts ps k j % 4) := Lib.hid (by unfold doneN; rw [HZ.out]; omega)
          have HU : Hid (doneL ts ps (k + 1) = doneL ts ps k ++ [((doneN ts ps k : Nat) : Int)]) := Lib.hid (by unfold doneL; rw [upTo_succ])
          rw [HD.out] at HU
          have HO2 : Hid (Own wr w.heap.size _ (doneL ts ps k)) := Lib.hid (HO.out.below HB2.out (Nat.le_refl _))
          have hbl : (doneL ts ps k).length ≤ 1000000000 := by unfold doneL; rw [length_upTo]; omega
          obtain ⟨acc, hacc⟩ : ∃ u, u = accTo ts ps k j := ⟨_, rfl⟩
          rw [← hacc] at HU hbd ⊢
          have hz := HB3.out.size
          obtain ⟨hbd0, hbd1⟩ := hbd
          clear hacc HO
          go_wp2_with (at_builtin; refine wpList_app rfl _ _ rfl _ _ _ _ _ rfl rfl HO2.out hz hbl ?_; intro v' w5 hO hB5)
          have HO5 : Hid (Own w5 w.heap.size v' (doneL ts ps (k + 1))) := Lib.hid (by rw [HU.out]; exact hO)
          have HB5 : Hid (Below w.heap.size w w5) := Lib.hid (HB3.out.trans hB5)
          clear hO hB5
          go_wp2
          go_roundw
          case rel => exact ⟨k + 1, by omega, by go_num, HO5, HB5⟩
          case measure => simp [intOf]; omega
    · obtain rfl : k = n := by omega
      go_wp2
      go_ret
      exact ⟨_, rfl, HO.out, HB.out⟩

set_option maxRecDepth 20000 in
set_option maxHeartbeats 2000000 in
theorem specFacingWithMistakes_any (w : World) (f s : ByteArray) (a : Option Addr) (len cap : Nat) (ps : List RMistake) (_wf : f.size ≤ maxLen) (_ws : s.size ≤ maxLen) (hf : f.size ≤ 1048576) (hs : s.size ≤ 1048576) (hl : len ≤ 1048576) (hc : CameMistake w a len ps) (hcp : len ≤ cap ∧ cap ≤ 9223372036854775807) :
    Calls Tryd.prog 39 #[.string f, .string s, .slice a len cap] w fun e w' => e = .returned (.tuple #[.string (outFacingWithMistakes_0 f s ps), .bool (outFacingWithMistakes_1 f s ps)]) ∧ Below w.heap.size w w' := by
  have HA := Lib.hid (drAsked_any w f s a len cap ps hf hs hl hc hcp)
  clear _wf _ws
  rcases hb : askB f s ps with _ | _
  · have H0 : Hid (outFacingWithMistakes_0 f s ps = ByteArray.empty ∧ outFacingWithMistakes_1 f s ps = false) := Lib.hid (by unfold outFacingWithMistakes_0 outFacingWithMistakes_1; rw [hb]; exact ⟨rfl, rfl⟩)
    rw [hb] at HA
    clear hb hc
    go_enter Tryd.func39, Tryd.ntmps39
    go_wp2_with fail
    go_at_call 78
    refine HA.out.mono ?_
    rintro e w2 ⟨rfl, b2⟩
    have B2 := Lib.hid b2
    clear b2
    go_wp2
    go_ret2
    exact ⟨by rw [H0.out.1, H0.out.2]; exact rfl, B2.out⟩
  · have hb2 := hb
    unfold askB at hb2
    rw [Bool.and_eq_true] at hb2
    obtain ⟨hbf, hbm⟩ := hb2
    obtain ⟨fs, rfl, h1, h2, h3⟩ := face_of hbf
    have hws : wordB s = true := by
      have h := hbm
      unfold mistB at h
      simp only [Bool.and_eq_true] at h
      exact h.2.1
    obtain ⟨ts, rfl, h4, h5⟩ := word_of hws
    obtain ⟨_, _, h6, h7⟩ := mist_ok hbm
    have H0 : Hid (outFacingWithMistakes_0 (face fs) (word ts) ps = facMTo fs ts ps (face fs).size ∧ outFacingWithMistakes_1 (face fs) (word ts) ps = true) := Lib.hid (by unfold outFacingWithMistakes_0 outFacingWithMistakes_1; rw [hb, tsOf_word h5, fsOf_face h3]; exact ⟨rfl, rfl⟩)
    have hz : (face fs).size ≤ 30 := by rw [size_face]; exact h2
    have HD : Hid (∀ w2, Below w.heap.size w w2 → Calls Tryd.prog 79 #[.int .i64 (face fs).size, .string (word ts), .slice a len cap] w2 fun e w' => ∃ v, e = .returned v ∧ Own w' w2.heap.size v (doneL ts ps (face fs).size) ∧ Below w2.heap.size w2 w') := Lib.hid (fun w2 hb2 => drDone_any w2 (face fs).size ts a len cap ps hz h4 h5 h6 h7 (hc.below hb2))
    have HFB := Lib.hid (face_byte fs h3)
    have HFL := Lib.hid (getD_lt h3 (by omega))
    have hnz : 1 ≤ (face fs).size := by rw [size_face]; exact h1
    obtain ⟨g, hg⟩ : ∃ g, g = word ts := ⟨_, rfl⟩
    obtain ⟨f, hfe⟩ : ∃ g, g = face fs := ⟨_, rfl⟩
    rw [← hg] at H0 HD HA ⊢
    rw [← hfe] at H0 HD HA hz hnz hb ⊢
    rw [← hg] at hb
    have HFB2 : Hid (∀ k, (hk : k < f.size) → ((f[k]).toNat : Int) = 48 + ((fs.getD k 0 : Nat) : Int)) := Lib.hid (by subst hfe; exact HFB.out)
    obtain ⟨n, hn⟩ : ∃ n, n = f.size := ⟨_, rfl⟩
    have HNS := Lib.hid hn
    have hn30 : n ≤ 30 := by omega
    rw [show doneL ts ps f.size = doneL ts ps n by rw [hn]] at HD
    clear hg hfe h3 h5 h7 HFB hc hbf hbm hws hn
    rw [hb] at HA
    go_enter Tryd.func39, Tryd.ntmps39
    go_wp2_with fail
    go_at_call 78
    refine HA.out.mono ?_
    rintro e w2 ⟨rfl, b2⟩
    have B2 := Lib.hid b2
    have HD2 := Lib.hid (HD.out w2 b2)
    clear b2
    go_wp2_with fail
    go_at_call 79
    refine HD2.out.mono ?_
    rintro e w3 ⟨vd, rfl, o3, b3⟩
    obtain ⟨gd, cd, rfl, _, _⟩ := o3.point (by unfold doneL; rw [length_upTo]; have := HNS.out; omega)
    have hld : (doneL ts ps n).length = n := by unfold doneL; rw [length_upTo]
    have O3 := Lib.hid o3
    have B3 : Hid (Below w.heap.size w w3) := Lib.hid (B2.out.trans (b3.mono B2.out.size))
    have HLD := Lib.hid hld
    rw [hld] at O3 ⊢
    clear o3 b3 hld
    go_wp2
    go_loopw [8, 22] (fun o i wr => ∃ k : Nat, k ≤ n ∧ i = .int .i64 (k : Int) ∧ o = .string (facMTo fs ts ps k) ∧ Hid (Below w3.heap.size w3 wr)) (fun _ i _ => n - (intOf i).toNat)
    case atStart => exact ⟨0, Nat.zero_le _, rfl, rfl, Lib.hid (Below.refl _ _)⟩
    case round =>
      obtain ⟨k, hk, rfl, rfl, HB⟩ := hrel
      have hps := size_facMTo fs ts ps k
      by_cases hlt : k < n
      · have hltf : k < f.size := by have := HNS.out; omega
        have e1 := HFB2.out k hltf
        have hxl := HFL.out k
        have HS := Lib.hid (facMTo_succ fs ts ps k)
        have ed := (O3.out.below HB.out (Nat.le_refl _)).cell HLD.out.symm k (by rw [HLD.out]; exact hlt)
        rw [show (doneL ts ps n).getD k 0 = ((doneN ts ps k : Nat) : Int) from getD_upTo _ _ _ hlt] at ed
        have hdl := doneN_lt ts ps k
        have hnz0 : k ≤ 30 := by have := HNS.out; omega
        obtain ⟨x, hx⟩ : ∃ x, x = fs.getD k 0 := ⟨_, rfl⟩
        obtain ⟨d, hd⟩ : ∃ x, x = doneN ts ps k := ⟨_, rfl⟩
        rw [← hx] at e1 hxl HS
        rw [← hd] at ed hdl HS
        have e2 : (48 + (x : Int) - 48 + (d : Int)) % 4 = (((x + d) % 4 : Nat) : Int) := by omega
        have HL := Lib.hid (fun w2 => l1Num_small ((x + d) % 4) (by omega) w2)
        rw [face_one (show (x + d) % 4 < 10 by omega)] at HL
        have hqs : (face [(x + d) % 4]).size ≤ 1 := by rw [size_face]; simp
        obtain ⟨p, hp⟩ : ∃ p, p = facMTo fs ts ps k := ⟨_, rfl⟩
        obtain ⟨q, hq⟩ : ∃ q, q = face [(x + d) % 4] := ⟨_, rfl⟩
        obtain ⟨y, hy⟩ : ∃ y, y = (x + d) % 4 := ⟨_, rfl⟩
        rw [← hp] at HS hps ⊢
        rw [← hq] at HS HL hqs
        rw [← hy] at HL e2
        have hps2 : p.size ≤ 30 := by omega
        have i1 : (0 : Int) ≤ (k : Int) := by omega
        have i2 : (k : Int) < (n : Int) := by omega
        have i3 : (k : Int) < (f.size : Int) := by omega
        clear hx hp hq hy hd hps
        go_wp2_with fail
        go_at_call 57
        refine (HL.out _).mono ?_
        rintro e w4 ⟨rfl, b4⟩
        have HB4 : Hid (Below w3.heap.size w3 w4) := Lib.hid (HB.out.trans (b4.mono HB.out.size))
        clear b4
        go_wp2
        go_roundw
        case rel => exact ⟨k + 1, by omega, by go_num, by rw [HS.out], HB4⟩
        case measure => simp [intOf]; omega
      · have hkn : Hid (facMTo fs ts ps k = facMTo fs ts ps f.size) := Lib.hid (by rw [← HNS.out]; congr 1; omega)
        go_wp2
        go_ret2
        exact ⟨by rw [H0.out.1, H0.out.2, hkn.out]; exact rfl, B3.out.trans (HB.out.mono B3.out.size)⟩

set_option maxRecDepth 20000 in
set_option maxHeartbeats 2000000 in
theorem specWrongSoldiers_any (w : World) (f s : ByteArray) (a : Option Addr) (len cap : Nat) (ps : List RMistake) (_wf : f.size ≤ maxLen) (_ws : s.size ≤ maxLen) (hf : f.size ≤ 1048576) (hs : s.size ≤ 1048576) (hl : len ≤ 1048576) (hc : CameMistake w a len ps) (hcp : len ≤ cap ∧ cap ≤ 9223372036854775807) :
    Calls Tryd.prog 41 #[.string f, .string s, .slice a len cap] w fun e w' => ∃ v0, e = .returned (.tuple #[v0, .bool (outWrongSoldiers_1 f s ps)]) ∧ Own w' w.heap.size v0 (outWrongSoldiers_0 f s ps) ∧ Below w.heap.size w w' := by
  have HA := Lib.hid (drAsked_any w f s a len cap ps hf hs hl hc hcp)
  clear _wf _ws
  rcases hb : askB f s ps with _ | _
  · have H0 : Hid (outWrongSoldiers_0 f s ps = [] ∧ outWrongSoldiers_1 f s ps = false) := Lib.hid (by unfold outWrongSoldiers_0 outWrongSoldiers_1; rw [hb]; exact ⟨rfl, rfl⟩)
    rw [hb] at HA
    clear hb hc
    go_enter Tryd.func41, Tryd.ntmps41
    go_wp2_with fail
    go_at_call 78
    refine HA.out.mono ?_
    rintro e w2 ⟨rfl, b2⟩
    have B2 := Lib.hid b2
    clear b2
    go_wp2
    go_ret2
    exact ⟨_, by rw [H0.out.2]; exact rfl, by rw [H0.out.1]; exact own_nil _ _, B2.out⟩
  · have hb2 := hb
    unfold askB at hb2
    rw [Bool.and_eq_true] at hb2
    obtain ⟨hbf, hbm⟩ := hb2
    obtain ⟨fs, rfl, h1, h2, h3⟩ := face_of hbf
    have hws : wordB s = true := by
      have h := hbm
      unfold mistB at h
      simp only [Bool.and_eq_true] at h
      exact h.2.1
    obtain ⟨ts, rfl, h4, h5⟩ := word_of hws
    obtain ⟨_, _, h6, h7⟩ := mist_ok hbm
    have H0 : Hid (outWrongSoldiers_0 (face fs) (word ts) ps = wroTo ts ps (face fs).size ∧ outWrongSoldiers_1 (face fs) (word ts) ps = true) := Lib.hid (by unfold outWrongSoldiers_0 outWrongSoldiers_1; rw [hb, tsOf_word h5]; exact ⟨rfl, rfl⟩)
    have hz : (face fs).size ≤ 30 := by rw [size_face]; exact h2
    have HD : Hid (∀ w2, Below w.heap.size w w2 → Calls Tryd.prog 79 #[.int .i64 (face fs).size, .string (word ts), .slice a len cap] w2 fun e w' => ∃ v, e = .returned v ∧ Own w' w2.heap.size v (doneL ts ps (face fs).size) ∧ Below w2.heap.size w2 w') := Lib.hid (fun w2 hb2 => drDone_any w2 (face fs).size ts a len cap ps hz h4 h5 h6 h7 (hc.below hb2))
    have HNET := Lib.hid (fun w2 => drNet_any ts w2 h4 h5)
    have hnetl := net_lt ts
    have hnz : 1 ≤ (face fs).size := by rw [size_face]; exact h1
    obtain ⟨g, hg⟩ : ∃ g, g = word ts := ⟨_, rfl⟩
    obtain ⟨f, hfe⟩ : ∃ g, g = face fs := ⟨_, rfl⟩
    rw [← hg] at H0 HD HA HNET ⊢
    rw [← hfe] at H0 HD HA hz hnz hb ⊢
    rw [← hg] at hb
    obtain ⟨n, hn⟩ : ∃ n, n = f.size := ⟨_, rfl⟩
    have HNS := Lib.hid hn
    have hn30 : n ≤ 30 := by omega
    rw [show doneL ts ps f.size = doneL ts ps n by rw [hn]] at HD
    clear hg hfe h3 h5 h7 hc hbf hbm hws hn
    rw [hb] at HA
    go_enter Tryd.func41, Tryd.ntmps41
    go_wp2_with fail
    go_at_call 78
    refine HA.out.mono ?_
    rintro e w2 ⟨rfl, b2⟩
    have B2 := Lib.hid b2
    have HD2 := Lib.hid (HD.out w2 b2)
    clear b2
    go_wp2_with fail
    go_at_call 79
    refine HD2.out.mono ?_
    rintro e w3 ⟨vd, rfl, o3, b3⟩
    obtain ⟨gd, cd, rfl, _, _⟩ := o3.point (by unfold doneL; rw [length_upTo]; have := HNS.out; omega)
    have hld : (doneL ts ps n).length = n := by unfold doneL; rw [length_upTo]
    have O3 := Lib.hid o3
    have B3 : Hid (Below w.heap.size w w3) := Lib.hid (B2.out.trans (b3.mono B2.out.size))
    have HLD := Lib.hid hld
    rw [hld] at O3 ⊢
    clear o3 b3 hld
    go_wp2
    go_loopw [8, 22] (fun o i wr => ∃ k : Nat, k ≤ n ∧ i = .int .i64 (k : Int) ∧ Hid (Own wr w3.heap.size o (wroTo ts ps k)) ∧ Hid (Below w3.heap.size w3 wr)) (fun _ i _ => n - (intOf i).toNat)
    case atStart => exact ⟨0, Nat.zero_le _, rfl, Lib.hid (own_nil _ _), Lib.hid (Below.refl _ _)⟩
    case round =>
      obtain ⟨k, hk, rfl, HO, HB⟩ := hrel
      by_cases hlt : k < n
      · have ed := (O3.out.below HB.out (Nat.le_refl _)).cell HLD.out.symm k (by rw [HLD.out]; exact hlt)
        rw [show (doneL ts ps n).getD k 0 = ((doneN ts ps k : Nat) : Int) from getD_upTo _ _ _ hlt] at ed
        have hdl := doneN_lt ts ps k
        have HSY := Lib.hid (@wroTo_yes ts ps k)
        have HSN := Lib.hid (@wroTo_no ts ps k)
        have hbl : (wroTo ts ps k).length ≤ 1000000000 := by have := length_wroTo ts ps k; have := HNS.out; omega
        obtain ⟨d, hd⟩ : ∃ x, x = doneN ts ps k := ⟨_, rfl⟩
        obtain ⟨m, hm⟩ : ∃ x, x = net ts := ⟨_, rfl⟩
        rw [← hd] at ed hdl HSY HSN
        rw [← hm] at HNET HSY HSN hnetl
        have i1 : (0 : Int) ≤ (k : Int) := by omega
        have i2 : (k : Int) < (n : Int) := by omega
        have hz3 := HB.out.size
        clear hd hm
        by_cases hne : d = m
        · have hq : ((d : Int) != (m : Int)) = false := by rw [bne_eq_false_iff_eq]; omega
          have HS := Lib.hid (HSN.out (fun h => h hne))
          clear hne HSY HSN
          go_wp2_with fail
          go_at_call 58
          refine (HNET.out _).mono ?_
          rintro e w' ⟨rfl, rfl⟩
          go_wp2
          go_roundw
          case rel => exact ⟨k + 1, by omega, by go_num, Lib.hid (by rw [HS.out]; exact HO.out), HB⟩
          case measure => simp [intOf]; omega
        · have hq : ((d : Int) != (m : Int)) = true := by rw [bne_iff_ne]; omega
          have HS := Lib.hid (HSY.out hne)
          clear hne HSY HSN
          go_wp2_with fail
          go_at_call 58
          refine (HNET.out _).mono ?_
          rintro e w' ⟨rfl, rfl⟩
          go_wp2_with (at_builtin; refine wpList_app rfl _ _ rfl _ _ _ _ _ rfl rfl HO.out hz3 hbl ?_; intro v' w5 hO hB5)
          have HO5 : Hid (Own w5 w3.heap.size v' (wroTo ts ps (k + 1))) := Lib.hid (by rw [HS.out]; exact hO)
          have HB5 : Hid (Below w3.heap.size w3 w5) := Lib.hid (HB.out.trans hB5)
          clear hO hB5
          go_wp2
          go_roundw
          case rel => exact ⟨k + 1, by omega, by go_num, HO5, HB5⟩
          case measure => simp [intOf]; omega
      · have hkn : Hid (wroTo ts ps k = wroTo ts ps f.size) := Lib.hid (by rw [← HNS.out]; congr 1; omega)
        go_wp2
        go_ret2
        exact ⟨_, by rw [H0.out.2]; exact rfl, by rw [H0.out.1, ← hkn.out]; exact HO.out.mono B3.out.size, B3.out.trans (HB.out.mono B3.out.size)⟩

set_option maxRecDepth 20000 in
set_option maxHeartbeats 2000000 in
theorem specCorrectionsOf_any (w : World) (f s : ByteArray) (a : Option Addr) (len cap : Nat) (ps : List RMistake) (_wf : f.size ≤ maxLen) (_ws : s.size ≤ maxLen) (hf : f.size ≤ 1048576) (hs : s.size ≤ 1048576) (hl : len ≤ 1048576) (hc : CameMistake w a len ps) (hcp : len ≤ cap ∧ cap ≤ 9223372036854775807) :
    Calls Tryd.prog 43 #[.string f, .string s, .slice a len cap] w fun e w' => e = .returned (.tuple #[.string (outCorrectionsOf_0 f s ps), .bool (outCorrectionsOf_1 f s ps)]) ∧ Below w.heap.size w w' := by
  have HA := Lib.hid (drAsked_any w f s a len cap ps hf hs hl hc hcp)
  clear _wf _ws
  rcases hb : askB f s ps with _ | _
  · have H0 : Hid (outCorrectionsOf_0 f s ps = ByteArray.empty ∧ outCorrectionsOf_1 f s ps = false) := Lib.hid (by unfold outCorrectionsOf_0 outCorrectionsOf_1; rw [hb]; exact ⟨rfl, rfl⟩)
    rw [hb] at HA
    clear hb hc
    go_enter Tryd.func43, Tryd.ntmps43
    go_wp2_with fail
    go_at_call 78
    refine HA.out.mono ?_
    rintro e w2 ⟨rfl, b2⟩
    have B2 := Lib.hid b2
    clear b2
    go_wp2
    go_ret2
    exact ⟨by rw [H0.out.1, H0.out.2]; exact rfl, B2.out⟩
  · have hb2 := hb
    unfold askB at hb2
    rw [Bool.and_eq_true] at hb2
    obtain ⟨hbf, hbm⟩ := hb2
    obtain ⟨fs, rfl, h1, h2, h3⟩ := face_of hbf
    have hws : wordB s = true := by
      have h := hbm
      unfold mistB at h
      simp only [Bool.and_eq_true] at h
      exact h.2.1
    obtain ⟨ts, rfl, h4, h5⟩ := word_of hws
    obtain ⟨_, _, h6, h7⟩ := mist_ok hbm
    have H0 : Hid (outCorrectionsOf_0 (face fs) (word ts) ps = corTo ts ps (face fs).size ∧ outCorrectionsOf_1 (face fs) (word ts) ps = true) := Lib.hid (by unfold outCorrectionsOf_0 outCorrectionsOf_1; rw [hb, tsOf_word h5]; exact ⟨rfl, rfl⟩)
    have hz : (face fs).size ≤ 30 := by rw [size_face]; exact h2
    have HD : Hid (∀ w2, Below w.heap.size w w2 → Calls Tryd.prog 79 #[.int .i64 (face fs).size, .string (word ts), .slice a len cap] w2 fun e w' => ∃ v, e = .returned v ∧ Own w' w2.heap.size v (doneL ts ps (face fs).size) ∧ Below w2.heap.size w2 w') := Lib.hid (fun w2 hb2 => drDone_any w2 (face fs).size ts a len cap ps hz h4 h5 h6 h7 (hc.below hb2))
    have HNET := Lib.hid (fun w2 => drNet_any ts w2 h4 h5)
    have hnetl := net_lt ts
    have hnz : 1 ≤ (face fs).size := by rw [size_face]; exact h1
    obtain ⟨g, hg⟩ : ∃ g, g = word ts := ⟨_, rfl⟩
    obtain ⟨f, hfe⟩ : ∃ g, g = face fs := ⟨_, rfl⟩
    rw [← hg] at H0 HD HA HNET ⊢
    rw [← hfe] at H0 HD HA hz hnz hb ⊢
    rw [← hg] at hb
    obtain ⟨n, hn⟩ : ∃ n, n = f.size := ⟨_, rfl⟩
    have HNS := Lib.hid hn
    have hn30 : n ≤ 30 := by omega
    rw [show doneL ts ps f.size = doneL ts ps n by rw [hn]] at HD
    clear hg hfe h3 h5 h7 hc hbf hbm hws hn
    rw [hb] at HA
    go_enter Tryd.func43, Tryd.ntmps43
    go_wp2_with fail
    go_at_call 78
    refine HA.out.mono ?_
    rintro e w2 ⟨rfl, b2⟩
    have B2 := Lib.hid b2
    have HD2 := Lib.hid (HD.out w2 b2)
    clear b2
    go_wp2_with fail
    go_at_call 79
    refine HD2.out.mono ?_
    rintro e w3 ⟨vd, rfl, o3, b3⟩
    obtain ⟨gd, cd, rfl, _, _⟩ := o3.point (by unfold doneL; rw [length_upTo]; have := HNS.out; omega)
    have hld : (doneL ts ps n).length = n := by unfold doneL; rw [length_upTo]
    have O3 := Lib.hid o3
    have B3 : Hid (Below w.heap.size w w3) := Lib.hid (B2.out.trans (b3.mono B2.out.size))
    have HLD := Lib.hid hld
    rw [hld] at O3 ⊢
    clear o3 b3 hld
    go_wp2
    go_loopw [8, 22] (fun o i wr => ∃ k : Nat, k ≤ n ∧ i = .int .i64 (k : Int) ∧ o = .string (corTo ts ps k) ∧ Hid (Below w3.heap.size w3 wr)) (fun _ i _ => n - (intOf i).toNat)
    case atStart => exact ⟨0, Nat.zero_le _, rfl, rfl, Lib.hid (Below.refl _ _)⟩
    case round =>
      obtain ⟨k, hk, rfl, rfl, HB⟩ := hrel
      have hps := size_corTo ts ps k
      by_cases hlt : k < n
      · have ed := (O3.out.below HB.out (Nat.le_refl _)).cell HLD.out.symm k (by rw [HLD.out]; exact hlt)
        rw [show (doneL ts ps n).getD k 0 = ((doneN ts ps k : Nat) : Int) from getD_upTo _ _ _ hlt] at ed
        have hdl := doneN_lt ts ps k
        have HS := Lib.hid (corTo_succ ts ps k)
        have hnz0 : k ≤ 30 := by have := HNS.out; omega
        have hcl : corN ts ps k < 4 := Nat.mod_lt _ (by omega)
        have e2 : (4 + ((net ts : Nat) : Int) - ((doneN ts ps k : Nat) : Int)) % 4 = ((corN ts ps k : Nat) : Int) := by unfold corN; omega
        have HSG := Lib.hid (fun w2 => drSign_any (corN ts ps k) hcl w2)
        have hqs : (word [corN ts ps k]).size ≤ 1 := by rw [size_word]; simp
        obtain ⟨d, hd⟩ : ∃ x, x = doneN ts ps k := ⟨_, rfl⟩
        obtain ⟨m, hm⟩ : ∃ x, x = net ts := ⟨_, rfl⟩
        obtain ⟨p, hp⟩ : ∃ p, p = corTo ts ps k := ⟨_, rfl⟩
        obtain ⟨q, hq⟩ : ∃ q, q = word [corN ts ps k] := ⟨_, rfl⟩
        obtain ⟨c, hcc⟩ : ∃ q, q = corN ts ps k := ⟨_, rfl⟩
        rw [← hd] at ed hdl e2
        rw [← hm] at HNET e2 hnetl
        rw [← hp] at HS hps ⊢
        rw [← hq] at HS HSG hqs
        rw [← hcc] at HSG e2 hcl
        have hps2 : p.size ≤ 30 := by omega
        have i1 : (0 : Int) ≤ (k : Int) := by omega
        have i2 : (k : Int) < (n : Int) := by omega
        clear hd hm hp hq hcc hps
        go_wp2_with fail
        go_at_call 58
        refine (HNET.out _).mono ?_
        rintro e w' ⟨rfl, rfl⟩
        go_wp2_with fail
        go_at_call 60
        refine (HSG.out _).mono ?_
        rintro e w' ⟨rfl, rfl⟩
        go_wp2
        go_roundw
        case rel => exact ⟨k + 1, by omega, by go_num, by rw [HS.out], HB⟩
        case measure => simp [intOf]; omega
      · have hkn : Hid (corTo ts ps k = corTo ts ps f.size) := Lib.hid (by rw [← HNS.out]; congr 1; omega)
        go_wp2
        go_ret2
        exact ⟨by rw [H0.out.1, H0.out.2, hkn.out]; exact rfl, B3.out.trans (HB.out.mono B3.out.size)⟩

end Go.Proofs.YtjbomclildkjaaaDoor
