/- Chapter 9, the program: toldBy: with which C a row fits a clue. -/
import Derived.Test.YtodlpdbmiicdfabTq
import Derived.Test.YtodlpdbmiicdfabZa
import Derived.Test.YtodlpdbmiicdfabBxC
import Derived.Test.YtodlpdbmiicdfabShz
namespace Go.Proofs.Ytodlpdbmiicdfab
open Go.ChangeShapes Go.WideShapes Go.ChangeAt Go.RowKit
open Pz

theorem countOne_any (s : ByteArray) (w : World) :
    Calls Try.prog 77 #[.string s, .string { data := #[62] }] w fun e w' => e = .returned (.int .i64 (Lib.countByte s.data.toList 62 : Nat)) ∧ w = w' :=
  (Try.strings_Count_one s 62 w).mono fun _ _ ⟨he, hw⟩ => ⟨he, hw.symm⟩

set_option maxHeartbeats 4000000 in
theorem toldBy_0 (a b : Nat) (d : Int) (l : List Bool) (h1 : 1 ≤ l.length) (h2 : l.length ≤ 8) (ha : a < l.length) (hb : b ≤ 20) (w : World) :
    Calls Try.prog 67 #[.agg #[.int .i64 0, .int .i64 (a : Int), .int .i64 (b : Int), .int .i64 d], .string (Rw.str l)] w fun e w' => e = .returned (.int .i64 (valueN 0 a b l : Nat)) ∧ Below w.heap.size w w' := by
  have HB : Hid (Below w.heap.size w (w.alloc (.cells #[.int .i64 0, .int .i64 (a : Int), .int .i64 (b : Int), .int .i64 d] 64))) := Lib.hid ((Below.refl _ _).alloc (Nat.le_refl _) _)
  have HX : Hid (BoxClue (w.alloc (.cells #[.int .i64 0, .int .i64 (a : Int), .int .i64 (b : Int), .int .i64 d] 64)) w.heap.size 0 (a : Int) (b : Int) d) := Lib.hid (boxClue_new w 0 (a : Int) (b : Int) d)
  obtain ⟨V, hV⟩ : ∃ V, V = valueN 0 a b l := ⟨_, rfl⟩
  rw [← hV]
  have HC := Lib.hid (fun s w2 => countOne_any s w2)
  have hsz : (Rw.str l).size = l.length := Rw.size_str l
  have HA := Lib.hid (fun w2 => Tp.implRowAfter_yes l b (by omega) h1 (by omega) w2)
  have hlen : (Rw.afterOf b l).length = l.length := Tp.length_afterOf b l
  have HV : Hid (Lib.countByte ((Rw.str (Rw.afterOf b l)).extract a (a + 1)).data.toList 62 = V) := Lib.hid (by
    rw [count_one _ _ (by rw [hlen]; exact ha), after_is, hV]; unfold valueN; rw [if_pos rfl])
  have hsa : (Rw.str (Rw.afterOf b l)).size = l.length := by rw [Rw.size_str, hlen]
  obtain ⟨row, hrow⟩ : ∃ row, row = Rw.str l := ⟨_, rfl⟩
  obtain ⟨af, haf⟩ : ∃ af, af = Rw.str (Rw.afterOf b l) := ⟨_, rfl⟩
  rw [← hrow] at HA hsz ⊢
  rw [← haf] at HA HV hsa
  obtain ⟨n, hn⟩ : ∃ n, n = l.length := ⟨_, rfl⟩
  rw [← hn] at h1 h2 ha hsz hsa
  clear hrow haf hn hV hlen
  have i1 : (0 : Int) ≤ (a : Int) := by omega
  have i2 : (a : Int) ≤ (a : Int) + 1 := by omega
  have i3 : (a : Int) + 1 ≤ (af.size : Int) := by omega
  have i4 : IntKind.i64.wrap ((a : Int) + 1) = (a : Int) + 1 := IntWalk.i64_in _ (by omega)
  have i5 : ((a : Int) + 1).toNat = a + 1 := by omega
  obtain ⟨w0, hw0⟩ : ∃ w0, w0 = w.alloc (.cells #[.int .i64 0, .int .i64 (a : Int), .int .i64 (b : Int), .int .i64 d] 64) := ⟨_, rfl⟩
  obtain ⟨pb, hpb⟩ : ∃ pb, pb = w.heap.size := ⟨_, rfl⟩
  rw [← hw0] at HB HX
  rw [← hpb] at HX
  obtain ⟨c0, c1, c2, c3⟩ := HX.out
  go_enter Try.func67, Try.ntmps67
  go_wp2_with fail
  rw [← hw0, ← hpb]
  clear hw0 hpb
  go_wp2_with fail
  go_at_call 76
  refine (HA.out _).mono ?_
  rintro e w2 ⟨rfl, b2⟩
  have B2 : Hid (Below w.heap.size w w2) := Lib.hid (HB.out.trans (b2.mono HB.out.size))
  have HX2 := Lib.hid (HX.out.below b2)
  clear c0 c1 c2 c3 b2 HX
  obtain ⟨c0, c1, c2, c3⟩ := HX2.out
  go_wp2_with fail
  go_at_call 77
  refine (HC.out _ _).mono ?_
  rintro e w' ⟨rfl, rfl⟩
  rw [HV.out]
  go_wp2
  go_ret
  exact ⟨rfl, B2.out⟩

set_option maxHeartbeats 4000000 in
theorem toldBy_1 (a b : Nat) (d : Int) (l : List Bool) (_h1 : 1 ≤ l.length) (_h2 : l.length ≤ 8) (w : World) :
    Calls Try.prog 67 #[.agg #[.int .i64 1, .int .i64 (a : Int), .int .i64 (b : Int), .int .i64 d], .string (Rw.str l)] w fun e w' => e = .returned (.int .i64 (valueN 1 a b l : Nat)) ∧ Below w.heap.size w w' := by
  have HB : Hid (Below w.heap.size w (w.alloc (.cells #[.int .i64 1, .int .i64 (a : Int), .int .i64 (b : Int), .int .i64 d] 64))) := Lib.hid ((Below.refl _ _).alloc (Nat.le_refl _) _)
  have HX : Hid (BoxClue (w.alloc (.cells #[.int .i64 1, .int .i64 (a : Int), .int .i64 (b : Int), .int .i64 d] 64)) w.heap.size 1 (a : Int) (b : Int) d) := Lib.hid (boxClue_new w 1 (a : Int) (b : Int) d)
  obtain ⟨V, hV⟩ : ∃ V, V = valueN 1 a b l := ⟨_, rfl⟩
  rw [← hV]
  have HC := Lib.hid (fun s w2 => countOne_any s w2)
  have hsz : (Rw.str l).size = l.length := Rw.size_str l
  have HV : Hid (Lib.countByte (Rw.str l).data.toList 62 = V) := Lib.hid (by
    rw [right_all, hV]; unfold valueN; simp)
  obtain ⟨row, hrow⟩ : ∃ row, row = Rw.str l := ⟨_, rfl⟩
  rw [← hrow] at hsz HV ⊢
  clear hrow hV
  obtain ⟨w0, hw0⟩ : ∃ w0, w0 = w.alloc (.cells #[.int .i64 1, .int .i64 (a : Int), .int .i64 (b : Int), .int .i64 d] 64) := ⟨_, rfl⟩
  obtain ⟨pb, hpb⟩ : ∃ pb, pb = w.heap.size := ⟨_, rfl⟩
  rw [← hw0] at HB HX
  rw [← hpb] at HX
  obtain ⟨c0, c1, c2, c3⟩ := HX.out
  go_enter Try.func67, Try.ntmps67
  go_wp2_with fail
  rw [← hw0, ← hpb]
  clear hw0 hpb
  go_wp2_with fail
  go_at_call 77
  refine (HC.out _ _).mono ?_
  rintro e w' ⟨rfl, rfl⟩
  rw [HV.out]
  go_wp2
  go_ret
  exact ⟨rfl, HB.out⟩

set_option maxHeartbeats 4000000 in
theorem toldBy_2 (a b : Nat) (d : Int) (l : List Bool) (h1 : 1 ≤ l.length) (h2 : l.length ≤ 8) (w : World) :
    Calls Try.prog 67 #[.agg #[.int .i64 2, .int .i64 (a : Int), .int .i64 (b : Int), .int .i64 d], .string (Rw.str l)] w fun e w' => e = .returned (.int .i64 (valueN 2 a b l : Nat)) ∧ Below w.heap.size w w' := by
  have HB : Hid (Below w.heap.size w (w.alloc (.cells #[.int .i64 2, .int .i64 (a : Int), .int .i64 (b : Int), .int .i64 d] 64))) := Lib.hid ((Below.refl _ _).alloc (Nat.le_refl _) _)
  have HX : Hid (BoxClue (w.alloc (.cells #[.int .i64 2, .int .i64 (a : Int), .int .i64 (b : Int), .int .i64 d] 64)) w.heap.size 2 (a : Int) (b : Int) d) := Lib.hid (boxClue_new w 2 (a : Int) (b : Int) d)
  obtain ⟨V, hV⟩ : ∃ V, V = valueN 2 a b l := ⟨_, rfl⟩
  rw [← hV]
  have hsz : (Rw.str l).size = l.length := Rw.size_str l
  have HA := Lib.hid (fun w2 => Tp.implTicks_yes l h1 (by omega) w2)
  have hv : Rw.ticksOf l = V := by rw [hV]; unfold valueN; simp
  rw [hv] at HA
  obtain ⟨row, hrow⟩ : ∃ row, row = Rw.str l := ⟨_, rfl⟩
  rw [← hrow] at HA hsz ⊢
  clear hrow hV hv
  obtain ⟨w0, hw0⟩ : ∃ w0, w0 = w.alloc (.cells #[.int .i64 2, .int .i64 (a : Int), .int .i64 (b : Int), .int .i64 d] 64) := ⟨_, rfl⟩
  obtain ⟨pb, hpb⟩ : ∃ pb, pb = w.heap.size := ⟨_, rfl⟩
  rw [← hw0] at HB HX
  rw [← hpb] at HX
  obtain ⟨c0, c1, c2, c3⟩ := HX.out
  go_enter Try.func67, Try.ntmps67
  go_wp2_with fail
  rw [← hw0, ← hpb]
  clear hw0 hpb
  go_wp2_with fail
  go_at_call 78
  refine (HA.out _).mono ?_
  rintro e w2 ⟨rfl, b2⟩
  have B2 : Hid (Below w.heap.size w w2) := Lib.hid (HB.out.trans (b2.mono HB.out.size))
  clear b2
  go_wp2
  go_ret
  exact ⟨rfl, B2.out⟩

set_option maxHeartbeats 4000000 in
theorem toldBy_3 (a b : Nat) (d : Int) (l : List Bool) (h1 : 1 ≤ l.length) (h2 : l.length ≤ 8) (w : World) :
    Calls Try.prog 67 #[.agg #[.int .i64 3, .int .i64 (a : Int), .int .i64 (b : Int), .int .i64 d], .string (Rw.str l)] w fun e w' => e = .returned (.int .i64 (valueN 3 a b l : Nat)) ∧ Below w.heap.size w w' := by
  have HB : Hid (Below w.heap.size w (w.alloc (.cells #[.int .i64 3, .int .i64 (a : Int), .int .i64 (b : Int), .int .i64 d] 64))) := Lib.hid ((Below.refl _ _).alloc (Nat.le_refl _) _)
  have HX : Hid (BoxClue (w.alloc (.cells #[.int .i64 3, .int .i64 (a : Int), .int .i64 (b : Int), .int .i64 d] 64)) w.heap.size 3 (a : Int) (b : Int) d) := Lib.hid (boxClue_new w 3 (a : Int) (b : Int) d)
  obtain ⟨V, hV⟩ : ∃ V, V = valueN 3 a b l := ⟨_, rfl⟩
  rw [← hV]
  have hsz : (Rw.str l).size = l.length := Rw.size_str l
  have HA := Lib.hid (fun w2 => Tp.implFacingPairs_yes l h1 (by omega) w2)
  have HV : Hid ((asInts (Rw.pairs l)).length = V) := Lib.hid (by rw [asInts_len, hV]; unfold valueN; simp)
  obtain ⟨row, hrow⟩ : ∃ row, row = Rw.str l := ⟨_, rfl⟩
  rw [← hrow] at HA hsz ⊢
  clear hrow hV
  obtain ⟨w0, hw0⟩ : ∃ w0, w0 = w.alloc (.cells #[.int .i64 3, .int .i64 (a : Int), .int .i64 (b : Int), .int .i64 d] 64) := ⟨_, rfl⟩
  obtain ⟨pb, hpb⟩ : ∃ pb, pb = w.heap.size := ⟨_, rfl⟩
  rw [← hw0] at HB HX
  rw [← hpb] at HX
  obtain ⟨c0, c1, c2, c3⟩ := HX.out
  go_enter Try.func67, Try.ntmps67
  go_wp2_with fail
  rw [← hw0, ← hpb]
  clear hw0 hpb
  go_wp2_with fail
  go_at_call 79
  refine (HA.out _).mono ?_
  rintro e w2 ⟨v, rfl, o2, b2⟩
  have B2 : Hid (Below w.heap.size w w2) := Lib.hid (HB.out.trans (b2.mono HB.out.size))
  obtain ⟨va, vc, rfl⟩ := o2.any
  rw [HV.out]
  clear b2 o2
  go_wp2
  go_ret
  exact ⟨rfl, B2.out⟩

set_option maxHeartbeats 4000000 in
theorem toldBy_4 (a b : Nat) (d : Int) (l : List Bool) (h1 : 1 ≤ l.length) (h2 : l.length ≤ 8) (ha : a < l.length) (w : World) :
    Calls Try.prog 67 #[.agg #[.int .i64 4, .int .i64 (a : Int), .int .i64 (b : Int), .int .i64 d], .string (Rw.str l)] w fun e w' => e = .returned (.int .i64 (valueN 4 a b l : Nat)) ∧ Below w.heap.size w w' := by
  have HB : Hid (Below w.heap.size w (w.alloc (.cells #[.int .i64 4, .int .i64 (a : Int), .int .i64 (b : Int), .int .i64 d] 64))) := Lib.hid ((Below.refl _ _).alloc (Nat.le_refl _) _)
  have HX : Hid (BoxClue (w.alloc (.cells #[.int .i64 4, .int .i64 (a : Int), .int .i64 (b : Int), .int .i64 d] 64)) w.heap.size 4 (a : Int) (b : Int) d) := Lib.hid (boxClue_new w 4 (a : Int) (b : Int) d)
  obtain ⟨V, hV⟩ : ∃ V, V = valueN 4 a b l := ⟨_, rfl⟩
  rw [← hV]
  have hsz : (Rw.str l).size = l.length := Rw.size_str l
  have HA := Lib.hid (fun w2 => Tp.implTurnsOfEach_yes l h1 (by omega) w2)
  have HV : Hid ((asInts (Rw.turnsOf l (List.replicate l.length 0))).getD a 0 = (V : Int)) := Lib.hid (by rw [turns_zero a l ha, hV]; unfold valueN; simp)
  have HL : Hid ((asInts (Rw.turnsOf l (List.replicate l.length 0))).length = l.length) := Lib.hid (by rw [asInts_len, Rw.length_turnsOf, List.length_replicate])
  obtain ⟨zs, hzs⟩ : ∃ zs, zs = asInts (Rw.turnsOf l (List.replicate l.length 0)) := ⟨_, rfl⟩
  rw [← hzs] at HA HV HL
  obtain ⟨row, hrow⟩ : ∃ row, row = Rw.str l := ⟨_, rfl⟩
  rw [← hrow] at HA hsz ⊢
  obtain ⟨n, hn⟩ : ∃ n, n = l.length := ⟨_, rfl⟩
  rw [← hn] at HL h1 h2 ha hsz
  clear hrow hV hzs hn
  obtain ⟨w0, hw0⟩ : ∃ w0, w0 = w.alloc (.cells #[.int .i64 4, .int .i64 (a : Int), .int .i64 (b : Int), .int .i64 d] 64) := ⟨_, rfl⟩
  obtain ⟨pb, hpb⟩ : ∃ pb, pb = w.heap.size := ⟨_, rfl⟩
  rw [← hw0] at HB HX
  rw [← hpb] at HX
  obtain ⟨c0, c1, c2, c3⟩ := HX.out
  go_enter Try.func67, Try.ntmps67
  go_wp2_with fail
  rw [← hw0, ← hpb]
  clear hw0 hpb
  go_wp2_with fail
  go_at_call 80
  refine (HA.out _).mono ?_
  rintro e w2 ⟨v, rfl, o2, b2⟩
  have B2 : Hid (Below w.heap.size w w2) := Lib.hid (HB.out.trans (b2.mono HB.out.size))
  have HX2 := Lib.hid (HX.out.below b2)
  obtain ⟨g, vc, rfl, _, _⟩ := o2.point (by have := HL.out; omega)
  have e1 := o2.cell rfl a (by have := HL.out; omega)
  rw [HV.out] at e1
  rw [HL.out]
  have i1 : (0 : Int) ≤ (a : Int) := by omega
  have i2 : (a : Int) < (n : Int) := by omega
  clear c0 c1 c2 c3 b2 o2 HX
  obtain ⟨c0, c1, c2, c3⟩ := HX2.out
  go_wp2
  go_ret
  exact ⟨rfl, B2.out⟩

theorem toldBy_any (k a b : Nat) (d : Int) (l : List Bool) (h1 : 1 ≤ l.length) (h2 : l.length ≤ 8) (h4 : k ≤ 4) (ha : a < l.length) (hb : b ≤ 20) (w : World) :
    Calls Try.prog 67 #[.agg #[.int .i64 (k : Int), .int .i64 (a : Int), .int .i64 (b : Int), .int .i64 d], .string (Rw.str l)] w fun e w' => e = .returned (.int .i64 (valueN k a b l : Nat)) ∧ Below w.heap.size w w' := by
  rcases k with _ | _ | _ | _ | _ | k
  · exact toldBy_0 a b d l h1 h2 ha hb w
  · exact toldBy_1 a b d l h1 h2 w
  · exact toldBy_2 a b d l h1 h2 w
  · exact toldBy_3 a b d l h1 h2 w
  · exact toldBy_4 a b d l h1 h2 ha w
  · omega

end Go.Proofs.Ytodlpdbmiicdfab
