/- Chapter 5: the model's spBeats, BeatsOf. -/
import Derived.Test.YthnbimfdodfhoabDoorPa
import Derived.Test.YthnbimfdodfhoabDoorNum
namespace Go.Proofs.YthnbimfdodfhoabDoor
open Go.ChangeShapes Go.WideShapes Go.ChangeAt Go.RowKit
open Dr Pa

namespace Pa
/-- the digits of how many step at the first k times -/
def beatTo (f : Nat → Nat) : Nat → ByteArray
  | 0 => ByteArray.empty
  | k + 1 => beatTo f k ++ txt (numL (f k))
theorem size_beatTo {f : Nat → Nat} (h : ∀ t, f t ≤ 6) : ∀ k, (beatTo f k).size = k
  | 0 => rfl
  | k + 1 => by
    rw [beatTo, ByteArray.size_append, size_beatTo h k, size_txt, numL_small (by have := h k; omega)]; rfl
def beatsB (ps : List RPace) (n : Int) : Bool := goodP ps && inB n 0 200
end Pa
def outBeatsOf_0 (ps : List RPace) (n : Int) : ByteArray := if beatsB ps n then beatTo (many (toQ ps)) n.toNat else ByteArray.empty
def outBeatsOf_1 (ps : List RPace) (n : Int) : Bool := beatsB ps n

set_option maxHeartbeats 2000000 in
theorem spBeats_any (w : World) (a : Option Addr) (len cap : Nat) (qs : List (Nat × Nat)) (n : Nat) (hn : n ≤ 200) (hg : GoodQ qs) (hc : CameQ w a len qs) :
    Calls Tryd.prog 19 #[.slice a len cap, .int .i64 n] w fun e w' => e = .returned (.string (beatTo (many qs) n)) ∧ Below w.heap.size w w' := by
  have HT := Lib.hid (fun w2 (t : Nat) (ht : t ≤ 1000000000000) (h : Below w.heap.size w w2) => spAt_any w2 a len cap qs t ht hg (hc.below h))
  have HML := Lib.hid (fun t => Nat.le_trans (many_le qs t) hg.few)
  clear hc hg
  go_enter Tryd.func19, Tryd.ntmps19
  go_wp2
  go_loopw [5, 6] (fun c i wr => ∃ (k : Nat) (p : ByteArray), k ≤ n ∧ p.size ≤ 200 ∧ i = .int .i64 (k : Int) ∧ c = .string p ∧ Hid (p = beatTo (many qs) k) ∧ Hid (Below w.heap.size w wr)) (fun _ i _ => n - (intOf i).toNat)
  case atStart => exact ⟨0, ByteArray.empty, Nat.zero_le _, Nat.zero_le _, rfl, rfl, Lib.hid rfl, Lib.hid (Below.refl _ _)⟩
  case round =>
    obtain ⟨k, p, hk, hps, rfl, rfl, HS, HB⟩ := hrel
    by_cases hlt : k < n
    · have HT2 := Lib.hid (HT.out wr k (by omega) HB.out)
      have hmk : many qs k ≤ 6 := HML.out k
      have HL : Hid ((onL qs k).length = many qs k) := Lib.hid rfl
      have HZ : Hid (beatTo (many qs) (k + 1) = p ++ txt (numL (many qs k))) := Lib.hid (by rw [beatTo, ← HS.out])
      have hz2 : (p ++ txt (numL (many qs k))).size = k + 1 := by rw [← HZ.out, size_beatTo HML.out]
      have HN := Lib.hid (fun w2 => l1Num_any (many qs k) (by omega) w2)
      obtain ⟨z, hz⟩ : ∃ z, z = many qs k := ⟨_, rfl⟩
      rw [← hz] at hmk HL HZ HN hz2
      obtain ⟨q, hq⟩ : ∃ q, q = txt (numL z) := ⟨_, rfl⟩
      have hqs : q.size ≤ 200 := by rw [ByteArray.size_append, ← hq] at hz2; omega
      rw [← hq] at HZ HN hz2
      have hz3 : (p ++ q).size ≤ 200 := by omega
      clear hz hq hz2
      go_wp2_with fail
      go_at_call 34
      refine HT2.out.mono ?_
      rintro e w3 ⟨v, rfl, o4, b4⟩
      have B4 : Hid (Below w.heap.size w w3) := Lib.hid (HB.out.trans (b4.mono HB.out.size))
      obtain ⟨ao, cp, rfl⟩ := o4.any
      rw [HL.out]
      clear o4 b4
      go_wp2_with fail
      go_at_call 33
      refine (HN.out _).mono ?_
      rintro e w4 ⟨rfl, b5⟩
      have B5 : Hid (Below w.heap.size w w4) := Lib.hid (B4.out.trans (b5.mono B4.out.size))
      clear b5
      go_wp2
      go_roundw
      case rel => exact ⟨k + 1, p ++ q, by omega, hz3, by go_num, rfl, Lib.hid HZ.out.symm, B5⟩
      case measure => simp [intOf]; omega
    · have HF : Hid (p = beatTo (many qs) n) := Lib.hid (by rw [show n = k by omega]; exact HS.out)
      go_wp2
      go_ret
      exact ⟨by rw [← HF.out]; exact rfl, HB.out⟩


end Go.Proofs.YthnbimfdodfhoabDoor
