/- The verifier's markText. -/
import Derived.Test.YtodlpdbmiicdfaaOwn
import Derived.Laws.BytesArg
namespace Go.Proofs.Ytodlpdbmiicdfaa
open Go.ChangeShapes Go.WideShapes Go.ChangeAt Go.RowKit

/-- a number's digits -/
def digits : Nat → Nat → List Int
  | 0, _ => []
  | f + 1, k => if k = 0 then [] else digits f (k / 10) ++ [48 + ((k % 10 : Nat) : Int)]
def markOf (k : Nat) : ByteArray := strOfNums (109 :: digits k k)
theorem digits_more : ∀ (f k : Nat) (r : List Int), 0 < k → digits f (k / 10) ++ ((48 + ((k % 10 : Nat) : Int)) :: r) = digits (f + 1) k ++ r := by
  intro f k r hk
  rw [digits, if_neg (by omega), List.append_assoc]; rfl
theorem digits_fuel : ∀ (f g k : Nat), k ≤ f → k ≤ g → digits f k = digits g k := by
  intro f
  induction f with
  | zero =>
    intro g k h1 h2
    obtain rfl : k = 0 := by omega
    cases g with
    | zero => rfl
    | succ g => rw [digits, digits, if_pos rfl]
  | succ f ih =>
    intro g k h1 h2
    by_cases hk : k = 0
    · subst hk
      cases g with
      | zero => rw [digits, digits, if_pos rfl]
      | succ g => rw [digits, digits, if_pos rfl, if_pos rfl]
    · cases g with
      | zero => omega
      | succ g => rw [digits, digits, if_neg hk, if_neg hk, ih g (k / 10) (by omega) (by omega)]
theorem digits_step (k : Nat) (hk : 0 < k) (r : List Int) : digits (k / 10) (k / 10) ++ ((48 + ((k % 10 : Nat) : Int)) :: r) = digits k k ++ r := by
  obtain ⟨f, rfl⟩ : ∃ f, k = f + 1 := ⟨k - 1, by omega⟩
  rw [digits_fuel ((f + 1) / 10) f _ (by omega) (by omega)]
  exact digits_more f (f + 1) r hk
theorem strOfNums_append (a b : List Int) : strOfNums a ++ strOfNums b = strOfNums (a ++ b) := by
  apply ByteArray.ext
  apply Array.ext'
  simp [strOfNums, ByteArray.data_append]
@[simp] theorem size_strOfNums (a : List Int) : (strOfNums a).size = a.length := strOfNums_size a
theorem str_cons {x : Int} {o : ByteArray} {r : List Int} (ho : o = strOfNums r) : Value.string (strOfNums [x] ++ o) = .string (strOfNums (x :: r)) := by
  rw [ho, strOfNums_append]; rfl
theorem digits_len : ∀ (f k : Nat), (digits f k).length ≤ f
  | 0, _ => by simp [digits]
  | f + 1, k => by
    rw [digits]
    split
    · simp
    · have := digits_len f (k / 10)
      simp; omega

set_option maxHeartbeats 1000000 in
theorem markText_any (k : Nat) (hk : 0 < k) (hk2 : k ≤ 100000000) (w : World) :
    Calls Try.prog 63 #[.int .i64 (k : Int)] w fun e w' => e = .returned (.string (markOf k)) ∧ Below w.heap.size w w' := by
  go_enter Try.func63, Try.ntmps63
  go_wp2
  go_loopw [0, 3] (fun q o wr => ∃ (kj : Nat) (r : List Int), kj ≤ 100000000 ∧ q = .int .i64 (kj : Int) ∧ o = .string (strOfNums r) ∧ digits kj kj ++ r = digits k k ∧ r.length ≤ 100000000 ∧ Below w.heap.size w wr) (fun q _ _ => (intOf q).toNat)
  case atStart => exact ⟨k, [], by omega, rfl, rfl, List.append_nil _, by simp, Below.refl _ _⟩
  case round =>
    obtain ⟨kj, r, hkj, rfl, rfl, hd, hr, hb⟩ := hrel
    obtain ⟨o, ho⟩ : ∃ o, o = strOfNums r := ⟨_, rfl⟩
    rw [← ho]
    have hos : o.size ≤ 100000000 := by rw [ho, size_strOfNums]; exact hr
    have HO := Lib.hid ho
    have HD := Lib.hid hd
    have HB := Lib.hid hb
    have hz := hb.size
    clear ho hd hb
    by_cases h0 : 0 < kj
    · have HS := Lib.hid (digits_step kj h0 r)
      have hm : (kj : Int) % 10 = ((kj % 10 : Nat) : Int) := by omega
      obtain ⟨d, hdd⟩ : ∃ d, d = kj % 10 := ⟨_, rfl⟩
      rw [← hdd] at HS hm
      have hd9 : d ≤ 9 := by omega
      have HE : Hid (digits (kj / 10) (kj / 10) ++ ((48 + (d : Int)) :: r) = digits k k) := by rw [HS.out]; exact HD.out
      have HL : Hid (((48 + (d : Int)) :: r).length ≤ 100000000) := by
        have h1 := congrArg List.length HE.out
        have h2 := digits_len k k
        rw [List.length_append] at h1
        exact Lib.hid (by omega)
      have hconv := run_convert_bytes_arg (P := Try.prog) (wr.alloc (.cells #[.int .u8 (48 + (d : Int))] 5)) 101 5 Try.underlying101 Try.underlying5 wr.heap.size 0 1 1 [48 + (d : Int)] rfl (fun i hi => by
        obtain rfl : i = 0 := by omega
        simp) 9 Try.underlying9
      clear hdd hr
      go_wp2
      go_roundw
      case rel => exact ⟨kj / 10, (48 + (d : Int)) :: r, by omega, int_eq (by omega), str_cons HO.out, by rw [HE.out], HL.out, HB.out.alloc (by omega) _⟩
      case measure => simp [intOf]; omega
    · have hk0 : kj = 0 := by omega
      subst hk0
      have HF : Hid (strOfNums [109] ++ o = markOf k) := by
        rw [HO.out, strOfNums_append]
        unfold markOf
        rw [← HD.out]; exact rfl
      go_wp2
      go_ret
      exact ⟨ret_str HF.out, HB.out⟩

end Go.Proofs.Ytodlpdbmiicdfaa
