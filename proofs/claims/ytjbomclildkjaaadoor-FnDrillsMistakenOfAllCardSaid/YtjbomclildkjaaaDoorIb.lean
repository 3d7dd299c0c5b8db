/- Chapter 4, the program: AreCommands, netTurn, NetTurn, ShortCommands, RepeatsToFront, AreFacing. -/
import Derived.Test.YtjbomclildkjaaaDoorIa
namespace Go.Proofs.YtjbomclildkjaaaDoor
open Go.ChangeShapes Go.WideShapes Go.ChangeAt Go.RowKit
open Dr

theorem Tab_signOfTurn.iter {w : World} (h : Tab_signOfTurn w) (s : ByteArray) (k : Nat) : Tab_signOfTurn (w.iter s k) := h.below ((Below.refl _ w).alloc (Nat.le_refl _) _)
theorem below_iter (w : World) (s : ByteArray) (k : Nat) : Below w.heap.size w (w.iter s k) := (Below.refl _ w).alloc (Nat.le_refl _) _
theorem turnI_high {z : Int} (h : 128 ≤ z) : turnI z = -1 := by unfold turnI; rw [if_neg (by omega), if_neg (by omega), if_neg (by omega), if_neg (by omega)]

set_option maxRecDepth 20000 in
set_option maxHeartbeats 2000000 in
theorem implAreCommands_any (w : World) (s : ByteArray) (_ws : s.size ≤ maxLen) (_hs : s.size ≤ 1048576) (hT : Tab_signOfTurn w) :
    Calls Tryd.prog 21 #[.string s] w fun e w' => e = .returned (.bool (outAreCommands_0 s)) ∧ Below w.heap.size w w' := by
  clear _ws _hs
  by_cases h60 : s.size ≤ 60
  · have hgt : ¬ 60 < (s.size : Int) := by omega
    have HT := Lib.hid hT
    clear hT
    go_enter Tryd.func21, Tryd.ntmps21
    go_wp2
    go_loopw [4] (fun _ w' => ∃ k : Nat, k ≤ s.size ∧ w' = w.iter s k ∧ Hid (eachTo (fun b => decide (0 ≤ turnI (b.toNat : Int))) s k)) (fun _ w' => s.size - w'.iterPos w.heap.size)
    case atStart => exact ⟨0, Nat.zero_le _, rfl, Lib.hid (fun _ _ h => absurd h (Nat.not_lt_zero _))⟩
    case round =>
      obtain ⟨k, hk, rfl, HK⟩ := hrel
      by_cases hlt : k < s.size
      · by_cases ha : (s[k]'hlt).toNat < 128
        · have hnx : ∀ ty, (Instr.next (.pointer (some ⟨w.heap.size, 0, none⟩)) true ty).run Tryd.prog (w.iter s k) = _ := fun ty => run_next_ascii w s k ty hlt ha
          have HC := Lib.hid (turnOf_any (s[k].toNat : Int) _ (HT.out.iter s (k + 1)))
          by_cases hp : 0 ≤ turnI (s[k].toNat : Int)
          · have HK2 := Lib.hid (eachTo_succ hlt HK.out (decide_eq_true hp))
            have hneg : ¬ turnI (s[k].toNat : Int) < 0 := by omega
            obtain ⟨z, hz⟩ : ∃ z, z = turnI (s[k].toNat : Int) := ⟨_, rfl⟩
            rw [← hz] at HC hp hneg
            clear hz
            go_wp2_with (go_at_call 64; refine HC.out.mono ?_; rintro e w' ⟨rfl, rfl⟩)
            go_roundw
            case rel => exact ⟨k + 1, by omega, rfl, HK2⟩
            case measure =>
              simp
              omega
          · have HF : Hid (outAreCommands_0 s = false) := Lib.hid (by unfold outAreCommands_0 wordB; rw [each_not hlt (decide_eq_false hp), Bool.and_false])
            have hneg : turnI (s[k].toNat : Int) < 0 := by omega
            obtain ⟨z, hz⟩ : ∃ z, z = turnI (s[k].toNat : Int) := ⟨_, rfl⟩
            rw [← hz] at HC hp hneg
            clear hz
            go_wp2_with (go_at_call 64; refine HC.out.mono ?_; rintro e w' ⟨rfl, rfl⟩)
            go_ret
            exact ⟨ret_bool (by rw [HF.out]), below_iter _ _ _⟩
        · have hnx : ∀ ty, (Instr.next (.pointer (some ⟨w.heap.size, 0, none⟩)) true ty).run Tryd.prog (w.iter s k) = _ := fun ty => run_next_any w s k ty hlt
          have HF : Hid (outAreCommands_0 s = false) := Lib.hid (by
            unfold outAreCommands_0 wordB
            rw [each_not hlt (decide_eq_false (by rw [turnI_high (by omega)]; omega)), Bool.and_false])
          have hhi := (decode_high s k hlt (by omega)).1
          obtain ⟨r, hr⟩ : ∃ r, r = (Utf8.decode s k).1 := ⟨_, rfl⟩
          obtain ⟨n, hn⟩ : ∃ r, r = (Utf8.decode s k).2 := ⟨_, rfl⟩
          rw [← hr] at hhi
          rw [← hr, ← hn] at hnx
          have HC := Lib.hid (turnOf_any (r : Int) _ (HT.out.iter s (k + n)))
          rw [turnI_high (by omega)] at HC
          clear hr hn ha
          go_wp2_with (go_at_call 64; refine HC.out.mono ?_; rintro e w' ⟨rfl, rfl⟩)
          go_ret
          exact ⟨ret_bool (by rw [HF.out]), below_iter _ _ _⟩
      · have HF : Hid (outAreCommands_0 s = true) := Lib.hid (by
          unfold outAreCommands_0 wordB
          rw [decide_eq_true h60, Bool.true_and]
          exact each_to (by rw [show s.size = k from by omega]; exact HK.out))
        have hnx : ∀ ty, (Instr.next (.pointer (some ⟨w.heap.size, 0, none⟩)) true ty).run Tryd.prog (w.iter s k) = _ := fun ty => run_next_end w s k ty hlt
        go_wp2
        go_ret
        exact ⟨ret_bool (by rw [HF.out]), below_iter _ _ _⟩
  · have hgt : 60 < (s.size : Int) := by omega
    have HF : Hid (outAreCommands_0 s = false) := Lib.hid (by unfold outAreCommands_0 wordB; rw [decide_eq_false h60, Bool.false_and])
    clear hT
    go_enter Tryd.func21, Tryd.ntmps21
    go_wp2
    go_ret
    exact ⟨ret_bool (by rw [HF.out]), Below.refl _ _⟩

theorem word_ascii (ts : List Nat) (k : Nat) (hk : k < (word ts).size) : ((word ts)[k]).toNat < 128 := by
  have hk' : k < ts.length := by rw [size_word] at hk; exact hk
  have e : (word ts)[k] = sg (ts.getD k 0) := by
    have := txt_get (ts.map sg) k hk
    rw [getD_mapZ _ _ _ hk'] at this
    exact this
  rw [e]
  unfold sg
  split
  · decide
  · split
    · decide
    · split <;> decide
set_option maxRecDepth 20000 in
set_option maxHeartbeats 2000000 in
theorem netTurn_any (ts : List Nat) (w : World) (hl : ts.length ≤ 60) (h : ∀ t ∈ ts, t < 4) (hT : Tab_signOfTurn w) :
    Calls Tryd.prog 59 #[.string (word ts)] w fun e w' => e = .returned (.int .i64 (net ts : Nat)) ∧ Below w.heap.size w w' := by
  have HB := Lib.hid (word_byte ts h)
  have HA := Lib.hid (word_ascii ts)
  have HL := Lib.hid (sumTo_le ts h)
  have hz : (word ts).size ≤ 60 := by rw [size_word]; exact hl
  have HG := Lib.hid (getD_lt h (by omega))
  have HN : Hid (net ts = sumTo ts (word ts).size % 4) := Lib.hid (by unfold net; rw [size_word])
  obtain ⟨s, hs⟩ : ∃ s, s = word ts := ⟨_, rfl⟩
  rw [← hs] at hz HN ⊢
  have HBS : Hid (∀ k, (hk : k < s.size) → turnI ((s[k]).toNat : Int) = ((ts.getD k 0 : Nat) : Int)) := Lib.hid (by subst hs; exact HB.out)
  have HAS : Hid (∀ k, (hk : k < s.size) → (s[k]).toNat < 128) := Lib.hid (by subst hs; exact HA.out)
  have HT := Lib.hid hT
  clear hs h hl HB HA hT
  go_enter Tryd.func59, Tryd.ntmps59
  go_wp2
  go_loopw [3, 5] (fun t _ w' => ∃ k : Nat, k ≤ s.size ∧ w' = w.iter s k ∧ t = .int .i64 (sumTo ts k : Nat)) (fun _ _ w' => s.size - w'.iterPos w.heap.size)
  case atStart => exact ⟨0, Nat.zero_le _, rfl, rfl⟩
  case round =>
    obtain ⟨k, hk, rfl, rfl⟩ := hrel
    have hle := HL.out k
    by_cases hlt : k < s.size
    · have hnx : ∀ ty, (Instr.next (.pointer (some ⟨w.heap.size, 0, none⟩)) true ty).run Tryd.prog (w.iter s k) = _ := fun ty => run_next_ascii w s k ty hlt (HAS.out k hlt)
      have HC := Lib.hid (turnOf_any (s[k].toNat : Int) _ (HT.out.iter s (k + 1)))
      rw [HBS.out k hlt] at HC
      have HSK : Hid (sumTo ts (k + 1) = sumTo ts k + ts.getD k 0) := rfl
      have hg := HG.out k
      obtain ⟨x, hx⟩ : ∃ x, x = ts.getD k 0 := ⟨_, rfl⟩
      obtain ⟨m, hm⟩ : ∃ x, x = sumTo ts k := ⟨_, rfl⟩
      rw [← hx] at HC HSK hg
      rw [← hm] at HSK hle ⊢
      clear hx hm
      go_wp2_with (go_at_call 64; refine HC.out.mono ?_; rintro e w' ⟨rfl, rfl⟩)
      go_roundw
      case rel => exact ⟨k + 1, by omega, rfl, int_eq (by rw [HSK.out]; simp)⟩
      case measure =>
        simp
        omega
    · obtain rfl : k = s.size := by omega
      have hnx : ∀ ty, (Instr.next (.pointer (some ⟨w.heap.size, 0, none⟩)) true ty).run Tryd.prog (w.iter s s.size) = _ := fun ty => run_next_end w s s.size ty hlt
      go_wp2
      go_ret
      exact ⟨ret_int (by rw [HN.out]; simp), below_iter _ _ _⟩

set_option maxRecDepth 20000 in
set_option maxHeartbeats 1000000 in
theorem implNetTurn_any (w : World) (s : ByteArray) (_ws : s.size ≤ maxLen) (hls : s.size ≤ 1048576) (hT : Tab_signOfTurn w) :
    Calls Tryd.prog 11 #[.string s] w fun e w' => e = .returned (.tuple #[.int .i64 (outNetTurn_0 s), .bool (outNetTurn_1 s)]) ∧ Below w.heap.size w w' := by
  have HG00 := Lib.hid (implAreCommands_any w s _ws hls hT)
  clear _ws
  rcases hb0 : wordB s with _ | _
  · have H0 : Hid (outNetTurn_0 s = 0 ∧ outNetTurn_1 s = false) := Lib.hid (by unfold outNetTurn_0 outNetTurn_1; rw [hb0]; exact ⟨rfl, rfl⟩)
    rw [show outAreCommands_0 s = false from hb0] at HG00
    clear hb0 hT
    go_enter Tryd.func11, Tryd.ntmps11
    go_wp2_with (go_at_call 21; refine HG00.out.mono ?_; rintro e w1 ⟨rfl, b1⟩)
    go_ret2
    exact ⟨by rw [H0.out.1, H0.out.2]; exact rfl, b1⟩
  · obtain ⟨ts, rfl, h1, h2⟩ := word_of hb0
    rw [show outAreCommands_0 (word ts) = true from hb0] at HG00
    have H0 : Hid (outNetTurn_0 (word ts) = (net ts : Nat) ∧ outNetTurn_1 (word ts) = true) := Lib.hid (by unfold outNetTurn_0 outNetTurn_1; rw [hb0, tsOf_word h2]; exact ⟨rfl, rfl⟩)
    have HN := Lib.hid (fun w2 (hb : Below w.heap.size w w2) => netTurn_any ts w2 h1 h2 (hT.below hb))
    obtain ⟨s, hs⟩ : ∃ s, s = word ts := ⟨_, rfl⟩
    obtain ⟨n, hn⟩ : ∃ s, s = net ts := ⟨_, rfl⟩
    rw [← hs] at HN H0 HG00 ⊢
    rw [← hn] at HN H0
    clear hb0 hs hn h2 hT
    go_enter Tryd.func11, Tryd.ntmps11
    go_wp2_with fail
    go_at_call 21
    refine HG00.out.mono ?_
    rintro e w1 ⟨rfl, b1⟩
    have y1 := b1.size
    go_wp2_with (go_at_call 59; refine (HN.out _ b1).mono ?_; rintro e w2 ⟨rfl, b2⟩)
    go_ret2
    exact ⟨by rw [H0.out.1, H0.out.2]; exact rfl, b1.trans (b2.mono y1)⟩

end Go.Proofs.YtjbomclildkjaaaDoor
