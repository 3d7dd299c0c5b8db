/- Lists of texts that came in: places, mTexts at one list, mText at one that is there. -/
import Derived.Test.YtacchefmblfobaaSs
namespace Go.Proofs.Ytacchefmblfobaa
open Go.ChangeShapes Go.WideShapes Go.ChangeAt Go.RowKit
def CameT (w : World) (a : Option Addr) (len : Nat) (zs : List ByteArray) : Prop := zs.length = len ∧ (0 < len → ∃ b off, a = some ⟨b, off, none⟩ ∧ ∀ j, j < len → w.cell? ⟨b, off + j, none⟩ = some (.string (zs.getD j ByteArray.empty)))
theorem CameT.below {w w' : World} {a : Option Addr} {len : Nat} {zs : List ByteArray} (h : CameT w a len zs) (hb : Below w.heap.size w w') : CameT w' a len zs := by
  refine ⟨h.1, fun hp => ?_⟩
  obtain ⟨b, o, e, hc⟩ := h.2 hp
  exact ⟨b, o, e, fun j hj => (hb.cell (World.block_lt_of_cell? w _ (hc j hj))).trans (hc j hj)⟩
namespace Sp
theorem idx_str {w : World} {b o l c : Nat} {k : IntKind} {n : Int} (j : Nat) (hn : n = (j : Int)) (hj : j < l) :
    (Instr.indexAt 46 (.slice (some ⟨b, o, none⟩) l c) (.int k n)).run Try.prog w = .ok (.pointer (some ⟨b, o + j, none⟩)) w := by
  subst hn
  have h2 : (j : Int) < (l : Int) := by omega
  simp [go_sem, h2, Addr.add_lit]
theorem load_str {w : World} {a : Addr} {z : ByteArray} (h : w.cell? a = some (.string z)) : (Instr.loadAt 9 (.pointer (some a))).run Try.prog w = .ok (.string z) w := by
  simp [go_sem, h]
theorem came_idxT {w : World} {a : Option Addr} {l c : Nat} {zs : List ByteArray} {k : IntKind} {n : Int} (h : CameT w a l zs) (j : Nat) (hj : j < l) (hn : n = (j : Int)) :
    ∃ p, ∀ w', Below w.heap.size w w' → (Instr.indexAt 46 (.slice a l c) (.int k n)).run Try.prog w' = .ok p w' ∧ (Instr.loadAt 9 p).run Try.prog w' = .ok (.string (zs.getD j ByteArray.empty)) w' := by
  obtain ⟨_, h2⟩ := h
  obtain ⟨b, o, rfl, h3⟩ := h2 (by omega)
  exact ⟨_, fun w' hb => ⟨idx_str j hn hj, load_str ((hb.cell (World.block_lt_of_cell? w _ (h3 j hj))).trans (h3 j hj))⟩⟩
end Sp
set_option maxRecDepth 20000 in
set_option maxHeartbeats 2000000 in
theorem mTexts_same (w : World) (a b : Option Addr) (la ca cb : Nat) (zs : List ByteArray) (h1 : la ≤ 4611686018427387904) (ha : CameT w a la zs) (hb : CameT w b la zs) :
    Calls Try.prog 47 #[.slice a la ca, .slice b la cb] w fun e w' => e = .returned (.bool true) ∧ Below w.heap.size w w' := by
  have HA := Lib.hid ha
  have HB := Lib.hid hb
  clear ha hb
  go_enter Try.func47, Try.ntmps47
  go_wp2
  go_loopw [13] (fun i wr => ∃ k : Nat, k ≤ la ∧ i = .int .i64 (k : Int) ∧ Hid (∃ m, wr = w.drewN m)) (fun i _ => la - (intOf i).toNat)
  case atStart => exact ⟨0, Nat.zero_le _, rfl, Lib.hid ⟨0, rfl⟩⟩
  case round =>
    obtain ⟨k, hk, rfl, HM⟩ := hrel
    obtain ⟨w2, rfl⟩ : ∃ w2 : World, w2 = wr := ⟨_, rfl⟩
    by_cases hlt : k < la
    · obtain ⟨g1, o1, rfl, hc1⟩ := HA.out.2 (by omega)
      obtain ⟨g2, o2, rfl, hc2⟩ := HB.out.2 (by omega)
      obtain ⟨x, hx⟩ : ∃ x, x = zs.getD k ByteArray.empty := ⟨_, rfl⟩
      have e3 : ∀ n, (w2.drewN n).cell? ⟨g1, o1 + k, none⟩ = some (.string x) := fun n => by obtain ⟨m, e⟩ := HM.out; rw [e, hx]; exact hc1 k hlt
      have e4 : ∀ n, (w2.drewN n).cell? ⟨g2, o2 + k, none⟩ = some (.string x) := fun n => by obtain ⟨m, e⟩ := HM.out; rw [e, hx]; exact hc2 k hlt
      have HD : Hid (∀ n, ∃ q, w2.drewN n = w.drewN q) := Lib.hid (fun n => by obtain ⟨m, e⟩ := HM.out; exact ⟨m + n, by rw [e]; unfold World.drewN; simp [Nat.add_assoc]⟩)
      have i1 : (0 : Int) ≤ (k : Int) := by omega
      have i2 : (k : Int) < (la : Int) := by omega
      clear hx hc1 hc2
      go_wp2_with fail
      go_quiet (fail)
      go_wp2
      exact ⟨⟨k + 1, by omega, by go_num, Lib.hid (HD.out _)⟩, by simp [intOf]; omega⟩
    · have HB2 : Hid (Below w.heap.size w w2) := Lib.hid (by obtain ⟨m, e⟩ := HM.out; rw [e]; exact ⟨rfl, rfl, rfl, Nat.le_refl _, fun _ _ => rfl⟩)
      go_wp2
      go_ret
      exact ⟨rfl, HB2.out⟩
set_option maxRecDepth 20000 in
set_option maxHeartbeats 2000000 in
theorem mText_in (w : World) (a : Option Addr) (la ca : Nat) (zs : List ByteArray) (s : ByteArray) (K : Nat) (hK : K < la) (h1 : la ≤ 4611686018427387904) (ha : CameT w a la zs) (hs : zs.getD K ByteArray.empty = s) :
    Calls Try.prog 48 #[.slice a la ca, .string s] w fun e w' => e = .returned (.bool true) ∧ w = w' := by
  have HA := Lib.hid ha
  have HS := Lib.hid hs
  clear ha hs
  go_enter Try.func48, Try.ntmps48
  go_wp2
  go_loop [9] (fun i => ∃ k : Nat, k ≤ K ∧ i = .int .i64 (k : Int)) (fun i => la - (intOf i).toNat)
  case atStart => exact ⟨0, Nat.zero_le _, rfl⟩
  case round =>
    obtain ⟨k, hk, rfl⟩ := hrel
    obtain ⟨g1, o1, rfl, hc1⟩ := HA.out.2 (by omega)
    have e3 := hc1 k (by omega)
    have i1 : (0 : Int) ≤ (k : Int) := by omega
    have i2 : (k : Int) < (la : Int) := by omega
    obtain ⟨x, hx⟩ : ∃ x, x = zs.getD k ByteArray.empty := ⟨_, rfl⟩
    rw [← hx] at e3
    have HX := Lib.hid hx
    clear hx hc1
    by_cases hxn : x = s
    · subst hxn
      go_wp2
      go_ret
      exact ⟨rfl, rfl⟩
    · have t1 := Sp.strs_ne hxn
      have hkK : k < K := by
        rcases Nat.lt_or_ge k K with h | h
        · exact h
        · have : k = K := by omega
          exact absurd (by rw [HX.out, this, HS.out]) hxn
      go_wp2
      go_round
      case rel => exact ⟨k + 1, by omega, by go_num⟩
      case measure => simp [intOf]; omega
end Go.Proofs.Ytacchefmblfobaa
