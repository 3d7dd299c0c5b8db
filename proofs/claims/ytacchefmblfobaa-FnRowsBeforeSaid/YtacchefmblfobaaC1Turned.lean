
/- ticked, isAtRest, turned: methods of troops that make a text or a bool. -/
import Derived.Test.YtacchefmblfobaaC1Txt
import Derived.Test.YtacchefmblfobaaC1Settle
namespace Go.Proofs.Ytacchefmblfobaa.C1
open Go.ChangeShapes Go.WideShapes Go.ChangeAt Go.RowKit

set_option maxRecDepth 20000 in
set_option maxHeartbeats 1000000 in
theorem ticked_any (g : Nat) (m : List Bool) (c : List Nat) (h1 : 1 ≤ m.length) (h2 : m.length ≤ 60) (hc : c.sum ≤ 100000) (B : Nat) (hB : B ≤ g) (w0 w : World) (hB0 : B ≤ w0.heap.size) (hb : Below B w0 w) (hT : Trp w g m c) :
    Calls Try.prog 75 #[.slice (some ⟨g, 0, none⟩) m.length m.length] w fun e w' => e = .returned (.string (Rw.str (Rw.tick m))) ∧ Below B w0 w' := by
  have HC := Lib.hid (tick_any g m c h1 h2 hc w hT)
  have HX := Lib.hid (fun w2 c2 h => text_any g (Rw.tick m) c2 (by simpa using h1) (by simpa using h2) w2 h)
  rw [Rw.length_tick] at HX
  obtain ⟨n, hn⟩ : ∃ n, n = m.length := ⟨_, rfl⟩
  rw [← hn] at HC HX ⊢
  have Hb := Lib.hid hb
  have hws := hb.size
  clear hn hT hb
  go_enter Try.func75, Try.ntmps75
  go_wp2_with fail
  go_at_call 88
  refine HC.out.mono ?_
  rintro e w2 ⟨rfl, hT2, hG2⟩
  have H2 : Hid (Below B w0 w2) := grownBy_below Hb.out hG2 hB0 hB
  have hz := H2.out.size
  have HT2 := Lib.hid hT2
  clear hT2 hG2
  go_wp2_with fail
  go_at_call 84
  refine (HX.out _ _ HT2.out).mono ?_
  rintro e w3 ⟨rfl, hb3⟩
  have H3 : Hid (Below B w0 w3) := H2.out.trans (hb3.mono (by omega))
  clear hb3
  go_wp2
  go_ret
  exact ⟨rfl, H3.out⟩

set_option maxRecDepth 20000 in
set_option maxHeartbeats 1000000 in
theorem isAtRest_any (g : Nat) (m : List Bool) (c : List Nat) (h1 : 1 ≤ m.length) (h2 : m.length ≤ 60) (w : World) (hT : Trp w g m c) :
    Calls Try.prog 77 #[.slice (some ⟨g, 0, none⟩) m.length m.length] w fun e w' => e = .returned (.bool (decide ((Rw.pairs m).length = 0))) ∧ Below w.heap.size w w' := by
  have HC := Lib.hid (pairs_any g m c h1 h2 w hT)
  obtain ⟨n, hn⟩ : ∃ n, n = m.length := ⟨_, rfl⟩
  obtain ⟨K, hK⟩ : ∃ K, K = (Rw.pairs m).length := ⟨_, rfl⟩
  rw [← hn, ← hK] at HC
  rw [← hn, ← hK]
  clear hn hT hK
  go_enter Try.func77, Try.ntmps77
  go_wp2_with fail
  go_at_call 74
  refine HC.out.mono ?_
  rintro e w2 ⟨v, rfl, hown, hbel⟩
  have HB := Lib.hid hbel
  rcases own_shape hown with ⟨rfl, h0⟩ | ⟨gv, cap, rfl, _⟩
  · clear hown hbel
    go_wp2
    go_ret
    exact ⟨ret_bool (by rw [h0]; rfl), HB.out⟩
  · clear hown hbel
    go_wp2
    go_ret
    exact ⟨ret_bool (by rw [Bool.eq_iff_iff]; simp), HB.out⟩

/-- the troop of which the first k have turned -/
def flipTo (m : List Bool) (k : Nat) : List Bool := (m.take k).map (!·) ++ m.drop k
theorem length_flipTo (m : List Bool) (k : Nat) : (flipTo m k).length = m.length := by simp [flipTo]; omega
theorem flipTo_succ : ∀ (m : List Bool) (k : Nat), k < m.length → Rw.flipAt (flipTo m k) k = flipTo m (k + 1)
  | [], k, h => by simp at h
  | a :: m, 0, _ => by simp [flipTo, Rw.flipAt]
  | a :: m, k + 1, h => by
    have := flipTo_succ m k (by simpa using h)
    simp only [flipTo, Rw.flipAt, List.take_succ_cons, List.drop_succ_cons, List.map_cons, List.cons_append, List.set_cons_succ, List.getD_cons_succ] at this ⊢
    rw [this]
theorem flipTo_all (m : List Bool) : flipTo m m.length = m.map (!·) := by simp [flipTo]

set_option maxRecDepth 20000 in
set_option maxHeartbeats 2000000 in
theorem turned_any (g : Nat) (m : List Bool) (c : List Nat) (h1 : 1 ≤ m.length) (h2 : m.length ≤ 60) (hc : c.sum ≤ 100000) (B : Nat) (hB : B ≤ g) (w0 w : World) (hB0 : B ≤ w0.heap.size) (hb : Below B w0 w) (hT : Trp w g m c) :
    Calls Try.prog 80 #[.slice (some ⟨g, 0, none⟩) m.length m.length] w fun e w' => e = .returned (.string (Rw.str (m.map (!·)))) ∧ Below B w0 w' := by
  have HX := Lib.hid (fun w2 c2 h => text_any g (m.map (!·)) c2 (by simpa using h1) (by simpa using h2) w2 h)
  rw [List.length_map] at HX
  obtain ⟨n, hn⟩ : ∃ n, n = m.length := ⟨_, rfl⟩
  rw [← hn] at HX h1 h2 ⊢
  have HN := Lib.hid hn
  clear hn
  go_enter Try.func80, Try.ntmps80
  go_wp2
  go_loopw [6] (fun i wr => ∃ (k : Nat) (cj : List Nat), k ≤ n ∧ i = .int .i64 k ∧ Trp wr g (flipTo m k) cj ∧ cj.sum ≤ 100000 + k ∧ Below B w0 wr) (fun i _ => n - (intOf i).toNat)
  case atStart => exact ⟨0, c, Nat.zero_le _, rfl, hT, hc, hb⟩
  case round =>
    obtain ⟨k, cj, hk, rfl, hTr, hs, hbr⟩ := hrel
    have hlen := length_flipTo m k
    have hws := hbr.size
    by_cases hlt : k < n
    · have hcl : cj.length = m.length := by rw [← hTr.2]; exact hlen
      have H1 := Lib.hid (turn_trp hTr (k := k) (by have := HN.out; omega) (by omega))
      have HF := Lib.hid (flipTo_succ m k (by have := HN.out; omega))
      have HS := Lib.hid (Rw.sum_inc cj k (by have := HN.out; omega))
      have Hbr := Lib.hid hbr
      clear hTr hlen hbr hT hb hcl
      go_wp2_with fail
      go_at_call 106
      refine H1.out.mono ?_
      rintro e w2 ⟨rfl, hT2, hG2⟩
      have HT2 : Hid (Trp w2 g (flipTo m (k + 1)) (Rw.inc cj k)) := by rw [← HF.out]; exact hT2
      have HB2 : Hid (Below B w0 w2) := grownBy_below Hbr.out hG2 hB0 hB
      clear hT2 hG2
      go_wp2
      go_roundw
      case rel => exact ⟨k + 1, _, by omega, by go_num, HT2.out, by rw [HS.out]; omega, HB2.out⟩
      case measure => simp [intOf]; omega
    · have hkn : k = m.length := by have := HN.out; omega
      rw [hkn, flipTo_all] at hTr
      have HC := Lib.hid (HX.out wr cj hTr)
      have Hbr := Lib.hid hbr
      clear hTr hlen hbr hT hb hkn
      go_wp2_with fail
      go_at_call 84
      refine HC.out.mono ?_
      rintro e w3 ⟨rfl, hb3⟩
      have H3 : Hid (Below B w0 w3) := Hbr.out.trans (hb3.mono (by omega))
      clear hb3
      go_wp2
      go_ret
      exact ⟨rfl, H3.out⟩

end Go.Proofs.Ytacchefmblfobaa.C1
