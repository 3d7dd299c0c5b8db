/- The draws' cursor: next, pick, one, among. -/
import Derived.Test.YtjbomclildkjaaaDoorOwn
import Derived.Test.YtjbomclildkjaaaDoorAgg
import Derived.Test.YtjbomclildkjaaaDoorDrew
import Derived.Deep.QuietTactic
import Derived.BigQuiet
import Derived.Laws.Bits64b
namespace Go.Proofs.YtjbomclildkjaaaDoor
open Go.ChangeShapes Go.WideShapes Go.ChangeAt Go.RowKit

namespace Cu
/-- the bytes that a draw reads -/
def Bytes (w : World) (a : Option Addr) (len : Nat) : Prop := 0 < len → ∃ b off, a = some ⟨b, off, none⟩ ∧ ∀ k, k < len → ∃ x : Nat, x ≤ 255 ∧ w.cell? ⟨b, off + k, none⟩ = some (.int .u8 (x : Int))
theorem Bytes.same {w w' : World} {a : Option Addr} {len : Nat} {g : Nat} (h : Bytes w a len) (hg : w.grownBy w' (some g)) (ha : 0 < len → ∀ x, a = some x → x.block ≠ g) : Bytes w' a len := by
  intro hp
  obtain ⟨b, off, e, hc⟩ := h hp
  refine ⟨b, off, e, fun k hk => ?_⟩
  obtain ⟨x, h1, h2⟩ := hc k hk
  exact ⟨x, h1, (World.cell?_of_block (hg.block b (World.block_lt_of_cell? w _ h2) (fun h => ha hp _ e (Option.some.inj h)))).trans h2⟩
end Cu
open Cu
/-- a cursor: its own block, how far it is -/
structure Cur (w : World) (g A : Nat) : Prop where
  has : ∃ (a : Option Addr) (len cap at' : Nat) (sd : Int), Blk w g 65 [.slice a len cap, .int .i64 (at' : Int), .int .u64 sd] ∧ at' ≤ A ∧ 0 ≤ sd ∧ sd < 18446744073709551616 ∧ len ≤ 9223372036854775807 ∧ Bytes w a len ∧ (0 < len → ∀ x, a = some x → x.block < g)
theorem Cur.lt {w : World} {g A : Nat} (h : Cur w g A) : g < w.heap.size := by
  obtain ⟨_, _, _, _, _, hb, _⟩ := h.has
  exact hb.lt
theorem wrap_u64 (z : Int) : 0 ≤ IntKind.u64.wrap z ∧ IntKind.u64.wrap z < 18446744073709551616 := by
  have h : IntKind.u64.wrap z = z % 18446744073709551616 := by rfl
  rw [h]; omega
theorem wrap64_nat (r : Nat) (h : r ≤ 1000) : wrap64 (r : Int) = (r : Int) := by
  simp only [wrap64]
  omega
theorem low_byte {s : Int} (h0 : 0 ≤ s) (h1 : s < 18446744073709551616) : ∃ r : Nat, r ≤ 255 ∧ wrap64 (bits .and .u64 (s / 1099511627776) 255) = (r : Int) := by
  obtain ⟨m, rfl⟩ : ∃ m : Nat, s = (m : Int) := ⟨s.toNat, by omega⟩
  have e : ((m : Int) / 1099511627776) = ((m / 1099511627776 : Nat) : Int) := by omega
  have hl : m / 1099511627776 &&& 255 ≤ 255 := Nat.and_le_right
  refine ⟨m / 1099511627776 &&& 255, hl, ?_⟩
  rw [e, show (255 : Int) = ((255 : Nat) : Int) from rfl, bits_and_u64_nat _ _ (by omega) (by omega)]
  exact wrap64_nat _ (by omega)
theorem step_facts {w : World} {g k : Nat} {a : Option Addr} {len cap : Nat} {sd : Int} (hb : Blk w g 65 [.slice a len cap, .int .i64 (k : Int), .int .u64 sd]) (m : Nat) (s2 : Int) (w1 : World)
    (hw : w1 = ((w.drewN m).setCell ⟨g, 1, none⟩ (.int .i64 ((k : Int) + 1))).setCell ⟨g, 2, none⟩ (.int .u64 s2)) :
    Blk w1 g 65 [.slice a len cap, .int .i64 ((k : Int) + 1), .int .u64 s2] ∧ w.grownBy w1 (some g) := by
  have hd : Blk (w.drewN m) g 65 [.slice a len cap, .int .i64 (k : Int), .int .u64 sd] := hb
  have h1 := (hd.set 1 (.int .i64 ((k : Int) + 1))).set 2 (.int .u64 s2)
  have hg : w.grownBy w1 (some g) := by
    rw [hw]
    have h0 : w.grownBy (w.drewN m) (some g) := ⟨rfl, rfl, rfl, Nat.le_refl _, fun _ _ _ => rfl⟩
    exact grownBy_trans h0 (grownBy_trans (set_grown _ g 1 _) (set_grown _ g 2 _))
  subst hw
  exact ⟨h1, hg⟩
theorem cur_next {w w1 : World} {g k A : Nat} {a : Option Addr} {len cap : Nat} {s2 : Int} (hb : Blk w1 g 65 [.slice a len cap, .int .i64 ((k : Int) + 1), .int .u64 s2]) (hg : w.grownBy w1 (some g))
    (hk : k ≤ A) (h0 : 0 ≤ s2) (h1 : s2 < 18446744073709551616) (hl : len ≤ 9223372036854775807) (hby : Bytes w a len) (hne : 0 < len → ∀ x, a = some x → x.block < g) : (∀ n, Cur (w1.drewN n) g (A + 1)) ∧ (∀ n, w.grownBy (w1.drewN n) (some g)) :=
  ⟨fun n => ⟨a, len, cap, k + 1, s2, by rw [Int.natCast_add]; exact hb, by omega, h0, h1, hl, hby.same (g := g) (w' := w1.drewN n) (grownBy_trans hg (show w1.grownBy (w1.drewN n) (some g) from ⟨rfl, rfl, rfl, Nat.le_refl _, fun _ _ _ => rfl⟩)) (fun hp x hx => Nat.ne_of_lt (hne hp x hx)), hne⟩, fun n => grownBy_trans hg (show w1.grownBy (w1.drewN n) (some g) from ⟨rfl, rfl, rfl, Nat.le_refl _, fun _ _ _ => rfl⟩)⟩
set_option maxRecDepth 20000 in
set_option maxHeartbeats 2000000 in
theorem next_p (w : World) (g A : Nat) (hA : A ≤ 1000000000000) (hc : Cur w g A) :
    Calls Tryd.prog 88 #[.pointer (some ⟨g, 0, none⟩)] w fun e w' => ∃ r : Nat, r ≤ 255 ∧ e = .returned (.int .i64 (r : Int)) ∧ Cur w' g (A + 1) ∧ w.grownBy w' (some g) := by
  obtain ⟨a, len, cap, k, sd, hb, hk, hs0, hs1, hl, hby, hne⟩ := hc.has
  have HB := Lib.hid hb
  have HBY := Lib.hid hby
  have HNE := Lib.hid hne
  have c0 : ∀ n, (w.drewN n).cell? ⟨g, 0, none⟩ = some (.slice a len cap) := fun n => hb.cell 0
  have c1 : ∀ n, (w.drewN n).cell? ⟨g, 1, none⟩ = some (.int .i64 (k : Int)) := fun n => hb.cell 1
  have c2 : ∀ n, (w.drewN n).cell? ⟨g, 2, none⟩ = some (.int .u64 sd) := fun n => hb.cell 2
  have f1 : ∀ n, (w.drewN n).frozen? ⟨g, 1, none⟩ = false := fun n => hb.free 1
  have f2 : ∀ n, (w.drewN n).frozen? ⟨g, 2, none⟩ = false := fun n => hb.free 2
  have hkb : (k : Int) ≤ 1000000000000 := by omega
  by_cases hlt : k < len
  · obtain ⟨b, off, rfl, hx⟩ := hby (by omega)
    obtain ⟨x, hx1, hx2⟩ := hx k hlt
    have c3 : ∀ n, (w.drewN n).cell? ⟨b, off + k, none⟩ = some (.int .u8 (x : Int)) := fun n => hx2
    have q1 : (0 : Int) ≤ (k : Int) := by omega
    have q2 : (k : Int) < (len : Int) := by omega
    clear hc hb hby hne hx hx2
    have q3 : (k : Int) + 1 ≤ (len : Int) := by omega
    go_enter Tryd.func88, Tryd.ntmps88
    go_wp2_with fail
    go_quiet (fail)
    obtain ⟨m1, hm1⟩ : ∃ m : Nat, m = nq := ⟨_, rfl⟩
    subst hm1
    go_wp2_with fail
    go_quiet (fail)
    obtain ⟨m2, hm2⟩ : ∃ m : Nat, m = nq := ⟨_, rfl⟩
    subst hm2
    go_wp2_with fail
    obtain ⟨s2, hs2⟩ : ∃ s2, s2 = IntKind.u64.wrap (IntKind.u64.wrap (IntKind.u64.wrap (sd * 6364136223846793005) + (x : Int)) + 1442695040888963407) := ⟨_, rfl⟩
    have hs3 := wrap_u64 (IntKind.u64.wrap (IntKind.u64.wrap (sd * 6364136223846793005) + (x : Int)) + 1442695040888963407)
    rw [← hs2] at hs3
    rw [← hs2]
    clear hs2
    obtain ⟨w1, hw1⟩ : ∃ w1, w1 = ((w.drewN (m1 + m2)).setCell ⟨g, 1, none⟩ (.int .i64 ((k : Int) + 1))).setCell ⟨g, 2, none⟩ (.int .u64 s2) := ⟨_, rfl⟩
    rw [← hw1]
    obtain ⟨HB1, HG1⟩ := step_facts HB.out (m1 + m2) s2 w1 hw1
    have d0 : ∀ n, (w1.drewN n).cell? ⟨g, 0, none⟩ = some (.slice (some ⟨b, off, none⟩) len cap) := fun n => HB1.cell 0
    have d1 : ∀ n, (w1.drewN n).cell? ⟨g, 1, none⟩ = some (.int .i64 ((k : Int) + 1)) := fun n => HB1.cell 1
    have HC := Lib.hid (cur_next (A := A) HB1 HG1 hk hs3.1 hs3.2 hl HBY.out HNE.out)
    clear hw1 HB1 HG1 c0 c1 c2 c3 f1 f2 hs3
    go_quiet (fail)
    go_wp2
    go_ret
    exact ⟨x, hx1, rfl, HC.out.1 _, HC.out.2 _⟩
  · have q2 : ¬ (k : Int) < (len : Int) := by omega
    have q3 : ¬ (k : Int) + 1 ≤ (len : Int) := by omega
    clear hc hb hby hne
    go_enter Tryd.func88, Tryd.ntmps88
    go_wp2_with fail
    go_quiet (fail)
    obtain ⟨m1, hm1⟩ : ∃ m : Nat, m = nq := ⟨_, rfl⟩
    subst hm1
    go_wp2_with fail
    obtain ⟨s2, hs2⟩ : ∃ s2, s2 = IntKind.u64.wrap (IntKind.u64.wrap (IntKind.u64.wrap (sd * 6364136223846793005)) + 1442695040888963407) := ⟨_, rfl⟩
    have hs3 := wrap_u64 (IntKind.u64.wrap (IntKind.u64.wrap (sd * 6364136223846793005)) + 1442695040888963407)
    rw [← hs2] at hs3
    rw [← hs2]
    clear hs2
    obtain ⟨w1, hw1⟩ : ∃ w1, w1 = ((w.drewN m1).setCell ⟨g, 1, none⟩ (.int .i64 ((k : Int) + 1))).setCell ⟨g, 2, none⟩ (.int .u64 s2) := ⟨_, rfl⟩
    rw [← hw1]
    obtain ⟨HB1, HG1⟩ := step_facts HB.out m1 s2 w1 hw1
    have d0 : ∀ n, (w1.drewN n).cell? ⟨g, 0, none⟩ = some (.slice a len cap) := fun n => HB1.cell 0
    have d1 : ∀ n, (w1.drewN n).cell? ⟨g, 1, none⟩ = some (.int .i64 ((k : Int) + 1)) := fun n => HB1.cell 1
    have d2 : ∀ n, (w1.drewN n).cell? ⟨g, 2, none⟩ = some (.int .u64 s2) := fun n => HB1.cell 2
    have HC := Lib.hid (cur_next (A := A) HB1 HG1 hk hs3.1 hs3.2 hl HBY.out HNE.out)
    clear hw1 HB1 HG1 c0 c1 c2 f1 f2
    go_quiet (fail)
    go_wp2
    obtain ⟨r, hr, hre⟩ := low_byte hs3.1 hs3.2
    rw [hre]
    go_ret
    exact ⟨r, hr, rfl, HC.out.1 _, HC.out.2 _⟩
theorem Cur.mono {w : World} {g A A' : Nat} (h : Cur w g A) (hA : A ≤ A') : Cur w g A' := by
  obtain ⟨a, len, cap, k, sd, h1, h2, h3⟩ := h.has
  exact ⟨a, len, cap, k, sd, h1, Nat.le_trans h2 hA, h3⟩
/-- what a draw leaves: the cursor further on, all else as it was -/
structure Drawn (w w' : World) (g A : Nat) : Prop where
  cur : Cur w' g A
  grown : w.grownBy w' (some g)
set_option maxRecDepth 20000 in
theorem Drawn.trans {w w1 w2 : World} {g A A' : Nat} (h : Drawn w w1 g A) (k : Drawn w1 w2 g A') : Drawn w w2 g A' := ⟨k.cur, grownBy_trans h.grown k.grown⟩
set_option maxRecDepth 20000 in
set_option maxHeartbeats 1000000 in
theorem pick_p (w : World) (g A n : Nat) (hA : A ≤ 100000000000) (h1 : 1 ≤ n) (h2 : n ≤ 100000) (hc : Cur w g A) :
    Calls Tryd.prog 68 #[.pointer (some ⟨g, 0, none⟩), .int .i64 (n : Int)] w fun e w' => ∃ r : Nat, r < n ∧ e = .returned (.int .i64 (r : Int)) ∧ Drawn w w' g (A + 2) := by
  have HN := Lib.hid (fun w A hA hc => next_p w g A hA hc)
  have HC := Lib.hid hc
  clear hc
  by_cases hn1 : n = 1
  · subst hn1
    go_enter Tryd.func68, Tryd.ntmps68
    go_wp2
    go_ret
    exact ⟨0, by omega, rfl, HC.out.mono (by omega), World.grownBy.refl _ _⟩
  have q1 : ¬ (n : Int) ≤ 1 := by omega
  have C1 := Lib.hid (HN.out w A (by omega) HC.out)
  have q3 : ¬ (n : Int) = 0 := by omega
  have q4 : (n : Int) ≤ 100000 := by omega
  by_cases h200 : n ≤ 200
  · have q2 : ¬ (200 : Int) < (n : Int) := by omega
    go_enter Tryd.func68, Tryd.ntmps68
    go_wp2_with fail
    go_at_call 88
    refine C1.out.mono ?_
    rintro e w1 ⟨r, hr, rfl, c1, g1⟩
    have HF := Lib.hid (And.intro c1 g1)
    clear c1 g1
    go_wp2
    go_ret
    refine ⟨r % n, Nat.mod_lt _ (by omega), ?_, HF.out.1.mono (by omega), HF.out.2⟩
    rfl
  · have q2 : (200 : Int) < (n : Int) := by omega
    go_enter Tryd.func68, Tryd.ntmps68
    go_wp2_with fail
    go_at_call 88
    refine C1.out.mono ?_
    rintro e w1 ⟨r, hr, rfl, c1, g1⟩
    have HF := Lib.hid (And.intro c1 g1)
    have C2 := Lib.hid (HN.out w1 (A + 1) (by omega) c1)
    have hri : (r : Int) ≤ 255 := by omega
    clear c1 g1
    go_wp2_with fail
    go_at_call 88
    refine C2.out.mono ?_
    rintro e w2 ⟨r2, hr2, rfl, c2, g2⟩
    have HF2 := Lib.hid (And.intro c2 (grownBy_trans HF.out.2 g2))
    have hri2 : (r2 : Int) ≤ 255 := by omega
    clear c2 g2
    go_wp2
    go_ret
    refine ⟨(r * 256 + r2) % n, Nat.mod_lt _ (by omega), ?_, HF2.out.1.mono (by omega), HF2.out.2⟩
    rfl
set_option maxRecDepth 20000 in
theorem one_p (w : World) (g A n : Nat) (hA : A ≤ 100000000000) (h1 : 1 ≤ n) (h2 : n ≤ 100000) (hc : Cur w g A) :
    Calls Tryd.prog 70 #[.pointer (some ⟨g, 0, none⟩), .int .i64 (n : Int)] w fun e w' => ∃ b : Bool, e = .returned (.bool b) ∧ Drawn w w' g (A + 2) := by
  have C1 := Lib.hid (pick_p w g A n hA h1 h2 hc)
  clear hc
  go_enter Tryd.func70, Tryd.ntmps70
  go_wp2_with fail
  go_at_call 68
  refine C1.out.mono ?_
  rintro e w1 ⟨r, hr, rfl, hd⟩
  have HD := Lib.hid hd
  clear hd
  go_wp2
  go_ret
  exact ⟨_, rfl, HD.out⟩
set_option maxRecDepth 20000 in
theorem among_p (w : World) (g A : Nat) (a : Option Addr) (n cap : Nat) (xs : List Int) (hA : A ≤ 100000000000) (h1 : 1 ≤ n) (h2 : n ≤ 1000) (hx : Came w a n xs) (hne : ∀ x, a = some x → x.block ≠ g) (hc : Cur w g A) :
    Calls Tryd.prog 84 #[.pointer (some ⟨g, 0, none⟩), .slice a n cap] w fun e w' => ∃ k : Nat, k < n ∧ e = .returned (.int .i64 (xs.getD k 0)) ∧ Drawn w w' g (A + 2) := by
  have C1 := Lib.hid (pick_p w g A n hA h1 (by omega) hc)
  obtain ⟨b, off, rfl, hcl⟩ := hx.2 (by omega)
  have HL : Hid (∀ w1, w.grownBy w1 (some g) → ∀ k, k < n → w1.cell? ⟨b, off + k, none⟩ = some (.int .i64 (xs.getD k 0))) :=
    Lib.hid (fun w1 hg k hk => (World.cell?_of_block (hg.block b (World.block_lt_of_cell? w _ (hcl k hk)) (fun h => hne _ rfl (Option.some.inj h)))).trans (hcl k hk))
  have q0 : (n : Int) ≤ 1000 := by omega
  clear hx hcl hne hc
  go_enter Tryd.func84, Tryd.ntmps84
  go_wp2_with fail
  go_at_call 68
  refine C1.out.mono ?_
  rintro e w1 ⟨r, hr, rfl, hd⟩
  have HD := Lib.hid hd
  have e1 := HL.out w1 hd.grown r hr
  have q1 : (0 : Int) ≤ (r : Int) := by omega
  have q2 : (r : Int) < (n : Int) := by omega
  clear hd
  go_wp2
  go_ret
  exact ⟨r, hr, rfl, HD.out⟩
end Go.Proofs.YtjbomclildkjaaaDoor
