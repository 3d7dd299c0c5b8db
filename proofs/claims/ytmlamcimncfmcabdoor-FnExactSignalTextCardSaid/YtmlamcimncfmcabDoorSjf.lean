/- Chapter 8, the program: SignalText. -/
import Derived.Test.YtmlamcimncfmcabDoorSjb
import Derived.Test.YtmlamcimncfmcabDoorSig
import Derived.Test.YtmlamcimncfmcabDoorSjg
import Derived.Test.YtmlamcimncfmcabDoorShd
namespace Go.Proofs.YtmlamcimncfmcabDoor
open Go.ChangeShapes Go.WideShapes Go.ChangeAt Go.RowKit
open Si Dr

set_option maxRecDepth 20000 in
set_option maxHeartbeats 4000000 in
theorem implSignalText_any (w : World) (f : Int) (l : Bool) (s : Int) :
    Calls Tryd.prog 7 #[.agg #[.int .i64 f, .bool l, .int .i64 s]] w fun e w' => e = .returned (.tuple #[.string (outSignalText_0 (f, l, s)), .bool (outSignalText_1 (f, l, s))]) ∧ Below w.heap.size w w' := by
  have HS := Lib.hid (fun w2 => isIn_any 100 f s l w2)
  rcases hb0 : sigB 100 (f, l, s) with _ | _
  · have H0 : Hid (outSignalText_0 (f, l, s) = ByteArray.empty ∧ outSignalText_1 (f, l, s) = false) := Lib.hid (by unfold outSignalText_0 outSignalText_1; rw [hb0]; exact ⟨rfl, rfl⟩)
    rw [hb0] at HS
    clear hb0
    go_enter Tryd.func7, Tryd.ntmps7
    go_wp2_with fail
    go_at_call 13
    refine (HS.out _).mono ?_
    rintro e w2 ⟨rfl, bb⟩
    have Kw2 : Hid (KB1 w f l s w2) := Lib.hid bb
    clear bb
    go_wp2
    go_ret2
    exact ⟨by rw [H0.out.1, H0.out.2]; exact rfl, Kw2.out.down⟩
  · obtain ⟨N, F, S, hN, hp, hg⟩ := sig_nat hb0
    obtain rfl : N = 100 := by omega
    obtain ⟨rfl, rfl⟩ : f = (F : Int) ∧ s = (S : Int) := by injection hp with h1 h2; injection h2 with _ h3; exact ⟨h1, h3⟩
    have H0 : Hid (outSignalText_0 ((F : Int), l, (S : Int)) = sigT F l S ∧ outSignalText_1 ((F : Int), l, (S : Int)) = true) := Lib.hid (by unfold outSignalText_0 outSignalText_1; rw [hb0]; exact ⟨rfl, rfl⟩)
    have hf := hg.f1
    have hs := hg.s2
    have HI : Hid (∀ (i : Nat) (t : ByteArray) (w : World), (i < 100 ∧ txt (numL i) = t) → Calls Tryd.prog 14 #[.int .i64 (i : Int)] w fun e w' => e = .returned (.string t) ∧ w = w') := Lib.hid (fun i t w h => (Tryd.strconv_Itoa_small i h.1 w).mono fun e w' ⟨he, hw⟩ => ⟨by rw [he, digits_eq, ← h.2]; rfl, hw.symm⟩)
    obtain ⟨qx, hqx⟩ : ∃ q, q = txt (numL F) := ⟨_, rfl⟩
    obtain ⟨qy, hqy⟩ : ∃ q, q = txt (numL S) := ⟨_, rfl⟩
    have hsx : qx.size ≤ 2 := by rw [hqx, size_txt]; exact numL_len F 2 (by omega) (by omega)
    have hsy : qy.size ≤ 2 := by rw [hqy, size_txt]; exact numL_len S 2 (by omega) (by omega)
    have hix : F < 100 ∧ txt (numL F) = qx := ⟨by omega, hqx.symm⟩
    have hiy : S < 100 ∧ txt (numL S) = qy := ⟨by omega, hqy.symm⟩
    obtain ⟨sg, hsg⟩ : ∃ q, q = sgnT l := ⟨_, rfl⟩
    have HE : Hid (sigT F l S = qx ++ sg ++ qy) := Lib.hid (by rw [hqx, hqy, hsg]; rfl)
    have hsz : (qx ++ sg).size ≤ 3 := by rw [ByteArray.size_append, hsg]; have : (sgnT l).size = 1 := by cases l <;> rfl
                                         omega
    rw [hb0] at HS
    clear hb0 hp hg hN hqx hqy hf hs
    cases l with
    | true =>
      have HSG : Hid (sg = ⟨#[60]⟩) := Lib.hid hsg
      have hss : sg.size ≤ 1 := by rw [hsg]; decide
      rw [HSG.out] at hsz HE
      clear hss hsg
      go_enter Tryd.func7, Tryd.ntmps7
      go_wp2_with fail
      go_at_call 13
      refine (HS.out _).mono ?_
      rintro e w2 ⟨rfl, bb⟩
      have Kw2 : Hid (KB1 w F true S w2) := Lib.hid bb
      clear bb
      obtain ⟨c0, c1, c2⟩ := Kw2.out.box
      go_wp2_with fail
      have ex0 : ∀ X : Lw w2, X.w.cell? ⟨w.heap.size, 0, none⟩ = some (.int .i64 (F : Int)) := fun X => X.cell Kw2.out.box.1
      have ex2 : ∀ X : Lw w2, X.w.cell? ⟨w.heap.size, 2, none⟩ = some (.int .i64 (S : Int)) := fun X => X.cell Kw2.out.box.2.2
      refine wp_region_lw (by kernel_rfl) (by kernel_rfl) ?_
      repeat (go_big_quiet_step ((go_at_call 14; exact lw_still (fun w2 => HI.out _ _ w2 (by assumption)) _)))
      refine wpQuiet_nil ?_
      rintro w' ⟨X, rfl⟩
      go_wp2
      go_ret2
      exact ⟨by rw [H0.out.1, H0.out.2, HE.out]; exact rfl, (Kw2.out.more X.b).down⟩
    | false =>
      have HSG : Hid (sg = ⟨#[62]⟩) := Lib.hid hsg
      rw [HSG.out] at hsz HE
      clear hsg
      go_enter Tryd.func7, Tryd.ntmps7
      go_wp2_with fail
      go_at_call 13
      refine (HS.out _).mono ?_
      rintro e w2 ⟨rfl, bb⟩
      have Kw2 : Hid (KB1 w F false S w2) := Lib.hid bb
      clear bb
      obtain ⟨c0, c1, c2⟩ := Kw2.out.box
      go_wp2_with fail
      have ex0 : ∀ X : Lw w2, X.w.cell? ⟨w.heap.size, 0, none⟩ = some (.int .i64 (F : Int)) := fun X => X.cell Kw2.out.box.1
      have ex2 : ∀ X : Lw w2, X.w.cell? ⟨w.heap.size, 2, none⟩ = some (.int .i64 (S : Int)) := fun X => X.cell Kw2.out.box.2.2
      refine wp_region_lw (by kernel_rfl) (by kernel_rfl) ?_
      repeat (go_big_quiet_step ((go_at_call 14; exact lw_still (fun w2 => HI.out _ _ w2 (by assumption)) _)))
      refine wpQuiet_nil ?_
      rintro w' ⟨X, rfl⟩
      go_wp2
      go_ret2
      exact ⟨by rw [H0.out.1, H0.out.2, HE.out]; exact rfl, (Kw2.out.more X.b).down⟩

end Go.Proofs.YtmlamcimncfmcabDoor
