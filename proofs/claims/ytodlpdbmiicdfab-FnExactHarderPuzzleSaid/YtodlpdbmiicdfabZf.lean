/- Chapter 9, the program: isFitBy, DoesFit. -/
import Derived.Test.YtodlpdbmiicdfabZd
import Derived.Test.YtodlpdbmiicdfabZe
import Derived.Test.YtodlpdbmiicdfabPzd
import Derived.Test.YtodlpdbmiicdfabRPuzzle
namespace Go.Proofs.Ytodlpdbmiicdfab
open Go.ChangeShapes Go.WideShapes Go.ChangeAt Go.RowKit
open Pz

namespace Pz
def tellC (c : RClue) (l : List Bool) : Nat := valueN c.1.toNat c.2.1.toNat c.2.2.1.toNat l
theorem fits_tell (c : RClue) (l : List Bool) : fitsC c l = decide (((tellC c l : Nat) : Int) = c.2.2.2) := rfl
end Pz
theorem toldC_any (n : Nat) (x0 x1 x2 x3 : Int) (l : List Bool) (hl : l.length = n) (h1 : 1 ≤ n) (h8 : n ≤ 8) (hcl : clueB (n : Int) (x0, x1, x2, x3) = true) (w : World) :
    Calls Try.prog 67 #[.agg #[.int .i64 x0, .int .i64 x1, .int .i64 x2, .int .i64 x3], .string (Rw.str l)] w fun e w' => e = .returned (.int .i64 (tellC (x0, x1, x2, x3) l : Nat)) ∧ Below w.heap.size w w' := by
  obtain ⟨k, a, b, ok⟩ := ok_of h1 hcl
  obtain rfl : x0 = (k : Int) := ok.kind
  obtain rfl : x1 = (a : Int) := ok.ka
  obtain rfl : x2 = (b : Int) := ok.kb
  have h := toldBy_any k a b x3 l (by omega) (by omega) ok.k4 (by have := ok.an; omega) ok.b20 w
  unfold tellC
  simp only [Int.toNat_natCast]
  exact h

theorem fit_no {cs : List RClue} {l : List Bool} {k : Nat} (hk : k < cs.length) (h : fitsC (cs.getD k zClue) l = false) : (cs.all fun c => fitsC c l) = false := by
  rw [Bool.eq_false_iff]
  intro ha
  rw [List.all_eq_true] at ha
  have := ha cs[k] (List.getElem_mem hk)
  rw [List.getD_eq_getElem?_getD, List.getElem?_eq_getElem hk, Option.getD_some] at h
  rw [this] at h; cases h
theorem fit_yes {cs : List RClue} {l : List Bool} (h : ∀ k, k < cs.length → fitsC (cs.getD k zClue) l = true) : (cs.all fun c => fitsC c l) = true := by
  rw [List.all_eq_true]
  intro c hc
  obtain ⟨k, hk, rfl⟩ := List.getElem_of_mem hc
  have := h k hk
  rwa [List.getD_eq_getElem?_getD, List.getElem?_eq_getElem hk, Option.getD_some] at this
set_option maxHeartbeats 4000000 in
theorem isFitBy_any (w : World) (n : Nat) (h1 : 1 ≤ n) (h8 : n ≤ 8) (a : Option Addr) (len cap : Nat) (cs : List RClue) (l : List Bool) (hll : l.length = n) (hl : len ≤ 6) (hcl : ∀ k, k < cs.length → clueB (n : Int) (cs.getD k zClue) = true) (hc : CameClue w a len cs) :
    Calls Try.prog 86 #[.agg #[.int .i64 (n : Int), .slice a len cap], .string (Rw.str l)] w fun e w' => e = .returned (.bool (cs.all fun c => fitsC c l)) ∧ Below w.heap.size w w' := by
  obtain ⟨r, hr⟩ : ∃ r, r = cs.all fun c => fitsC c l := ⟨_, rfl⟩
  rw [← hr]
  have HR := Lib.hid hr
  have HZ : Hid (cs.length = len) := Lib.hid hc.1
  obtain ⟨w0, hw0⟩ : ∃ w0, w0 = w.alloc (.cells #[.int .i64 (n : Int), .slice a len cap] 31) := ⟨_, rfl⟩
  have HW0 : Hid (Below w.heap.size w w0) := Lib.hid (by rw [hw0]; exact (Below.refl _ _).alloc (Nat.le_refl _) _)
  obtain ⟨pb, hpb⟩ : ∃ pb, pb = w.heap.size := ⟨_, rfl⟩
  have HPC : Hid (BoxZ w0 pb (n : Int) (.slice a len cap)) := Lib.hid (by rw [hw0, hpb]; exact BoxZ.new _ _ _ _)
  have HC : Hid (CameClue w0 a len cs) := Lib.hid (hc.below HW0.out)
  have HCL := Lib.hid hcl
  have HTT := Lib.hid (fun (x0 x1 x2 x3 : Int) (h : clueB (n : Int) (x0, x1, x2, x3) = true) w2 => toldC_any n x0 x1 x2 x3 l hll h1 h8 h w2)
  obtain ⟨c0, c1⟩ := HPC.out
  obtain ⟨s, hs⟩ : ∃ s, s = Rw.str l := ⟨_, rfl⟩
  rw [← hs] at HTT ⊢
  clear hs hcl hc hr
  go_enter Try.func86, Try.ntmps86
  go_wp2_with fail
  rw [← hw0, ← hpb]
  clear hw0 hpb
  go_loopw [10] (fun i wr => ∃ k : Nat, k ≤ len ∧ i = .int .i64 (k : Int) ∧ Hid (∀ j, j < k → fitsC (cs.getD j zClue) l = true) ∧ Hid (Below w0.heap.size w0 wr)) (fun i _ => len - (intOf i).toNat)
  case atStart => exact ⟨0, Nat.zero_le _, rfl, Lib.hid (fun j h => absurd h (Nat.not_lt_zero _)), Lib.hid (Below.refl _ _)⟩
  case round =>
    obtain ⟨k, hk, rfl, HK, HB⟩ := hrel
    clear c0 c1
    by_cases hlt : k < len
    · obtain ⟨b, off, rfl, hcell⟩ := (HC.out.below HB.out).2 (by omega)
      obtain ⟨e0, e1, e2, e3⟩ := hcell k hlt
      have hkc : k < cs.length := by have := HZ.out; omega
      have hcq := HCL.out k hkc
      have HNO : Hid (fitsC (cs.getD k zClue) l = false → r = false) := Lib.hid (fun h => by rw [HR.out]; exact fit_no hkc h)
      obtain ⟨p, hp⟩ : ∃ p, p = cs.getD k zClue := ⟨_, rfl⟩
      rw [← hp] at e0 e1 e2 e3 HNO hcq
      have HP := Lib.hid hp
      obtain ⟨x0, x1, x2, x3⟩ := p
      simp only at e0 e1 e2 e3
      have HT := Lib.hid (fun w2 => HTT.out x0 x1 x2 x3 hcq w2)
      have hft := fits_tell (x0, x1, x2, x3) l
      obtain ⟨V, hV⟩ : ∃ V, V = tellC (x0, x1, x2, x3) l := ⟨_, rfl⟩
      rw [← hV] at HT hft
      simp only at hft
      have i1 : (0 : Int) ≤ (k : Int) := by omega
      have i2 : (k : Int) < (len : Int) := by omega
      obtain ⟨wa, hwa⟩ : ∃ wa, wa = wr.alloc (.cells #[.int .i64 x0, .int .i64 x1, .int .i64 x2, .int .i64 x3] 64) := ⟨_, rfl⟩
      obtain ⟨g, hg⟩ : ∃ g, g = wr.heap.size := ⟨_, rfl⟩
      have HBA : Hid (Below w0.heap.size w0 wa) := Lib.hid (by rw [hwa]; exact HB.out.alloc HB.out.size _)
      have HX : Hid (BoxClue wa g x0 x1 x2 x3) := Lib.hid (by rw [hwa, hg]; exact boxClue_new _ _ _ _ _)
      obtain ⟨d0, d1, d2, d3⟩ := HX.out
      clear hcell hp hcq hkc hV
      have hq : (x3 == (V : Int)) = fitsC (x0, x1, x2, x3) l := by
        rw [hft, Bool.eq_iff_iff, beq_iff_eq, decide_eq_true_eq]; exact eq_comm
      have hq2 : (x3 == (V : Int)) = true ↔ x3 = (V : Int) := beq_iff_eq
      clear hft
      go_wp2_with fail
      rw [← hwa, ← hg]
      clear hwa hg
      go_region_held_law (fun w' : World => w'.cell? ⟨g, 0, none⟩ = some (.int .i64 x0) ∧ w'.cell? ⟨g, 1, none⟩ = some (.int .i64 x1) ∧ w'.cell? ⟨g, 2, none⟩ = some (.int .i64 x2) ∧ w'.cell? ⟨g, 3, none⟩ = some (.int .i64 x3)) (first | go_keep | exact ⟨q2.c0, q2.c1, q2.c2, q2.c3⟩)
        ((go_at_call 67; refine (HT.out _).mono ?_; rintro e w2 ⟨rfl, b2⟩; have q2 := BoxClue.below (w := wa) (by exact ⟨HX.out.c0, HX.out.c1, HX.out.c2, HX.out.c3⟩) (show Below wa.heap.size wa w2 from ⟨b2.os, b2.tape, b2.output, b2.size, b2.block⟩)))
      have HB2 : Hid (Below w0.heap.size w0 w2) := Lib.hid (HBA.out.trans (Below.mono (show Below wa.heap.size wa w2 from ⟨b2.os, b2.tape, b2.output, b2.size, b2.block⟩) HBA.out.size))
      clear b2 q2 d0 d1 d2 d3 hq2
      rcases hf : fitsC (x0, x1, x2, x3) l with _ | _
      · have HE := Lib.hid (HNO.out hf)
        rw [hf] at hq
        clear hf HNO
        go_wp2
        go_ret
        exact ⟨ret_bool (by rw [HE.out]), HW0.out.trans (HB2.out.mono HW0.out.size)⟩
      · have HK2 : Hid (∀ j, j < k + 1 → fitsC (cs.getD j zClue) l = true) := Lib.hid (fun j hj => by
          by_cases e : j = k
          · subst e; rw [← HP.out]; exact hf
          · exact HK.out j (by omega))
        rw [hf] at hq
        clear hf HNO
        go_wp2
        go_roundw
        case rel => exact ⟨k + 1, by omega, by go_num, HK2, HB2⟩
        case measure => simp [intOf]; omega
    · have HE : Hid (r = true) := Lib.hid (by rw [HR.out]; exact fit_yes (fun j hj => HK.out j (by rw [HZ.out] at hj; omega)))
      go_wp2
      go_ret
      exact ⟨ret_bool (by rw [HE.out]), HW0.out.trans (HB.out.mono HW0.out.size)⟩

end Go.Proofs.Ytodlpdbmiicdfab
