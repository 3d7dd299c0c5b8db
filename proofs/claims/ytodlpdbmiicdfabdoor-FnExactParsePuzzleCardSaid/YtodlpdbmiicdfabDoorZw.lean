/- Chapter 9, the program: PuzzleText, with the library's contracts laid. -/
import Derived.Test.YtodlpdbmiicdfabDoorZv
import Derived.Test.YtodlpdbmiicdfabDoorShb
namespace Go.Proofs.YtodlpdbmiicdfabDoor
open Go.ChangeShapes Go.WideShapes Go.ChangeAt Go.RowKit
open Dr Pz

theorem itoa_q : ItoaQ := fun i w h => (Tryd.strconv_Itoa_small i h w).mono fun e w' ⟨he, hw⟩ => ⟨by rw [he, digits_eqZ]; rfl, hw.symm⟩
theorem join_q : JoinQ := fun B v xs c w ho h6 hl => by
  obtain ⟨ao, cp, rfl, hr⟩ := ho.read
  rcases Nat.eq_zero_or_pos xs.length with h0 | h0
  · have hnil : xs = [] := List.eq_nil_of_length_eq_zero h0
    subst hnil
    exact (Tryd.strings_Join_none ao cp ⟨#[c]⟩ w).mono fun e w' ⟨he, hw⟩ => ⟨by rw [he]; rfl, by rw [hw]; exact Below.refl _ _⟩
  · obtain ⟨g, rfl, _, hg, hcell⟩ := hr h0
    have hcap : xs.length ≤ cp := by
      rcases ho.2 with ⟨e1, _⟩ | ⟨g', cap', cur, e1, _, _, e4, _⟩
      · cases e1
      · injection e1 with e2 e3 e5; omega
    refine Tryd.strings_Join g 0 cp xs ⟨#[c]⟩ w (fun j z hz => ?_) hg (by omega) hcap (by omega)
    have hj := (List.getElem?_eq_some_iff.1 hz).1
    rw [Nat.zero_add, hcell j hj, List.getD_eq_getElem?_getD, hz]; rfl
theorem implPuzzleText_q (w : World) (s : Int) (a : Option Addr) (len cap : Nat) (cs : List RClue) (hl : len ≤ 1048576) (hc : CameClue w a len cs) :
    Calls Tryd.prog 8 #[.agg #[.int .i64 s, .slice a len cap]] w fun e w' => e = .returned (.tuple #[.string (if goodP s cs then puzT s.toNat cs else ByteArray.empty), .bool (goodP s cs)]) ∧ Below w.heap.size w w' :=
  implPuzzleText_of itoa_q join_q w s a len cap cs hl hc
theorem implPuzzleText_any (w : World) (s : Int) (a : Option Addr) (len cap : Nat) (cs : List RClue) (hl : len ≤ 1048576) (hc : CameClue w a len cs) :
    Calls Tryd.prog 8 #[.agg #[.int .i64 s, .slice a len cap]] w fun e w' => e = .returned (.tuple #[.string (outPuzzleText_0 s cs), .bool (outPuzzleText_1 s cs)]) ∧ Below w.heap.size w w' := implPuzzleText_q w s a len cap cs hl hc

end Go.Proofs.YtodlpdbmiicdfabDoor
