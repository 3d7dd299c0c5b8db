
/- spec.rwPairs: the pairs who face each other, in new memory. -/
import Derived.Test.YtacchefmblfobaaC1Good
import Derived.Deep.QuietTactic
import Derived.BigQuiet
import Derived.OneCell
namespace Go.Proofs.Ytacchefmblfobaa.C1
open Go.ChangeShapes Go.WideShapes Go.ChangeAt Go.RowKit

def ints (ps : List Nat) : List Value := ps.map fun i : Nat => .int .i64 (i : Int)
@[simp] theorem length_ints (ps : List Nat) : (ints ps).length = ps.length := by simp [ints]
theorem ints_snoc (ps : List Nat) (k : Nat) : ints (ps ++ [k]) = ints ps ++ [.int .i64 k] := by simp [ints]

theorem byteR {s : ByteArray} {l : List Bool} (h : s = Rw.str l) (k : Nat) (hk : k < s.size) : ((s[k].toNat : Int) == 62) = l.getD k false := by
  subst h
  rw [Rw.str_get _ _ hk]
  cases l.getD k false <;> rfl
theorem byteL {s : ByteArray} {l : List Bool} (h : s = Rw.str l) (k : Nat) (hk : k < s.size) : ((s[k].toNat : Int) == 60) = !l.getD k false := by
  subst h
  rw [Rw.str_get _ _ hk]
  cases l.getD k false <;> rfl

theorem Try.info_int : (Try.prog.info? 3).map (fun i => (i.zero, i.size, i.bytes)) = some (some (.int .i64 0), 1, 8) := by kernel_rfl

theorem pairsTo_yes {l : List Bool} {k : Nat} (h : Rw.isPair l k = true) : Rw.pairsTo l (k + 1) = Rw.pairsTo l k ++ [k] := by rw [Rw.pairsTo_succ, if_pos h]
theorem pairsTo_no {l : List Bool} {k : Nat} (h : Rw.isPair l k = false) : Rw.pairsTo l (k + 1) = Rw.pairsTo l k := by rw [Rw.pairsTo_succ, h]; simp
theorem isPair_of {l : List Bool} {k : Nat} (hk : k + 1 < l.length) {a b : Bool} (h1 : l.getD k false = a) (h2 : l.getD (k + 1) false = b) : Rw.isPair l k = (a && !b) := by
  unfold Rw.isPair; rw [h1, Rw.getD_ne l hk true false, h2]

theorem pairs_start (l : List Bool) (w : World) : w.ownsRow w.heap.size 3 1 (.slice none 0 0) (Rw.pairsTo l 0).length (ints (Rw.pairsTo l 0)) := World.ownsRow_nil _ _ _ _
theorem pairs_step {l : List Bool} {k B : Nat} {v : Value} {w1 : World} (h : Rw.pairsTo l (k + 1) = Rw.pairsTo l k ++ [k]) (hown : w1.ownsRow B 3 1 v ((Rw.pairsTo l k).length + 1) (ints (Rw.pairsTo l k) ++ [.int .i64 k])) :
    w1.ownsRow B 3 1 v (Rw.pairsTo l (k + 1)).length (ints (Rw.pairsTo l (k + 1))) := by
  rw [h, List.length_append, ints_snoc]; exact hown
theorem pairs_stay {l : List Bool} {k B : Nat} {v : Value} {w1 : World} (h : Rw.pairsTo l (k + 1) = Rw.pairsTo l k) (hown : w1.ownsRow B 3 1 v (Rw.pairsTo l k).length (ints (Rw.pairsTo l k))) :
    w1.ownsRow B 3 1 v (Rw.pairsTo l (k + 1)).length (ints (Rw.pairsTo l (k + 1))) := by
  rw [h]; exact hown
theorem pairs_done {l : List Bool} {k B : Nat} {v : Value} {w1 : World} (h : k = l.length - 1) (hown : w1.ownsRow B 3 1 v (Rw.pairsTo l k).length (ints (Rw.pairsTo l k))) :
    w1.ownsRow B 3 1 v (Rw.pairs l).length (ints (Rw.pairs l)) := by
  unfold Rw.pairs; rw [← h]; exact hown
theorem own_grown {B : Nat} {o : Obj} {w wr w1 : World} {v : Value} {e : TypeId} {size n : Nat} {xs : List Value} (hb : Below B w wr) (hB : B ≤ w.heap.size) (hown : wr.ownsRow B e size v n xs) (hg : (wr.alloc o).grownBy w1 v.ownBlock) : Below B w w1 :=
  (hb.alloc (by have := hb.size; omega) o).grown hg (by have := hb.size; simp; omega) (fun k hk => (hown.lt k hk).1)

set_option maxRecDepth 20000 in
set_option maxHeartbeats 1000000 in
theorem rwPairs_any (l : List Bool) (h1 : 1 ≤ l.length) (h2 : l.length ≤ 60) (w : World) :
    Calls Try.prog 70 #[.string (Rw.str l)] w fun e w' => ∃ v, e = .returned v ∧ w'.ownsRow w.heap.size 3 1 v (Rw.pairs l).length (ints (Rw.pairs l)) ∧ Below w.heap.size w w' := by
  obtain ⟨i0, hi, hz0, hz1, hz2⟩ := info_parts Try.info_int
  have hsz : (Rw.str l).size = l.length := Rw.size_str l
  obtain ⟨s, hs⟩ : ∃ s, s = Rw.str l := ⟨_, rfl⟩
  rw [← hs] at hsz ⊢
  have HS := Lib.hid hs
  have hsl : s.size ≤ 60 := by omega
  have hs1 : 1 ≤ s.size := by omega
  have HZ := Lib.hid hsz
  clear hs hsz
  go_enter Try.func70, Try.ntmps70
  go_wp2
  go_loopw [3, 4] (fun v i wr => ∃ k : Nat, k + 1 ≤ s.size ∧ i = .int .i64 k ∧ wr.ownsRow w.heap.size 3 1 v (Rw.pairsTo l k).length (ints (Rw.pairsTo l k)) ∧ Below w.heap.size w wr)
    (fun _ i _ => s.size - (intOf i).toNat)
  case atStart => exact ⟨0, by omega, rfl, pairs_start l w, Below.refl _ _⟩
  case round =>
    obtain ⟨k, hk, rfl, hown, hbel⟩ := hrel
    have hpl := Rw.pairsTo_le l k
    by_cases hlt : k + 1 < s.size
    · have e1 := byteR HS.out k (by omega)
      have e2 := byteL HS.out (k + 1) hlt
      rcases ha : l.getD k false with _ | _ <;> rcases hb : l.getD (k + 1) false with _ | _
      case true.false =>
        rw [ha] at e1
        rw [hb] at e2
        have HP := Lib.hid (pairsTo_yes (isPair_of (by have := HZ.out; omega) ha hb))
        clear ha hb
        go_wp2_with (at_builtin; refine wpList_append_own _ rfl _ _ 29 rfl w.heap.size 3 i0 (.int .i64 0) 1 8 Try.underlying29 hi hz0 hz1 hz2 rfl (by decide) _ _ _ rfl (hown.alloc _) ⟨wr.heap.size, 0, none⟩ 1 1 [.int .i64 k] rfl rfl ?c1 ?c2 ?c3 ?c4 ?c5 ?_)
        case c1 =>
          intro j u hj
          match j, hj with
          | 0, hj => simp at hj; subst hj; simp [Addr.add]
        case c2 => intro u hu; simp at hu; subst hu; rfl
        case c3 => unfold maxLen; omega
        case c4 => omega
        case c5 => have := hbel.size; simp; omega
        intro v' w1 hown' hgrow _
        have R := pairs_step HP.out hown'
        have hb' := own_grown hbel (Nat.le_refl _) hown hgrow
        clear hown' hgrow hown hbel
        go_wp2
        go_roundw
        case rel => exact ⟨k + 1, by omega, by go_num, R, hb'⟩
        case measure => simp [intOf]; omega
      all_goals
        rw [ha] at e1
        rw [hb] at e2
        have R := pairs_stay (pairsTo_no (isPair_of (by have := HZ.out; omega) ha hb)) hown
        clear ha hb hown
        go_wp2
        go_roundw
        case rel => exact ⟨k + 1, by omega, by go_num, R, hbel⟩
        case measure => simp [intOf]; omega
    · have hke : k = l.length - 1 := by have := HZ.out; omega
      have R := pairs_done hke hown
      clear hown hke
      go_wp2
      go_ret
      exact ⟨_, rfl, R, hbel⟩

end Go.Proofs.Ytacchefmblfobaa.C1
