/- Chapter 7, the program: neighboursTo. -/
import Derived.Test.YtkdpjimbhpclaabVs
import Derived.Test.YtkdpjimbhpclaabVl
import Derived.Test.YtkdpjimbhpclaabAppF
import Derived.Test.YtkdpjimbhpclaabVw
namespace Go.Proofs.Ytkdpjimbhpclaab
open Go.ChangeShapes Go.WideShapes Go.ChangeAt Go.RowKit
open Rx Od Ed

theorem rnNI_next (n x : Nat) : rnNI n ((x : Int) + 1) = rnN n x := by
  unfold rnNI rnN
  by_cases h : x + 1 < n
  · rw [if_pos h, if_pos (by omega), show ((x : Int) + 1).toNat = x + 1 by omega]; rfl
  · rw [if_neg h, if_neg (by omega)]
theorem nbTo1_p (w : World) (n gp g1 x : Nat) (hn : n ≤ 60) (hx : x ≤ 60) (cp : w.cell? ⟨gp, 0, none⟩ = some (.func (.func 76) #[] #[.pointer (some ⟨g1, 0, none⟩)])) (c1 : w.cell? ⟨g1, 0, none⟩ = some (.int .i64 (n : Int))) :
    Calls Try.prog 62 #[.int .i64 (x : Int), .pointer (some ⟨gp, 0, none⟩)] w fun e w' => e = .returned (runV (rnN n x)) ∧ Below w.heap.size w w' := by
  have dp : (w.alloc (.cells #[.int .i64 0, .int .i64 0] 69)).cell? ⟨gp, 0, none⟩ = some (.func (.func 76) #[] #[.pointer (some ⟨g1, 0, none⟩)]) := old_cell cp _
  have HC := Lib.hid (neighboursIn1_p (w.alloc (.cells #[.int .i64 0, .int .i64 0] 69)) n g1 ((x : Int) + 1) hn (old_cell c1 _))
  rw [rnNI_next] at HC
  have HA := Lib.hid (below_runB w)
  have z0 := runB_cell0 w
  have z1 := runB_cell1 w
  unfold runB at z0 z1 HA
  have hz : w.heap.size < (w.alloc (.cells #[.int .i64 0, .int .i64 0] 69)).heap.size := by simp
  have HK : Hid (∀ w3, Below (w.alloc (.cells #[.int .i64 0, .int .i64 0] 69)).heap.size (w.alloc (.cells #[.int .i64 0, .int .i64 0] 69)) w3 → w3.cell? ⟨w.heap.size, 0, none⟩ = some (.int .i64 0) ∧ w3.cell? ⟨w.heap.size, 1, none⟩ = some (.int .i64 0) ∧ ∀ j, w3.frozen? ⟨w.heap.size, j, none⟩ = false) := Lib.hid (fun w3 h3 =>
    ⟨(h3.cell hz).trans z0, (h3.cell hz).trans z1, fun j => frozen_of_row w3 w.heap.size j _ _ ((h3.block _ hz).trans (heap_alloc_new w _))⟩)
  obtain ⟨o, ho⟩ : ∃ o, o = rnN n x := ⟨_, rfl⟩
  rw [← ho] at HC ⊢
  unfold runV at HC ⊢
  obtain ⟨A, hA⟩ : ∃ A : Int, A = (((o.getD (0, 0)).1 : Nat) : Int) := ⟨_, rfl⟩
  obtain ⟨B, hB⟩ : ∃ B : Int, B = (((o.getD (0, 0)).2 : Nat) : Int) := ⟨_, rfl⟩
  obtain ⟨b, hb⟩ : ∃ b, b = o.isSome := ⟨_, rfl⟩
  rw [← hA, ← hB, ← hb] at HC ⊢
  clear ho hA hB hb z0 z1 cp c1 hz
  go_enter Try.func62, Try.ntmps62
  go_wp2_with fail
  go_at_call 76
  refine HC.out.mono ?_
  rintro e w3 ⟨rfl, B3⟩
  obtain ⟨k0, k1, kf⟩ := HK.out w3 B3
  have K0 := Lib.hid k0
  have K1 := Lib.hid k1
  have HB3 := Lib.hid (HA.out.trans (B3.mono HA.out.size))
  clear B3
  go_wp2
  (try simp only [Exit.inBlock, Exit.then])
  refine bodyPost_ret (results_run rfl _ _ w.heap.size A B rfl rfl (setTwo0 K0.out K1.out) (setTwo1 K0.out K1.out)) rfl ?_
  exact ⟨rfl, (HB3.out.setCell (Nat.le_refl _) _).setCell (Nat.le_refl _) _⟩

/-- the lists found so far -/
def candTo (l m : List Bool) : Nat → List (List Int)
  | 0 => []
  | k + 1 => if chB l m (decide (k = 0)) then candTo l m k ++ [chL l m (decide (k = 0))] else candTo l m k
theorem length_candTo (l m : List Bool) : ∀ k, (candTo l m k).length ≤ k
  | 0 => Nat.le_refl _
  | k + 1 => by
    have := length_candTo l m k
    rw [candTo]
    split
    · rw [List.length_append, List.length_singleton]; omega
    · omega
/-- and put in order -/
def ordL (l m : List Bool) : List (List Int) := if (chB l m true && (chB l m false && decide (chL l m false = []))) = true then [chL l m false, chL l m true] else candTo l m 2
theorem SS.keep {w w' : World} {lo hi : Nat} {v : Value} {vs : List Value} {zss : List (List Int)} (h : SS w lo hi v vs zss) (h1 : ∀ k, v.ownBlock = some k → w'.heap[k]? = w.heap[k]?) (h2 : ∀ i, i < vs.length → ∀ k, (vs.getD i undef).ownBlock = some k → w'.heap[k]? = w.heap[k]?) : SS w' lo hi v vs zss :=
  ⟨rowsOwn_same h.own h1, h.len, fun i hi' => ⟨(h.row i hi').1.same (h2 i hi'), (h.row i hi').2⟩, h.lid, h.apart⟩
theorem SS.up {w : World} {lo hi hi' : Nat} {v : Value} {vs : List Value} {zss : List (List Int)} (h : SS w lo hi v vs zss) (hh : hi ≤ hi') : SS w lo hi' v vs zss :=
  ⟨h.own, h.len, fun i hi2 => ⟨(h.row i hi2).1, fun k e => Nat.lt_of_lt_of_le ((h.row i hi2).2 k e) hh⟩, fun k e => Nat.lt_of_lt_of_le (h.lid k e) hh, h.apart⟩
/-- what holds ahead of round k: W0 the world of the literals, its blocks gl, gl + 1 the two beginnings -/
def NbI (w W0 : World) (C gl : Nat) (l m : List Bool) (k : Nat) (v : Value) (wr : World) : Prop :=
  Below w.heap.size w wr ∧ C ≤ wr.heap.size ∧ (∀ j, j < C → (∀ i, i < k → j ≠ gl + i) → wr.heap[j]? = W0.heap[j]?) ∧
  ∃ (hi : Nat) (vs : List Value), hi ≤ wr.heap.size ∧ SS wr w.heap.size hi v vs (candTo l m k) ∧ (∀ j, v.ownBlock = some j → C ≤ j) ∧ (∀ i, i < vs.length → ∀ j, (vs.getD i undef).ownBlock = some j → C ≤ j ∨ ∃ t, t < k ∧ j = gl + t)
theorem store_fn (w : World) (fn : Fn) (f c : Array Value) (t : TypeId) : (store ⟨w.heap.size, 0, none⟩ (.func fn f c)).run Try.prog (w.alloc (.cells #[.nilFunc] t)) = .ok () (w.alloc (.cells #[.func fn f c] t)) := by
  rw [run_store Try.prog _ _ _ _ rfl, World.cell?_alloc_new, frozen_of_row (w.alloc (.cells #[.nilFunc] t)) w.heap.size 0 _ _ (heap_alloc_new w _), show (#[Value.nilFunc] : Array Value)[0]? = some .nilFunc from rfl]
  show Result.ok () _ = _
  rw [World.setCell_alloc_new]
  rfl
/-- the literals' world -/
def nbW (w1 : World) (g1 : Nat) : World :=
  (((w1.alloc (.cells #[.func (.func 76) #[] #[.pointer (some ⟨g1, 0, none⟩)]] 60)).alloc (.cells #[.int .i64 0] 3)).alloc (.cells #[] 3)).alloc
    (.cells #[.slice (some ⟨w1.heap.size + 1, 0, none⟩) 1 1, .slice (some ⟨w1.heap.size + 1 + 1, 0, none⟩) 0 0] 25)
theorem nbW_size (w1 : World) (g1 : Nat) : (nbW w1 g1).heap.size = w1.heap.size + 4 := by simp [nbW]
theorem nbW_b0 (w1 : World) (g1 : Nat) : (nbW w1 g1).heap[w1.heap.size]? = some (.cells #[.func (.func 76) #[] #[.pointer (some ⟨g1, 0, none⟩)]] 60 (0, 0)) := by
  unfold nbW
  rw [heap_alloc_old _ _ (by simp; omega), heap_alloc_old _ _ (by simp; omega), heap_alloc_old _ _ (by simp), heap_alloc_new]
theorem nbW_b1 (w1 : World) (g1 : Nat) : (nbW w1 g1).heap[w1.heap.size + 1]? = some (.cells #[.int .i64 0] 3 (0, 0)) := by
  unfold nbW
  rw [heap_alloc_old _ _ (by simp), heap_alloc_old _ _ (by simp)]
  have := heap_alloc_new (w1.alloc (.cells #[.func (.func 76) #[] #[.pointer (some ⟨g1, 0, none⟩)]] 60)) (.cells #[.int .i64 0] 3)
  rw [show (w1.alloc (.cells #[.func (.func 76) #[] #[.pointer (some ⟨g1, 0, none⟩)]] 60)).heap.size = w1.heap.size + 1 from by simp] at this
  exact this
theorem nbW_b2 (w1 : World) (g1 : Nat) : (nbW w1 g1).heap[w1.heap.size + 1 + 1]? = some (.cells #[] 3 (0, 0)) := by
  unfold nbW
  rw [heap_alloc_old _ _ (by simp)]
  have := heap_alloc_new ((w1.alloc (.cells #[.func (.func 76) #[] #[.pointer (some ⟨g1, 0, none⟩)]] 60)).alloc (.cells #[.int .i64 0] 3)) (.cells #[] 3)
  rw [show ((w1.alloc (.cells #[.func (.func 76) #[] #[.pointer (some ⟨g1, 0, none⟩)]] 60)).alloc (.cells #[.int .i64 0] 3)).heap.size = w1.heap.size + 1 + 1 from by simp] at this
  exact this
theorem nbW_b3 (w1 : World) (g1 : Nat) : (nbW w1 g1).heap[w1.heap.size + 1 + 1 + 1]? = some (.cells #[.slice (some ⟨w1.heap.size + 1, 0, none⟩) 1 1, .slice (some ⟨w1.heap.size + 1 + 1, 0, none⟩) 0 0] 25 (0, 0)) := by
  have := heap_alloc_new (((w1.alloc (.cells #[.func (.func 76) #[] #[.pointer (some ⟨g1, 0, none⟩)]] 60)).alloc (.cells #[.int .i64 0] 3)).alloc (.cells #[] 3)) (.cells #[.slice (some ⟨w1.heap.size + 1, 0, none⟩) 1 1, .slice (some ⟨w1.heap.size + 1 + 1, 0, none⟩) 0 0] 25)
  rw [show (((w1.alloc (.cells #[.func (.func 76) #[] #[.pointer (some ⟨g1, 0, none⟩)]] 60)).alloc (.cells #[.int .i64 0] 3)).alloc (.cells #[] 3)).heap.size = w1.heap.size + 1 + 1 + 1 from by simp] at this
  exact this
theorem nbW_below (w1 : World) (g1 : Nat) : Below w1.heap.size w1 (nbW w1 g1) := ((((Below.refl _ _).alloc (Nat.le_refl _) _).alloc (by simp) _).alloc (by simp; omega) _).alloc (by simp; omega) _
theorem cell_block {w w' : World} {g j : Nat} (h : w'.heap[g]? = w.heap[g]?) : w'.cell? ⟨g, j, none⟩ = w.cell? ⟨g, j, none⟩ := by
  unfold World.cell?; simp only [h]
theorem nbW_row (w1 : World) (g1 k : Nat) (hk : k < 2) : (nbW w1 g1).cell? ⟨w1.heap.size + 1 + 1 + 1, k, none⟩ = some (.slice (some ⟨w1.heap.size + 1 + k, 0, none⟩) (1 - k) (1 - k)) := by
  rw [cell_of_row _ _ _ _ _ _ (nbW_b3 w1 g1)]
  match k, hk with
  | 0, _ => rfl
  | 1, _ => rfl
theorem nbW_own (w1 : World) (g1 B k : Nat) (hk : k < 2) (hB : B ≤ w1.heap.size) : Own (nbW w1 g1) B (.slice (some ⟨w1.heap.size + 1 + k, 0, none⟩) (1 - k) (1 - k)) (preL (decide (k = 0))) := by
  match k, hk with
  | 0, _ => exact ⟨rfl, .inr ⟨w1.heap.size + 1, 1, _, rfl, by omega, nbW_b1 w1 g1, Nat.le_refl _, by unfold maxLen; omega, rfl, rfl⟩⟩
  | 1, _ => exact ⟨rfl, .inr ⟨w1.heap.size + 1 + 1, 0, _, rfl, by omega, nbW_b2 w1 g1, Nat.le_refl _, by unfold maxLen; omega, rfl, rfl⟩⟩
theorem around_dif (l m : List Bool) (h1 : 1 ≤ l.length) : dif (aroundL l 0) m = turnTo (dif l m) 0 (min (l.length - 1) (0 + 1) + 1) := by
  unfold aroundL
  rw [show 0 - 1 = 0 from rfl, dif_turn _ _ _ _ (by omega)]
theorem rnNI_zero (n : Nat) (h1 : 1 ≤ n) : rnNI n 0 = some (0, min (n - 1) (0 + 1)) := by
  unfold rnNI
  rw [if_pos (by omega)]; rfl
theorem sortCand_p (wr : World) (B : Nat) (v : Value) (l m : List Bool) (h1 : 1 ≤ l.length) (hm : m.length = l.length) (h : OwnSS wr B v (candTo l m 2)) :
    Calls Try.prog 63 #[v, .func (.func 64) #[] #[]] wr fun e w' => e = .returned (.tuple #[]) ∧ OwnSS w' B v (ordL l m) ∧ Below B wr w' := by
  have few : (candTo l m 2).length ≤ 1 → ordL l m = candTo l m 2 → Calls Try.prog 63 #[v, .func (.func 64) #[] #[]] wr fun e w' => e = .returned (.tuple #[]) ∧ OwnSS w' B v (ordL l m) ∧ Below B wr w' := fun h2 h3 =>
    (sortFew_p wr B v _ h h2).mono fun e w' ⟨he, hw⟩ => by subst hw; exact ⟨he, by rw [h3]; exact h, Below.refl _ _⟩
  have e2 : candTo l m 2 = if chB l m false then (if chB l m true then [chL l m true] else []) ++ [chL l m false] else (if chB l m true then [chL l m true] else []) := by
    rw [candTo, candTo]
    rfl
  rcases hb : chB l m true with _ | _
  · exact few (by rw [e2, hb]; split <;> simp) (by unfold ordL; rw [hb]; rfl)
  · rcases hc : chB l m false with _ | _
    · exact few (by rw [e2, hb, hc]; simp) (by unfold ordL; rw [hb, hc]; rfl)
    · obtain ⟨st, _, hx, _, _⟩ := ch_rep l m true hm h1
      obtain ⟨st2, _, hy, hp, _⟩ := ch_rep l m false hm h1
      have hx2 : chL l m true = 0 :: upL st := hx
      have hy2 : chL l m false = upL st2 := hy
      have e3 : candTo l m 2 = [0 :: upL st, chL l m false] := by rw [e2, hb, hc, hx2]; rfl
      rw [e3] at h
      have := sortTwo_p wr B v (upL st) (chL l m false) h (fun k t hk => by
        have hmem : k ∈ upL st2 := by rw [← hy2, hk]; exact List.mem_cons_self
        unfold upL at hmem
        obtain ⟨x, hx, rfl⟩ := List.mem_map.1 hmem
        have := hp x hx
        omega)
      have eo : ordL l m = if chL l m false = [] then [chL l m false, 0 :: upL st] else [0 :: upL st, chL l m false] := by
        unfold ordL
        rw [hb, hc, Bool.true_and, Bool.true_and, hx2, e3]
        by_cases e : chL l m false = []
        · rw [if_pos e, decide_eq_true e, if_pos rfl]
        · rw [if_neg e, decide_eq_false e, if_neg (by decide)]
      rw [eo]
      exact this

end Go.Proofs.Ytkdpjimbhpclaab
