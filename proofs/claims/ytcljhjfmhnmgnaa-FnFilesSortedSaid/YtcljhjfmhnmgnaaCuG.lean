/- The draws of files: files, DrawAreFiles, DrawSortBoth. -/
import Derived.Test.YtcljhjfmhnmgnaaCuF
namespace Go.Proofs.Ytcljhjfmhnmgnaa
open Go.ChangeShapes Go.WideShapes Go.ChangeAt Go.RowKit
open Cu Fi

theorem alloc_size (w : World) (o : Obj) : (w.alloc o).heap.size = w.heap.size + 1 := Array.size_push _
theorem own_one (w : World) (x : Int) : Own (w.alloc (.cells #[.int .i64 x] 3)) w.heap.size (.slice (some ⟨w.heap.size, 0, none⟩) 1 1) [x] :=
  ⟨rfl, .inr ⟨w.heap.size, 1, _, rfl, Nat.le_refl _, heap_alloc_new w _, Nat.le_refl _, by unfold maxLen; omega, rfl, rfl⟩⟩
theorem own_none (w : World) : Own (w.alloc (.cells #[] 3)) w.heap.size (.slice (some ⟨w.heap.size, 0, none⟩) 0 0) [] := by
  refine ⟨rfl, .inr ⟨w.heap.size, 0, #[], rfl, Nat.le_refl _, heap_alloc_new _ _, Nat.le_refl _, ?_, ?_, rfl⟩⟩
  · simp
  · simp
/-- rows of one row that has just been made -/
theorem ownSS_one {w : World} {B : Nat} {r : Value} {zs : List Int} (h : Own w B r zs) (hB : B ≤ w.heap.size) : OwnSS (w.alloc (.cells #[r] 31)) B (.slice (some ⟨w.heap.size, 0, none⟩) 1 1) [zs] := by
  have hlt : ∀ k, r.ownBlock = some k → k < w.heap.size := fun k ek => (World.ownsRow.lt h k ek).2
  refine ⟨[r], ⟨⟨rfl, .inr ⟨w.heap.size, 1, _, rfl, hB, heap_alloc_new w _, Nat.le_refl _, by unfold maxLen; omega, rfl, rfl⟩⟩, rfl, fun i hi => ?_, fun k ek => ?_, fun i j hi hj hne => ?_⟩⟩
  · obtain rfl : i = 0 := by simp at hi; exact hi
    exact ⟨h.below ((Below.refl _ _).alloc (Nat.le_refl _) _) (Nat.le_refl _), fun k ek => by have := hlt k ek; rw [alloc_size]; omega⟩
  · simp [Value.ownBlock] at ek
    rw [alloc_size]; omega
  · simp at hi hj; omega
theorem own_came0 {w : World} {B : Nat} {v : Value} {zs : List Int} (h : OwnI w B w.heap.size v zs ∨ Own w B v zs) : ∃ ao cap, v = .slice ao zs.length cap ∧ Came w ao zs.length zs ∧ (ao = none → zs.length = 0 ∧ cap = 0) := by
  have h : Own w B v zs := h.elim (·.1) id
  rcases h.shape with ⟨h1, h2⟩ | ⟨g, cap, h1, h2, h3⟩
  · exact ⟨none, 0, by rw [h1, h2], by rw [h2]; exact ⟨h2, fun hp => absurd hp (by omega)⟩, fun _ => ⟨h2, rfl⟩⟩
  · subst h1
    exact ⟨_, cap, rfl, ⟨rfl, fun _ => ⟨g, 0, rfl, fun k hk => by rw [Nat.zero_add]; exact h.cell rfl k hk⟩⟩, fun e => by cases e⟩
set_option maxRecDepth 20000 in
set_option maxHeartbeats 8000000 in
theorem files_p (w : World) (g A : Nat) (hA : A ≤ 1000000000) (hc : Cur w g A) :
    Calls Try.prog 67 #[.pointer (some ⟨g, 0, none⟩)] w fun e w' => ∃ v zss, e = .returned v ∧ OwnSS w' w.heap.size v zss ∧ zss.length ≤ 20 ∧ Drawn w w' g (A + 1000) := by
  have HG := Lib.hid hc.lt
  have C1 := Lib.hid (sureFiles_p w g A (by omega) hc)
  clear hc
  go_enter Try.func67, Try.ntmps67
  go_wp2_with fail
  go_at_call 75
  refine C1.out.mono ?_
  rintro e w1 ⟨v, zss, R, C, rfl, o1, gd, hR, d1⟩
  have GD := Lib.hid gd
  have C2 := Lib.hid (pick_p w1 g (A + 100) 16 (by omega) (by omega) (by omega) d1.cur)
  have D1 := Lib.hid d1
  have O1 := Lib.hid o1
  have hzr := gd.rows
  have hr1 := gd.r1
  clear d1 o1 gd C1
  go_wp2_with fail
  go_at_call 76
  refine C2.out.mono ?_
  rintro e w2 ⟨r, hr, rfl, d2⟩
  have D2 := Lib.hid (D1.out.trans d2)
  have O2 := Lib.hid (ownSS_drawn O1.out d2.grown HG.out)
  have hg2 : g < w2.heap.size := Nat.lt_of_lt_of_le HG.out D2.out.grown.size
  have hz2 := D2.out.grown.size
  clear d2 C2 O1 D1
  by_cases h0 : r = 0
  · subst h0
    have C3 := Lib.hid (among_p (w2.alloc (.cells #[.int .i64 (-1), .int .i64 0, .int .i64 1, .int .i64 1000] 3)) g (A + 100 + 2) (some ⟨w2.heap.size, 0, none⟩) 4 4 [-1, 0, 1, 1000] (by omega) (by omega) (by omega)
      ⟨rfl, fun _ => ⟨w2.heap.size, 0, rfl, fun k hk => by
        match k, hk with
        | 0, _ => rw [World.cell?_alloc_new]; rfl
        | 1, _ => rw [World.cell?_alloc_new]; rfl
        | 2, _ => rw [World.cell?_alloc_new]; rfl
        | 3, _ => rw [World.cell?_alloc_new]; rfl⟩⟩ (fun x hx => by cases hx; exact (Nat.ne_of_lt hg2).symm) (D2.out.cur.below ((Below.refl _ _).alloc (Nat.le_refl _) _) hg2))
    go_wp2_with fail
    go_at_call 77
    refine C3.out.mono ?_
    rintro e w3 ⟨k, hk, rfl, d3⟩
    have D3 := Lib.hid ((D2.out.below ((Below.refl _ _).alloc D2.out.grown.size (.cells #[.int .i64 (-1), .int .i64 0, .int .i64 1, .int .i64 1000] 3)) HG.out).trans d3)
    have O3 := Lib.hid (ownSS_drawn (O2.out.below ((Below.refl _ _).alloc (Nat.le_refl _) (.cells #[.int .i64 (-1), .int .i64 0, .int .i64 1, .int .i64 1000] 3)) (Nat.le_refl _)) d3.grown HG.out)
    obtain ⟨x, hx⟩ : ∃ x, x = ([-1, 0, 1, 1000] : List Int).getD k 0 := ⟨_, rfl⟩
    rw [← hx]
    clear d3 C3 hx O2
    obtain ⟨wa, hwa, HOa, HBa⟩ := ownSS_cut (w0 := w3.alloc (.cells #[.int .i64 x] 3)) O3.out (below_grownBy ((Below.refl _ _).alloc (Nat.le_refl _) _) (some g)) HG.out
    have hX := own_one w3 x
    rw [← hwa] at hX
    have HXa := Lib.hid hX
    have HOa := Lib.hid HOa
    have HBa := Lib.hid HBa
    have hz : w.heap.size ≤ wa.heap.size := by rw [hwa]; exact D3.out.grown.size
    have hbl : zss.length ≤ 1000000000 := by omega
    have hN : (w3.alloc (.cells #[.int .i64 x] 3)).heap.size = w3.heap.size + 1 := alloc_size _ _
    rw [hwa] at HXa
    clear hX
    go_wp2_with (at_builtin; refine wpList_appRow rfl _ _ rfl (w3.alloc (.cells #[.int .i64 x] 3)) wa _ _ _ _ _ _ rfl rfl hN HOa.out HBa.out (by rw [hwa]; exact HXa.out) hz hbl ?_; intro v' w5 hO hB5)
    have D5 := Lib.hid ((D3.out.below ((Below.refl _ _).alloc D3.out.grown.size (.cells #[.int .i64 x] 3)) HG.out).below hB5 HG.out)
    have HO5 := Lib.hid hO
    clear hO hB5
    go_wp2
    go_ret
    exact ⟨_, _, rfl, HO5.out, by rw [List.length_append]; simp; omega, D5.out.mono (by omega)⟩
  by_cases h1 : r = 1
  · subst h1
    go_wp2
    go_ret
    exact ⟨_, [], rfl, ownSS_nil _ _, by simp, D2.out.mono (by omega)⟩
  by_cases h2 : r = 2
  · subst h2
    obtain ⟨vs, S⟩ := O2.out
    obtain ⟨gv, cv, rfl, hgv1, hgv2⟩ := S.point (by omega)
    have hvl := S.len
    have e1 := S.cell 0 (by omega)
    have hrow := S.row 0 (by omega)
    have hrl : (zss.getD 0 []).length = C := GD.out.cols 0 (by omega)
    have hC1 := GD.out.c1
    obtain ⟨gr, cr, hvr, hgr1, hgr2⟩ := hrow.1.point (by omega)
    have hrO := hrow.1
    rw [hvr] at e1 hrO
    have HS := Lib.hid S
    obtain ⟨n, hn⟩ : ∃ n, n = zss.length := ⟨_, rfl⟩
    obtain ⟨q, hq⟩ : ∃ n, n = (zss.getD 0 []).length := ⟨_, rfl⟩
    rw [← hq] at e1 hrO
    rw [← hn]
    have HR := Lib.hid hrO
    have HV := Lib.hid hvr
    have i1 : (0 : Int) < (n : Int) := by omega
    have i2 : (0 : Int) < (q : Int) := by omega
    have C3 := Lib.hid (among_p (w2.alloc (.cells #[.int .i64 (-1), .int .i64 0, .int .i64 999, .int .i64 1000, .int .i64 4611686018427387904] 3)) g (A + 100 + 2) (some ⟨w2.heap.size, 0, none⟩) 5 5 [-1, 0, 999, 1000, 4611686018427387904] (by omega) (by omega) (by omega)
      ⟨rfl, fun _ => ⟨w2.heap.size, 0, rfl, fun k hk => by
        match k, hk with
        | 0, _ => rw [World.cell?_alloc_new]; rfl
        | 1, _ => rw [World.cell?_alloc_new]; rfl
        | 2, _ => rw [World.cell?_alloc_new]; rfl
        | 3, _ => rw [World.cell?_alloc_new]; rfl
        | 4, _ => rw [World.cell?_alloc_new]; rfl⟩⟩ (fun x hx => by cases hx; exact (Nat.ne_of_lt hg2).symm) (D2.out.cur.below ((Below.refl _ _).alloc (Nat.le_refl _) _) hg2))
    have HQ := Lib.hid hq
    have HNZ := Lib.hid hn
    have HZR := Lib.hid hzr
    clear hrow hvr hrO S hq hn hzr hvl hrl
    go_wp2_with fail
    go_at_call 77
    refine C3.out.mono ?_
    rintro e w3 ⟨k, hk, rfl, d3⟩
    have D3 := Lib.hid ((D2.out.below ((Below.refl _ _).alloc D2.out.grown.size (.cells #[.int .i64 (-1), .int .i64 0, .int .i64 999, .int .i64 1000, .int .i64 4611686018427387904] 3)) HG.out).trans d3)
    have hb3 : ∀ b, b ≠ g → b < w2.heap.size → w3.heap[b]? = w2.heap[b]? := fun b h1 h2 => (d3.grown.block b (by rw [alloc_size]; omega) (fun e => h1 (Option.some.inj e))).trans (heap_alloc_old _ _ h2)
    have S3 := Lib.hid (HS.out.same (w' := w3) (fun b h1 h2 => hb3 b (by have := HG.out; omega) h2))
    obtain ⟨x, hx⟩ : ∃ x, x = ([-1, 0, 999, 1000, 4611686018427387904] : List Int).getD k 0 := ⟨_, rfl⟩
    rw [← hx]
    have hR3 : Own w3 w.heap.size (.slice (some ⟨gr, 0, none⟩) q cr) (zss.getD 0 []) := HR.out.same fun b eb => by
      have := World.ownsRow.lt HR.out b eb
      exact hb3 b (by have := HG.out; omega) this.2
    have e3 := hR3.cell HQ.out 0 (by have := HQ.out; omega)
    have f3 := hR3.free HQ.out 0
    have HR3 := Lib.hid hR3
    have hz3 : w2.heap.size ≤ w3.heap.size := by have := d3.grown.size; rw [alloc_size] at this; omega
    clear d3 C3 hx O2 hR3 hb3 e1
    go_wp2
    go_ret
    have hS := SS.setRow (w' := w3.setCell ⟨gr, 0, none⟩ (.int .i64 x)) S3.out 0 (by have := S3.out.len; have := HZR.out; omega) ((zss.getD 0 []).set 0 x) (by rw [HV.out, ← HQ.out]; exact HR3.out.set HQ.out 0 x) (by rw [HV.out]; exact set_grown _ _ _ _)
    rw [← HNZ.out] at hS
    refine ⟨_, zss.set 0 ((zss.getD 0 []).set 0 x), rfl, OwnJ.mono ⟨vs, hS⟩ (Nat.le_refl _) (by simp; omega), by rw [List.length_set, HZR.out]; omega, ?_⟩
    have D4 := D3.out.below (w2 := w3.setCell ⟨gr, 0, none⟩ (.int .i64 x)) (grownBy_below (Below.refl _ _) (set_grown _ _ _ _) D3.out.grown.size hgr1) HG.out
    exact D4.mono (by omega)
  by_cases h3 : r = 3
  · subst h3
    go_wp2
    go_loopw [3] (fun v wr => ∃ zs, Hid (OwnSS wr w.heap.size v zs) ∧ Hid (1 ≤ zs.length ∧ (zs.getD 0 []).length ≤ 8) ∧ zs.length ≤ 9 ∧ Hid (Drawn w wr g (A + 102 + 4 * zs.length))) (fun v _ => match v with | .slice _ n _ => 10 - n | _ => 0)
    case atStart => exact ⟨zss, O2, Lib.hid ⟨by omega, by have h1 : (row zss 0).length = C := GD.out.cols 0 (by omega); have := GD.out.c8; show (row zss 0).length ≤ 8; omega⟩, by omega, Lib.hid (D2.out.mono (by omega))⟩
    case round =>
      obtain ⟨zs, HO, HL, hl9, HD⟩ := hrel
      obtain ⟨wo, rfl⟩ : ∃ wo : World, wo = wr := ⟨_, rfl⟩
      have C3 := Lib.hid (pick_p wo g _ 2 (by omega) (by omega) (by omega) HD.out.cur)
      obtain ⟨ao, cp, rfl⟩ : ∃ ao cp, u3 = .slice ao zs.length cp := by obtain ⟨vs, S⟩ := HO.out; exact S.any
      obtain ⟨n, hn⟩ : ∃ n, n = zs.length := ⟨_, rfl⟩
      rw [← hn] at HO HD ⊢
      have HN := Lib.hid hn
      have hn9 : n ≤ 9 := by omega
      have hn1 : 1 ≤ n := by have := HL.out.1; omega
      clear hn hl9
      go_wp2_with fail
      go_at_call 76
      refine C3.out.mono ?_
      rintro e w3 ⟨b, hb, rfl, d3⟩
      have D3 := Lib.hid (HD.out.trans d3)
      have O3 := Lib.hid (ownSS_drawn HO.out d3.grown HG.out)
      clear d3 C3
      by_cases hlt : n < 8 + b
      · have i1 : (n : Int) < 8 + (b : Int) := by omega
        obtain ⟨vs, S⟩ := O3.out
        have hvl := S.len
        obtain ⟨gv, cv, hv, _, _⟩ := S.point (by have := HN.out; omega)
        injection hv with hao hnn hcp
        subst hao hcp
        clear hnn
        have e1 := S.cell 0 (by have := HN.out; omega)
        have hrow := (S.row 0 (by have := HN.out; omega)).1
        have hrl := HL.out.2
        obtain ⟨ar, cr, hvr, hcr, h0r⟩ := own_came0 (.inr hrow)
        rw [hvr] at e1
        obtain ⟨q, hq⟩ : ∃ n, n = (zs.getD 0 []).length := ⟨_, rfl⟩
        rw [← hq] at e1 hcr h0r
        have C4 := Lib.hid (l1OwnC_any w3 ar q cr (zs.getD 0 []) (by omega) hcr h0r)
        have i2 : (0 : Int) < (n : Int) := by omega
        have hz3 := D3.out.grown.size
        have hbl : zs.length ≤ 1000000000 := by have := HN.out; omega
        clear hrow hvr hcr h0r S hq hvl
        go_wp2_with fail
        go_at_call 69
        refine C4.out.mono ?_
        rintro e w4 ⟨vr, rfl, o4, b4⟩
        have O4 := Lib.hid o4
        have B4 := Lib.hid b4
        obtain ⟨ar2, cr2, rfl⟩ := o4.any
        clear o4 b4 C4 e1
        go_wp2_with (at_builtin; refine wpList_appRow rfl _ _ rfl w4 w3 _ _ _ _ _ _ rfl rfl rfl O3.out B4.out O4.out hz3 hbl ?_; intro v' w5 hO hB5)
        have D5 := Lib.hid ((D3.out.below (B4.out.mono hz3) HG.out).below hB5 HG.out)
        have HO5 := Lib.hid hO
        obtain ⟨a5, c5, rfl⟩ : ∃ ao cp, v' = .slice ao (zs ++ [zs.getD 0 []]).length cp := by obtain ⟨vs, S⟩ := hO; exact S.any
        obtain ⟨m, hm⟩ : ∃ m, m = (zs ++ [zs.getD 0 []]).length := ⟨_, rfl⟩
        have hm2 : m = n + 1 := by rw [hm, List.length_append, ← HN.out]; rfl
        have hm9 : m ≤ 9 := by omega
        rw [← hm] at HO5 ⊢
        have HL5 : Hid (1 ≤ (zs ++ [zs.getD 0 []]).length ∧ ((zs ++ [zs.getD 0 []]).getD 0 []).length ≤ 8) := Lib.hid ⟨by rw [← hm]; omega, by
          rw [List.getD_eq_getElem?_getD, List.getElem?_append_left (by have := HN.out; omega), ← List.getD_eq_getElem?_getD]; exact hrl⟩
        have HM := Lib.hid hm
        clear hO hB5 hm
        go_wp2
        go_roundw
        case rel => exact ⟨_, by rw [HM.out] at HO5; rw [HM.out]; exact HO5, HL5, by rw [← HM.out]; exact hm9, Lib.hid (D5.out.mono (by have h := HM.out; have h2 := HN.out; rw [← h]; omega))⟩
        case measure => show 10 - m < 10 - n; omega
      · have i1 : ¬ (n : Int) < 8 + (b : Int) := by omega
        go_wp2
        go_ret
        exact ⟨_, zs, rfl, by rw [HN.out] at O3 ⊢; exact O3.out, by have := HN.out; omega, D3.out.mono (by have := HN.out; omega)⟩
  by_cases h4 : r = 4
  · subst h4
    go_wp2
    go_ret
    have hO := ownSS_one (own_none w2) (by rw [alloc_size]; omega)
    rw [alloc_size] at hO
    refine ⟨_, [[]], rfl, hO.mono hz2, by simp, ?_⟩
    exact (D2.out.below (((Below.refl _ _).alloc hz2 _).alloc (by rw [alloc_size]; omega) _) HG.out).mono (by omega)
  · have q0 : ¬ (r : Int) = 0 := by omega
    have q1 : ¬ (r : Int) = 1 := by omega
    have q2 : ¬ (r : Int) = 2 := by omega
    have q3 : ¬ (r : Int) = 3 := by omega
    have q4 : ¬ (r : Int) = 4 := by omega
    go_wp2
    go_ret
    exact ⟨_, zss, rfl, O2.out, by omega, D2.out.mono (by omega)⟩
end Go.Proofs.Ytcljhjfmhnmgnaa
