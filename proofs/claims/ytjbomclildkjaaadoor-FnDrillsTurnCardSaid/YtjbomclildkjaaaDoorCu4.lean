/- The draws of chapter 4. Written by a program of mine (tools/sp/w_dr4.py). -/
import Derived.Test.YtjbomclildkjaaaDoorCp
import Derived.Test.YtjbomclildkjaaaDoorCq
import Derived.Test.YtjbomclildkjaaaDoorSs
import Derived.Lib.OthersKept
import Derived.Laws.RangeAny
namespace Go.Proofs.YtjbomclildkjaaaDoor
open Go.ChangeShapes Go.WideShapes Go.ChangeAt Go.RowKit
open Cu
theorem drawn_end {w w' : World} {a : Option Addr} {len cap A : Nat} (d : Drawn (w.alloc (.cells #[.slice a len cap, .int .i64 0, .int .u64 0] 65)) w' w.heap.size A) : Below w.heap.size w w' :=
  grownBy_below ((Below.refl w.heap.size w).alloc (Nat.le_refl _) _) d.grown (Nat.le_refl _) (Nat.le_refl _)
theorem wf_i64' {z : Int} (h1 : -9223372036854775808 ≤ z) (h2 : z ≤ 9223372036854775807) : (Lit.int .i64 z).wf = true := WalkArith.wf_i64 ⟨h1, h2⟩
theorem size_le {xs : List ByteArray} {n : Nat} (h : (xs.all fun x => decide (x.size ≤ n)) = true) {x : ByteArray} (hx : x ∈ xs) : x.size ≤ n := of_decide_eq_true (List.all_eq_true.1 h x hx)
theorem width_pos' (s : ByteArray) (pos : Nat) (h : pos < s.size) : 1 ≤ (Utf8.decode s pos).2 := by
  by_cases ha : (s[pos]'h).toNat < 128
  · rw [decode_ascii s pos h ha]; exact Nat.le_refl 1
  · exact (decode_high s pos h (by omega)).2
theorem size_is {xs : List ByteArray} {n : Nat} (h : (xs.all fun x => decide (x.size = n)) = true) {x : ByteArray} (hx : x ∈ xs) : x.size = n := of_decide_eq_true (List.all_eq_true.1 h x hx)
theorem size_app (a b : ByteArray) : (a ++ b).size = a.size + b.size := ByteArray.size_append
theorem size_ext (a : ByteArray) (i j : Nat) : (a.extract i j).size = min j a.size - i := ByteArray.size_extract

set_option maxRecDepth 20000 in
set_option maxHeartbeats 4000000 in
theorem spoilt_p (w0 : World) (g A : Nat) (s1 s2 : ByteArray) (hA : A ≤ 900000) (h1 : s1.size ≤ 1000) (h2 : 1 ≤ s2.size) (h3 : s2.size ≤ 100) (hc : Cur w0 g A) :
    Calls Tryd.prog 87 #[.pointer (some ⟨g, 0, none⟩), .string s1, .string s2] w0 fun e w' => ∃ s : ByteArray, s.size ≤ s1.size + 2 ∧ e = .returned (.string s) ∧ Drawn w0 w' g (A + 20) := by
  have D : Hid (Drawn w0 w0 g (A + 0)) := Lib.hid (drawn_refl hc)
  have HG : g < w0.heap.size := hc.lt
  refine Sp.enter (N := 68) (args := [.pointer (some ⟨g, 0, none⟩), .string s1, .string s2]) Tryd.func87 rfl rfl (by kernel_rfl) ?_
  refine Sp.Cd.seq fun K1 hK1 => ?_
  refine Sp.Cd.region ?_
  refine Sp.L.pure (by kernel_rfl) (Sp.Runs.assign rfl) ?_
  refine Sp.L.nil ?_
  refine hK1 _ _ (Sp.Cd.sub (S' := [(0, _), (1, _), (2, _)]) ⟨rfl, rfl, rfl, trivial⟩ ?_)
  clear hK1 K1
  refine Sp.Cd.seq fun K2 hK2 => ?_
  refine Sp.Cd.seq fun K3 hK3 => ?_
  refine Sp.Cd.region ?_
  refine Sp.L.pure (by kernel_rfl) (Sp.Runs.move rfl) ?_
  refine Sp.L.call (by kernel_rfl) (pick_p w0 g (A + 0) 2 (by omega) (by omega) (by omega) D.out.cur) rfl rfl (by kernel_rfl) ?_
  rintro e w1 ⟨x1, hx1, rfl, d⟩
  replace D : Hid (Drawn w0 w1 g (A + 2)) := Lib.hid ((D.out.trans d).mono (by omega))
  clear d
  refine ⟨_, rfl, ?_⟩
  refine Sp.L.pure (by kernel_rfl) (Sp.Runs.addI rfl rfl (Sp.wrapI (by omega) (by omega))) ?_
  refine Sp.L.pure (by kernel_rfl) (Sp.Runs.assign rfl) ?_
  refine Sp.L.nil ?_
  refine hK3 _ _ (Sp.Cd.sub (S' := [(0, _), (1, _), (2, _), (7, _)]) ⟨rfl, rfl, rfl, rfl, trivial⟩ ?_)
  clear hK3 K3
  refine Sp.Cd.block ?_
  refine Sp.Cd.loop (ι := ByteArray × Nat) [(0, _), (2, _)] (fun q => [(1, .string q.1), (7, .int .i64 (q.2 : Nat))]) (fun q w' => Hid (Drawn w0 w' g (A + 6 * (2 - q.2) + 2)) ∧ (q.2 ≤ 2 ∧ q.1.size + q.2 ≤ s1.size + 2)) (fun q => q.2) (s1, 1 + x1) ⟨rfl, (Sp.lkI rfl (by dsimp only; omega)), rfl, rfl, trivial⟩ ⟨Lib.hid (D.out.mono (by dsimp only; omega)), (by constructor <;> dsimp only <;> omega)⟩ ?_
  clear D
  rintro q w2 ⟨D, hrel⟩
  refine Sp.Cd.sub (S' := [(1, _), (7, _), (0, _), (2, _)]) ⟨rfl, rfl, rfl, rfl, trivial⟩ ?_
  obtain ⟨hr1, hr2⟩ := hrel
  by_cases hlt : 0 < q.2
  · by_cases hz : 0 < q.1.size
    · refine Sp.Cd.seq fun K4 hK4 => ?_
      refine Sp.Cd.seq fun K5 hK5 => ?_
      refine Sp.Cd.region ?_
      refine Sp.L.pure (by kernel_rfl) (Sp.Runs.move rfl) ?_
      refine Sp.L.pure (by kernel_rfl) (Sp.Runs.gtIT rfl rfl (by omega)) ?_
      refine Sp.L.pure (by kernel_rfl) (Sp.Runs.move rfl) ?_
      refine Sp.L.pure (by kernel_rfl) (Sp.Runs.move rfl) ?_
      refine Sp.L.pure (by kernel_rfl) (Sp.Runs.lenS Tryd.underlying9 rfl) ?_
      refine Sp.L.pure (by kernel_rfl) (Sp.Runs.gtIT rfl rfl (by omega)) ?_
      refine Sp.L.pure (by kernel_rfl) (Sp.Runs.pickT rfl rfl) ?_
      refine Sp.L.nil ?_
      refine hK5 _ _ (Sp.Cd.sub (S' := [(0, _), (1, _), (2, _), (7, _), (19, _)]) ⟨rfl, rfl, rfl, rfl, rfl, trivial⟩ ?_)
      clear hK5 K5
      refine Sp.Cd.condT rfl ?_
      refine Sp.Cd.skip ?_
      refine hK4 _ _ (Sp.Cd.sub (S' := [(0, _), (1, _), (2, _), (7, _)]) ⟨rfl, rfl, rfl, rfl, trivial⟩ ?_)
      clear hK4 K4
      refine Sp.Cd.seq fun K6 hK6 => ?_
      refine Sp.Cd.block ?_
      refine Sp.Cd.seq fun K7 hK7 => ?_
      refine Sp.Cd.region ?_
      refine Sp.L.pure (by kernel_rfl) (Sp.Runs.move rfl) ?_
      refine Sp.L.pure (by kernel_rfl) (Sp.Runs.move rfl) ?_
      refine Sp.L.pure (by kernel_rfl) (Sp.Runs.lenS Tryd.underlying9 rfl) ?_
      refine Sp.L.call (by kernel_rfl) (pick_p w2 g (A + 6 * (2 - q.2) + 2) q.1.size (by omega) (by omega) (by omega) D.out.cur) rfl rfl (by kernel_rfl) ?_
      rintro e w3 ⟨x2, hx2, rfl, d⟩
      replace D : Hid (Drawn w0 w3 g (A + 6 * (2 - q.2) + 4)) := Lib.hid ((D.out.trans d).mono (by omega))
      clear d
      refine ⟨_, rfl, ?_⟩
      refine Sp.L.pure (by kernel_rfl) (Sp.Runs.assign rfl) ?_
      refine Sp.L.nil ?_
      refine hK7 _ _ (Sp.Cd.sub (S' := [(0, _), (1, _), (2, _), (7, _), (8, _)]) ⟨rfl, rfl, rfl, rfl, rfl, trivial⟩ ?_)
      clear hK7 K7
      refine Sp.Cd.seq fun K8 hK8 => ?_
      refine Sp.Cd.region ?_
      refine Sp.L.pure (by kernel_rfl) (Sp.Runs.move rfl) ?_
      refine Sp.L.pure (by kernel_rfl) (Sp.Runs.move rfl) ?_
      refine Sp.L.pure (by kernel_rfl) (Sp.Runs.move rfl) ?_
      refine Sp.L.pure (by kernel_rfl) (Sp.Runs.lenS Tryd.underlying9 rfl) ?_
      refine Sp.L.call (by kernel_rfl) (pick_p w3 g (A + 6 * (2 - q.2) + 4) s2.size (by omega) (by omega) (by omega) D.out.cur) rfl rfl (by kernel_rfl) ?_
      rintro e w4 ⟨x3, hx3, rfl, d⟩
      replace D : Hid (Drawn w0 w4 g (A + 6 * (2 - q.2) + 6)) := Lib.hid ((D.out.trans d).mono (by omega))
      clear d
      refine ⟨_, rfl, ?_⟩
      refine Sp.L.pure (by kernel_rfl) (Sp.Runs.indexS Tryd.underlying9 rfl rfl x3 rfl hx3 rfl) ?_
      obtain ⟨zb4, hzb4⟩ : ∃ z : Int, z = ((s2[x3]'hx3).toNat : Int) := ⟨_, rfl⟩
      obtain ⟨w5, hw⟩ : ∃ x, x = w4.alloc (.cells #[.int .u8 zb4] 5) := ⟨_, rfl⟩
      have CV := Sp.conv_one (w := w4) zb4
      rw [← hw] at CV
      refine Sp.L.lits (v := .slice (some ⟨w4.heap.size, 0, none⟩) 1 1) (w' := w5) rfl (by rw [hw, hzb4]; simp [go_sem]) (by kernel_rfl) ?_
      have b : Below w4.heap.size w4 w5 := by rw [hw]; exact (Below.refl _ _).alloc (Nat.le_refl _) _
      clear hw
      replace D : Hid (Drawn w0 w5 g (A + 6 * (2 - q.2) + 6)) := Lib.hid (D.out.below (b.mono D.out.grown.size) HG)
      clear b
      refine Sp.L.pure (by kernel_rfl) (Sp.Runs.convert rfl CV) ?_
      clear CV
      obtain ⟨tb, htb⟩ : ∃ x, x = strOfNums [zb4] := ⟨_, rfl⟩
      have tbz : tb.size = 1 := by rw [htb]; exact Sp.size_one _
      rw [← htb]
      clear htb
      refine Sp.L.pure (by kernel_rfl) (Sp.Runs.assign rfl) ?_
      refine Sp.L.nil ?_
      refine hK8 _ _ (Sp.Cd.sub (S' := [(0, _), (1, _), (2, _), (7, _), (8, _), (9, _)]) ⟨rfl, rfl, rfl, rfl, rfl, rfl, trivial⟩ ?_)
      clear hK8 K8
      refine Sp.Cd.seq fun K9 hK9 => ?_
      refine Sp.Cd.region ?_
      refine Sp.L.pure (by kernel_rfl) (Sp.Runs.move rfl) ?_
      refine Sp.L.call (by kernel_rfl) (pick_p w5 g (A + 6 * (2 - q.2) + 6) 3 (by omega) (by omega) (by omega) D.out.cur) rfl rfl (by kernel_rfl) ?_
      rintro e w6 ⟨x4, hx4, rfl, d⟩
      replace D : Hid (Drawn w0 w6 g (A + 6 * (2 - q.2) + 8)) := Lib.hid ((D.out.trans d).mono (by omega))
      clear d
      refine ⟨_, rfl, ?_⟩
      refine Sp.L.nil ?_
      refine hK9 _ _ (Sp.Cd.sub (S' := [(0, _), (1, _), (2, _), (7, _), (8, _), (9, _), (35, _)]) ⟨rfl, rfl, rfl, rfl, rfl, rfl, rfl, trivial⟩ ?_)
      clear hK9 K9
      refine Sp.Cd.block ?_
      by_cases c0 : x4 = 0
      · refine Sp.Cd.seq fun K10 hK10 => ?_
        refine Sp.Cd.region ?_
        refine Sp.L.pure (by kernel_rfl) (Sp.Runs.eqIT rfl rfl (by omega)) ?_
        refine Sp.L.pure (by kernel_rfl) (Sp.Runs.assign rfl) ?_
        refine Sp.L.nil ?_
        refine hK10 _ _ (Sp.Cd.sub (S' := [(0, _), (1, _), (2, _), (7, _), (8, _), (9, _), (35, _), (44, _)]) ⟨rfl, rfl, rfl, rfl, rfl, rfl, rfl, rfl, trivial⟩ ?_)
        clear hK10 K10
        refine Sp.Cd.condT rfl ?_
        refine Sp.Cd.regionT (by kernel_rfl) (by kernel_rfl) ?_
        refine Sp.T.pure (by kernel_rfl) (fun X => Sp.Runs.move rfl) ?_
        refine Sp.T.pure (by kernel_rfl) (fun X => Sp.Runs.move rfl) ?_
        refine Sp.T.pure (by kernel_rfl) (fun X => Sp.Runs.slice rfl rfl rfl rfl (Sp.slice_to Tryd.underlying9 x2 rfl (by omega))) ?_
        refine Sp.T.pure (by kernel_rfl) (fun X => Sp.Runs.move rfl) ?_
        refine Sp.T.pure (by kernel_rfl) (fun X => Sp.Runs.addS rfl rfl (by (try simp only [size_app]); (try simp only [size_ext]); omega)) ?_
        refine Sp.T.pure (by kernel_rfl) (fun X => Sp.Runs.move rfl) ?_
        refine Sp.T.pure (by kernel_rfl) (fun X => Sp.Runs.move rfl) ?_
        refine Sp.T.pure (by kernel_rfl) (fun X => Sp.Runs.slice rfl rfl rfl rfl (Sp.slice_from Tryd.underlying9 x2 (by omega) (by omega))) ?_
        refine Sp.T.pure (by kernel_rfl) (fun X => Sp.Runs.addS rfl rfl (by (try simp only [size_app]); (try simp only [size_ext]); omega)) ?_
        refine Sp.T.pure (by kernel_rfl) (fun X => Sp.Runs.assign rfl) ?_
        refine Sp.T.nil fun w7 b => ?_
        replace D : Hid (Drawn w0 w7 g (A + 6 * (2 - q.2) + 8)) := Lib.hid (D.out.below (b.mono D.out.grown.size) HG)
        clear b
        refine Sp.Nx.block ?_
        refine Sp.Nx.block ?_
        refine hK6 _ _ (Sp.Cd.sub (S' := [(0, _), (1, _), (2, _), (7, _)]) ⟨rfl, rfl, rfl, rfl, trivial⟩ ?_)
        clear hK6 K6
        refine Sp.Cd.region ?_
        refine Sp.L.pure (by kernel_rfl) (Sp.Runs.move rfl) ?_
        refine Sp.L.pure (by kernel_rfl) (Sp.Runs.subI rfl rfl (Sp.wrapI (by omega) (by omega))) ?_
        refine Sp.L.pure (by kernel_rfl) (Sp.Runs.assign rfl) ?_
        refine Sp.L.nil ?_
        refine Sp.Nx.again (q.1.extract 0 x2 ++ tb ++ q.1.extract x2 q.1.size, q.2 - 1) ⟨rfl, (Sp.lkI rfl (by dsimp only; omega)), rfl, rfl, trivial⟩ ⟨Lib.hid (D.out.mono (by dsimp only; omega)), (by constructor <;> dsimp only <;> (try simp only [size_app]) <;> (try simp only [size_ext]) <;> omega)⟩ (by dsimp only; omega)
      · by_cases c1 : x4 = 1
        · refine Sp.Cd.seq fun K11 hK11 => ?_
          refine Sp.Cd.region ?_
          refine Sp.L.pure (by kernel_rfl) (Sp.Runs.eqIF rfl rfl (by omega)) ?_
          refine Sp.L.pure (by kernel_rfl) (Sp.Runs.assign rfl) ?_
          refine Sp.L.nil ?_
          refine hK11 _ _ (Sp.Cd.sub (S' := [(0, _), (1, _), (2, _), (7, _), (8, _), (9, _), (35, _), (44, _)]) ⟨rfl, rfl, rfl, rfl, rfl, rfl, rfl, rfl, trivial⟩ ?_)
          clear hK11 K11
          refine Sp.Cd.condF rfl ?_
          refine Sp.Cd.seq fun K12 hK12 => ?_
          refine Sp.Cd.region ?_
          refine Sp.L.pure (by kernel_rfl) (Sp.Runs.eqIT rfl rfl (by omega)) ?_
          refine Sp.L.pure (by kernel_rfl) (Sp.Runs.assign rfl) ?_
          refine Sp.L.nil ?_
          refine hK12 _ _ (Sp.Cd.sub (S' := [(0, _), (1, _), (2, _), (7, _), (8, _), (9, _), (55, _)]) ⟨rfl, rfl, rfl, rfl, rfl, rfl, rfl, trivial⟩ ?_)
          clear hK12 K12
          refine Sp.Cd.condT rfl ?_
          refine Sp.Cd.regionT (by kernel_rfl) (by kernel_rfl) ?_
          refine Sp.T.pure (by kernel_rfl) (fun X => Sp.Runs.move rfl) ?_
          refine Sp.T.pure (by kernel_rfl) (fun X => Sp.Runs.move rfl) ?_
          refine Sp.T.pure (by kernel_rfl) (fun X => Sp.Runs.slice rfl rfl rfl rfl (Sp.slice_to Tryd.underlying9 x2 rfl (by omega))) ?_
          refine Sp.T.pure (by kernel_rfl) (fun X => Sp.Runs.move rfl) ?_
          refine Sp.T.pure (by kernel_rfl) (fun X => Sp.Runs.addS rfl rfl (by (try simp only [size_app]); (try simp only [size_ext]); omega)) ?_
          refine Sp.T.pure (by kernel_rfl) (fun X => Sp.Runs.move rfl) ?_
          refine Sp.T.pure (by kernel_rfl) (fun X => Sp.Runs.move rfl) ?_
          refine Sp.T.pure (by kernel_rfl) (fun X => Sp.Runs.addI rfl rfl (Sp.wrapI (by omega) (by omega))) ?_
          refine Sp.T.pure (by kernel_rfl) (fun X => Sp.Runs.slice rfl rfl rfl rfl (Sp.slice_from Tryd.underlying9 (x2 + 1) (by omega) (by omega))) ?_
          refine Sp.T.pure (by kernel_rfl) (fun X => Sp.Runs.addS rfl rfl (by (try simp only [size_app]); (try simp only [size_ext]); omega)) ?_
          refine Sp.T.pure (by kernel_rfl) (fun X => Sp.Runs.assign rfl) ?_
          refine Sp.T.nil fun w7 b => ?_
          replace D : Hid (Drawn w0 w7 g (A + 6 * (2 - q.2) + 8)) := Lib.hid (D.out.below (b.mono D.out.grown.size) HG)
          clear b
          refine Sp.Nx.block ?_
          refine Sp.Nx.block ?_
          refine hK6 _ _ (Sp.Cd.sub (S' := [(0, _), (1, _), (2, _), (7, _)]) ⟨rfl, rfl, rfl, rfl, trivial⟩ ?_)
          clear hK6 K6
          refine Sp.Cd.region ?_
          refine Sp.L.pure (by kernel_rfl) (Sp.Runs.move rfl) ?_
          refine Sp.L.pure (by kernel_rfl) (Sp.Runs.subI rfl rfl (Sp.wrapI (by omega) (by omega))) ?_
          refine Sp.L.pure (by kernel_rfl) (Sp.Runs.assign rfl) ?_
          refine Sp.L.nil ?_
          refine Sp.Nx.again (q.1.extract 0 x2 ++ tb ++ q.1.extract (x2 + 1) q.1.size, q.2 - 1) ⟨rfl, (Sp.lkI rfl (by dsimp only; omega)), rfl, rfl, trivial⟩ ⟨Lib.hid (D.out.mono (by dsimp only; omega)), (by constructor <;> dsimp only <;> (try simp only [size_app]) <;> (try simp only [size_ext]) <;> omega)⟩ (by dsimp only; omega)
        · refine Sp.Cd.seq fun K13 hK13 => ?_
          refine Sp.Cd.region ?_
          refine Sp.L.pure (by kernel_rfl) (Sp.Runs.eqIF rfl rfl (by omega)) ?_
          refine Sp.L.pure (by kernel_rfl) (Sp.Runs.assign rfl) ?_
          refine Sp.L.nil ?_
          refine hK13 _ _ (Sp.Cd.sub (S' := [(0, _), (1, _), (2, _), (7, _), (8, _), (9, _), (35, _), (44, _)]) ⟨rfl, rfl, rfl, rfl, rfl, rfl, rfl, rfl, trivial⟩ ?_)
          clear hK13 K13
          refine Sp.Cd.condF rfl ?_
          refine Sp.Cd.seq fun K14 hK14 => ?_
          refine Sp.Cd.region ?_
          refine Sp.L.pure (by kernel_rfl) (Sp.Runs.eqIF rfl rfl (by omega)) ?_
          refine Sp.L.pure (by kernel_rfl) (Sp.Runs.assign rfl) ?_
          refine Sp.L.nil ?_
          refine hK14 _ _ (Sp.Cd.sub (S' := [(0, _), (1, _), (2, _), (7, _), (8, _), (9, _), (55, _)]) ⟨rfl, rfl, rfl, rfl, rfl, rfl, rfl, trivial⟩ ?_)
          clear hK14 K14
          refine Sp.Cd.condF rfl ?_
          refine Sp.Cd.regionT (by kernel_rfl) (by kernel_rfl) ?_
          refine Sp.T.pure (by kernel_rfl) (fun X => Sp.Runs.move rfl) ?_
          refine Sp.T.pure (by kernel_rfl) (fun X => Sp.Runs.move rfl) ?_
          refine Sp.T.pure (by kernel_rfl) (fun X => Sp.Runs.slice rfl rfl rfl rfl (Sp.slice_to Tryd.underlying9 x2 rfl (by omega))) ?_
          refine Sp.T.pure (by kernel_rfl) (fun X => Sp.Runs.move rfl) ?_
          refine Sp.T.pure (by kernel_rfl) (fun X => Sp.Runs.move rfl) ?_
          refine Sp.T.pure (by kernel_rfl) (fun X => Sp.Runs.addI rfl rfl (Sp.wrapI (by omega) (by omega))) ?_
          refine Sp.T.pure (by kernel_rfl) (fun X => Sp.Runs.slice rfl rfl rfl rfl (Sp.slice_from Tryd.underlying9 (x2 + 1) (by omega) (by omega))) ?_
          refine Sp.T.pure (by kernel_rfl) (fun X => Sp.Runs.addS rfl rfl (by (try simp only [size_app]); (try simp only [size_ext]); omega)) ?_
          refine Sp.T.pure (by kernel_rfl) (fun X => Sp.Runs.assign rfl) ?_
          refine Sp.T.nil fun w7 b => ?_
          replace D : Hid (Drawn w0 w7 g (A + 6 * (2 - q.2) + 8)) := Lib.hid (D.out.below (b.mono D.out.grown.size) HG)
          clear b
          refine Sp.Nx.block ?_
          refine Sp.Nx.block ?_
          refine hK6 _ _ (Sp.Cd.sub (S' := [(0, _), (1, _), (2, _), (7, _)]) ⟨rfl, rfl, rfl, rfl, trivial⟩ ?_)
          clear hK6 K6
          refine Sp.Cd.region ?_
          refine Sp.L.pure (by kernel_rfl) (Sp.Runs.move rfl) ?_
          refine Sp.L.pure (by kernel_rfl) (Sp.Runs.subI rfl rfl (Sp.wrapI (by omega) (by omega))) ?_
          refine Sp.L.pure (by kernel_rfl) (Sp.Runs.assign rfl) ?_
          refine Sp.L.nil ?_
          refine Sp.Nx.again (q.1.extract 0 x2 ++ q.1.extract (x2 + 1) q.1.size, q.2 - 1) ⟨rfl, (Sp.lkI rfl (by dsimp only; omega)), rfl, rfl, trivial⟩ ⟨Lib.hid (D.out.mono (by dsimp only; omega)), (by constructor <;> dsimp only <;> (try simp only [size_app]) <;> (try simp only [size_ext]) <;> omega)⟩ (by dsimp only; omega)
    · refine Sp.Cd.seq fun K15 hK15 => ?_
      refine Sp.Cd.seq fun K16 hK16 => ?_
      refine Sp.Cd.region ?_
      refine Sp.L.pure (by kernel_rfl) (Sp.Runs.move rfl) ?_
      refine Sp.L.pure (by kernel_rfl) (Sp.Runs.gtIT rfl rfl (by omega)) ?_
      refine Sp.L.pure (by kernel_rfl) (Sp.Runs.move rfl) ?_
      refine Sp.L.pure (by kernel_rfl) (Sp.Runs.move rfl) ?_
      refine Sp.L.pure (by kernel_rfl) (Sp.Runs.lenS Tryd.underlying9 rfl) ?_
      refine Sp.L.pure (by kernel_rfl) (Sp.Runs.gtIF rfl rfl (by omega)) ?_
      refine Sp.L.pure (by kernel_rfl) (Sp.Runs.pickT rfl rfl) ?_
      refine Sp.L.nil ?_
      refine hK16 _ _ (Sp.Cd.sub (S' := [(0, _), (1, _), (2, _), (7, _), (19, _)]) ⟨rfl, rfl, rfl, rfl, rfl, trivial⟩ ?_)
      clear hK16 K16
      refine Sp.Cd.condF rfl ?_
      refine Sp.Cd.exit ?_
      refine Sp.Ex.then ?_
      clear hK15 K15
      refine Sp.Ex.then ?_
      replace D : Hid (Drawn w0 w2 g (A + 12 + 2)) := Lib.hid (D.out.mono (by omega))
      refine Sp.Ex.hit ?_
      refine hK2 _ _ (Sp.Cd.sub (S' := [(1, _)]) ⟨rfl, trivial⟩ ?_)
      clear hK2 K2
      refine Sp.Cd.seq fun K17 hK17 => ?_
      refine Sp.Cd.region ?_
      refine Sp.L.pure (by kernel_rfl) (Sp.Runs.move rfl) ?_
      refine Sp.L.pure (by kernel_rfl) (Sp.Runs.assign rfl) ?_
      refine Sp.L.nil ?_
      refine hK17 _ _ (Sp.Cd.sub (S' := [(6, _)]) ⟨rfl, trivial⟩ ?_)
      clear hK17 K17
      refine Sp.Cd.ret ?_
      refine Sp.Rt.body rfl rfl ?_
      exact ⟨_, by omega, rfl, D.out.mono (by omega)⟩
  · refine Sp.Cd.seq fun K18 hK18 => ?_
    refine Sp.Cd.seq fun K19 hK19 => ?_
    refine Sp.Cd.region ?_
    refine Sp.L.pure (by kernel_rfl) (Sp.Runs.move rfl) ?_
    refine Sp.L.pure (by kernel_rfl) (Sp.Runs.gtIF rfl rfl (by omega)) ?_
    refine Sp.L.pure (by kernel_rfl) (Sp.Runs.move rfl) ?_
    refine Sp.L.skip (by kernel_rfl) ?_
    refine Sp.L.skip (by kernel_rfl) ?_
    refine Sp.L.skip (by kernel_rfl) ?_
    refine Sp.L.pure (by kernel_rfl) (Sp.Runs.pickF rfl rfl) ?_
    refine Sp.L.nil ?_
    refine hK19 _ _ (Sp.Cd.sub (S' := [(0, _), (1, _), (2, _), (7, _), (19, _)]) ⟨rfl, rfl, rfl, rfl, rfl, trivial⟩ ?_)
    clear hK19 K19
    refine Sp.Cd.condF rfl ?_
    refine Sp.Cd.exit ?_
    refine Sp.Ex.then ?_
    clear hK18 K18
    refine Sp.Ex.then ?_
    replace D : Hid (Drawn w0 w2 g (A + 12 + 2)) := Lib.hid (D.out.mono (by omega))
    refine Sp.Ex.hit ?_
    refine hK2 _ _ (Sp.Cd.sub (S' := [(1, _)]) ⟨rfl, trivial⟩ ?_)
    clear hK2 K2
    refine Sp.Cd.seq fun K20 hK20 => ?_
    refine Sp.Cd.region ?_
    refine Sp.L.pure (by kernel_rfl) (Sp.Runs.move rfl) ?_
    refine Sp.L.pure (by kernel_rfl) (Sp.Runs.assign rfl) ?_
    refine Sp.L.nil ?_
    refine hK20 _ _ (Sp.Cd.sub (S' := [(6, _)]) ⟨rfl, trivial⟩ ?_)
    clear hK20 K20
    refine Sp.Cd.ret ?_
    refine Sp.Rt.body rfl rfl ?_
    exact ⟨_, by omega, rfl, D.out.mono (by omega)⟩

set_option maxRecDepth 20000 in
set_option maxHeartbeats 4000000 in
theorem facing_p (w0 : World) (g A : Nat) (hA : A ≤ 800000) (hc : Cur w0 g A) :
    Calls Tryd.prog 53 #[.pointer (some ⟨g, 0, none⟩)] w0 fun e w' => ∃ s : ByteArray, s.size ≤ 100 ∧ e = .returned (.string s) ∧ Drawn w0 w' g (A + 60) := by
  have D : Hid (Drawn w0 w0 g (A + 0)) := Lib.hid (drawn_refl hc)
  have HG : g < w0.heap.size := hc.lt
  refine Sp.enter (N := 30) (args := [.pointer (some ⟨g, 0, none⟩)]) Tryd.func53 rfl rfl (by kernel_rfl) ?_
  refine Sp.Cd.seq fun K1 hK1 => ?_
  refine Sp.Cd.region ?_
  refine Sp.L.pure (by kernel_rfl) (Sp.Runs.assign rfl) ?_
  refine Sp.L.nil ?_
  refine hK1 _ _ (Sp.Cd.sub (S' := [(0, _)]) ⟨rfl, trivial⟩ ?_)
  clear hK1 K1
  refine Sp.Cd.seq fun K2 hK2 => ?_
  refine Sp.Cd.region ?_
  refine Sp.L.pure (by kernel_rfl) (Sp.Runs.assign rfl) ?_
  refine Sp.L.nil ?_
  refine hK2 _ _ (Sp.Cd.sub (S' := [(0, _), (3, _)]) ⟨rfl, rfl, trivial⟩ ?_)
  clear hK2 K2
  refine Sp.Cd.seq fun K3 hK3 => ?_
  refine Sp.Cd.seq fun K4 hK4 => ?_
  refine Sp.Cd.region ?_
  refine Sp.L.pure (by kernel_rfl) (Sp.Runs.move rfl) ?_
  refine Sp.L.call (by kernel_rfl) (pick_p w0 g (A + 0) 7 (by omega) (by omega) (by omega) D.out.cur) rfl rfl (by kernel_rfl) ?_
  rintro e w1 ⟨x1, hx1, rfl, d⟩
  replace D : Hid (Drawn w0 w1 g (A + 2)) := Lib.hid ((D.out.trans d).mono (by omega))
  clear d
  refine ⟨_, rfl, ?_⟩
  refine Sp.L.pure (by kernel_rfl) (Sp.Runs.addI rfl rfl (Sp.wrapI (by omega) (by omega))) ?_
  refine Sp.L.pure (by kernel_rfl) (Sp.Runs.assign rfl) ?_
  refine Sp.L.nil ?_
  refine hK4 _ _ (Sp.Cd.sub (S' := [(0, _), (3, _), (4, _)]) ⟨rfl, rfl, rfl, trivial⟩ ?_)
  clear hK4 K4
  refine Sp.Cd.block ?_
  refine Sp.Cd.loop (ι := ByteArray × Nat) [(0, _)] (fun q => [(3, .string q.1), (4, .int .i64 (q.2 : Nat))]) (fun q w' => Hid (Drawn w0 w' g (A + 2 * (7 - q.2) + 2)) ∧ (q.2 ≤ 7 ∧ q.1.size + q.2 ≤ 7)) (fun q => q.2) (ByteArray.empty, 1 + x1) ⟨rfl, (Sp.lkI rfl (by first | rfl | (dsimp only; omega))), rfl, trivial⟩ ⟨Lib.hid (D.out.mono (by dsimp only; omega)), (by constructor <;> dsimp only <;> (try rw [show ByteArray.empty.size = 0 from rfl]) <;> omega)⟩ ?_
  clear D
  rintro q w2 ⟨D, hrel⟩
  refine Sp.Cd.sub (S' := [(3, _), (4, _), (0, _)]) ⟨rfl, rfl, rfl, trivial⟩ ?_
  obtain ⟨hr1, hr2⟩ := hrel
  by_cases hlt : 0 < q.2
  · refine Sp.Cd.seq fun K5 hK5 => ?_
    refine Sp.Cd.seq fun K6 hK6 => ?_
    refine Sp.Cd.region ?_
    refine Sp.L.pure (by kernel_rfl) (Sp.Runs.move rfl) ?_
    refine Sp.L.pure (by kernel_rfl) (Sp.Runs.gtIT rfl rfl (by omega)) ?_
    refine Sp.L.nil ?_
    refine hK6 _ _ (Sp.Cd.sub (S' := [(0, _), (3, _), (4, _), (9, _)]) ⟨rfl, rfl, rfl, rfl, trivial⟩ ?_)
    clear hK6 K6
    refine Sp.Cd.condT rfl ?_
    refine Sp.Cd.skip ?_
    refine hK5 _ _ (Sp.Cd.sub (S' := [(0, _), (3, _), (4, _)]) ⟨rfl, rfl, rfl, trivial⟩ ?_)
    clear hK5 K5
    refine Sp.Cd.seq fun K7 hK7 => ?_
    refine Sp.Cd.block ?_
    refine Sp.Cd.region ?_
    refine Sp.L.pure (by kernel_rfl) (Sp.Runs.move rfl) ?_
    refine Sp.L.pure (by kernel_rfl) (Sp.Runs.move rfl) ?_
    have CL := of_lit w0 w2 g (A + 2 * (7 - q.2) + 2) 4 [(⟨#[48]⟩ : ByteArray), (⟨#[49]⟩ : ByteArray), (⟨#[50]⟩ : ByteArray), (⟨#[51]⟩ : ByteArray)] rfl (by omega) (by omega) (by omega) HG D.out
    simp only [List.map_cons, List.map_nil] at CL
    refine Sp.L.lits (v := .slice (some ⟨w2.heap.size, 0, none⟩) 4 4) (w' := w2.alloc (.cells #[.string ⟨#[48]⟩, .string ⟨#[49]⟩, .string ⟨#[50]⟩, .string ⟨#[51]⟩] 9)) rfl (by simp [go_sem]) (by kernel_rfl) ?_
    refine Sp.L.call (by kernel_rfl) (CL) rfl rfl (by kernel_rfl) ?_
    rintro e w3 ⟨x2, hx2, rfl, d⟩
    replace D : Hid (Drawn w0 w3 g (A + 2 * (7 - q.2) + 4)) := Lib.hid ((d).mono (by omega))
    clear d
    clear CL
    have hx2s := size_is (n := 1) (by decide) hx2
    refine ⟨_, rfl, ?_⟩
    refine Sp.L.pure (by kernel_rfl) (Sp.Runs.addS rfl rfl (by omega)) ?_
    refine Sp.L.pure (by kernel_rfl) (Sp.Runs.assign rfl) ?_
    refine Sp.L.nil ?_
    refine Sp.Nx.block ?_
    refine hK7 _ _ (Sp.Cd.sub (S' := [(0, _), (3, _), (4, _)]) ⟨rfl, rfl, rfl, trivial⟩ ?_)
    clear hK7 K7
    refine Sp.Cd.region ?_
    refine Sp.L.pure (by kernel_rfl) (Sp.Runs.move rfl) ?_
    refine Sp.L.pure (by kernel_rfl) (Sp.Runs.subI rfl rfl (Sp.wrapI (by omega) (by omega))) ?_
    refine Sp.L.pure (by kernel_rfl) (Sp.Runs.assign rfl) ?_
    refine Sp.L.nil ?_
    refine Sp.Nx.again (q.1 ++ x2, q.2 - 1) ⟨rfl, (Sp.lkI rfl (by dsimp only; omega)), rfl, trivial⟩ ⟨Lib.hid (D.out.mono (by dsimp only; omega)), (by constructor <;> dsimp only <;> (try simp only [size_app]) <;> omega)⟩ (by dsimp only; omega)
  · refine Sp.Cd.seq fun K8 hK8 => ?_
    refine Sp.Cd.seq fun K9 hK9 => ?_
    refine Sp.Cd.region ?_
    refine Sp.L.pure (by kernel_rfl) (Sp.Runs.move rfl) ?_
    refine Sp.L.pure (by kernel_rfl) (Sp.Runs.gtIF rfl rfl (by omega)) ?_
    refine Sp.L.nil ?_
    refine hK9 _ _ (Sp.Cd.sub (S' := [(0, _), (3, _), (4, _), (9, _)]) ⟨rfl, rfl, rfl, rfl, trivial⟩ ?_)
    clear hK9 K9
    refine Sp.Cd.condF rfl ?_
    refine Sp.Cd.exit ?_
    refine Sp.Ex.then ?_
    clear hK8 K8
    refine Sp.Ex.then ?_
    replace D : Hid (Drawn w0 w2 g (A + 14 + 2)) := Lib.hid (D.out.mono (by omega))
    refine Sp.Ex.hit ?_
    refine hK3 _ _ (Sp.Cd.sub (S' := [(0, _), (3, _)]) ⟨rfl, rfl, trivial⟩ ?_)
    clear hK3 K3
    refine Sp.Cd.seq fun K10 hK10 => ?_
    refine Sp.Cd.seq fun K11 hK11 => ?_
    refine Sp.Cd.region ?_
    refine Sp.L.pure (by kernel_rfl) (Sp.Runs.move rfl) ?_
    refine Sp.L.call (by kernel_rfl) (pick_p w2 g (A + 14 + 2) 18 (by omega) (by omega) (by omega) D.out.cur) rfl rfl (by kernel_rfl) ?_
    rintro e w3 ⟨x2, hx2, rfl, d⟩
    replace D : Hid (Drawn w0 w3 g (A + 14 + 4)) := Lib.hid ((D.out.trans d).mono (by omega))
    clear d
    refine ⟨_, rfl, ?_⟩
    refine Sp.L.nil ?_
    refine hK11 _ _ (Sp.Cd.sub (S' := [(0, _), (3, _), (18, _)]) ⟨rfl, rfl, rfl, trivial⟩ ?_)
    clear hK11 K11
    refine Sp.Cd.block ?_
    by_cases c0 : x2 = 0
    · refine Sp.Cd.seq fun K12 hK12 => ?_
      refine Sp.Cd.region ?_
      refine Sp.L.pure (by kernel_rfl) (Sp.Runs.eqIT rfl rfl (by omega)) ?_
      refine Sp.L.pure (by kernel_rfl) (Sp.Runs.assign rfl) ?_
      refine Sp.L.nil ?_
      refine hK12 _ _ (Sp.Cd.sub (S' := [(0, _), (3, _), (18, _), (19, _)]) ⟨rfl, rfl, rfl, rfl, trivial⟩ ?_)
      clear hK12 K12
      refine Sp.Cd.condT rfl ?_
      refine Sp.Cd.seq fun K13 hK13 => ?_
      refine Sp.Cd.region ?_
      refine Sp.L.pure (by kernel_rfl) (Sp.Runs.move rfl) ?_
      have CL := of_lit w0 w3 g (A + 14 + 4) 5 [(⟨#[]⟩ : ByteArray), (⟨#[52]⟩ : ByteArray), (⟨#[48, 49, 120]⟩ : ByteArray), (⟨#[48, 48, 48, 48, 48, 48, 48, 48, 48, 48, 48, 48, 48, 48, 48, 48, 48, 48, 48, 48, 48, 48, 48, 48, 48, 48, 48, 48, 48, 48, 48]⟩ : ByteArray), (⟨#[48, 49, 50, 51, 48, 49, 50, 51, 48, 49, 50, 51, 48, 49, 50, 51, 48, 49, 50, 51, 48, 49, 50, 51, 48, 49, 50, 51, 48, 49]⟩ : ByteArray)] rfl (by omega) (by omega) (by omega) HG D.out
      simp only [List.map_cons, List.map_nil] at CL
      refine Sp.L.lits (v := .slice (some ⟨w3.heap.size, 0, none⟩) 5 5) (w' := w3.alloc (.cells #[.string ⟨#[]⟩, .string ⟨#[52]⟩, .string ⟨#[48, 49, 120]⟩, .string ⟨#[48, 48, 48, 48, 48, 48, 48, 48, 48, 48, 48, 48, 48, 48, 48, 48, 48, 48, 48, 48, 48, 48, 48, 48, 48, 48, 48, 48, 48, 48, 48]⟩, .string ⟨#[48, 49, 50, 51, 48, 49, 50, 51, 48, 49, 50, 51, 48, 49, 50, 51, 48, 49, 50, 51, 48, 49, 50, 51, 48, 49, 50, 51, 48, 49]⟩] 9)) rfl (by simp [go_sem]) (by kernel_rfl) ?_
      refine Sp.L.call (by kernel_rfl) (CL) rfl rfl (by kernel_rfl) ?_
      rintro e w4 ⟨x3, hx3, rfl, d⟩
      replace D : Hid (Drawn w0 w4 g (A + 14 + 6)) := Lib.hid ((d).mono (by omega))
      clear d
      clear CL
      have hx3s := size_le (n := 31) (by decide) hx3
      refine ⟨_, rfl, ?_⟩
      refine Sp.L.pure (by kernel_rfl) (Sp.Runs.assign rfl) ?_
      refine Sp.L.nil ?_
      refine hK13 _ _ (Sp.Cd.sub (S' := [(2, _)]) ⟨rfl, trivial⟩ ?_)
      clear hK13 K13
      refine Sp.Cd.ret ?_
      refine Sp.Rt.block ?_
      refine Sp.Rt.then ?_
      refine Sp.Rt.body rfl rfl ?_
      exact ⟨_, by omega, rfl, D.out.mono (by omega)⟩
    · by_cases c1 : x2 = 1
      · refine Sp.Cd.seq fun K14 hK14 => ?_
        refine Sp.Cd.region ?_
        refine Sp.L.pure (by kernel_rfl) (Sp.Runs.eqIF rfl rfl (by omega)) ?_
        refine Sp.L.pure (by kernel_rfl) (Sp.Runs.assign rfl) ?_
        refine Sp.L.nil ?_
        refine hK14 _ _ (Sp.Cd.sub (S' := [(0, _), (3, _), (18, _), (19, _)]) ⟨rfl, rfl, rfl, rfl, trivial⟩ ?_)
        clear hK14 K14
        refine Sp.Cd.condF rfl ?_
        refine Sp.Cd.seq fun K15 hK15 => ?_
        refine Sp.Cd.region ?_
        refine Sp.L.pure (by kernel_rfl) (Sp.Runs.eqIT rfl rfl (by omega)) ?_
        refine Sp.L.pure (by kernel_rfl) (Sp.Runs.assign rfl) ?_
        refine Sp.L.nil ?_
        refine hK15 _ _ (Sp.Cd.sub (S' := [(0, _), (3, _), (24, _)]) ⟨rfl, rfl, rfl, trivial⟩ ?_)
        clear hK15 K15
        refine Sp.Cd.condT rfl ?_
        refine Sp.Cd.seq fun K16 hK16 => ?_
        refine Sp.Cd.region ?_
        refine Sp.L.pure (by kernel_rfl) (Sp.Runs.move rfl) ?_
        refine Sp.L.pure (by kernel_rfl) (Sp.Runs.move rfl) ?_
        refine Sp.L.call (by kernel_rfl) (spoilt_p w3 g (A + 14 + 4) q.1 ⟨#[48, 49, 50, 51, 120]⟩ (by omega) (by omega) (by decide) (by decide) D.out.cur) rfl rfl (by kernel_rfl) ?_
        rintro e w4 ⟨t3, ht3, rfl, d⟩
        replace D : Hid (Drawn w0 w4 g (A + 14 + 24)) := Lib.hid ((D.out.trans d).mono (by omega))
        clear d
        refine ⟨_, rfl, ?_⟩
        refine Sp.L.pure (by kernel_rfl) (Sp.Runs.assign rfl) ?_
        refine Sp.L.nil ?_
        refine hK16 _ _ (Sp.Cd.sub (S' := [(2, _)]) ⟨rfl, trivial⟩ ?_)
        clear hK16 K16
        refine Sp.Cd.ret ?_
        refine Sp.Rt.block ?_
        refine Sp.Rt.then ?_
        refine Sp.Rt.body rfl rfl ?_
        exact ⟨_, by omega, rfl, D.out.mono (by omega)⟩
      · refine Sp.Cd.seq fun K17 hK17 => ?_
        refine Sp.Cd.region ?_
        refine Sp.L.pure (by kernel_rfl) (Sp.Runs.eqIF rfl rfl (by omega)) ?_
        refine Sp.L.pure (by kernel_rfl) (Sp.Runs.assign rfl) ?_
        refine Sp.L.nil ?_
        refine hK17 _ _ (Sp.Cd.sub (S' := [(0, _), (3, _), (18, _), (19, _)]) ⟨rfl, rfl, rfl, rfl, trivial⟩ ?_)
        clear hK17 K17
        refine Sp.Cd.condF rfl ?_
        refine Sp.Cd.seq fun K18 hK18 => ?_
        refine Sp.Cd.region ?_
        refine Sp.L.pure (by kernel_rfl) (Sp.Runs.eqIF rfl rfl (by omega)) ?_
        refine Sp.L.pure (by kernel_rfl) (Sp.Runs.assign rfl) ?_
        refine Sp.L.nil ?_
        refine hK18 _ _ (Sp.Cd.sub (S' := [(0, _), (3, _), (24, _)]) ⟨rfl, rfl, rfl, trivial⟩ ?_)
        clear hK18 K18
        refine Sp.Cd.condF rfl ?_
        refine Sp.Cd.skip ?_
        refine Sp.Nx.block ?_
        refine hK10 _ _ (Sp.Cd.sub (S' := [(3, _)]) ⟨rfl, trivial⟩ ?_)
        clear hK10 K10
        refine Sp.Cd.seq fun K19 hK19 => ?_
        refine Sp.Cd.region ?_
        refine Sp.L.pure (by kernel_rfl) (Sp.Runs.move rfl) ?_
        refine Sp.L.pure (by kernel_rfl) (Sp.Runs.assign rfl) ?_
        refine Sp.L.nil ?_
        refine hK19 _ _ (Sp.Cd.sub (S' := [(2, _)]) ⟨rfl, trivial⟩ ?_)
        clear hK19 K19
        refine Sp.Cd.ret ?_
        refine Sp.Rt.body rfl rfl ?_
        exact ⟨_, by omega, rfl, D.out.mono (by omega)⟩

set_option maxRecDepth 20000 in
set_option maxHeartbeats 4000000 in
theorem commands_p (w0 : World) (g A : Nat) (hA : A ≤ 800000) (hc : Cur w0 g A) :
    Calls Tryd.prog 54 #[.pointer (some ⟨g, 0, none⟩)] w0 fun e w' => ∃ s : ByteArray, s.size ≤ 100 ∧ e = .returned (.string s) ∧ Drawn w0 w' g (A + 300) := by
  have D : Hid (Drawn w0 w0 g (A + 0)) := Lib.hid (drawn_refl hc)
  have HG : g < w0.heap.size := hc.lt
  refine Sp.enter (N := 37) (args := [.pointer (some ⟨g, 0, none⟩)]) Tryd.func54 rfl rfl (by kernel_rfl) ?_
  refine Sp.Cd.seq fun K1 hK1 => ?_
  refine Sp.Cd.region ?_
  refine Sp.L.pure (by kernel_rfl) (Sp.Runs.assign rfl) ?_
  refine Sp.L.nil ?_
  refine hK1 _ _ (Sp.Cd.sub (S' := [(0, _)]) ⟨rfl, trivial⟩ ?_)
  clear hK1 K1
  refine Sp.Cd.seq fun K2 hK2 => ?_
  refine Sp.Cd.region ?_
  refine Sp.L.pure (by kernel_rfl) (Sp.Runs.assign rfl) ?_
  refine Sp.L.nil ?_
  refine hK2 _ _ (Sp.Cd.sub (S' := [(0, _), (3, _)]) ⟨rfl, rfl, trivial⟩ ?_)
  clear hK2 K2
  refine Sp.Cd.seq fun K3 hK3 => ?_
  refine Sp.Cd.seq fun K4 hK4 => ?_
  refine Sp.Cd.region ?_
  refine Sp.L.pure (by kernel_rfl) (Sp.Runs.move rfl) ?_
  refine Sp.L.call (by kernel_rfl) (pick_p w0 g (A + 0) 10 (by omega) (by omega) (by omega) D.out.cur) rfl rfl (by kernel_rfl) ?_
  rintro e w1 ⟨x1, hx1, rfl, d⟩
  replace D : Hid (Drawn w0 w1 g (A + 2)) := Lib.hid ((D.out.trans d).mono (by omega))
  clear d
  refine ⟨_, rfl, ?_⟩
  refine Sp.L.pure (by kernel_rfl) (Sp.Runs.assign rfl) ?_
  refine Sp.L.nil ?_
  refine hK4 _ _ (Sp.Cd.sub (S' := [(0, _), (3, _), (4, _)]) ⟨rfl, rfl, rfl, trivial⟩ ?_)
  clear hK4 K4
  refine Sp.Cd.block ?_
  refine Sp.Cd.loop (ι := ByteArray × Nat) [(0, _)] (fun q => [(3, .string q.1), (4, .int .i64 (q.2 : Nat))]) (fun q w' => Hid (Drawn w0 w' g (A + 2 * (9 - q.2) + 2)) ∧ (q.2 ≤ 9 ∧ q.1.size + q.2 ≤ 9)) (fun q => q.2) (ByteArray.empty, x1) ⟨rfl, (Sp.lkI rfl (by first | rfl | (dsimp only; omega))), rfl, trivial⟩ ⟨Lib.hid (D.out.mono (by dsimp only; omega)), (by constructor <;> dsimp only <;> (try rw [show ByteArray.empty.size = 0 from rfl]) <;> omega)⟩ ?_
  clear D
  rintro q w2 ⟨D, hrel⟩
  refine Sp.Cd.sub (S' := [(3, _), (4, _), (0, _)]) ⟨rfl, rfl, rfl, trivial⟩ ?_
  obtain ⟨hr1, hr2⟩ := hrel
  by_cases hlt : 0 < q.2
  · refine Sp.Cd.seq fun K5 hK5 => ?_
    refine Sp.Cd.seq fun K6 hK6 => ?_
    refine Sp.Cd.region ?_
    refine Sp.L.pure (by kernel_rfl) (Sp.Runs.move rfl) ?_
    refine Sp.L.pure (by kernel_rfl) (Sp.Runs.gtIT rfl rfl (by omega)) ?_
    refine Sp.L.nil ?_
    refine hK6 _ _ (Sp.Cd.sub (S' := [(0, _), (3, _), (4, _), (8, _)]) ⟨rfl, rfl, rfl, rfl, trivial⟩ ?_)
    clear hK6 K6
    refine Sp.Cd.condT rfl ?_
    refine Sp.Cd.skip ?_
    refine hK5 _ _ (Sp.Cd.sub (S' := [(0, _), (3, _), (4, _)]) ⟨rfl, rfl, rfl, trivial⟩ ?_)
    clear hK5 K5
    refine Sp.Cd.seq fun K7 hK7 => ?_
    refine Sp.Cd.block ?_
    refine Sp.Cd.region ?_
    refine Sp.L.pure (by kernel_rfl) (Sp.Runs.move rfl) ?_
    refine Sp.L.pure (by kernel_rfl) (Sp.Runs.move rfl) ?_
    have CL := of_lit w0 w2 g (A + 2 * (9 - q.2) + 2) 4 [(⟨#[76]⟩ : ByteArray), (⟨#[82]⟩ : ByteArray), (⟨#[65]⟩ : ByteArray), (⟨#[83]⟩ : ByteArray)] rfl (by omega) (by omega) (by omega) HG D.out
    simp only [List.map_cons, List.map_nil] at CL
    refine Sp.L.lits (v := .slice (some ⟨w2.heap.size, 0, none⟩) 4 4) (w' := w2.alloc (.cells #[.string ⟨#[76]⟩, .string ⟨#[82]⟩, .string ⟨#[65]⟩, .string ⟨#[83]⟩] 9)) rfl (by simp [go_sem]) (by kernel_rfl) ?_
    refine Sp.L.call (by kernel_rfl) (CL) rfl rfl (by kernel_rfl) ?_
    rintro e w3 ⟨x2, hx2, rfl, d⟩
    replace D : Hid (Drawn w0 w3 g (A + 2 * (9 - q.2) + 4)) := Lib.hid ((d).mono (by omega))
    clear d
    clear CL
    have hx2s := size_is (n := 1) (by decide) hx2
    refine ⟨_, rfl, ?_⟩
    refine Sp.L.pure (by kernel_rfl) (Sp.Runs.addS rfl rfl (by omega)) ?_
    refine Sp.L.pure (by kernel_rfl) (Sp.Runs.assign rfl) ?_
    refine Sp.L.nil ?_
    refine Sp.Nx.block ?_
    refine hK7 _ _ (Sp.Cd.sub (S' := [(0, _), (3, _), (4, _)]) ⟨rfl, rfl, rfl, trivial⟩ ?_)
    clear hK7 K7
    refine Sp.Cd.region ?_
    refine Sp.L.pure (by kernel_rfl) (Sp.Runs.move rfl) ?_
    refine Sp.L.pure (by kernel_rfl) (Sp.Runs.subI rfl rfl (Sp.wrapI (by omega) (by omega))) ?_
    refine Sp.L.pure (by kernel_rfl) (Sp.Runs.assign rfl) ?_
    refine Sp.L.nil ?_
    refine Sp.Nx.again (q.1 ++ x2, q.2 - 1) ⟨rfl, (Sp.lkI rfl (by dsimp only; omega)), rfl, trivial⟩ ⟨Lib.hid (D.out.mono (by dsimp only; omega)), (by constructor <;> dsimp only <;> (try simp only [size_app]) <;> omega)⟩ (by dsimp only; omega)
  · refine Sp.Cd.seq fun K8 hK8 => ?_
    refine Sp.Cd.seq fun K9 hK9 => ?_
    refine Sp.Cd.region ?_
    refine Sp.L.pure (by kernel_rfl) (Sp.Runs.move rfl) ?_
    refine Sp.L.pure (by kernel_rfl) (Sp.Runs.gtIF rfl rfl (by omega)) ?_
    refine Sp.L.nil ?_
    refine hK9 _ _ (Sp.Cd.sub (S' := [(0, _), (3, _), (4, _), (8, _)]) ⟨rfl, rfl, rfl, rfl, trivial⟩ ?_)
    clear hK9 K9
    refine Sp.Cd.condF rfl ?_
    refine Sp.Cd.exit ?_
    refine Sp.Ex.then ?_
    clear hK8 K8
    refine Sp.Ex.then ?_
    replace D : Hid (Drawn w0 w2 g (A + 18 + 2)) := Lib.hid (D.out.mono (by omega))
    refine Sp.Ex.hit ?_
    refine hK3 _ _ (Sp.Cd.sub (S' := [(0, _), (3, _)]) ⟨rfl, rfl, trivial⟩ ?_)
    clear hK3 K3
    refine Sp.Cd.seq fun K10 hK10 => ?_
    refine Sp.Cd.seq fun K11 hK11 => ?_
    refine Sp.Cd.region ?_
    refine Sp.L.pure (by kernel_rfl) (Sp.Runs.move rfl) ?_
    refine Sp.L.call (by kernel_rfl) (pick_p w2 g (A + 18 + 2) 18 (by omega) (by omega) (by omega) D.out.cur) rfl rfl (by kernel_rfl) ?_
    rintro e w3 ⟨x2, hx2, rfl, d⟩
    replace D : Hid (Drawn w0 w3 g (A + 18 + 4)) := Lib.hid ((D.out.trans d).mono (by omega))
    clear d
    refine ⟨_, rfl, ?_⟩
    refine Sp.L.nil ?_
    refine hK11 _ _ (Sp.Cd.sub (S' := [(0, _), (3, _), (17, _)]) ⟨rfl, rfl, rfl, trivial⟩ ?_)
    clear hK11 K11
    refine Sp.Cd.block ?_
    by_cases c0 : x2 = 0
    · refine Sp.Cd.seq fun K12 hK12 => ?_
      refine Sp.Cd.region ?_
      refine Sp.L.pure (by kernel_rfl) (Sp.Runs.eqIT rfl rfl (by omega)) ?_
      refine Sp.L.pure (by kernel_rfl) (Sp.Runs.assign rfl) ?_
      refine Sp.L.nil ?_
      refine hK12 _ _ (Sp.Cd.sub (S' := [(0, _), (3, _), (17, _), (18, _)]) ⟨rfl, rfl, rfl, rfl, trivial⟩ ?_)
      clear hK12 K12
      refine Sp.Cd.condT rfl ?_
      refine Sp.Cd.seq fun K13 hK13 => ?_
      refine Sp.Cd.region ?_
      refine Sp.L.pure (by kernel_rfl) (Sp.Runs.move rfl) ?_
      refine Sp.L.pure (by kernel_rfl) (Sp.Runs.move rfl) ?_
      refine Sp.L.call (by kernel_rfl) (spoilt_p w3 g (A + 18 + 4) q.1 ⟨#[76, 82, 65, 83, 120]⟩ (by omega) (by omega) (by decide) (by decide) D.out.cur) rfl rfl (by kernel_rfl) ?_
      rintro e w4 ⟨t3, ht3, rfl, d⟩
      replace D : Hid (Drawn w0 w4 g (A + 18 + 24)) := Lib.hid ((D.out.trans d).mono (by omega))
      clear d
      refine ⟨_, rfl, ?_⟩
      refine Sp.L.pure (by kernel_rfl) (Sp.Runs.assign rfl) ?_
      refine Sp.L.nil ?_
      refine hK13 _ _ (Sp.Cd.sub (S' := [(2, _)]) ⟨rfl, trivial⟩ ?_)
      clear hK13 K13
      refine Sp.Cd.ret ?_
      refine Sp.Rt.block ?_
      refine Sp.Rt.then ?_
      refine Sp.Rt.body rfl rfl ?_
      exact ⟨_, by omega, rfl, D.out.mono (by omega)⟩
    · by_cases c1 : x2 = 1
      · refine Sp.Cd.seq fun K14 hK14 => ?_
        refine Sp.Cd.region ?_
        refine Sp.L.pure (by kernel_rfl) (Sp.Runs.eqIF rfl rfl (by omega)) ?_
        refine Sp.L.pure (by kernel_rfl) (Sp.Runs.assign rfl) ?_
        refine Sp.L.nil ?_
        refine hK14 _ _ (Sp.Cd.sub (S' := [(0, _), (3, _), (17, _), (18, _)]) ⟨rfl, rfl, rfl, rfl, trivial⟩ ?_)
        clear hK14 K14
        refine Sp.Cd.condF rfl ?_
        refine Sp.Cd.seq fun K15 hK15 => ?_
        refine Sp.Cd.region ?_
        refine Sp.L.pure (by kernel_rfl) (Sp.Runs.eqIT rfl rfl (by omega)) ?_
        refine Sp.L.pure (by kernel_rfl) (Sp.Runs.assign rfl) ?_
        refine Sp.L.nil ?_
        refine hK15 _ _ (Sp.Cd.sub (S' := [(0, _), (3, _), (23, _)]) ⟨rfl, rfl, rfl, trivial⟩ ?_)
        clear hK15 K15
        refine Sp.Cd.condT rfl ?_
        refine Sp.Cd.block ?_
        refine Sp.Cd.loop (ι := ByteArray) [(0, _)] (fun r => [(3, .string r)]) (fun r w' => Hid (Drawn w0 w' g (A + 18 + 4 * r.size + 4)) ∧ (r.size ≤ 61)) (fun r => 61 - r.size) q.1 ⟨rfl, rfl, trivial⟩ ⟨Lib.hid (D.out.mono (by omega)), (by omega)⟩ ?_
        clear D
        rintro r w4 ⟨D, hrel⟩
        refine Sp.Cd.sub (S' := [(3, _), (0, _)]) ⟨rfl, rfl, trivial⟩ ?_
        refine Sp.Cd.seq fun K16 hK16 => ?_
        refine Sp.Cd.seq fun K17 hK17 => ?_
        refine Sp.Cd.region ?_
        refine Sp.L.pure (by kernel_rfl) (Sp.Runs.move rfl) ?_
        refine Sp.L.pure (by kernel_rfl) (Sp.Runs.lenS Tryd.underlying9 rfl) ?_
        refine Sp.L.pure (by kernel_rfl) (Sp.Runs.move rfl) ?_
        refine Sp.L.call (by kernel_rfl) (pick_p w4 g (A + 18 + 4 * r.size + 4) 2 (by omega) (by omega) (by omega) D.out.cur) rfl rfl (by kernel_rfl) ?_
        rintro e w5 ⟨x3, hx3, rfl, d⟩
        replace D : Hid (Drawn w0 w5 g (A + 18 + 4 * r.size + 6)) := Lib.hid ((D.out.trans d).mono (by omega))
        clear d
        refine ⟨_, rfl, ?_⟩
        refine Sp.L.pure (by kernel_rfl) (Sp.Runs.addI rfl rfl (Sp.wrapI (by omega) (by omega))) ?_
        refine Sp.L.pure (by kernel_rfl) (Sp.Runs.ltI rfl rfl) ?_
        generalize hbl : decide ((_ : Int) < _) = bl
        refine Sp.L.nil ?_
        refine hK17 _ _ (Sp.Cd.sub (S' := [(0, _), (3, _), (30, _)]) ⟨rfl, rfl, rfl, trivial⟩ ?_)
        clear hK17 K17
        rcases bl with _ | _
        · have hcc := of_decide_eq_false hbl
          refine Sp.Cd.condF rfl ?_
          refine Sp.Cd.exit ?_
          refine Sp.Ex.then ?_
          clear hK16 K16
          refine Sp.Ex.then ?_
          replace D : Hid (Drawn w0 w5 g (A + 18 + 248 + 4)) := Lib.hid (D.out.mono (by omega))
          refine Sp.Ex.hit ?_
          refine Sp.Nx.block ?_
          refine hK10 _ _ (Sp.Cd.sub (S' := [(3, _)]) ⟨rfl, trivial⟩ ?_)
          clear hK10 K10
          refine Sp.Cd.seq fun K18 hK18 => ?_
          refine Sp.Cd.region ?_
          refine Sp.L.pure (by kernel_rfl) (Sp.Runs.move rfl) ?_
          refine Sp.L.pure (by kernel_rfl) (Sp.Runs.assign rfl) ?_
          refine Sp.L.nil ?_
          refine hK18 _ _ (Sp.Cd.sub (S' := [(2, _)]) ⟨rfl, trivial⟩ ?_)
          clear hK18 K18
          refine Sp.Cd.ret ?_
          refine Sp.Rt.body rfl rfl ?_
          exact ⟨_, by omega, rfl, D.out.mono (by omega)⟩
        · have hcc := of_decide_eq_true hbl
          refine Sp.Cd.condT rfl ?_
          refine Sp.Cd.skip ?_
          refine hK16 _ _ (Sp.Cd.sub (S' := [(0, _), (3, _)]) ⟨rfl, rfl, trivial⟩ ?_)
          clear hK16 K16
          refine Sp.Cd.block ?_
          refine Sp.Cd.region ?_
          refine Sp.L.pure (by kernel_rfl) (Sp.Runs.move rfl) ?_
          refine Sp.L.pure (by kernel_rfl) (Sp.Runs.move rfl) ?_
          have CL := of_lit w0 w5 g (A + 18 + 4 * r.size + 6) 2 [(⟨#[76]⟩ : ByteArray), (⟨#[82]⟩ : ByteArray)] rfl (by omega) (by omega) (by omega) HG D.out
          simp only [List.map_cons, List.map_nil] at CL
          refine Sp.L.lits (v := .slice (some ⟨w5.heap.size, 0, none⟩) 2 2) (w' := w5.alloc (.cells #[.string ⟨#[76]⟩, .string ⟨#[82]⟩] 9)) rfl (by simp [go_sem]) (by kernel_rfl) ?_
          refine Sp.L.call (by kernel_rfl) (CL) rfl rfl (by kernel_rfl) ?_
          rintro e w6 ⟨x4, hx4, rfl, d⟩
          replace D : Hid (Drawn w0 w6 g (A + 18 + 4 * r.size + 8)) := Lib.hid ((d).mono (by omega))
          clear d
          clear CL
          have hx4s := size_is (n := 1) (by decide) hx4
          refine ⟨_, rfl, ?_⟩
          refine Sp.L.pure (by kernel_rfl) (Sp.Runs.addS rfl rfl (by omega)) ?_
          refine Sp.L.pure (by kernel_rfl) (Sp.Runs.assign rfl) ?_
          refine Sp.L.nil ?_
          refine Sp.Nx.block ?_
          refine Sp.Nx.again (r ++ x4) ⟨rfl, rfl, trivial⟩ ⟨Lib.hid (D.out.mono (by rw [size_app]; omega)), (by rw [size_app]; omega)⟩ (by rw [size_app]; omega)
      · refine Sp.Cd.seq fun K19 hK19 => ?_
        refine Sp.Cd.region ?_
        refine Sp.L.pure (by kernel_rfl) (Sp.Runs.eqIF rfl rfl (by omega)) ?_
        refine Sp.L.pure (by kernel_rfl) (Sp.Runs.assign rfl) ?_
        refine Sp.L.nil ?_
        refine hK19 _ _ (Sp.Cd.sub (S' := [(0, _), (3, _), (17, _), (18, _)]) ⟨rfl, rfl, rfl, rfl, trivial⟩ ?_)
        clear hK19 K19
        refine Sp.Cd.condF rfl ?_
        refine Sp.Cd.seq fun K20 hK20 => ?_
        refine Sp.Cd.region ?_
        refine Sp.L.pure (by kernel_rfl) (Sp.Runs.eqIF rfl rfl (by omega)) ?_
        refine Sp.L.pure (by kernel_rfl) (Sp.Runs.assign rfl) ?_
        refine Sp.L.nil ?_
        refine hK20 _ _ (Sp.Cd.sub (S' := [(0, _), (3, _), (23, _)]) ⟨rfl, rfl, rfl, trivial⟩ ?_)
        clear hK20 K20
        refine Sp.Cd.condF rfl ?_
        refine Sp.Cd.skip ?_
        refine Sp.Nx.block ?_
        refine hK10 _ _ (Sp.Cd.sub (S' := [(3, _)]) ⟨rfl, trivial⟩ ?_)
        clear hK10 K10
        refine Sp.Cd.seq fun K21 hK21 => ?_
        refine Sp.Cd.region ?_
        refine Sp.L.pure (by kernel_rfl) (Sp.Runs.move rfl) ?_
        refine Sp.L.pure (by kernel_rfl) (Sp.Runs.assign rfl) ?_
        refine Sp.L.nil ?_
        refine hK21 _ _ (Sp.Cd.sub (S' := [(2, _)]) ⟨rfl, trivial⟩ ?_)
        clear hK21 K21
        refine Sp.Cd.ret ?_
        refine Sp.Rt.body rfl rfl ?_
        exact ⟨_, by omega, rfl, D.out.mono (by omega)⟩

set_option maxRecDepth 20000 in
set_option maxHeartbeats 4000000 in
theorem drawFacingAfter_p (w0 : World) (a : Option Addr) (len cap : Nat) (hl : len ≤ 9223372036854775807) (hb : Bytes w0 a len) :
    Calls Tryd.prog 8 #[.slice a len cap] w0 fun e w' => ∃ s t : ByteArray, s.size ≤ 100 ∧ t.size ≤ 100 ∧ e = .returned (.tuple #[.string s, .string t]) ∧ Below w0.heap.size w0 w' := by
  refine Sp.enter (N := 12) (args := [.slice a len cap]) Tryd.func8 rfl rfl (by kernel_rfl) ?_
  refine Sp.Cd.seq fun K1 hK1 => ?_
  refine Sp.Cd.region ?_
  refine Sp.L.pure (by kernel_rfl) (Sp.Runs.assign rfl) ?_
  refine Sp.L.pure (by kernel_rfl) (Sp.Runs.assign rfl) ?_
  refine Sp.L.nil ?_
  refine hK1 _ _ (Sp.Cd.sub (S' := [(0, _)]) ⟨rfl, trivial⟩ ?_)
  clear hK1 K1
  refine Sp.Cd.seq fun K2 hK2 => ?_
  refine Sp.Cd.region ?_
  refine Sp.L.pure (by kernel_rfl) (Sp.Runs.move rfl) ?_
  refine Sp.L.build1 rfl Sp.build_cur (by kernel_rfl) ?_
  refine Sp.L.box rfl Sp.box_cur (by kernel_rfl) ?_
  have D0 := drawn_refl (cur_new w0 a len cap hl hb)
  have HG : w0.heap.size < (w0.alloc (.cells #[.slice a len cap, .int .i64 0, .int .u64 0] 65)).heap.size := by rw [alloc_size]; omega
  have hb0 : ∀ w', Drawn (w0.alloc (.cells #[.slice a len cap, .int .i64 0, .int .u64 0] 65)) w' w0.heap.size (0 + 0) → True := fun _ _ => trivial
  clear hb0
  obtain ⟨wS, hwS⟩ : ∃ x, x = w0.alloc (.cells #[.slice a len cap, .int .i64 0, .int .u64 0] 65) := ⟨_, rfl⟩
  rw [← hwS] at D0 HG
  rw [← hwS]
  have HE : ∀ w' A', Drawn wS w' w0.heap.size A' → Below w0.heap.size w0 w' := fun w' A' d => by rw [hwS] at d; exact drawn_end d
  obtain ⟨g, hgg⟩ : ∃ x, x = w0.heap.size := ⟨_, rfl⟩
  rw [← hgg] at D0 HG HE
  rw [← hgg]
  replace HE : ∀ w' A', Drawn wS w' g A' → Below w0.heap.size w0 w' := fun w' A' d => by have h := HE w' A' d; rw [hgg] at h; exact h
  obtain ⟨w1, hw1⟩ : ∃ x, x = wS := ⟨_, rfl⟩
  have D : Hid (Drawn wS w1 g (0 + 0)) := Lib.hid (by rw [hw1]; exact D0)
  rw [← hw1]
  clear D0 hwS hw1 hgg hb
  refine Sp.L.pure (by kernel_rfl) (Sp.Runs.assign rfl) ?_
  refine Sp.L.nil ?_
  refine hK2 _ _ (Sp.Cd.sub (S' := [(4, _)]) ⟨rfl, trivial⟩ ?_)
  clear hK2 K2
  refine Sp.Cd.seq fun K3 hK3 => ?_
  refine Sp.Cd.region ?_
  refine Sp.L.pure (by kernel_rfl) (Sp.Runs.move rfl) ?_
  refine Sp.L.call (by kernel_rfl) (facing_p w1 g (0 + 0) (by omega) D.out.cur) rfl rfl (by kernel_rfl) ?_
  rintro e w2 ⟨t1, ht1, rfl, d⟩
  replace D : Hid (Drawn wS w2 g (0 + 60)) := Lib.hid ((D.out.trans d).mono (by omega))
  clear d
  refine ⟨_, rfl, ?_⟩
  refine Sp.L.pure (by kernel_rfl) (Sp.Runs.move rfl) ?_
  refine Sp.L.call (by kernel_rfl) (commands_p w2 g (0 + 60) (by omega) D.out.cur) rfl rfl (by kernel_rfl) ?_
  rintro e w3 ⟨t2, ht2, rfl, d⟩
  replace D : Hid (Drawn wS w3 g (0 + 360)) := Lib.hid ((D.out.trans d).mono (by omega))
  clear d
  refine ⟨_, rfl, ?_⟩
  refine Sp.L.pure (by kernel_rfl) (Sp.Runs.assign rfl) ?_
  refine Sp.L.pure (by kernel_rfl) (Sp.Runs.assign rfl) ?_
  refine Sp.L.nil ?_
  refine hK3 _ _ (Sp.Cd.sub (S' := [(2, _), (3, _)]) ⟨rfl, rfl, trivial⟩ ?_)
  clear hK3 K3
  refine Sp.Cd.ret ?_
  refine Sp.Rt.body2 rfl rfl ?_
  exact ⟨_, _, ht1, ht2, rfl, HE _ _ D.out⟩

set_option maxRecDepth 20000 in
set_option maxHeartbeats 4000000 in
theorem drawAreFacing_p (w0 : World) (a : Option Addr) (len cap : Nat) (hl : len ≤ 9223372036854775807) (hb : Bytes w0 a len) :
    Calls Tryd.prog 74 #[.slice a len cap] w0 fun e w' => ∃ s : ByteArray, s.size ≤ 100 ∧ e = .returned (.string s) ∧ Below w0.heap.size w0 w' := by
  refine Sp.enter (N := 9) (args := [.slice a len cap]) Tryd.func74 rfl rfl (by kernel_rfl) ?_
  refine Sp.Cd.seq fun K1 hK1 => ?_
  refine Sp.Cd.region ?_
  refine Sp.L.pure (by kernel_rfl) (Sp.Runs.assign rfl) ?_
  refine Sp.L.nil ?_
  refine hK1 _ _ (Sp.Cd.sub (S' := [(0, _)]) ⟨rfl, trivial⟩ ?_)
  clear hK1 K1
  refine Sp.Cd.seq fun K2 hK2 => ?_
  refine Sp.Cd.region ?_
  refine Sp.L.pure (by kernel_rfl) (Sp.Runs.move rfl) ?_
  refine Sp.L.build1 rfl Sp.build_cur (by kernel_rfl) ?_
  refine Sp.L.box rfl Sp.box_cur (by kernel_rfl) ?_
  have D0 := drawn_refl (cur_new w0 a len cap hl hb)
  have HG : w0.heap.size < (w0.alloc (.cells #[.slice a len cap, .int .i64 0, .int .u64 0] 65)).heap.size := by rw [alloc_size]; omega
  have hb0 : ∀ w', Drawn (w0.alloc (.cells #[.slice a len cap, .int .i64 0, .int .u64 0] 65)) w' w0.heap.size (0 + 0) → True := fun _ _ => trivial
  clear hb0
  obtain ⟨wS, hwS⟩ : ∃ x, x = w0.alloc (.cells #[.slice a len cap, .int .i64 0, .int .u64 0] 65) := ⟨_, rfl⟩
  rw [← hwS] at D0 HG
  rw [← hwS]
  have HE : ∀ w' A', Drawn wS w' w0.heap.size A' → Below w0.heap.size w0 w' := fun w' A' d => by rw [hwS] at d; exact drawn_end d
  obtain ⟨g, hgg⟩ : ∃ x, x = w0.heap.size := ⟨_, rfl⟩
  rw [← hgg] at D0 HG HE
  rw [← hgg]
  replace HE : ∀ w' A', Drawn wS w' g A' → Below w0.heap.size w0 w' := fun w' A' d => by have h := HE w' A' d; rw [hgg] at h; exact h
  obtain ⟨w1, hw1⟩ : ∃ x, x = wS := ⟨_, rfl⟩
  have D : Hid (Drawn wS w1 g (0 + 0)) := Lib.hid (by rw [hw1]; exact D0)
  rw [← hw1]
  clear D0 hwS hw1 hgg hb
  refine Sp.L.pure (by kernel_rfl) (Sp.Runs.assign rfl) ?_
  refine Sp.L.nil ?_
  refine hK2 _ _ (Sp.Cd.sub (S' := [(3, _)]) ⟨rfl, trivial⟩ ?_)
  clear hK2 K2
  refine Sp.Cd.seq fun K3 hK3 => ?_
  refine Sp.Cd.region ?_
  refine Sp.L.pure (by kernel_rfl) (Sp.Runs.move rfl) ?_
  refine Sp.L.call (by kernel_rfl) (facing_p w1 g (0 + 0) (by omega) D.out.cur) rfl rfl (by kernel_rfl) ?_
  rintro e w2 ⟨t1, ht1, rfl, d⟩
  replace D : Hid (Drawn wS w2 g (0 + 60)) := Lib.hid ((D.out.trans d).mono (by omega))
  clear d
  refine ⟨_, rfl, ?_⟩
  refine Sp.L.pure (by kernel_rfl) (Sp.Runs.assign rfl) ?_
  refine Sp.L.nil ?_
  refine hK3 _ _ (Sp.Cd.sub (S' := [(2, _)]) ⟨rfl, trivial⟩ ?_)
  clear hK3 K3
  refine Sp.Cd.ret ?_
  refine Sp.Rt.body rfl rfl ?_
  exact ⟨_, ht1, rfl, HE _ _ D.out⟩

set_option maxRecDepth 20000 in
set_option maxHeartbeats 4000000 in
theorem drawCountCommandWords_p (w0 : World) (a : Option Addr) (len cap : Nat) (hl : len ≤ 9223372036854775807) (hb : Bytes w0 a len) :
    Calls Tryd.prog 26 #[.slice a len cap] w0 fun e w' => ∃ x y : Int, (Lit.int .i64 x).wf = true ∧ (Lit.int .i64 y).wf = true ∧ e = .returned (.tuple #[.int .i64 x, .int .i64 y]) ∧ Below w0.heap.size w0 w' := by
  refine Sp.enter (N := 17) (args := [.slice a len cap]) Tryd.func26 rfl rfl (by kernel_rfl) ?_
  refine Sp.Cd.seq fun K1 hK1 => ?_
  refine Sp.Cd.region ?_
  refine Sp.L.pure (by kernel_rfl) (Sp.Runs.assign rfl) ?_
  refine Sp.L.pure (by kernel_rfl) (Sp.Runs.assign rfl) ?_
  refine Sp.L.nil ?_
  refine hK1 _ _ (Sp.Cd.sub (S' := [(0, _)]) ⟨rfl, trivial⟩ ?_)
  clear hK1 K1
  refine Sp.Cd.seq fun K2 hK2 => ?_
  refine Sp.Cd.region ?_
  refine Sp.L.pure (by kernel_rfl) (Sp.Runs.move rfl) ?_
  refine Sp.L.build1 rfl Sp.build_cur (by kernel_rfl) ?_
  refine Sp.L.box rfl Sp.box_cur (by kernel_rfl) ?_
  have D0 := drawn_refl (cur_new w0 a len cap hl hb)
  have HG : w0.heap.size < (w0.alloc (.cells #[.slice a len cap, .int .i64 0, .int .u64 0] 65)).heap.size := by rw [alloc_size]; omega
  have hb0 : ∀ w', Drawn (w0.alloc (.cells #[.slice a len cap, .int .i64 0, .int .u64 0] 65)) w' w0.heap.size (0 + 0) → True := fun _ _ => trivial
  clear hb0
  obtain ⟨wS, hwS⟩ : ∃ x, x = w0.alloc (.cells #[.slice a len cap, .int .i64 0, .int .u64 0] 65) := ⟨_, rfl⟩
  rw [← hwS] at D0 HG
  rw [← hwS]
  have HE : ∀ w' A', Drawn wS w' w0.heap.size A' → Below w0.heap.size w0 w' := fun w' A' d => by rw [hwS] at d; exact drawn_end d
  obtain ⟨g, hgg⟩ : ∃ x, x = w0.heap.size := ⟨_, rfl⟩
  rw [← hgg] at D0 HG HE
  rw [← hgg]
  replace HE : ∀ w' A', Drawn wS w' g A' → Below w0.heap.size w0 w' := fun w' A' d => by have h := HE w' A' d; rw [hgg] at h; exact h
  obtain ⟨w1, hw1⟩ : ∃ x, x = wS := ⟨_, rfl⟩
  have D : Hid (Drawn wS w1 g (0 + 0)) := Lib.hid (by rw [hw1]; exact D0)
  rw [← hw1]
  clear D0 hwS hw1 hgg hb
  refine Sp.L.pure (by kernel_rfl) (Sp.Runs.assign rfl) ?_
  refine Sp.L.nil ?_
  refine hK2 _ _ (Sp.Cd.sub (S' := [(4, _)]) ⟨rfl, trivial⟩ ?_)
  clear hK2 K2
  refine Sp.Cd.seq fun K3 hK3 => ?_
  refine Sp.Cd.region ?_
  refine Sp.L.pure (by kernel_rfl) (Sp.Runs.move rfl) ?_
  refine Sp.L.call (by kernel_rfl) (pick_p w1 g (0 + 0) 27 (by omega) (by omega) (by omega) D.out.cur) rfl rfl (by kernel_rfl) ?_
  rintro e w2 ⟨x1, hx1, rfl, d⟩
  replace D : Hid (Drawn wS w2 g (0 + 2)) := Lib.hid ((D.out.trans d).mono (by omega))
  clear d
  refine ⟨_, rfl, ?_⟩
  refine Sp.L.pure (by kernel_rfl) (Sp.Runs.subI rfl rfl (Sp.wrapI (by omega) (by omega))) ?_
  refine Sp.L.pure (by kernel_rfl) (Sp.Runs.move rfl) ?_
  refine Sp.L.call (by kernel_rfl) (pick_p w2 g (0 + 2) 5 (by omega) (by omega) (by omega) D.out.cur) rfl rfl (by kernel_rfl) ?_
  rintro e w3 ⟨x2, hx2, rfl, d⟩
  replace D : Hid (Drawn wS w3 g (0 + 4)) := Lib.hid ((D.out.trans d).mono (by omega))
  clear d
  refine ⟨_, rfl, ?_⟩
  refine Sp.L.pure (by kernel_rfl) (Sp.Runs.move rfl) ?_
  refine Sp.L.call (by kernel_rfl) (pick_p w3 g (0 + 4) 9 (by omega) (by omega) (by omega) D.out.cur) rfl rfl (by kernel_rfl) ?_
  rintro e w4 ⟨x3, hx3, rfl, d⟩
  replace D : Hid (Drawn wS w4 g (0 + 6)) := Lib.hid ((D.out.trans d).mono (by omega))
  clear d
  refine ⟨_, rfl, ?_⟩
  refine Sp.L.pure (by kernel_rfl) (Sp.Runs.quoI rfl rfl (by decide) ((congrArg _ (Sp.tdiv_nn (by omega))).trans (Sp.wrapI (by omega) (by omega)))) ?_
  refine Sp.L.pure (by kernel_rfl) (Sp.Runs.subI rfl rfl (Sp.wrapI (by omega) (by omega))) ?_
  refine Sp.L.pure (by kernel_rfl) (Sp.Runs.assign rfl) ?_
  refine Sp.L.pure (by kernel_rfl) (Sp.Runs.assign rfl) ?_
  refine Sp.L.nil ?_
  refine hK3 _ _ (Sp.Cd.sub (S' := [(2, _), (3, _)]) ⟨rfl, rfl, trivial⟩ ?_)
  clear hK3 K3
  refine Sp.Cd.ret ?_
  refine Sp.Rt.body2 rfl rfl ?_
  exact ⟨_, _, wf_i64' (by omega) (by omega), wf_i64' (by omega) (by omega), rfl, HE _ _ D.out⟩

set_option maxRecDepth 20000 in
set_option maxHeartbeats 4000000 in
theorem drawBestCommand_p (w0 : World) (a : Option Addr) (len cap : Nat) (hl : len ≤ 9223372036854775807) (hb : Bytes w0 a len) :
    Calls Tryd.prog 31 #[.slice a len cap] w0 fun e w' => ∃ (s : ByteArray) (x : Int), s.size ≤ 100 ∧ (Lit.int .i64 x).wf = true ∧ e = .returned (.tuple #[.string s, .int .i64 x]) ∧ Below w0.heap.size w0 w' := by
  refine Sp.enter (N := 16) (args := [.slice a len cap]) Tryd.func31 rfl rfl (by kernel_rfl) ?_
  refine Sp.Cd.seq fun K1 hK1 => ?_
  refine Sp.Cd.region ?_
  refine Sp.L.pure (by kernel_rfl) (Sp.Runs.assign rfl) ?_
  refine Sp.L.pure (by kernel_rfl) (Sp.Runs.assign rfl) ?_
  refine Sp.L.nil ?_
  refine hK1 _ _ (Sp.Cd.sub (S' := [(0, _)]) ⟨rfl, trivial⟩ ?_)
  clear hK1 K1
  refine Sp.Cd.seq fun K2 hK2 => ?_
  refine Sp.Cd.region ?_
  refine Sp.L.pure (by kernel_rfl) (Sp.Runs.move rfl) ?_
  refine Sp.L.build1 rfl Sp.build_cur (by kernel_rfl) ?_
  refine Sp.L.box rfl Sp.box_cur (by kernel_rfl) ?_
  have D0 := drawn_refl (cur_new w0 a len cap hl hb)
  have HG : w0.heap.size < (w0.alloc (.cells #[.slice a len cap, .int .i64 0, .int .u64 0] 65)).heap.size := by rw [alloc_size]; omega
  have hb0 : ∀ w', Drawn (w0.alloc (.cells #[.slice a len cap, .int .i64 0, .int .u64 0] 65)) w' w0.heap.size (0 + 0) → True := fun _ _ => trivial
  clear hb0
  obtain ⟨wS, hwS⟩ : ∃ x, x = w0.alloc (.cells #[.slice a len cap, .int .i64 0, .int .u64 0] 65) := ⟨_, rfl⟩
  rw [← hwS] at D0 HG
  rw [← hwS]
  have HE : ∀ w' A', Drawn wS w' w0.heap.size A' → Below w0.heap.size w0 w' := fun w' A' d => by rw [hwS] at d; exact drawn_end d
  obtain ⟨g, hgg⟩ : ∃ x, x = w0.heap.size := ⟨_, rfl⟩
  rw [← hgg] at D0 HG HE
  rw [← hgg]
  replace HE : ∀ w' A', Drawn wS w' g A' → Below w0.heap.size w0 w' := fun w' A' d => by have h := HE w' A' d; rw [hgg] at h; exact h
  obtain ⟨w1, hw1⟩ : ∃ x, x = wS := ⟨_, rfl⟩
  have D : Hid (Drawn wS w1 g (0 + 0)) := Lib.hid (by rw [hw1]; exact D0)
  rw [← hw1]
  clear D0 hwS hw1 hgg hb
  refine Sp.L.pure (by kernel_rfl) (Sp.Runs.assign rfl) ?_
  refine Sp.L.nil ?_
  refine hK2 _ _ (Sp.Cd.sub (S' := [(4, _)]) ⟨rfl, trivial⟩ ?_)
  clear hK2 K2
  refine Sp.Cd.seq fun K3 hK3 => ?_
  refine Sp.Cd.region ?_
  refine Sp.L.pure (by kernel_rfl) (Sp.Runs.move rfl) ?_
  refine Sp.L.call (by kernel_rfl) (facing_p w1 g (0 + 0) (by omega) D.out.cur) rfl rfl (by kernel_rfl) ?_
  rintro e w2 ⟨t1, ht1, rfl, d⟩
  replace D : Hid (Drawn wS w2 g (0 + 60)) := Lib.hid ((D.out.trans d).mono (by omega))
  clear d
  refine ⟨_, rfl, ?_⟩
  refine Sp.L.pure (by kernel_rfl) (Sp.Runs.move rfl) ?_
  refine Sp.L.call (by kernel_rfl) (pick_p w2 g (0 + 60) 5 (by omega) (by omega) (by omega) D.out.cur) rfl rfl (by kernel_rfl) ?_
  rintro e w3 ⟨x2, hx2, rfl, d⟩
  replace D : Hid (Drawn wS w3 g (0 + 62)) := Lib.hid ((D.out.trans d).mono (by omega))
  clear d
  refine ⟨_, rfl, ?_⟩
  refine Sp.L.pure (by kernel_rfl) (Sp.Runs.move rfl) ?_
  refine Sp.L.call (by kernel_rfl) (pick_p w3 g (0 + 62) 9 (by omega) (by omega) (by omega) D.out.cur) rfl rfl (by kernel_rfl) ?_
  rintro e w4 ⟨x3, hx3, rfl, d⟩
  replace D : Hid (Drawn wS w4 g (0 + 64)) := Lib.hid ((D.out.trans d).mono (by omega))
  clear d
  refine ⟨_, rfl, ?_⟩
  refine Sp.L.pure (by kernel_rfl) (Sp.Runs.quoI rfl rfl (by decide) ((congrArg _ (Sp.tdiv_nn (by omega))).trans (Sp.wrapI (by omega) (by omega)))) ?_
  refine Sp.L.pure (by kernel_rfl) (Sp.Runs.subI rfl rfl (Sp.wrapI (by omega) (by omega))) ?_
  refine Sp.L.pure (by kernel_rfl) (Sp.Runs.assign rfl) ?_
  refine Sp.L.pure (by kernel_rfl) (Sp.Runs.assign rfl) ?_
  refine Sp.L.nil ?_
  refine hK3 _ _ (Sp.Cd.sub (S' := [(2, _), (3, _)]) ⟨rfl, rfl, trivial⟩ ?_)
  clear hK3 K3
  refine Sp.Cd.ret ?_
  refine Sp.Rt.body2 rfl rfl ?_
  exact ⟨_, _, ht1, wf_i64' (by omega) (by omega), rfl, HE _ _ D.out⟩

set_option maxRecDepth 20000 in
set_option maxHeartbeats 4000000 in
theorem drawCommandsBetween_p (w0 : World) (a : Option Addr) (len cap : Nat) (hl : len ≤ 9223372036854775807) (hb : Bytes w0 a len) :
    Calls Tryd.prog 29 #[.slice a len cap] w0 fun e w' => ∃ s t : ByteArray, s.size ≤ 100 ∧ t.size ≤ 100 ∧ e = .returned (.tuple #[.string s, .string t]) ∧ Below w0.heap.size w0 w' := by
  refine Sp.enter (N := 28) (args := [.slice a len cap]) Tryd.func29 rfl rfl (by kernel_rfl) ?_
  refine Sp.Cd.seq fun K1 hK1 => ?_
  refine Sp.Cd.region ?_
  refine Sp.L.pure (by kernel_rfl) (Sp.Runs.assign rfl) ?_
  refine Sp.L.pure (by kernel_rfl) (Sp.Runs.assign rfl) ?_
  refine Sp.L.nil ?_
  refine hK1 _ _ (Sp.Cd.sub (S' := [(0, _)]) ⟨rfl, trivial⟩ ?_)
  clear hK1 K1
  refine Sp.Cd.seq fun K2 hK2 => ?_
  refine Sp.Cd.region ?_
  refine Sp.L.pure (by kernel_rfl) (Sp.Runs.move rfl) ?_
  refine Sp.L.build1 rfl Sp.build_cur (by kernel_rfl) ?_
  refine Sp.L.box rfl Sp.box_cur (by kernel_rfl) ?_
  have D0 := drawn_refl (cur_new w0 a len cap hl hb)
  have HG : w0.heap.size < (w0.alloc (.cells #[.slice a len cap, .int .i64 0, .int .u64 0] 65)).heap.size := by rw [alloc_size]; omega
  have hb0 : ∀ w', Drawn (w0.alloc (.cells #[.slice a len cap, .int .i64 0, .int .u64 0] 65)) w' w0.heap.size (0 + 0) → True := fun _ _ => trivial
  clear hb0
  obtain ⟨wS, hwS⟩ : ∃ x, x = w0.alloc (.cells #[.slice a len cap, .int .i64 0, .int .u64 0] 65) := ⟨_, rfl⟩
  rw [← hwS] at D0 HG
  rw [← hwS]
  have HE : ∀ w' A', Drawn wS w' w0.heap.size A' → Below w0.heap.size w0 w' := fun w' A' d => by rw [hwS] at d; exact drawn_end d
  obtain ⟨g, hgg⟩ : ∃ x, x = w0.heap.size := ⟨_, rfl⟩
  rw [← hgg] at D0 HG HE
  rw [← hgg]
  replace HE : ∀ w' A', Drawn wS w' g A' → Below w0.heap.size w0 w' := fun w' A' d => by have h := HE w' A' d; rw [hgg] at h; exact h
  obtain ⟨w1, hw1⟩ : ∃ x, x = wS := ⟨_, rfl⟩
  have D : Hid (Drawn wS w1 g (0 + 0)) := Lib.hid (by rw [hw1]; exact D0)
  rw [← hw1]
  clear D0 hwS hw1 hgg hb
  refine Sp.L.pure (by kernel_rfl) (Sp.Runs.assign rfl) ?_
  refine Sp.L.nil ?_
  refine hK2 _ _ (Sp.Cd.sub (S' := [(4, _)]) ⟨rfl, trivial⟩ ?_)
  clear hK2 K2
  refine Sp.Cd.seq fun K3 hK3 => ?_
  refine Sp.Cd.region ?_
  refine Sp.L.pure (by kernel_rfl) (Sp.Runs.move rfl) ?_
  refine Sp.L.call (by kernel_rfl) (facing_p w1 g (0 + 0) (by omega) D.out.cur) rfl rfl (by kernel_rfl) ?_
  rintro e w2 ⟨t1, ht1, rfl, d⟩
  replace D : Hid (Drawn wS w2 g (0 + 60)) := Lib.hid ((D.out.trans d).mono (by omega))
  clear d
  refine ⟨_, rfl, ?_⟩
  refine Sp.L.pure (by kernel_rfl) (Sp.Runs.assign rfl) ?_
  refine Sp.L.nil ?_
  refine hK3 _ _ (Sp.Cd.sub (S' := [(4, _), (5, _)]) ⟨rfl, rfl, trivial⟩ ?_)
  clear hK3 K3
  refine Sp.Cd.seq fun K4 hK4 => ?_
  refine Sp.Cd.seq fun K5 hK5 => ?_
  refine Sp.Cd.region ?_
  refine Sp.L.pure (by kernel_rfl) (Sp.Runs.move rfl) ?_
  refine Sp.L.call (by kernel_rfl) (one_p w2 g (0 + 60) 4 (by omega) (by omega) (by omega) D.out.cur) rfl rfl (by kernel_rfl) ?_
  rintro e w3 ⟨b2, rfl, d⟩
  replace D : Hid (Drawn wS w3 g (0 + 62)) := Lib.hid ((D.out.trans d).mono (by omega))
  clear d
  refine ⟨_, rfl, ?_⟩
  refine Sp.L.nil ?_
  refine hK5 _ _ (Sp.Cd.sub (S' := [(4, _), (5, _), (13, _)]) ⟨rfl, rfl, rfl, trivial⟩ ?_)
  clear hK5 K5
  rcases b2 with _ | _
  · refine Sp.Cd.condF rfl ?_
    refine Sp.Cd.skip ?_
    refine hK4 _ _ (Sp.Cd.sub (S' := [(4, _), (5, _)]) ⟨rfl, rfl, trivial⟩ ?_)
    clear hK4 K4
    refine Sp.Cd.seq fun K6 hK6 => ?_
    refine Sp.Cd.region ?_
    refine Sp.L.pure (by kernel_rfl) (Sp.Runs.assign rfl) ?_
    refine Sp.L.nil ?_
    refine hK6 _ _ (Sp.Cd.sub (S' := [(4, _), (5, _), (6, _)]) ⟨rfl, rfl, rfl, trivial⟩ ?_)
    clear hK6 K6
    refine Sp.Cd.seq fun K7 hK7 => ?_
    refine Sp.Cd.seq fun K8 hK8 => ?_
    refine Sp.Cd.region ?_
    refine Sp.L.pure (by kernel_rfl) (Sp.Runs.move rfl) ?_
    refine Sp.L.rangeS Tryd.underlying9 rfl (by kernel_rfl) ?_
    obtain ⟨w4, hw⟩ : ∃ x, x = w3.iter t1 0 := ⟨_, rfl⟩
    rw [← hw]
    have HI0 : w4.heap[w3.heap.size]? = some (.stringIter t1 0) := by rw [hw]; exact World.iter_heap w3 t1 0
    have b : Below wS.heap.size w3 w4 := by rw [hw]; exact (Below.refl _ w3).alloc D.out.grown.size _
    have HP0 := D.out.grown.size
    replace D : Hid (Drawn wS w4 g (0 + 62)) := Lib.hid (D.out.below b HG)
    obtain ⟨pI, hpI⟩ : ∃ x, x = w3.heap.size := ⟨_, rfl⟩
    rw [← hpI] at HI0 HP0
    rw [← hpI]
    have HI := Lib.hid HI0
    clear hw hpI b HI0
    refine Sp.L.nil ?_
    refine hK8 _ _ (Sp.Cd.sub (S' := [(4, _), (5, _), (6, _), (18, _)]) ⟨rfl, rfl, rfl, rfl, trivial⟩ ?_)
    clear hK8 K8
    refine Sp.Cd.block ?_
    refine Sp.Cd.loop (ι := ByteArray × Nat) [(4, _), (5, _), (18, _)] (fun q => [(6, .string q.1)]) (fun q w' => Hid (Drawn wS w' g (0 + 2 * q.1.size + 62)) ∧ Hid (w'.heap[pI]? = some (.stringIter t1 q.2)) ∧ (q.1.size ≤ q.2 ∧ q.1.size ≤ t1.size)) (fun q => t1.size - q.2) (ByteArray.empty, 0) ⟨rfl, rfl, rfl, rfl, trivial⟩ ⟨Lib.hid (D.out.mono (by (try rw [show ByteArray.empty.size = 0 from rfl]); omega)), HI, ⟨Nat.zero_le _, Nat.zero_le _⟩⟩ ?_
    clear D HI
    rintro q w5 ⟨D, HI, hrel⟩
    refine Sp.Cd.sub (S' := [(6, _), (4, _), (5, _), (18, _)]) ⟨rfl, rfl, rfl, rfl, trivial⟩ ?_
    obtain ⟨hr1, hr2⟩ := hrel
    by_cases hlt : q.2 < t1.size
    · have hwp := width_pos' t1 q.2 hlt
      refine Sp.Cd.seq fun K9 hK9 => ?_
      refine Sp.Cd.region ?_
      refine Sp.L.next rfl (Lib.run_next_any_at w5 pI t1 q.2 _ HI.out hlt) (by kernel_rfl) ?_
      obtain ⟨w6, hw⟩ : ∃ x, x = w5.iterAt pI t1 (q.2 + (Utf8.decode t1 q.2).2) := ⟨_, rfl⟩
      rw [← hw]
      replace HI : Hid (w6.heap[pI]? = some (.stringIter t1 (q.2 + (Utf8.decode t1 q.2).2))) := Lib.hid (by rw [hw]; exact Lib.iterAt_heap w5 pI t1 q.2 (q.2 + (Utf8.decode t1 q.2).2) HI.out)
      have DO : Hid (Drawn wS w6 g (0 + 2 * q.1.size + 62)) := Lib.hid (D.out.below (by rw [hw]; exact Lib.below_iterAt (Below.refl _ _) HP0 t1 (q.2 + (Utf8.decode t1 q.2).2)) HG)
      replace D : Hid (Drawn w6 w6 g (0 + 2 * q.1.size + 62)) := Lib.hid (drawn_refl DO.out.cur)
      clear hw
      have HG1 := HG
      replace HG : g < w6.heap.size := Nat.lt_of_lt_of_le HG1 DO.out.grown.size
      refine Sp.L.pure (by kernel_rfl) (Sp.Runs.extract rfl rfl) ?_
      refine Sp.L.nil ?_
      refine hK9 _ _ (Sp.Cd.sub (S' := [(4, _), (5, _), (6, _), (18, _), (20, _)]) ⟨rfl, rfl, rfl, rfl, rfl, trivial⟩ ?_)
      clear hK9 K9
      refine Sp.Cd.seq fun K10 hK10 => ?_
      refine Sp.Cd.condT rfl ?_
      refine Sp.Cd.skip ?_
      refine hK10 _ _ (Sp.Cd.sub (S' := [(4, _), (5, _), (6, _), (18, _)]) ⟨rfl, rfl, rfl, rfl, trivial⟩ ?_)
      clear hK10 K10
      refine Sp.Cd.block ?_
      refine Sp.Cd.region ?_
      refine Sp.L.pure (by kernel_rfl) (Sp.Runs.move rfl) ?_
      refine Sp.L.pure (by kernel_rfl) (Sp.Runs.move rfl) ?_
      have CL := of_lit w6 w6 g (0 + 2 * q.1.size + 62) 4 [(⟨#[48]⟩ : ByteArray), (⟨#[49]⟩ : ByteArray), (⟨#[50]⟩ : ByteArray), (⟨#[51]⟩ : ByteArray)] rfl (by omega) (by omega) (by omega) HG D.out
      simp only [List.map_cons, List.map_nil] at CL
      refine Sp.L.lits (v := .slice (some ⟨w6.heap.size, 0, none⟩) 4 4) (w' := w6.alloc (.cells #[.string ⟨#[48]⟩, .string ⟨#[49]⟩, .string ⟨#[50]⟩, .string ⟨#[51]⟩] 9)) rfl (by simp [go_sem]) (by kernel_rfl) ?_
      refine Sp.L.call (by kernel_rfl) (CL) rfl rfl (by kernel_rfl) ?_
      rintro e w7 ⟨x3, hx3, rfl, d⟩
      replace D : Hid (Drawn w6 w7 g (0 + 2 * q.1.size + 64)) := Lib.hid ((d).mono (by omega))
      clear d
      clear CL
      have hx3s := size_is (n := 1) (by decide) hx3
      refine ⟨_, rfl, ?_⟩
      refine Sp.L.pure (by kernel_rfl) (Sp.Runs.addS rfl rfl (by omega)) ?_
      refine Sp.L.pure (by kernel_rfl) (Sp.Runs.assign rfl) ?_
      refine Sp.L.nil ?_
      refine Sp.Nx.block ?_
      have HI2 := Lib.hid ((D.out.grown.block pI (lt_of_block HI.out) (fun h => by have := Option.some.inj h; omega)).trans HI.out)
      replace D := Lib.hid (DO.out.trans D.out)
      refine Sp.Nx.again (q.1 ++ x3, q.2 + (Utf8.decode t1 q.2).2) ⟨rfl, rfl, rfl, rfl, trivial⟩ ⟨Lib.hid (D.out.mono (by dsimp only; rw [size_app]; omega)), HI2, (by constructor <;> dsimp only <;> rw [size_app] <;> omega)⟩ (by dsimp only; omega)
    · refine Sp.Cd.seq fun K11 hK11 => ?_
      refine Sp.Cd.region ?_
      refine Sp.L.next rfl (Lib.run_next_end_at w5 pI t1 q.2 _ HI.out hlt) (by kernel_rfl) ?_
      refine Sp.L.pure (by kernel_rfl) (Sp.Runs.extract rfl rfl) ?_
      refine Sp.L.nil ?_
      refine hK11 _ _ (Sp.Cd.sub (S' := [(4, _), (5, _), (6, _), (18, _), (20, _)]) ⟨rfl, rfl, rfl, rfl, rfl, trivial⟩ ?_)
      clear hK11 K11
      refine Sp.Cd.seq fun K12 hK12 => ?_
      refine Sp.Cd.condF rfl ?_
      refine Sp.Cd.exit ?_
      refine Sp.Ex.then ?_
      clear hK12 K12
      refine Sp.Ex.then ?_
      replace D : Hid (Drawn wS w5 g (0 + 200 + 62)) := Lib.hid (D.out.mono (by omega))
      refine Sp.Ex.hit ?_
      refine hK7 _ _ (Sp.Cd.sub (S' := [(5, _), (6, _)]) ⟨rfl, rfl, trivial⟩ ?_)
      clear hK7 K7
      refine Sp.Cd.seq fun K13 hK13 => ?_
      refine Sp.Cd.region ?_
      refine Sp.L.pure (by kernel_rfl) (Sp.Runs.move rfl) ?_
      refine Sp.L.pure (by kernel_rfl) (Sp.Runs.move rfl) ?_
      refine Sp.L.pure (by kernel_rfl) (Sp.Runs.assign rfl) ?_
      refine Sp.L.pure (by kernel_rfl) (Sp.Runs.assign rfl) ?_
      refine Sp.L.nil ?_
      refine hK13 _ _ (Sp.Cd.sub (S' := [(2, _), (3, _)]) ⟨rfl, rfl, trivial⟩ ?_)
      clear hK13 K13
      refine Sp.Cd.ret ?_
      refine Sp.Rt.body2 rfl rfl ?_
      exact ⟨_, _, ht1, by omega, rfl, HE _ _ D.out⟩
  · refine Sp.Cd.condT rfl ?_
    refine Sp.Cd.seq fun K14 hK14 => ?_
    refine Sp.Cd.region ?_
    refine Sp.L.pure (by kernel_rfl) (Sp.Runs.move rfl) ?_
    refine Sp.L.pure (by kernel_rfl) (Sp.Runs.move rfl) ?_
    refine Sp.L.call (by kernel_rfl) (facing_p w3 g (0 + 62) (by omega) D.out.cur) rfl rfl (by kernel_rfl) ?_
    rintro e w4 ⟨t3, ht3, rfl, d⟩
    replace D : Hid (Drawn wS w4 g (0 + 122)) := Lib.hid ((D.out.trans d).mono (by omega))
    clear d
    refine ⟨_, rfl, ?_⟩
    refine Sp.L.pure (by kernel_rfl) (Sp.Runs.assign rfl) ?_
    refine Sp.L.pure (by kernel_rfl) (Sp.Runs.assign rfl) ?_
    refine Sp.L.nil ?_
    refine hK14 _ _ (Sp.Cd.sub (S' := [(2, _), (3, _)]) ⟨rfl, rfl, trivial⟩ ?_)
    clear hK14 K14
    refine Sp.Cd.ret ?_
    refine Sp.Rt.then ?_
    refine Sp.Rt.body2 rfl rfl ?_
    exact ⟨_, _, ht1, by omega, rfl, HE _ _ D.out⟩

set_option maxRecDepth 20000 in
set_option maxHeartbeats 4000000 in
theorem drawMostFaced_p (w0 : World) (a : Option Addr) (len cap : Nat) (hl : len ≤ 9223372036854775807) (hb : Bytes w0 a len) :
    Calls Tryd.prog 34 #[.slice a len cap] w0 fun e w' => ∃ s : ByteArray, s.size ≤ 100 ∧ e = .returned (.string s) ∧ Below w0.heap.size w0 w' := by
  have B0 : Hid (Below w0.heap.size w0 w0) := Lib.hid (Below.refl _ _)
  refine Sp.enter (N := 5) (args := [.slice a len cap]) Tryd.func34 rfl rfl (by kernel_rfl) ?_
  refine Sp.Cd.seq fun K1 hK1 => ?_
  refine Sp.Cd.region ?_
  refine Sp.L.pure (by kernel_rfl) (Sp.Runs.assign rfl) ?_
  refine Sp.L.nil ?_
  refine hK1 _ _ (Sp.Cd.sub (S' := [(0, _)]) ⟨rfl, trivial⟩ ?_)
  clear hK1 K1
  refine Sp.Cd.seq fun K2 hK2 => ?_
  refine Sp.Cd.region ?_
  refine Sp.L.pure (by kernel_rfl) (Sp.Runs.move rfl) ?_
  refine Sp.L.call (by kernel_rfl) (drawAreFacing_p w0 a len cap hl hb) rfl rfl (by kernel_rfl) ?_
  rintro e w1 ⟨s, hs, rfl, b⟩
  replace B0 := Lib.hid (B0.out.trans (b.mono B0.out.size))
  clear b
  refine ⟨_, rfl, ?_⟩
  refine Sp.L.pure (by kernel_rfl) (Sp.Runs.assign rfl) ?_
  refine Sp.L.nil ?_
  refine hK2 _ _ (Sp.Cd.sub (S' := [(2, _)]) ⟨rfl, trivial⟩ ?_)
  clear hK2 K2
  refine Sp.Cd.ret ?_
  refine Sp.Rt.body rfl rfl ?_
  exact ⟨s, hs, rfl, B0.out⟩
end Go.Proofs.YtjbomclildkjaaaDoor
