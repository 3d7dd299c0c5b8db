/- Chapter 2, the program: 'm[k] += v' at a map with pairs as keys. -/
import Derived.Test.YtkolkigpppfhcaaSna
import Derived.Maps.RangeWalk
import Derived.Maps.OwnSet
import Derived.Maps.OwnOps
import Derived.DeepKeys4
import Derived.WideKeyEntry
namespace Go.Proofs.Ytkolkigpppfhcaa
open Go.ChangeShapes Go.WideShapes Go.ChangeAt Go.RowKit
open Go.ChangeMaps (setBlock)

namespace Sn
theorem laidOut : laidOutB Try.prog = true := by kernel_rfl
theorem rowS : (35 : TypeId) < Try.prog.types.size := of_decide_eq_true (by kernel_rfl)
theorem wideS : (match Try.prog.underlying 35 with | some (.array _ _) | some (.struct _) => true | _ => false) = true := by kernel_rfl
theorem lawK : WideMaps.KeyLaw Try.prog 35 := deep_law_laid laidOut (m := 2) (by omega) rowS (by kernel_rfl) wideS
theorem lawS : Maps.Keyed Try.prog 35 := Maps.Keyed.of_law lawK
theorem zeroI (w : World) : (zeroValue 3).run Try.prog w = .ok (.int .i64 0) w := by kernel_rfl
/-- the key of a pair -/
def keyL (l r : Int) : Lit := .string (keyBytes [.int .i64 l, .int .i64 r])
def keyV (l r : Int) : Value := .agg #[.int .i64 l, .int .i64 r]
theorem sizeS : ∃ m, Try.prog.types.size = m + 2 := ⟨Try.prog.types.size - 2, by have : 2 ≤ Try.prog.types.size := of_decide_eq_true (by kernel_rfl); omega⟩
theorem cutS : (Try.prog.cutTypes.any (·.2 == 35)) = false := by kernel_rfl
theorem keyTypeS : Try.prog.keyType 35 = true := by
  obtain ⟨m, hm⟩ := sizeS
  unfold Program.keyType
  rw [hm]
  have hI : Try.prog.keyTypeAt (m + 2) 3 = true := by unfold Program.keyTypeAt; rw [Try.underlying3]
  unfold Program.keyTypeAt
  rw [Try.underlying35]
  simp [hI, cutS]
theorem cellsS : Try.prog.cellsOf 35 = 2 := by kernel_rfl
theorem cellsI1 : Try.prog.cellsOf 3 = 1 := by kernel_rfl
theorem formedS (l r : Int) : (Value.agg #[.int .i64 l, .int .i64 r]).formed Try.prog 35 = true := by
  unfold Value.formed
  rw [Try.underlying35]
  simp only [cellsS]
  rfl
theorem litI {m : Nat} {x : Int} (h : (Lit.int .i64 x).wf = true) : Try.prog.keyLits (m + 1) 3 [.int .i64 x] = some [.int .i64 x] := by
  unfold Program.keyLits
  rw [Try.underlying3]
  simp [h]
theorem litS {m : Nat} {l r : Int} (hl : (Lit.int .i64 l).wf = true) (hr : (Lit.int .i64 r).wf = true) : Try.prog.keyLits (m + 2) 35 [.int .i64 l, .int .i64 r] = some [.int .i64 l, .int .i64 r] := by
  have h1 := litI (m := m) hl
  have h2 := litI (m := m) hr
  unfold Program.keyLits
  rw [Try.underlying35]
  simp only
  rw [if_pos ⟨by rw [cellsS]; rfl, by simp⟩]
  simp only [List.mapM_cons, List.mapM_nil, cellsI1]
  rw [show List.take 1 (List.drop 0 [Value.int IntKind.i64 l, Value.int IntKind.i64 r]) = [Value.int IntKind.i64 l] from rfl, show List.take 1 (List.drop 1 [Value.int IntKind.i64 l, Value.int IntKind.i64 r]) = [Value.int IntKind.i64 r] from rfl, h1, h2]
  rfl
theorem keyOf_mk {l r : Int} (hl : (Lit.int .i64 l).wf = true) (hr : (Lit.int .i64 r).wf = true) : keyOf Try.prog 35 (keyV l r) = some (keyL l r) := by
  obtain ⟨m, hm⟩ := sizeS
  unfold keyOf keyV
  rw [Try.underlying35]
  simp only
  rw [if_pos (by rw [keyTypeS, formedS]; rfl), hm, show m + 2 + 1 = (m + 1) + 2 from rfl]
  show Option.map _ (Try.prog.keyLits ((m + 1) + 2) 35 [.int .i64 l, .int .i64 r]) = _
  rw [litS hl hr]
  rfl
theorem litI_inv {m : Nat} {a : Value} {L : List Lit} (h : Try.prog.keyLits (m + 1) 3 [a] = some L) : ∃ x, a = .int .i64 x ∧ L = [.int .i64 x] ∧ (Lit.int .i64 x).wf = true := by
  unfold Program.keyLits at h
  rw [Try.underlying3] at h
  cases a <;> simp at h
  obtain ⟨⟨rfl, h1⟩, rfl⟩ := h
  exact ⟨_, rfl, rfl, h1⟩
theorem keyOf_inv {v : Value} {kl : Lit} (h : keyOf Try.prog 35 v = some kl) : ∃ l r, v = keyV l r ∧ kl = keyL l r ∧ (Lit.int .i64 l).wf = true ∧ (Lit.int .i64 r).wf = true := by
  obtain ⟨xs, L, rfl, hL, rfl⟩ := keyOf_top wideS h
  obtain ⟨m, hm⟩ := sizeS
  rw [hm] at hL
  unfold Program.keyLits at hL
  rw [Try.underlying35] at hL
  simp only at hL
  split at hL
  · rename_i hc
    have hlen : xs.toList.length = 2 := by rw [hc.1, cellsS]
    obtain ⟨a, b, hab⟩ : ∃ a b, xs.toList = [a, b] := by
      rcases hx : xs.toList with _ | ⟨a, _ | ⟨b, _ | ⟨c, t⟩⟩⟩
      · rw [hx] at hlen; simp at hlen
      · rw [hx] at hlen; simp at hlen
      · exact ⟨a, b, rfl⟩
      · rw [hx] at hlen; simp at hlen
    rw [hab] at hL
    simp only [List.mapM_cons, List.mapM_nil, cellsI1] at hL
    rw [show List.take 1 (List.drop 0 [a, b]) = [a] from rfl, show List.take 1 (List.drop 1 [a, b]) = [b] from rfl] at hL
    rcases ha : Try.prog.keyLits (m + 2) 3 [a] with _ | LA
    · rw [ha] at hL; cases hL
    · rcases hb : Try.prog.keyLits (m + 2) 3 [b] with _ | LB
      · rw [ha, hb] at hL; cases hL
      · rw [ha, hb] at hL
        obtain ⟨l, rfl, rfl, w1⟩ := litI_inv ha
        obtain ⟨r, rfl, rfl, w2⟩ := litI_inv hb
        refine ⟨l, r, ?_, ?_, w1, w2⟩
        · unfold keyV
          congr 1
          exact Array.toList_inj.1 hab
        · have : L = [.int .i64 l, .int .i64 r] := (Option.some.inj hL).symm
          rw [this]; rfl
  · cases hL
theorem keyL_inj {l r l' r' : Int} (h1 : (Lit.int .i64 l).wf = true) (h2 : (Lit.int .i64 r).wf = true) (h3 : (Lit.int .i64 l').wf = true) (h4 : (Lit.int .i64 r').wf = true) (h : keyL l r = keyL l' r') : l = l' ∧ r = r' := by
  have := lawS.inj (keyOf_mk h1 h2) (by rw [h]; exact keyOf_mk h3 h4)
  unfold keyV at this
  simp at this
  exact this

/-! ### 'm[k] += v' -/
section
open Go.WideElems (Fit)
variable {b : Nat} {es : Array MapEntry} {clock : Nat} {key : Value} {kl : Lit}
theorem fit_keys_apart (F : Fit Try.prog 35 (plainElem (H := Unit) Try.prog 3) es clock) : es.toList.Pairwise (fun x y => x.key ≠ y.key) := by
  have h := List.pairwise_map.1 (Maps.fit_apart lawS F)
  refine h.imp_of_mem (fun {x y} hx hy hne hk => hne ?_)
  obtain ⟨a, ha⟩ := F.reads x hx
  obtain ⟨c, hc⟩ := F.reads y hy
  rw [WideElems.rg_of ha, WideElems.rg_of hc]
  have h1 := WideElems.rd_key ha
  have h2 := WideElems.rd_key hc
  rw [hk, h2] at h1
  exact (Option.some.inj h1).symm
theorem entry_new (w : World) (hb : w.heap[b]? = some (.map es clock)) (F : Fit Try.prog 35 (plainElem (H := Unit) Try.prog 3) es clock) (hkey : keyOf Try.prog 35 key = some kl) (hn : ∀ e ∈ es.toList, e.key ≠ key) :
    (Instr.mapEntry 32 (.map (some b)) key).run Try.prog w = .ok (.tuple #[.int .i64 0, .int .i64 clock]) (setBlock w b (.map (es.push ⟨key, .int .i64 0, clock⟩) (clock + 1))) := by
  rcases lawK.find w hkey es.toList F.keys with ⟨h1, h2⟩ | ⟨j, e0, h1, h2, h3⟩
  · simp [Instr.mapEntry, run_underlying Try.underlying32, MapKept.run_getObj_map hb, lawK.check w false hkey, h1, MapKept.run_setObj_map _ hb, Result.andThen, setBlock, goInt]
  · exact absurd h3 (hn e0 (List.mem_of_getElem? h2))
theorem entry_old (w : World) (hb : w.heap[b]? = some (.map es clock)) (F : Fit Try.prog 35 (plainElem (H := Unit) Try.prog 3) es clock) (hkey : keyOf Try.prog 35 key = some kl) (e0 : MapEntry) (he : e0 ∈ es.toList) (hk : e0.key = key) :
    (Instr.mapEntry 32 (.map (some b)) key).run Try.prog w = .ok (.tuple #[e0.val, .int .i64 e0.born]) (setBlock w b (.map es clock)) := by
  rcases lawK.find w hkey es.toList F.keys with ⟨h1, h2⟩ | ⟨j, e1, h1, h2, h3⟩
  · exact absurd hk (h2 e0 he)
  · have hee : e1 = e0 := entry_eq_of_key (fit_keys_apart F) (List.mem_of_getElem? h2) he (h3.trans hk.symm)
    subst hee
    have hj : es[j]? = some e1 := by simpa using h2
    have hsame : es.modify j (fun e => { e with key := key }) = es := by
      apply Array.ext'
      rw [Array.toList_modify, ChangeMaps.modify_eq_set _ _ _ _ h2]
      have : ({ e1 with key := key } : MapEntry) = e1 := by rw [← h3]
      rw [this]
      exact WideElems.set_self _ _ _ h2
    simp [Instr.mapEntry, run_underlying Try.underlying32, MapKept.run_getObj_map hb, lawK.check w false hkey, h1, hj, h3, lawK.stays w hkey, hsame, MapKept.run_setObj_map _ hb, Result.andThen, setBlock, goInt]
theorem update_new (w : World) (hb : w.heap[b]? = some (.map es clock)) (F : Fit Try.prog 35 (plainElem (H := Unit) Try.prog 3) es clock) (hkey : keyOf Try.prog 35 key = some kl) (hn : ∀ e ∈ es.toList, e.key ≠ key) (val : Value) :
    (Instr.mapUpdate 32 (.map (some b)) key val).run Try.prog w = .ok () (setBlock w b (.map (es.push ⟨key, val, clock⟩) (clock + 1))) := by
  rcases lawK.find w hkey es.toList F.keys with ⟨h1, h2⟩ | ⟨j, e0, h1, h2, h3⟩
  · simp [Instr.mapUpdate, run_underlying Try.underlying32, MapKept.run_getObj_map hb, lawK.check w false hkey, h1, MapKept.run_setObj_map _ hb, Result.andThen, setBlock]
  · exact absurd h3 (hn e0 (List.mem_of_getElem? h2))
theorem setBlock_inj {w : World} {o o' : Obj} (hb : b < w.heap.size) (h : setBlock w b o = setBlock w b o') : o = o' := by
  have := congrArg (fun w : World => w.heap[b]?) h
  simpa [setBlock, hb] using this
theorem set_get {w : World} {o : Obj} (hb : b < w.heap.size) : (setBlock w b o).heap[b]? = some o := by simp [setBlock, hb]
theorem set_size (w : World) (o : Obj) : (setBlock w b o).heap.size = w.heap.size := by simp [setBlock]
theorem setBlock_own {w : World} (hb : w.heap[b]? = some (.map es clock)) : setBlock w b (.map es clock) = w := by
  have e : w.heap.setIfInBounds b (.map es clock) = w.heap := by
    apply Array.ext_getElem?
    intro i
    by_cases hi : i = b
    · subst hi
      have hlt : i < w.heap.size := (Array.getElem?_eq_some_iff.1 hb).1
      simp [hlt]
      exact (Array.getElem?_eq_some_iff.1 hb).2.symm
    · simp [Ne.symm hi]
  unfold setBlock
  rw [e]
end

/-- the facts of 'm[k] += v' in a region whose order is drawn -/
theorem incr_facts (X : World) (b N : Nat) (D : DataW Unit) (hown : X.ownsMap Try.prog 35 (plainElem Try.prog 3) b N D) (hN : N ≤ 1000000000) {key : Value} {kl : Lit} (hkey : keyOf Try.prog 35 key = some kl) (c : Int) (hc : D.atKey kl (.lit (.int .i64 0)) = .lit (.int .i64 c)) :
    ∃ (v0 : Value) (st : Nat) (o1 : Obj),
      (∀ m, (Instr.mapEntry 32 (.map (some b)) key).run Try.prog (X.drewN m) = .ok (.tuple #[v0, .int .i64 (st : Int)]) (setBlock (X.drewN m) b o1)) ∧
      (∀ m, (Instr.lookup 32 (.map (some b)) key false).run Try.prog (X.drewN m) = .ok (.int .i64 c) (X.drewN m)) ∧
      (∀ m, (Instr.lookup 32 (.map (some b)) key false).run Try.prog (setBlock (X.drewN m) b o1) = .ok (.int .i64 c) (setBlock (X.drewN m) b o1)) ∧
      (∀ x : Int, (Lit.int .i64 x).wf = true → ∃ o2, (∀ m, (Instr.entryStore 32 (.map (some b)) (.int .i64 (st : Int)) (.int .i64 x)).run Try.prog (setBlock (X.drewN m) b o1) = .ok () (setBlock (setBlock (X.drewN m) b o1) b o2)) ∧
        (∀ m, (setBlock (setBlock (X.drewN m) b o1) b o2).ownsMap Try.prog 35 (plainElem Try.prog 3) b (N + 1) (D.put kl (.lit (.int .i64 x))))) := by
  have hblt := hown.lt
  have look : ∀ (W : World) (D' : DataW Unit) (N' : Nat), W.ownsMap Try.prog 35 (plainElem Try.prog 3) b N' D' → D'.atKey kl (.lit (.int .i64 0)) = .lit (.int .i64 c) → (Instr.lookup 32 (.map (some b)) key false).run Try.prog W = .ok (.int .i64 c) W := fun W D' N' ho hat => by
    obtain ⟨c', h1, h2, _⟩ := ho.lookup_int lawS Try.underlying32 Try.underlying3 (zeroI W) hkey
    rw [hat] at h2
    injection h2 with h2
    injection h2 with _ h2
    rw [h1, h2]
  have upd : ∀ x : Int, (Lit.int .i64 x).wf = true → ∃ w', (Instr.mapUpdate 32 (.map (some b)) key (.int .i64 x)).run Try.prog X = .ok () w' ∧ w'.ownsMap Try.prog 35 (plainElem Try.prog 3) b (N + 1) (D.put kl (.lit (.int .i64 x))) ∧ X.grownBy w' (some b) := fun x hx =>
    hown.update lawS Try.underlying32 (by unfold maxLen; omega) hkey (plainElem_int Try.underlying3 hx)
  have hown0 := hown
  obtain ⟨es, clock, hb, F, hs, hD⟩ := hown
  obtain ⟨v0, st, es1, clock1, hME, hdi, hST⟩ := WideElems.entry_then_store lawK Try.underlying32 (z := .int .i64 0) zeroI hb F hkey
  have stores : ∀ x : Int, (Lit.int .i64 x).wf = true → ∃ o2, (∀ m, (Instr.entryStore 32 (.map (some b)) (.int .i64 (st : Int)) (.int .i64 x)).run Try.prog (setBlock (X.drewN m) b (.map es1 clock1)) = .ok () (setBlock (setBlock (X.drewN m) b (.map es1 clock1)) b o2)) ∧
        (∀ m, (setBlock (setBlock (X.drewN m) b (.map es1 clock1)) b o2).ownsMap Try.prog 35 (plainElem Try.prog 3) b (N + 1) (D.put kl (.lit (.int .i64 x)))) := fun x hx => by
    obtain ⟨w', h1, h2, _⟩ := upd x hx
    have hblk : ∀ m, (setBlock (X.drewN m) b (.map es1 clock1)).heap[b]? = some (.map es1 clock1) := fun m => set_get (w := X.drewN m) hblt
    obtain ⟨es0, clock0, h3, h4⟩ := hST (setBlock (X.drewN 0) b (.map es1 clock1)) (.int .i64 x) (hblk 0)
    have hw : w' = setBlock X b (.map es0 clock0) := by
      rw [h4] at h1
      injection h1 with _ h1
      exact h1.symm
    refine ⟨.map es0 clock0, fun m => ?_, fun m => ?_⟩
    · obtain ⟨es2, clock2, h5, h6⟩ := hST (setBlock (X.drewN m) b (.map es1 clock1)) (.int .i64 x) (hblk m)
      rw [h4] at h6
      injection h6 with _ h6
      rw [setBlock_inj hblt h6]
      exact h5
    · rw [hw] at h2
      obtain ⟨es3, clock3, h7, h8⟩ := h2
      refine ⟨es3, clock3, ?_, h8⟩
      rw [set_get hblt] at h7
      rw [set_get (by rw [set_size]; exact hblt)]
      exact h7
  rcases hdi with ⟨e0, he, hk, hv⟩ | ⟨hn, hv⟩
  · have h0 := entry_old X hb F hkey e0 he hk
    rw [hME] at h0
    injection h0 with h0a h0b
    have ho1 : (.map es1 clock1 : Obj) = .map es clock := setBlock_inj hblt h0b
    have hst : (st : Int) = (e0.born : Int) := by
      injection h0a with h0a
      simp [goInt] at h0a
      exact_mod_cast h0a.2
    refine ⟨e0.val, st, .map es1 clock1, fun m => ?_, fun m => look (X.drewN m) D N hown0 hc, fun m => look _ D N ?_ hc, stores⟩
    · rw [ho1, hst]
      exact entry_old (X.drewN m) hb F hkey e0 he hk
    · rw [ho1, setBlock_own (show (X.drewN m).heap[b]? = _ from hb)]
      exact hown0
  · have h0 := entry_new X hb F hkey hn
    rw [hME] at h0
    injection h0 with h0a h0b
    have ho1 : (.map es1 clock1 : Obj) = .map (es.push ⟨key, .int .i64 0, clock⟩) (clock + 1) := setBlock_inj hblt h0b
    have hst : (st : Int) = (clock : Int) := by
      injection h0a with h0a
      simp [goInt] at h0a
      exact_mod_cast h0a.2
    refine ⟨.int .i64 0, st, .map es1 clock1, fun m => ?_, fun m => look (X.drewN m) D N hown0 hc, fun m => look _ (D.put kl (.lit (.int .i64 0))) (N + 1) ?_ ?_, stores⟩
    · rw [ho1, hst]
      exact entry_new (X.drewN m) hb F hkey hn
    · obtain ⟨w', h1, h2, _⟩ := upd 0 (by decide)
      rw [update_new X hb F hkey hn] at h1
      injection h1 with _ h1
      rw [← h1, ← ho1] at h2
      obtain ⟨es3, clock3, h7, h8⟩ := h2
      refine ⟨es3, clock3, ?_, h8⟩
      rw [set_get hblt] at h7
      rw [set_get (w := X.drewN m) hblt]
      exact h7
    · rw [Maps.atKey_put_same hown0.isMap (lawS.key hkey)]
      have hh : Maps.has D kl = false := by
        rcases hx : Maps.has D kl with _ | _
        · rfl
        · exfalso
          rcases Maps.fit_look false lawS Try.underlying32 (zeroI X) hb F hkey with ⟨_, _, hat⟩ | ⟨e0, y, he0, hk0, _⟩
          · rw [hD, Maps.has_false_of_atKey hat] at hx; cases hx
          · exact hn e0 he0 hk0
      rw [Maps.atKey_of_not_has hh] at hc
      exact hc
end Sn

end Go.Proofs.Ytkolkigpppfhcaa
