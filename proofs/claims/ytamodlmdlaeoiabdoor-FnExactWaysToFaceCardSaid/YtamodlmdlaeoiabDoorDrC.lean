/- Chapter 4: the model's facings behind words, commands between facings, counts. Written by a program of mine (tools/gen_guard.py). -/
import Derived.Test.YtamodlmdlaeoiabDoorDrB
namespace Go.Proofs.YtamodlmdlaeoiabDoor
open Go.ChangeShapes Go.WideShapes Go.ChangeAt Go.RowKit
open Dr

def facTo (fs : List Nat) (m k : Nat) : ByteArray := face ((fs.take k).map fun x => (x + m) % 4)
theorem size_facTo (fs : List Nat) (m k : Nat) : (facTo fs m k).size ≤ fs.length := by unfold facTo; rw [size_face]; simp; omega
theorem facTo_succ (fs : List Nat) (m k : Nat) (hk : k < fs.length) : facTo fs m (k + 1) = facTo fs m k ++ face [(fs.getD k 0 + m) % 4] := by
  unfold facTo
  rw [face_app, List.take_succ_eq_append_getElem hk, List.map_append]
  simp only [List.getD_eq_getElem?_getD, List.getElem?_eq_getElem hk, Option.getD_some, List.map_cons, List.map_nil]
theorem facTo_all (fs : List Nat) (m : Nat) : facTo fs m fs.length = face (fs.map fun x => (x + m) % 4) := by unfold facTo; rw [List.take_length]
theorem face_byte (fs : List Nat) (h : ∀ t ∈ fs, t < 4) (k : Nat) (hk : k < (face fs).size) : (((face fs)[k]).toNat : Int) = 48 + ((fs.getD k 0 : Nat) : Int) := by
  have hk' : k < fs.length := by rw [size_face] at hk; exact hk
  have e : (face fs)[k] = dg (fs.getD k 0) := by
    have := txt_get (fs.map dg) k hk
    rw [getD_mapZ _ _ _ hk'] at this
    exact this
  rw [e]
  exact dg_nat (by have := getD_lt h (by omega) k; omega)

structure FaIV (f g p q : ByteArray) (k x m y : Nat) (l : Array Bool) (v22 v23 v24 v25 v26 v27 v28 v29 v30 v31 v32 v33 v6 : Value) : Prop where
  f0 : l.getD 0 false = true → v22 = .string p
  f1 : l.getD 1 false = true → v23 = .string f
  f2 : l.getD 2 false = true → v24 = .int .i64 (k : Int)
  f3 : l.getD 3 false = true → v25 = .int .u8 (48 + (x : Int))
  f4 : l.getD 4 false = true → v26 = .int .u8 (x : Int)
  f5 : l.getD 5 false = true → v27 = .int .i64 (x : Int)
  f6 : l.getD 6 false = true → v28 = .string g
  f7 : l.getD 7 false = true → v29 = .int .i64 (m : Int)
  f8 : l.getD 8 false = true → v30 = .int .i64 ((x : Int) + (m : Int))
  f9 : l.getD 9 false = true → v31 = .int .i64 (y : Int)
  f10 : l.getD 10 false = true → v32 = .string q
  f11 : l.getD 11 false = true → v33 = .string (p ++ q)
  f12 : l.getD 12 false = true → v6 = .string (p ++ q)
  g12 : l.getD 0 false = false → v6 = .string p
def FaI (w0 : World) (f g p q : ByteArray) (k x m y : Nat) (l : Array Bool) (a : Act) (w : World) : Prop :=
  ∃ v6 u20 u21 v22 v23 v24 v25 v26 v27 v28 v29 v30 v31 v32 v33 : Value, a = { tmps := #[Value.string f, Value.string g, undef, undef, Value.string { data := #[] }, Value.bool false, v6, Value.int IntKind.i64 ↑k, Value.string f, Value.bool true, Value.bool false, Value.bool false, Value.string g, Value.bool true, Value.bool false, Value.bool false, Value.int IntKind.i64 ↑k, Value.string f, Value.int IntKind.i64 ↑f.size, Value.bool true, u20, u21, v22, v23, v24, v25, v26, v27, v28, v29, v30, v31, v32, v33, undef], defers := [] } ∧ Hid (FaIV f g p q k x m y l v22 v23 v24 v25 v26 v27 v28 v29 v30 v31 v32 v33 v6) ∧ Hid (Below w0.heap.size w0 w)


end Go.Proofs.YtamodlmdlaeoiabDoor
