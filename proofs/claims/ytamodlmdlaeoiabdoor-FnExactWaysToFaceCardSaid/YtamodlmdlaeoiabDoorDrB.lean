/- Chapter 4: the model's turns of words, mirrored words, facings behind words. Written by a program of mine (tools/gen_guard.py). -/
import Derived.Test.YtamodlmdlaeoiabDoorDrA
import Derived.Test.YtamodlmdlaeoiabDoorNum
import Derived.Deep.RegionHeld3
namespace Go.Proofs.YtamodlmdlaeoiabDoor
open Go.ChangeShapes Go.WideShapes Go.ChangeAt Go.RowKit
open Dr

def tsOf (s : ByteArray) : List Nat := s.data.toList.map fun b => (turnI (b.toNat : Int)).toNat
def fsOf (s : ByteArray) : List Nat := s.data.toList.map fun b => b.toNat - 48
theorem tsOf_word {ts : List Nat} (h : ∀ t ∈ ts, t < 4) : tsOf (word ts) = ts := by
  unfold tsOf word txt
  simp only [List.map_map]
  exact (List.map_congr_left fun t ht => by simp only [Function.comp_apply, sg_turn (h t ht)]; simp).trans (List.map_id _)
theorem fsOf_face {fs : List Nat} (h : ∀ t ∈ fs, t < 4) : fsOf (face fs) = fs := by
  unfold fsOf face txt
  simp only [List.map_map]
  exact (List.map_congr_left fun t ht => by have := dg_nat (show t < 10 by have := h t ht; omega); simp only [Function.comp_apply]; simp; omega).trans (List.map_id _)
def other (t : Nat) : Nat := (4 - t) % 4
theorem other_lt (t : Nat) : other t < 4 := Nat.mod_lt _ (by omega)
theorem net_lt (ts : List Nat) : net ts < 4 := Nat.mod_lt _ (by omega)
theorem word_app (a b : List Nat) : word a ++ word b = word (a ++ b) := by unfold word; rw [txt_append, List.map_append]
theorem face_app (a b : List Nat) : face a ++ face b = face (a ++ b) := by unfold face; rw [txt_append, List.map_append]
def mirTo (ts : List Nat) (k : Nat) : ByteArray := word ((ts.take k).map other)
def bakTo (ts : List Nat) (k : Nat) : ByteArray := word ((ts.drop k).map other).reverse
theorem size_mirTo (ts : List Nat) (k : Nat) : (mirTo ts k).size ≤ ts.length := by unfold mirTo; rw [size_word]; simp; omega
theorem size_bakTo (ts : List Nat) (k : Nat) : (bakTo ts k).size ≤ ts.length := by unfold bakTo; rw [size_word]; simp
theorem word_nil : word [] = ByteArray.empty := rfl
theorem face_nil : face [] = ByteArray.empty := rfl
theorem face_one {f : Nat} (h : f < 10) : txt (numL f) = face [f] := by rw [numL_small h]; rfl
def outNetTurn_0 (s : ByteArray) : Int := if wordB s then (net (tsOf s) : Nat) else 0
def outNetTurn_1 (s : ByteArray) : Bool := wordB s
def outShortCommands_0 (s : ByteArray) : ByteArray := if wordB s then (if net (tsOf s) = 0 then ByteArray.empty else word [net (tsOf s)]) else ByteArray.empty
def outShortCommands_1 (s : ByteArray) : Bool := wordB s
def outMirrorCommands_0 (s : ByteArray) : ByteArray := if wordB s then word ((tsOf s).map other) else ByteArray.empty
def outMirrorCommands_1 (s : ByteArray) : Bool := wordB s
def outBackCommands_0 (s : ByteArray) : ByteArray := if wordB s then word (((tsOf s).map other).reverse) else ByteArray.empty
def outBackCommands_1 (s : ByteArray) : Bool := wordB s
def outRepeatsToFront_0 (s : ByteArray) : Int := if wordB s then (if net (tsOf s) = 0 then 1 else if net (tsOf s) = 2 then 2 else 4) else 0
def outRepeatsToFront_1 (s : ByteArray) : Bool := wordB s
def outFacingAfter_0 (f s : ByteArray) : ByteArray := if faceB f then (if wordB s then face ((fsOf f).map fun x => (x + net (tsOf s)) % 4) else ByteArray.empty) else ByteArray.empty
def outFacingAfter_1 (f s : ByteArray) : Bool := faceB f && wordB s







end Go.Proofs.YtamodlmdlaeoiabDoor
