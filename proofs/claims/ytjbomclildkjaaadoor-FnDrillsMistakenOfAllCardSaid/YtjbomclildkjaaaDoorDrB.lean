/- Chapter 4: the model's turns of words, mirrored words, facings behind words. Written by a program of mine (tools/gen_guard.py). -/
import Derived.Test.YtjbomclildkjaaaDoorDrA
import Derived.Test.YtjbomclildkjaaaDoorNum
import Derived.Deep.RegionHeld3
namespace Go.Proofs.YtjbomclildkjaaaDoor
open Go.ChangeShapes Go.WideShapes Go.ChangeAt Go.RowKit
open Dr

def tsOf (s : ByteArray) : List Nat := s.data.toList.map fun b => (turnI (b.toNat : Int)).toNat
def fsOf (s : ByteArray) : List Nat := s.data.toList.map fun b => b.toNat - 48
theorem tsOf_word {ts : List Nat} (h : ∀ t ∈ ts, t < 4) : tsOf (word ts) = ts := by
  unfold tsOf word txt
  simp only [List.map_map]
  exact (List.map_congr_left fun t ht => by simp only [Function.comp_apply, sg_turn (h t ht)]; simp).trans (List.map_id _)
theorem fsOf_face {fs : List Nat} (h : ∀ t ∈ fs, t < 4) : fsOf (face fs) = fs := by
  unfold fsOf face txt
  simp only [List.map_map]
  exact (List.map_congr_left fun t ht => by have := dg_nat (show t < 10 by have := h t ht; omega); simp only [Function.comp_apply]; simp; omega).trans (List.map_id _)
def other (t : Nat) : Nat := (4 - t) % 4
theorem other_lt (t : Nat) : other t < 4 := Nat.mod_lt _ (by omega)
theorem net_lt (ts : List Nat) : net ts < 4 := Nat.mod_lt _ (by omega)
theorem word_app (a b : List Nat) : word a ++ word b = word (a ++ b) := by unfold word; rw [txt_append, List.map_append]
theorem face_app (a b : List Nat) : face a ++ face b = face (a ++ b) := by unfold face; rw [txt_append, List.map_append]
def mirTo (ts : List Nat) (k : Nat) : ByteArray := word ((ts.take k).map other)
def bakTo (ts : List Nat) (k : Nat) : ByteArray := word ((ts.drop k).map other).reverse
theorem size_mirTo (ts : List Nat) (k : Nat) : (mirTo ts k).size ≤ ts.length := by unfold mirTo; rw [size_word]; simp; omega
theorem size_bakTo (ts : List Nat) (k : Nat) : (bakTo ts k).size ≤ ts.length := by unfold bakTo; rw [size_word]; simp
theorem word_nil : word [] = ByteArray.empty := rfl
theorem face_nil : face [] = ByteArray.empty := rfl
theorem face_one {f : Nat} (h : f < 10) : txt (numL f) = face [f] := by rw [numL_small h]; rfl
def outNetTurn_0 (s : ByteArray) : Int := if wordB s then (net (tsOf s) : Nat) else 0
def outNetTurn_1 (s : ByteArray) : Bool := wordB s
def outShortCommands_0 (s : ByteArray) : ByteArray := if wordB s then (if net (tsOf s) = 0 then ByteArray.empty else word [net (tsOf s)]) else ByteArray.empty
def outShortCommands_1 (s : ByteArray) : Bool := wordB s
def outMirrorCommands_0 (s : ByteArray) : ByteArray := if wordB s then word ((tsOf s).map other) else ByteArray.empty
def outMirrorCommands_1 (s : ByteArray) : Bool := wordB s
def outBackCommands_0 (s : ByteArray) : ByteArray := if wordB s then word (((tsOf s).map other).reverse) else ByteArray.empty
def outBackCommands_1 (s : ByteArray) : Bool := wordB s
def outRepeatsToFront_0 (s : ByteArray) : Int := if wordB s then (if net (tsOf s) = 0 then 1 else if net (tsOf s) = 2 then 2 else 4) else 0
def outRepeatsToFront_1 (s : ByteArray) : Bool := wordB s
def outFacingAfter_0 (f s : ByteArray) : ByteArray := if faceB f then (if wordB s then face ((fsOf f).map fun x => (x + net (tsOf s)) % 4) else ByteArray.empty) else ByteArray.empty
def outFacingAfter_1 (f s : ByteArray) : Bool := faceB f && wordB s

set_option maxRecDepth 20000 in
set_option maxHeartbeats 400000 in
theorem drOther_any (z : Int) (t : Nat) (ht : t < 4) (h0 : 0 ≤ z) (h1 : z ≤ 255) (hz : turnI z = (t : Int)) (w : World) :
    Calls Tryd.prog 63 #[.int .u8 z] w fun e w' => e = .returned (.string (word [other t])) ∧ w = w' := by
  have HT := Lib.hid (fun w2 => drTurn_any z w2 h0 h1)
  rw [hz] at HT
  have e1 : (4 - (t : Int)) % 4 = ((other t : Nat) : Int) := by unfold other; omega
  have HS := Lib.hid (fun w2 => drSign_any (other t) (other_lt t) w2)
  have ho := other_lt t
  obtain ⟨u, hu⟩ : ∃ u, u = other t := ⟨_, rfl⟩
  rw [← hu] at e1 HS ho ⊢
  clear hz hu
  go_enter Tryd.func63, Tryd.ntmps63
  go_wp2_with fail
  go_at_call 73
  refine (HT.out _).mono ?_
  rintro e w' ⟨rfl, rfl⟩
  go_wp2_with fail
  go_at_call 60
  refine (HS.out _).mono ?_
  rintro e w' ⟨rfl, rfl⟩
  go_wp2
  go_ret
  exact ⟨rfl, rfl⟩

set_option maxRecDepth 20000 in
set_option maxHeartbeats 1000000 in
theorem specNetTurn_any (w : World) (s : ByteArray) (_ws : s.size ≤ maxLen) (hls : s.size ≤ 1048576) :
    Calls Tryd.prog 12 #[.string s] w fun e w' => e = .returned (.tuple #[.int .i64 (outNetTurn_0 s), .bool (outNetTurn_1 s)]) ∧ Below w.heap.size w w' := by
  have HG00 := Lib.hid (drWord_any s w hls)
  clear _ws
  rcases hb0 : wordB s with _ | _
  · have H0 : Hid (outNetTurn_0 s = 0 ∧ outNetTurn_1 s = false) := Lib.hid (by unfold outNetTurn_0 outNetTurn_1; rw [hb0]; exact ⟨rfl, rfl⟩)
    rw [hb0] at HG00
    clear hb0
    go_enter Tryd.func12, Tryd.ntmps12
    go_wp2_with (go_at_call 56; refine HG00.out.mono ?_; rintro e w' ⟨rfl, rfl⟩)
    go_ret2
    exact ⟨by rw [H0.out.1, H0.out.2]; exact rfl, Below.refl _ _⟩
  · obtain ⟨ts, rfl, h1, h2⟩ := word_of hb0
    have HT := Lib.hid (tsOf_word h2)
    rw [hb0] at HG00

    have H0 : Hid (outNetTurn_0 (word ts) = (net ts : Nat) ∧ outNetTurn_1 (word ts) = true) := Lib.hid (by unfold outNetTurn_0 outNetTurn_1; rw [hb0, HT.out]; exact ⟨rfl, rfl⟩)
    have HN := Lib.hid (fun w2 => drNet_any ts w2 h1 h2)
    obtain ⟨s, hs⟩ : ∃ s, s = word ts := ⟨_, rfl⟩
    obtain ⟨n, hn⟩ : ∃ s, s = net ts := ⟨_, rfl⟩
    rw [← hs] at HN H0 HG00 ⊢
    rw [← hn] at HN H0
    clear hb0 hs hn h2
    go_enter Tryd.func12, Tryd.ntmps12
    go_wp2_with (first | (go_at_call 56; refine HG00.out.mono ?_; rintro e w' ⟨rfl, rfl⟩) | (go_at_call 58; refine (HN.out _).mono ?_; rintro e w' ⟨rfl, rfl⟩))
    go_ret2
    exact ⟨by rw [H0.out.1, H0.out.2]; exact rfl, Below.refl _ _⟩

set_option maxRecDepth 20000 in
set_option maxHeartbeats 1000000 in
theorem specShortCommands_any (w : World) (s : ByteArray) (_ws : s.size ≤ maxLen) (hls : s.size ≤ 1048576) :
    Calls Tryd.prog 14 #[.string s] w fun e w' => e = .returned (.tuple #[.string (outShortCommands_0 s), .bool (outShortCommands_1 s)]) ∧ Below w.heap.size w w' := by
  have HG00 := Lib.hid (drWord_any s w hls)
  clear _ws
  rcases hb0 : wordB s with _ | _
  · have H0 : Hid (outShortCommands_0 s = ByteArray.empty ∧ outShortCommands_1 s = false) := Lib.hid (by unfold outShortCommands_0 outShortCommands_1; rw [hb0]; exact ⟨rfl, rfl⟩)
    rw [hb0] at HG00
    clear hb0
    go_enter Tryd.func14, Tryd.ntmps14
    go_wp2_with (go_at_call 56; refine HG00.out.mono ?_; rintro e w' ⟨rfl, rfl⟩)
    go_ret2
    exact ⟨by rw [H0.out.1, H0.out.2]; exact rfl, Below.refl _ _⟩
  · obtain ⟨ts, rfl, h1, h2⟩ := word_of hb0
    have HT := Lib.hid (tsOf_word h2)
    rw [hb0] at HG00

    have HN := Lib.hid (fun w2 => drNet_any ts w2 h1 h2)
    have hnl := net_lt ts
    have HSG := Lib.hid (fun w2 => drSign_any (net ts) (net_lt ts) w2)
    obtain ⟨s, hs⟩ : ∃ s, s = word ts := ⟨_, rfl⟩
    by_cases h0 : net ts = 0
    · have H0 : Hid (outShortCommands_0 (word ts) = ByteArray.empty ∧ outShortCommands_1 (word ts) = true) := Lib.hid (by unfold outShortCommands_0 outShortCommands_1; rw [hb0, HT.out, if_pos h0]; exact ⟨rfl, rfl⟩)
      rw [h0] at HN
      rw [← hs] at HN H0 HG00 ⊢
      clear hb0 hs h2 h0 hnl
      go_enter Tryd.func14, Tryd.ntmps14
      go_wp2_with (first | (go_at_call 56; refine HG00.out.mono ?_; rintro e w' ⟨rfl, rfl⟩) | (go_at_call 58; refine (HN.out _).mono ?_; rintro e w' ⟨rfl, rfl⟩))
      go_ret2
      exact ⟨by rw [H0.out.1, H0.out.2]; exact rfl, Below.refl _ _⟩
    · have H0 : Hid (outShortCommands_0 (word ts) = word [net ts] ∧ outShortCommands_1 (word ts) = true) := Lib.hid (by unfold outShortCommands_0 outShortCommands_1; rw [hb0, HT.out, if_neg h0]; exact ⟨rfl, rfl⟩)
      obtain ⟨n, hn⟩ : ∃ s, s = net ts := ⟨_, rfl⟩
      rw [← hn] at HN HSG H0 h0 hnl
      rw [← hs] at HN H0 HG00 ⊢
      have hpos : 0 < n := by omega
      clear hb0 hs hn h2 h0
      go_enter Tryd.func14, Tryd.ntmps14
      go_wp2_with (first | (go_at_call 56; refine HG00.out.mono ?_; rintro e w' ⟨rfl, rfl⟩) | (go_at_call 58; refine (HN.out _).mono ?_; rintro e w' ⟨rfl, rfl⟩) | (go_at_call 60; refine (HSG.out _).mono ?_; rintro e w' ⟨rfl, rfl⟩))
      go_ret2
      exact ⟨by rw [H0.out.1, H0.out.2]; exact rfl, Below.refl _ _⟩

set_option maxRecDepth 20000 in
set_option maxHeartbeats 1000000 in
theorem specRepeatsToFront_any (w : World) (s : ByteArray) (_ws : s.size ≤ maxLen) (hls : s.size ≤ 1048576) :
    Calls Tryd.prog 20 #[.string s] w fun e w' => e = .returned (.tuple #[.int .i64 (outRepeatsToFront_0 s), .bool (outRepeatsToFront_1 s)]) ∧ Below w.heap.size w w' := by
  have HG00 := Lib.hid (drWord_any s w hls)
  clear _ws
  rcases hb0 : wordB s with _ | _
  · have H0 : Hid (outRepeatsToFront_0 s = 0 ∧ outRepeatsToFront_1 s = false) := Lib.hid (by unfold outRepeatsToFront_0 outRepeatsToFront_1; rw [hb0]; exact ⟨rfl, rfl⟩)
    rw [hb0] at HG00
    clear hb0
    go_enter Tryd.func20, Tryd.ntmps20
    go_wp2_with (go_at_call 56; refine HG00.out.mono ?_; rintro e w' ⟨rfl, rfl⟩)
    go_ret2
    exact ⟨by rw [H0.out.1, H0.out.2]; exact rfl, Below.refl _ _⟩
  · obtain ⟨ts, rfl, h1, h2⟩ := word_of hb0
    have HT := Lib.hid (tsOf_word h2)
    rw [hb0] at HG00

    have HN := Lib.hid (fun w2 => drNet_any ts w2 h1 h2)
    have hnl := net_lt ts
    obtain ⟨s, hs⟩ : ∃ s, s = word ts := ⟨_, rfl⟩
    have H0 : Hid (outRepeatsToFront_0 (word ts) = (if net ts = 0 then 1 else if net ts = 2 then 2 else 4) ∧ outRepeatsToFront_1 (word ts) = true) := Lib.hid (by unfold outRepeatsToFront_0 outRepeatsToFront_1; rw [hb0, HT.out]; exact ⟨rfl, rfl⟩)
    obtain ⟨n, hn⟩ : ∃ s, s = net ts := ⟨_, rfl⟩
    rw [← hn] at HN H0 hnl
    rw [← hs] at HN H0 HG00 ⊢
    clear hb0 hs hn h2
    match n, hnl with
    | 0, _ =>
      go_enter Tryd.func20, Tryd.ntmps20
      go_wp2_with (first | (go_at_call 56; refine HG00.out.mono ?_; rintro e w' ⟨rfl, rfl⟩) | (go_at_call 58; refine (HN.out _).mono ?_; rintro e w' ⟨rfl, rfl⟩))
      go_ret2
      exact ⟨by rw [H0.out.1, H0.out.2]; exact rfl, Below.refl _ _⟩
    | 1, _ =>
      go_enter Tryd.func20, Tryd.ntmps20
      go_wp2_with (first | (go_at_call 56; refine HG00.out.mono ?_; rintro e w' ⟨rfl, rfl⟩) | (go_at_call 58; refine (HN.out _).mono ?_; rintro e w' ⟨rfl, rfl⟩))
      go_ret2
      exact ⟨by rw [H0.out.1, H0.out.2]; exact rfl, Below.refl _ _⟩
    | 2, _ =>
      go_enter Tryd.func20, Tryd.ntmps20
      go_wp2_with (first | (go_at_call 56; refine HG00.out.mono ?_; rintro e w' ⟨rfl, rfl⟩) | (go_at_call 58; refine (HN.out _).mono ?_; rintro e w' ⟨rfl, rfl⟩))
      go_ret2
      exact ⟨by rw [H0.out.1, H0.out.2]; exact rfl, Below.refl _ _⟩
    | 3, _ =>
      go_enter Tryd.func20, Tryd.ntmps20
      go_wp2_with (first | (go_at_call 56; refine HG00.out.mono ?_; rintro e w' ⟨rfl, rfl⟩) | (go_at_call 58; refine (HN.out _).mono ?_; rintro e w' ⟨rfl, rfl⟩))
      go_ret2
      exact ⟨by rw [H0.out.1, H0.out.2]; exact rfl, Below.refl _ _⟩

set_option maxRecDepth 20000 in
set_option maxHeartbeats 1000000 in
theorem specMirrorCommands_any (w : World) (s : ByteArray) (_ws : s.size ≤ maxLen) (hls : s.size ≤ 1048576) :
    Calls Tryd.prog 18 #[.string s] w fun e w' => e = .returned (.tuple #[.string (outMirrorCommands_0 s), .bool (outMirrorCommands_1 s)]) ∧ Below w.heap.size w w' := by
  have HG00 := Lib.hid (drWord_any s w hls)
  clear _ws
  rcases hb0 : wordB s with _ | _
  · have H0 : Hid (outMirrorCommands_0 s = ByteArray.empty ∧ outMirrorCommands_1 s = false) := Lib.hid (by unfold outMirrorCommands_0 outMirrorCommands_1; rw [hb0]; exact ⟨rfl, rfl⟩)
    rw [hb0] at HG00
    clear hb0
    go_enter Tryd.func18, Tryd.ntmps18
    go_wp2_with (go_at_call 56; refine HG00.out.mono ?_; rintro e w' ⟨rfl, rfl⟩)
    go_ret2
    exact ⟨by rw [H0.out.1, H0.out.2]; exact rfl, Below.refl _ _⟩
  · obtain ⟨ts, rfl, h1, h2⟩ := word_of hb0
    have HT := Lib.hid (tsOf_word h2)
    rw [hb0] at HG00

    have H0 : Hid (outMirrorCommands_0 (word ts) = word (ts.map other) ∧ outMirrorCommands_1 (word ts) = true) := Lib.hid (by unfold outMirrorCommands_0 outMirrorCommands_1; rw [hb0, HT.out]; exact ⟨rfl, rfl⟩)
    have HW := Lib.hid (word_byte ts h2)
    have HL := Lib.hid (getD_lt h2 (by omega))
    have hz : (word ts).size ≤ 60 := by rw [size_word]; exact h1
    have HZ : Hid (ts.length = (word ts).size) := Lib.hid (size_word ts).symm
    obtain ⟨s, hs⟩ : ∃ s, s = word ts := ⟨_, rfl⟩
    rw [← hs] at H0 HG00 HZ hz ⊢
    have HWS : Hid (∀ k, (hk : k < s.size) → turnI ((s[k]).toNat : Int) = ((ts.getD k 0 : Nat) : Int)) := Lib.hid (by subst hs; exact HW.out)
    clear hb0 hs h2 HW
    go_enter Tryd.func18, Tryd.ntmps18
    go_wp2_with (go_at_call 56; refine HG00.out.mono ?_; rintro e w' ⟨rfl, rfl⟩)
    go_loop [4, 5] (fun v i => ∃ k : Nat, k ≤ s.size ∧ i = .int .i64 (k : Int) ∧ v = .string (mirTo ts k)) (fun _ i => s.size - (intOf i).toNat)
    case atStart => exact ⟨0, Nat.zero_le _, rfl, rfl⟩
    case round =>
      obtain ⟨k, hk, rfl, rfl⟩ := hrel
      by_cases hlt : k < s.size
      · obtain ⟨hb0, hb1⟩ := byte_bd s[k]
        have HO := Lib.hid (fun w2 => drOther_any (s[k].toNat : Int) (ts.getD k 0) (HL.out k) hb0 hb1 (HWS.out k hlt) w2)
        have HS : Hid (mirTo ts k ++ word [other (ts.getD k 0)] = mirTo ts (k + 1)) := Lib.hid (by
          unfold mirTo
          have hkt : k < ts.length := by have := HZ.out; omega
          rw [word_app, List.take_succ_eq_append_getElem hkt, List.map_append]
          simp only [List.getD_eq_getElem?_getD, List.getElem?_eq_getElem hkt, Option.getD_some, List.map_cons, List.map_nil])
        have hps := size_mirTo ts k
        have hqs : (word [other (ts.getD k 0)]).size ≤ 1 := by rw [size_word]; simp
        obtain ⟨p, hp⟩ : ∃ p, p = mirTo ts k := ⟨_, rfl⟩
        obtain ⟨q, hq⟩ : ∃ p, p = word [other (ts.getD k 0)] := ⟨_, rfl⟩
        rw [← hp, ← hq] at HS
        rw [← hq] at HO hqs
        rw [← hp] at hps ⊢
        clear hp hq
        go_wp2_with (go_at_call 63; refine (HO.out _).mono ?_; rintro e w' ⟨rfl, rfl⟩)
        go_round
        case rel => exact ⟨k + 1, by omega, by go_num, by rw [HS.out]⟩
        case measure => simp [intOf]; omega
      · have HE : Hid (mirTo ts k = word (ts.map other)) := Lib.hid (by unfold mirTo; rw [List.take_of_length_le (by have := HZ.out; omega)])
        rw [HE.out]
        go_wp2
        go_ret2
        exact ⟨by rw [H0.out.1, H0.out.2]; exact rfl, Below.refl _ _⟩

set_option maxRecDepth 20000 in
set_option maxHeartbeats 1000000 in
theorem specBackCommands_any (w : World) (s : ByteArray) (_ws : s.size ≤ maxLen) (hls : s.size ≤ 1048576) :
    Calls Tryd.prog 16 #[.string s] w fun e w' => e = .returned (.tuple #[.string (outBackCommands_0 s), .bool (outBackCommands_1 s)]) ∧ Below w.heap.size w w' := by
  have HG00 := Lib.hid (drWord_any s w hls)
  clear _ws
  rcases hb0 : wordB s with _ | _
  · have H0 : Hid (outBackCommands_0 s = ByteArray.empty ∧ outBackCommands_1 s = false) := Lib.hid (by unfold outBackCommands_0 outBackCommands_1; rw [hb0]; exact ⟨rfl, rfl⟩)
    rw [hb0] at HG00
    clear hb0
    go_enter Tryd.func16, Tryd.ntmps16
    go_wp2_with (go_at_call 56; refine HG00.out.mono ?_; rintro e w' ⟨rfl, rfl⟩)
    go_ret2
    exact ⟨by rw [H0.out.1, H0.out.2]; exact rfl, Below.refl _ _⟩
  · obtain ⟨ts, rfl, h1, h2⟩ := word_of hb0
    have HT := Lib.hid (tsOf_word h2)
    rw [hb0] at HG00

    have H0 : Hid (outBackCommands_0 (word ts) = word ((ts.map other).reverse) ∧ outBackCommands_1 (word ts) = true) := Lib.hid (by unfold outBackCommands_0 outBackCommands_1; rw [hb0, HT.out]; exact ⟨rfl, rfl⟩)
    have HW := Lib.hid (word_byte ts h2)
    have HL := Lib.hid (getD_lt h2 (by omega))
    have hz : (word ts).size ≤ 60 := by rw [size_word]; exact h1
    have HZ : Hid (ts.length = (word ts).size) := Lib.hid (size_word ts).symm
    obtain ⟨s, hs⟩ : ∃ s, s = word ts := ⟨_, rfl⟩
    rw [← hs] at H0 HG00 HZ hz ⊢
    have HWS : Hid (∀ k, (hk : k < s.size) → turnI ((s[k]).toNat : Int) = ((ts.getD k 0 : Nat) : Int)) := Lib.hid (by subst hs; exact HW.out)
    clear hb0 hs h2 HW
    go_enter Tryd.func16, Tryd.ntmps16
    go_wp2_with (go_at_call 56; refine HG00.out.mono ?_; rintro e w' ⟨rfl, rfl⟩)
    go_loop [4, 5] (fun v i => ∃ k : Nat, k ≤ s.size ∧ i = .int .i64 ((k : Int) - 1) ∧ v = .string (bakTo ts k)) (fun _ i => (intOf i + 1).toNat)
    case atStart => exact ⟨s.size, Nat.le_refl _, rfl, by unfold bakTo; rw [List.drop_eq_nil_of_le (by have := HZ.out; omega)]; rfl⟩
    case round =>
      obtain ⟨k, hk, rfl, rfl⟩ := hrel
      rcases k with _ | k
      · have HE : Hid (bakTo ts 0 = word ((ts.map other).reverse)) := Lib.hid (by unfold bakTo; rw [List.drop_zero])
        rw [HE.out]
        go_wp2
        go_ret2
        exact ⟨by rw [H0.out.1, H0.out.2]; exact rfl, Below.refl _ _⟩
      · have ek : ((k + 1 : Nat) : Int) - 1 = (k : Int) := by omega
        rw [ek]
        have hlt : k < s.size := by omega
        obtain ⟨hb0, hb1⟩ := byte_bd s[k]
        have HO := Lib.hid (fun w2 => drOther_any (s[k].toNat : Int) (ts.getD k 0) (HL.out k) hb0 hb1 (HWS.out k hlt) w2)
        have HS : Hid (bakTo ts (k + 1) ++ word [other (ts.getD k 0)] = bakTo ts k) := Lib.hid (by
          unfold bakTo
          have hkt : k < ts.length := by have := HZ.out; omega
          rw [word_app, List.drop_eq_getElem_cons hkt, List.map_cons, List.reverse_cons]
          simp only [List.getD_eq_getElem?_getD, List.getElem?_eq_getElem hkt, Option.getD_some])
        have hps := size_bakTo ts (k + 1)
        have hqs : (word [other (ts.getD k 0)]).size ≤ 1 := by rw [size_word]; simp
        obtain ⟨p, hp⟩ : ∃ p, p = bakTo ts (k + 1) := ⟨_, rfl⟩
        obtain ⟨q, hq⟩ : ∃ p, p = word [other (ts.getD k 0)] := ⟨_, rfl⟩
        rw [← hp, ← hq] at HS
        rw [← hq] at HO hqs
        rw [← hp] at hps ⊢
        clear hp hq ek
        go_wp2_with (go_at_call 63; refine (HO.out _).mono ?_; rintro e w' ⟨rfl, rfl⟩)
        go_round
        case rel => exact ⟨k, by omega, rfl, by rw [HS.out]⟩
        case measure => first | (simp [intOf]; done) | (simp [intOf]; omega)

end Go.Proofs.YtjbomclildkjaaaDoor
