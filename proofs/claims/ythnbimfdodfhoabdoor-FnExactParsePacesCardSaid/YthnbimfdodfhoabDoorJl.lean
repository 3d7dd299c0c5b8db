/- Chapter 5, the program: PacesText, with the library's contracts laid. -/
import Derived.Test.YthnbimfdodfhoabDoorJk
import Derived.Test.YthnbimfdodfhoabDoorShb
namespace Go.Proofs.YthnbimfdodfhoabDoor
open Go.ChangeShapes Go.WideShapes Go.ChangeAt Go.RowKit
open Dr Pa

theorem implPacesText_any (w : World) (a : Option Addr) (len cap : Nat) (ps : List RPace) (hl : len ≤ 1048576) (hc : CamePace w a len ps) :
    Calls Tryd.prog 12 #[.slice a len cap] w fun e w' => e = .returned (.tuple #[.string (outPacesText_0 ps), .bool (outPacesText_1 ps)]) ∧ Below w.heap.size w w' :=
  implPacesText_of w a len cap ps hl hc (fun i w hi => Tryd.strconv_Itoa_small i hi w)
    (fun bk o c xs w h1 h2 h3 h4 h5 => Tryd.strings_Join bk o c xs ⟨#[44]⟩ w h1 h2 (by omega) h4 (by omega))

end Go.Proofs.YthnbimfdodfhoabDoor
