/- Chapter 6, the model: PlacesSearched, fiDisorder, FileDisorder, ExchangeFiles. -/
import Derived.Test.YtcljhjfmhnmgnaaFn
namespace Go.Proofs.Ytcljhjfmhnmgnaa
open Go.ChangeShapes Go.WideShapes Go.ChangeAt Go.RowKit
open Fi





end Go.Proofs.Ytcljhjfmhnmgnaa
