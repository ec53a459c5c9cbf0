/- The model's product of two polynomials. Conditions: byte numbers, lists of at most 1000. -/
import Derived.Test.YtdnddimkgddooaaDoorPSpec
namespace Go.Proofs.YtdnddimkgddooaaDoor
open Go.ChangeShapes Go.WideShapes Go.ChangeAt Go.RowKit

end Go.Proofs.YtdnddimkgddooaaDoor
