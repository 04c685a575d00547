/-
  again: a number that is used again, in another generation.
-/
import Derived.Test.YtacghcoikekfeaaGreatMakeB
namespace Go.Proofs.YtacghcoikekfeaaGreat
open Go.ChangeShapes Go.WideShapes Go.ChangeAt Go.RowKit Go.Deep It
set_option maxRecDepth 100000

end Go.Proofs.YtacghcoikekfeaaGreat
