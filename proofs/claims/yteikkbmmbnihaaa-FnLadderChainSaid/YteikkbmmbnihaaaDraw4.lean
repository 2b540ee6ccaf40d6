/-
  The draws of chapter 3's laws that draw one number or one matrix.
-/
import Derived.Test.YteikkbmmbnihaaaDrawT
import Derived.Test.YteikkbmmbnihaaaWTwoOk
namespace Go.Proofs.Yteikkbmmbnihaaa
open Go.RowKit Fl

end Go.Proofs.Yteikkbmmbnihaaa
