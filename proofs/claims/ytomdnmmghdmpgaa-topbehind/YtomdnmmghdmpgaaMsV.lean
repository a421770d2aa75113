/- The model's Take of an answer that is not told. -/
import Derived.Test.YtomdnmmghdmpgaaMsB
namespace Go.Proofs.Ytomdnmmghdmpgaa
open Go.RowKit
set_option linter.unusedVariables false

end Go.Proofs.Ytomdnmmghdmpgaa
