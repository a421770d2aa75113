/- The model's Take of an answer that is not told. -/
import Derived.Test.YtnlkdibalhgipaaMsB
namespace Go.Proofs.Ytnlkdibalhgipaa
open Go.RowKit
set_option linter.unusedVariables false

end Go.Proofs.Ytnlkdibalhgipaa
