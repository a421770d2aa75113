/- The model's Take of an answer that is not told. -/
import Derived.Test.YtnhfpnhmdfgckaaMsB
namespace Go.Proofs.Ytnhfpnhmdfgckaa
open Go.RowKit
set_option linter.unusedVariables false

end Go.Proofs.Ytnhfpnhmdfgckaa
