/- The model's Take of an answer that is not told. -/
import Derived.Test.YtbmfjcdafjknaabMsB
namespace Go.Proofs.Ytbmfjcdafjknaab
open Go.RowKit
set_option linter.unusedVariables false

end Go.Proofs.Ytbmfjcdafjknaab
