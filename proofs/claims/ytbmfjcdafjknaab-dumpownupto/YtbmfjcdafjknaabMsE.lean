/- The model's do and Do, of the operations that are asked for. -/
import Derived.Test.YtbmfjcdafjknaabMsD
import Derived.Test.YtbmfjcdafjknaabMsC
namespace Go.Proofs.Ytbmfjcdafjknaab
open Go.RowKit
set_option linter.unusedVariables false

end Go.Proofs.Ytbmfjcdafjknaab
