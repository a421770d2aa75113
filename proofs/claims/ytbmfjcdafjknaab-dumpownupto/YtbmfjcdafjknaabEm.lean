/- The document's: do keys rise; Diff of what is not right. -/
import Derived.Test.YtbmfjcdafjknaabEl
namespace Go.Proofs.Ytbmfjcdafjknaab
open Go.RowKit Go.Joins
set_option linter.unusedVariables false

end Go.Proofs.Ytbmfjcdafjknaab
