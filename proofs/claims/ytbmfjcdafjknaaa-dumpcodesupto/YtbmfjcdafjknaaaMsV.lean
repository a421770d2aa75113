/- The model's Take of an answer that is not told. -/
import Derived.Test.YtbmfjcdafjknaaaMsB
namespace Go.Proofs.Ytbmfjcdafjknaaa
open Go.RowKit
set_option linter.unusedVariables false

end Go.Proofs.Ytbmfjcdafjknaaa
