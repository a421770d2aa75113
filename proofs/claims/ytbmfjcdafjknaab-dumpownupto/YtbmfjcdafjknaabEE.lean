/- The document's Patch: its errors. -/
import Derived.Test.YtbmfjcdafjknaabED
import Derived.Test.YtbmfjcdafjknaabEm
namespace Go.Proofs.Ytbmfjcdafjknaab
open Go.RowKit
set_option linter.unusedVariables false

theorem ChAt.below' {W W' : World} {p : Option Addr} {l : List Ch} (h : ChAt W p l) (b : Below W.heap.size W W') : ChAt W' p l := h.below b
end Go.Proofs.Ytbmfjcdafjknaab
