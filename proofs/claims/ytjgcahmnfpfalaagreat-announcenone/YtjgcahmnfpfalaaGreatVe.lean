/- Vcas's Cas: its steps, whatever the view is. -/
import Derived.Test.YtjgcahmnfpfalaaGreatVd
namespace Go.Proofs.YtjgcahmnfpfalaaGreat
open Go.RowKit Go.Shelf

end Go.Proofs.YtjgcahmnfpfalaaGreat
