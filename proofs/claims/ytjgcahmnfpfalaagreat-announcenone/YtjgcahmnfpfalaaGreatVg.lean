/- Vcas's steps: Cas, At, and what they tell. -/
import Derived.Test.YtjgcahmnfpfalaaGreatVf
namespace Go.Proofs.YtjgcahmnfpfalaaGreat
open Go.RowKit Go.Shelf

end Go.Proofs.YtjgcahmnfpfalaaGreat
