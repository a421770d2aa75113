/- Vcas's steps: Cas, At, and what they tell. -/
import Derived.Test.YtlgkioaomcobdaaGreatVf
namespace Go.Proofs.YtlgkioaomcobdaaGreat
open Go.RowKit Go.Shelf

end Go.Proofs.YtlgkioaomcobdaaGreat
