/- Vcas's Cas: its steps, whatever the view is. -/
import Derived.Test.YtlgkioaomcobdaaGreatVd
namespace Go.Proofs.YtlgkioaomcobdaaGreat
open Go.RowKit Go.Shelf

end Go.Proofs.YtlgkioaomcobdaaGreat
