/- The document's models held against each other: Same over told rows. -/
import Derived.Deep.RegionHeld3
import Derived.Test.YtahgaghokpicgaaGreatW1MsL
import Derived.Test.YtahgaghokpicgaaGreatW6D6h
import Derived.Test.YtahgaghokpicgaaGreatW29Nn
import Derived.Test.YtahgaghokpicgaaGreatW30D9c
namespace Go.Proofs.YtahgaghokpicgaaGreat
open Go.RowKit Go.Maps
set_option linter.unusedVariables false
set_option linter.unusedSimpArgs false
end Go.Proofs.YtahgaghokpicgaaGreat
