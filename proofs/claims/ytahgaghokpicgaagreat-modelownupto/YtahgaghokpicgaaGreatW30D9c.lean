/- Two models held against each other: the program's Same, told exactly. -/
import Derived.Test.YtahgaghokpicgaaGreatW29Nn
namespace Go.Proofs.YtahgaghokpicgaaGreat
open Go.RowKit Go.Maps Go.Shelf
open Go.WideElems (Fit rd rg rd_val rg_of)
set_option linter.unusedVariables false
set_option linter.unusedSimpArgs false
end Go.Proofs.YtahgaghokpicgaaGreat
namespace Go.Proofs.YtahgaghokpicgaaGreat
open Go.RowKit Go.Maps
set_option linter.unusedVariables false
end Go.Proofs.YtahgaghokpicgaaGreat
