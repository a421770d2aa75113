/- From what the rows list of package-level variables to the tables that the walks read. -/
import Derived.Test.YtjodechhnobkhaaGreatDoorRps
import Derived.ProofKit
import Derived.LaidMore
import Derived.OpenShut
import Derived.Stop.Joined
import Derived.Stop.LaidErr
import Derived.Lib.LaidTab
namespace Go.Proofs.YtjodechhnobkhaaGreatDoor
open Go.ChangeShapes Go.WideShapes Go.ChangeAt Go.WideMaps Go.WideElems Go.RowKit Go.Joins Go.Deep
set_option linter.unusedVariables false

theorem own : ownKnob Tryz.prog.godebug = none := by kernel_rfl
theorem laidOut : laidOutB Tryz.prog = true := by kernel_rfl
theorem gP10 : Tryz.prog.globalNamed "internal/strconv.uint64pow10" = some 0 := by kernel_rfl
theorem tP10 : (Tryz.prog.globals[0]?).map (·.type) = some 168 := by kernel_rfl
theorem cellsU : Tryz.prog.cellsOf 42 = 1 := by kernel_rfl
theorem cellsA : Tryz.prog.cellsOf 168 = 20 := by kernel_rfl
theorem tb_of_laid {W : World} (h : laidMetH Tryz.prog Rows.replayChecksUptoRow.laid W) (hsh : W.ShapedOpen Tryz.prog) : Tb W := by
  rw [MakeChecks.laidMetH_plain _ _ _ (by kernel_rfl)] at h
  have h3 : laidMet Tryz.prog (("internal/strconv.uint64pow10", Lib.tabData .u64 Lib.pow10Tab) :: _) W := h.tail.tail
  exact ⟨Lib.tabIs_of_head gP10 tP10 Tryz.underlying168 Tryz.underlying42 cellsU cellsA h3⟩
end Go.Proofs.YtjodechhnobkhaaGreatDoor
