/- From what the rows list of package-level variables to the tables that the walks read. -/
import Derived.Test.YtdgagpcofghbaaaGreatDoorRps
import Derived.ProofKit
import Derived.LaidMore
import Derived.OpenShut
import Derived.Stop.Joined
import Derived.Stop.LaidErr
import Derived.Lib.LaidTab
namespace Go.Proofs.YtdgagpcofghbaaaGreatDoor
open Go.ChangeShapes Go.WideShapes Go.ChangeAt Go.WideMaps Go.WideElems Go.RowKit Go.Joins Go.Deep
set_option linter.unusedVariables false

theorem own : ownKnob Tryz.prog.godebug = none := by kernel_rfl
theorem laidOut : laidOutB Tryz.prog = true := by kernel_rfl
theorem gES : Tryz.prog.globalNamed "strconv.ErrSyntax" = some 1 := by kernel_rfl
theorem tES : (Tryz.prog.globals[1]?).map (·.type) = some 45 := by kernel_rfl
theorem gER : Tryz.prog.globalNamed "strconv.ErrRange" = some 2 := by kernel_rfl
theorem tER : (Tryz.prog.globals[2]?).map (·.type) = some 45 := by kernel_rfl
theorem gP10 : Tryz.prog.globalNamed "internal/strconv.uint64pow10" = some 3 := by kernel_rfl
theorem tP10 : (Tryz.prog.globals[3]?).map (·.type) = some 164 := by kernel_rfl
theorem cells9 : Tryz.prog.cellsOf 9 = 1 := by kernel_rfl
theorem cellsU : Tryz.prog.cellsOf 33 = 1 := by kernel_rfl
theorem cellsA : Tryz.prog.cellsOf 164 = 20 := by kernel_rfl
theorem cellsE : Tryz.prog.cellsOf 170 = 1 := by kernel_rfl
theorem star : "*" ++ "errors.errorString" = "*errors.errorString" := by decide
theorem rowErr (u : TypeId) (h : Tryz.prog.typeName? 3 u = some "*errors.errorString") : u = 168 :=
  typeName_ptr_named (nm := "errors.errorString") (by rw [star]; kernel_rfl) (by kernel_rfl) (by decide) u (by rw [star]; exact h)
theorem tb_of_laid {W : World} (h : laidMetH Tryz.prog Rows.replayBackUptoRow.laid W) (hsh : W.ShapedOpen Tryz.prog) : Tb W := by
  rw [MakeChecks.laidMetH_plain _ _ _ (by kernel_rfl)] at h
  have h3 : laidMet Tryz.prog (("internal/strconv.uint64pow10", Lib.tabData .u64 Lib.pow10Tab) :: _) W := h.tail.tail
  have hT := Lib.tabIs_of_head gP10 tP10 Tryz.underlying164 Tryz.underlying33 cellsU cellsA h3
  obtain ⟨a1, s1, hER, -, -, -⟩ := laid_sentinel h.tail.tail.tail.tail gER tER Tryz.underlying45 rowErr Tryz.underlying168 Tryz.underlying170 rfl rfl Tryz.underlying9 cellsE cells9
  obtain ⟨a0, s0, hES, -, -, -⟩ := laid_sentinel h.tail.tail.tail.tail.tail gES tES Tryz.underlying45 rowErr Tryz.underlying168 Tryz.underlying170 rfl rfl Tryz.underlying9 cellsE cells9
  exact ⟨hT, ⟨_, _, hES⟩, ⟨_, _, hER⟩, Tryz.lays146.s1_3 W hsh⟩
end Go.Proofs.YtdgagpcofghbaaaGreatDoor
