/- The law ScriptParses returns true, of inputs not beyond the given bulk: the tied card; the listed tables hold what the program's text lays. -/
import Derived.Test.YtmmaniolaljjlaaGreatDoorScriptParsesProof
import Derived.Test.YtmmaniolaljjlaaGreatDoorTie
import Derived.Test.YtmmaniolaljjlaaGreatDoorCards
import Derived.SevenTiedAt
namespace Go.Proofs.YtmmaniolaljjlaaGreatDoor
open Go

theorem scriptParses_holds : Rows.ScriptParsesUptoCardSaid :=
  Claim7.holds_tied_plain_at .later [] _ _ _ _ scriptParses.row (fun _ h => by cases h) (by kernel_rfl) (fun _ h => by cases h) scriptParsesUpto_row_tie rfl ⟨rfl, rfl⟩ (by kernel_rfl) rfl
    (fun f fn hf hfn => by
      obtain rfl : f = 5 := Option.some.inj ((show Tryz.prog.funcNamed "shutter/shutterlaw17.ScriptParses" = some 5 by kernel_rfl).symm.trans hf) |>.symm
      obtain rfl : fn = Tryz.f5 := (Option.some.inj (Tryz.func5.symm.trans hfn)).symm
      exact ⟨by kernel_rfl, fun j t ht => by
        rw [Tryz.params5] at ht
        have hm : t ∈ [9] := by simpa using Array.mem_of_getElem? ht
        have hall : ([9].all fun u => !Tryz.prog.wantsStandIn u) = true := by kernel_rfl
        exact (show Tryz.prog.wantsStandIn t = false by simpa using List.all_eq_true.1 hall t hm)⟩)
    (by kernel_rfl)
end Go.Proofs.YtmmaniolaljjlaaGreatDoor
