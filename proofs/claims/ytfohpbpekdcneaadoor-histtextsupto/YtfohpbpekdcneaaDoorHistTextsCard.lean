/- The law HistTexts returns true, of inputs not beyond the given bulk: the tied card; the listed tables hold what the program's text lays. -/
import Derived.Test.YtfohpbpekdcneaaDoorHistTextsProof
import Derived.Test.YtfohpbpekdcneaaDoorTie
import Derived.Test.YtfohpbpekdcneaaDoorCards
import Derived.SevenTiedAt
namespace Go.Proofs.YtfohpbpekdcneaaDoor
open Go

theorem histTexts_holds : Rows.HistTextsUptoCardSaid :=
  Claim7.holds_tied_plain_at .later [] _ _ _ _ histTexts.row (fun _ h => by cases h) (by kernel_rfl) (fun _ h => by cases h) histTextsUpto_row_tie rfl ⟨rfl, rfl⟩ (by kernel_rfl) rfl
    (fun f fn hf hfn => by
      obtain rfl : f = 3 := Option.some.inj ((show Tryd.prog.funcNamed "shutter/shutterlaw05.HistTexts" = some 3 by kernel_rfl).symm.trans hf) |>.symm
      obtain rfl : fn = Tryd.f3 := (Option.some.inj (Tryd.func3.symm.trans hfn)).symm
      exact ⟨by kernel_rfl, fun j t ht => by
        rw [Tryd.params3] at ht
        have hm : t ∈ [22, 9, 3] := by simpa using Array.mem_of_getElem? ht
        have hall : ([22, 9, 3].all fun u => !Tryd.prog.wantsStandIn u) = true := by kernel_rfl
        exact (show Tryd.prog.wantsStandIn t = false by simpa using List.all_eq_true.1 hall t hm)⟩)
    (by kernel_rfl)
end Go.Proofs.YtfohpbpekdcneaaDoor
