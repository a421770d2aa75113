/- The law WordTexts returns true: the tied card; the listed tables hold what the program's text lays. -/
import Derived.Test.YtoldkjlcfgpnoaaDoorWordTextsProof
import Derived.Test.YtoldkjlcfgpnoaaDoorTie
import Derived.Test.YtoldkjlcfgpnoaaDoorCards
import Derived.SevenTiedAt
namespace Go.Proofs.YtoldkjlcfgpnoaaDoor
open Go

theorem wordTexts_holds : Rows.WordTextsCardSaid :=
  Claim7.holds_tied_plain_at .later [] [.data, .data, .data, .sentinel, .sentinel, .data] true (true, "a634c7b0b8032fb7524714a4afdc556d8f455b75891de89a087b309629d91bee") true
    wordTexts.row (fun _ h => by cases h) (by kernel_rfl) (fun _ h => by cases h) wordTexts_row_tie rfl ⟨rfl, rfl⟩ (by kernel_rfl) rfl
    (fun f fn hf hfn => by
      obtain rfl : f = 3 := Option.some.inj ((show Tryd.prog.funcNamed "shutter/shutterlaw01.WordTexts" = some 3 by kernel_rfl).symm.trans hf) |>.symm
      obtain rfl : fn = Tryd.f3 := (Option.some.inj (Tryd.func3.symm.trans hfn)).symm
      exact ⟨by kernel_rfl, fun j t ht => by
        rw [Tryd.params3] at ht
        have hm : t ∈ [25, 9] := by simpa using Array.mem_of_getElem? ht
        have hall : ([25, 9].all fun u => !Tryd.prog.wantsStandIn u) = true := by kernel_rfl
        exact (show Tryd.prog.wantsStandIn t = false by simpa using List.all_eq_true.1 hall t hm)⟩)
    (by kernel_rfl)
end Go.Proofs.YtoldkjlcfgpnoaaDoor
