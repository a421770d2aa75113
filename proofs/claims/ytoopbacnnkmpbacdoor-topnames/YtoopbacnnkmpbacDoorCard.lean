/- The law TopNames (errors, kinds, limits; a slot's text) returns true: the tied card; the listed tables hold what the program's text lays. -/
import Derived.Test.YtoopbacnnkmpbacDoorProof
import Derived.Test.YtoopbacnnkmpbacDoorTie
import Derived.Test.YtoopbacnnkmpbacDoorCards
import Derived.SevenTiedAt
namespace Go.Proofs.YtoopbacnnkmpbacDoor
open Go

theorem topNames_holds : Rows.TopNamesCardSaid :=
  Claim7.holds_tied_plain_at .later [] [.data, .data, .data, .data] true (true, "6ecb8b7f49da03755cd17024ea3d6389185c53cef2b8ee982e3d09172cfda91a") false
    topNames_row (fun _ h => by cases h) (by kernel_rfl) (fun _ h => by cases h) topNames_row_tie rfl ⟨rfl, rfl⟩ (by kernel_rfl) rfl
    (fun f fn hf hfn => by
      obtain rfl : f = 3 := Option.some.inj ((show Tryd.prog.funcNamed "shutter/shuttertop.TopNames" = some 3 by kernel_rfl).symm.trans hf) |>.symm
      obtain rfl : fn = Tryd.f3 := (Option.some.inj (Tryd.func3.symm.trans hfn)).symm
      exact ⟨by kernel_rfl, fun j t ht => by
        rw [Tryd.params3] at ht
        simp at ht⟩)
    (by kernel_rfl)
end Go.Proofs.YtoopbacnnkmpbacDoor
