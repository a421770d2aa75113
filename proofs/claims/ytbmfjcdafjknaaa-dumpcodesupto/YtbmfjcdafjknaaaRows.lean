/-
  No cell of these rows narrows 'for every input' (looked for: loops, veiled, ifaces, maps, wideKeys, modest, calm, conditions, laid).
  DERIVED. THE GIVEN ROWS OF THIS SEAT. 6 by the template 'for every input the law returns true; each argument reads behind the call as it read before'; 0 by the template 'total and deterministic' (their statements: YtbmfjcdafjknaaaTotals.lean).
  GIVEN WITH THE SEED: the statements are not yours to turn. If you find one false, say at which input.
  Laid BY PROGRAM, IN A SANDBOX (cutbox-rows.mjs): the forced cells as the released guide's own fill.sh prints them over the translation ea93f1850c590150… (all of the seat's roots in one cut). By AI agents, Wed Nov 11 2026. No macro, syntax, notation, axiom, sorry.
-/
import Derived.Test.YtbmfjcdafjknaaaChecked
import GoSem.Claim
import GoSem.ClaimJoined
import GoSem.ClaimMapViews
import Derived.JoinedTies
import Derived.KernelRfl
namespace Go.Proofs.Ytbmfjcdafjknaaa
/- THE CELL 'sum', in the pinned program and in every row, IS THE sha256 OF THE DUMP (.gsa) THAT YtbmfjcdafjknaaaProg.lean LOADS. Nothing in Lean hashes anything: it is a label: what it is worth is what the hold of that sum in a sandbox is worth. -/
noncomputable def Try.pinned : Pinned := { name := "ytbmfjcdafjknaaa", sum := "ea93f1850c5901507b369833fa4f7a3bfe3e21453c8263fc2aa35d5075af7a61", checked := Try.checked }
namespace Rows
def none {H : Type} : Left H := { results := [], args := [] }

/-- 'shutterlaw27.DumpCodes': WHATEVER THE INPUT: true; the input reads as it did. -/
def dumpCodesSpec : ChangeSpec := { name := "dumpCodes", fn := fun _ => fun
  | [d1, d2] => { results := [.lit (.bool true)], args := [d1, d2] }
  | _ => none }
def dumpCodesRow : OpenClaim := { program := "ytbmfjcdafjknaaa", sum := "ea93f1850c5901507b369833fa4f7a3bfe3e21453c8263fc2aa35d5075af7a61", func := "shutter/shutterlaw27.DumpCodes", spec := "dumpCodes", unfollowed := true, recurses := true, apart := false }
def DumpCodesSaid : Prop := dumpCodesRow.holds Try.pinned (OpenSpec.ofChange dumpCodesSpec)

/-- ITS FALSE NEIGHBOUR: 'it returns false'. Refute it at one input. -/
def dumpCodesWrong : ChangeSpec := { name := "dumpCodes", fn := fun _ => fun
  | [d1, d2] => { results := [.lit (.bool false)], args := [d1, d2] }
  | _ => none }
def DumpCodesWrongFalsely : Prop := dumpCodesRow.holds Try.pinned (OpenSpec.ofChange dumpCodesWrong)

/-- 'shutterlaw27.DumpDiffs': WHATEVER THE INPUT: true; the input reads as it did. -/
def dumpDiffsSpec : ChangeSpec := { name := "dumpDiffs", fn := fun _ => fun
  | [d1, d2] => { results := [.lit (.bool true)], args := [d1, d2] }
  | _ => none }
def dumpDiffsRow : OpenClaim := { program := "ytbmfjcdafjknaaa", sum := "ea93f1850c5901507b369833fa4f7a3bfe3e21453c8263fc2aa35d5075af7a61", func := "shutter/shutterlaw27.DumpDiffs", spec := "dumpDiffs", unfollowed := true, recurses := true, apart := false }
def DumpDiffsSaid : Prop := dumpDiffsRow.holds Try.pinned (OpenSpec.ofChange dumpDiffsSpec)

/-- ITS FALSE NEIGHBOUR: 'it returns false'. Refute it at one input. -/
def dumpDiffsWrong : ChangeSpec := { name := "dumpDiffs", fn := fun _ => fun
  | [d1, d2] => { results := [.lit (.bool false)], args := [d1, d2] }
  | _ => none }
def DumpDiffsWrongFalsely : Prop := dumpDiffsRow.holds Try.pinned (OpenSpec.ofChange dumpDiffsWrong)

/-- 'shutterlaw27.DumpPatches': WHATEVER THE INPUT: true; the input reads as it did. -/
def dumpPatchesSpec : ChangeSpec := { name := "dumpPatches", fn := fun _ => fun
  | [d1, d2] => { results := [.lit (.bool true)], args := [d1, d2] }
  | _ => none }
def dumpPatchesRow : OpenClaim := { program := "ytbmfjcdafjknaaa", sum := "ea93f1850c5901507b369833fa4f7a3bfe3e21453c8263fc2aa35d5075af7a61", func := "shutter/shutterlaw27.DumpPatches", spec := "dumpPatches", unfollowed := true, recurses := true, apart := false }
def DumpPatchesSaid : Prop := dumpPatchesRow.holds Try.pinned (OpenSpec.ofChange dumpPatchesSpec)

/-- ITS FALSE NEIGHBOUR: 'it returns false'. Refute it at one input. -/
def dumpPatchesWrong : ChangeSpec := { name := "dumpPatches", fn := fun _ => fun
  | [d1, d2] => { results := [.lit (.bool false)], args := [d1, d2] }
  | _ => none }
def DumpPatchesWrongFalsely : Prop := dumpPatchesRow.holds Try.pinned (OpenSpec.ofChange dumpPatchesWrong)

/-- 'shutterlaw27.DumpBack': WHATEVER THE INPUT: true; the input reads as it did. -/
def dumpBackSpec : ChangeSpec := { name := "dumpBack", fn := fun _ => fun
  | [d1, d2, d3] => { results := [.lit (.bool true)], args := [d1, d2, d3] }
  | _ => none }
def dumpBackRow : OpenClaim := { program := "ytbmfjcdafjknaaa", sum := "ea93f1850c5901507b369833fa4f7a3bfe3e21453c8263fc2aa35d5075af7a61", func := "shutter/shutterlaw27.DumpBack", spec := "dumpBack", unfollowed := true, recurses := true, apart := false }
def DumpBackSaid : Prop := dumpBackRow.holds Try.pinned (OpenSpec.ofChange dumpBackSpec)

/-- ITS FALSE NEIGHBOUR: 'it returns false'. Refute it at one input. -/
def dumpBackWrong : ChangeSpec := { name := "dumpBack", fn := fun _ => fun
  | [d1, d2, d3] => { results := [.lit (.bool false)], args := [d1, d2, d3] }
  | _ => none }
def DumpBackWrongFalsely : Prop := dumpBackRow.holds Try.pinned (OpenSpec.ofChange dumpBackWrong)

/-- 'shutterlaw27.DumpLeads': WHATEVER THE INPUT: true; the input reads as it did. -/
def dumpLeadsSpec : ChangeSpec := { name := "dumpLeads", fn := fun _ => fun
  | [d1, d2] => { results := [.lit (.bool true)], args := [d1, d2] }
  | _ => none }
def dumpLeadsRow : OpenClaim := { program := "ytbmfjcdafjknaaa", sum := "ea93f1850c5901507b369833fa4f7a3bfe3e21453c8263fc2aa35d5075af7a61", func := "shutter/shutterlaw27.DumpLeads", spec := "dumpLeads", unfollowed := true, recurses := true, apart := false }
def DumpLeadsSaid : Prop := dumpLeadsRow.holds Try.pinned (OpenSpec.ofChange dumpLeadsSpec)

/-- ITS FALSE NEIGHBOUR: 'it returns false'. Refute it at one input. -/
def dumpLeadsWrong : ChangeSpec := { name := "dumpLeads", fn := fun _ => fun
  | [d1, d2] => { results := [.lit (.bool false)], args := [d1, d2] }
  | _ => none }
def DumpLeadsWrongFalsely : Prop := dumpLeadsRow.holds Try.pinned (OpenSpec.ofChange dumpLeadsWrong)

/-- 'shutterlaw27.DumpTurned': WHATEVER THE INPUT: true; the input reads as it did. -/
def dumpTurnedSpec : ChangeSpec := { name := "dumpTurned", fn := fun _ => fun
  | [d1, d2] => { results := [.lit (.bool true)], args := [d1, d2] }
  | _ => none }
def dumpTurnedRow : OpenClaim := { program := "ytbmfjcdafjknaaa", sum := "ea93f1850c5901507b369833fa4f7a3bfe3e21453c8263fc2aa35d5075af7a61", func := "shutter/shutterlaw27.DumpTurned", spec := "dumpTurned", unfollowed := true, recurses := true, apart := false }
def DumpTurnedSaid : Prop := dumpTurnedRow.holds Try.pinned (OpenSpec.ofChange dumpTurnedSpec)

/-- ITS FALSE NEIGHBOUR: 'it returns false'. Refute it at one input. -/
def dumpTurnedWrong : ChangeSpec := { name := "dumpTurned", fn := fun _ => fun
  | [d1, d2] => { results := [.lit (.bool false)], args := [d1, d2] }
  | _ => none }
def DumpTurnedWrongFalsely : Prop := dumpTurnedRow.holds Try.pinned (OpenSpec.ofChange dumpTurnedWrong)

/- THE SECOND FORM. 'bulk': how many values and letters a reading holds, each counted each time it is reached (what is shared counts as often as it is met; a slice's spare places count too). A statement '..UptoSaid' is the law's where the arguments, and the package variables that the reading takes, are together of bulk at most 1048576: NARROWER than '..Said'. Prove '..Said' where nothing that the law and all that it calls make is longer than what came in: it says more and counts as full. Else prove '..UptoSaid'. A law counts once. -/
mutual
def uptoBulk {H : Type} : DataW H → Nat
  | .lit (.string bytes) => bytes.length + 1
  | .lit _ => 1
  | .nil => 1
  | .ptr d => uptoBulk d + 1
  | .slice elems spare => uptoBulkAll elems + uptoBulkAll spare + 1
  | .agg parts => uptoBulkAll parts + 1
  | .iface _ d => uptoBulk d + 1
  | .map entries => uptoBulkEntries entries + 1
  | .held _ => 1
def uptoBulkAll {H : Type} : List (DataW H) → Nat
  | [] => 0
  | d :: r => uptoBulk d + uptoBulkAll r
def uptoBulkEntries {H : Type} : List (Lit × DataW H) → Nat
  | [] => 0
  | x :: r => uptoBulkEntry x + uptoBulkEntries r
def uptoBulkEntry {H : Type} : Lit × DataW H → Nat
  | (.string bytes, d) => bytes.length + uptoBulk d + 1
  | (_, d) => uptoBulk d + 1
 end
def uptoSmall : (H : Type) → List (DataW H) → Bool := fun _ ds => decide (uptoBulkAll ds ≤ 1048576)
def OpenSpec.upto (s : _root_.Go.ChangeSpec) : _root_.Go.OpenSpec := { _root_.Go.OpenSpec.ofChange s with cond := some uptoSmall }

/-- 'shutterlaw27.DumpCodes', WHERE WHAT IT READS IS OF BULK AT MOST 1048576: true; the input reads as it did. -/
def dumpCodesUptoRow : OpenClaim := { program := "ytbmfjcdafjknaaa", sum := "ea93f1850c5901507b369833fa4f7a3bfe3e21453c8263fc2aa35d5075af7a61", func := "shutter/shutterlaw27.DumpCodes", spec := "dumpCodes", unfollowed := true, recurses := true, apart := false, narrowed := true }
def DumpCodesUptoSaid : Prop := dumpCodesUptoRow.holds Try.pinned (OpenSpec.upto dumpCodesSpec)

/-- 'shutterlaw27.DumpDiffs', WHERE WHAT IT READS IS OF BULK AT MOST 1048576: true; the input reads as it did. -/
def dumpDiffsUptoRow : OpenClaim := { program := "ytbmfjcdafjknaaa", sum := "ea93f1850c5901507b369833fa4f7a3bfe3e21453c8263fc2aa35d5075af7a61", func := "shutter/shutterlaw27.DumpDiffs", spec := "dumpDiffs", unfollowed := true, recurses := true, apart := false, narrowed := true }
def DumpDiffsUptoSaid : Prop := dumpDiffsUptoRow.holds Try.pinned (OpenSpec.upto dumpDiffsSpec)

/-- 'shutterlaw27.DumpPatches', WHERE WHAT IT READS IS OF BULK AT MOST 1048576: true; the input reads as it did. -/
def dumpPatchesUptoRow : OpenClaim := { program := "ytbmfjcdafjknaaa", sum := "ea93f1850c5901507b369833fa4f7a3bfe3e21453c8263fc2aa35d5075af7a61", func := "shutter/shutterlaw27.DumpPatches", spec := "dumpPatches", unfollowed := true, recurses := true, apart := false, narrowed := true }
def DumpPatchesUptoSaid : Prop := dumpPatchesUptoRow.holds Try.pinned (OpenSpec.upto dumpPatchesSpec)

/-- 'shutterlaw27.DumpBack', WHERE WHAT IT READS IS OF BULK AT MOST 1048576: true; the input reads as it did. -/
def dumpBackUptoRow : OpenClaim := { program := "ytbmfjcdafjknaaa", sum := "ea93f1850c5901507b369833fa4f7a3bfe3e21453c8263fc2aa35d5075af7a61", func := "shutter/shutterlaw27.DumpBack", spec := "dumpBack", unfollowed := true, recurses := true, apart := false, narrowed := true }
def DumpBackUptoSaid : Prop := dumpBackUptoRow.holds Try.pinned (OpenSpec.upto dumpBackSpec)

/-- 'shutterlaw27.DumpLeads', WHERE WHAT IT READS IS OF BULK AT MOST 1048576: true; the input reads as it did. -/
def dumpLeadsUptoRow : OpenClaim := { program := "ytbmfjcdafjknaaa", sum := "ea93f1850c5901507b369833fa4f7a3bfe3e21453c8263fc2aa35d5075af7a61", func := "shutter/shutterlaw27.DumpLeads", spec := "dumpLeads", unfollowed := true, recurses := true, apart := false, narrowed := true }
def DumpLeadsUptoSaid : Prop := dumpLeadsUptoRow.holds Try.pinned (OpenSpec.upto dumpLeadsSpec)

/-- 'shutterlaw27.DumpTurned', WHERE WHAT IT READS IS OF BULK AT MOST 1048576: true; the input reads as it did. -/
def dumpTurnedUptoRow : OpenClaim := { program := "ytbmfjcdafjknaaa", sum := "ea93f1850c5901507b369833fa4f7a3bfe3e21453c8263fc2aa35d5075af7a61", func := "shutter/shutterlaw27.DumpTurned", spec := "dumpTurned", unfollowed := true, recurses := true, apart := false, narrowed := true }
def DumpTurnedUptoSaid : Prop := dumpTurnedUptoRow.holds Try.pinned (OpenSpec.upto dumpTurnedSpec)

end Rows
end Go.Proofs.Ytbmfjcdafjknaaa
