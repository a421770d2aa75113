/-
  No cell of these rows narrows 'for every input' (looked for: loops, veiled, ifaces, maps, wideKeys, modest, calm, conditions, laid).
  DERIVED. THE GIVEN ROWS OF THIS SEAT. 4 by the template 'for every input the law returns true; each argument reads behind the call as it read before'; 0 by the template 'total and deterministic' (their statements: YtbjebnkfecjpnaaTotals.lean).
  GIVEN WITH THE SEED: the statements are not yours to turn. If you find one false, say at which input.
  Laid BY PROGRAM, IN A SANDBOX (cutbox-rows.mjs): the forced cells as the released guide's own fill.sh prints them over the translation 851ec8c6290f6d57… (all of the seat's roots in one cut). By AI agents, Wed Nov 11 2026. No macro, syntax, notation, axiom, sorry.
-/
import Derived.Test.YtbjebnkfecjpnaaChecked
import GoSem.Claim
import GoSem.ClaimJoined
import GoSem.ClaimMapViews
import Derived.JoinedTies
import Derived.KernelRfl
namespace Go.Proofs.Ytbjebnkfecjpnaa
/- THE CELL 'sum', in the pinned program and in every row, IS THE sha256 OF THE DUMP (.gsa) THAT YtbjebnkfecjpnaaProg.lean LOADS. Nothing in Lean hashes anything: it is a label: what it is worth is what the hold of that sum in a sandbox is worth. -/
noncomputable def Try.pinned : Pinned := { name := "ytbjebnkfecjpnaa", sum := "851ec8c6290f6d57506966e28814db4dd2699f36082faa659741cf1077f90317", checked := Try.checked }
namespace Rows
def none {H : Type} : Left H := { results := [], args := [] }

/-- 'shutterlaw15.CutNeeded': WHATEVER THE INPUT: true; the input reads as it did. -/
def cutNeededSpec : ChangeSpec := { name := "cutNeeded", fn := fun _ => fun
  | [d1, d2, d3] => { results := [.lit (.bool true)], args := [d1, d2, d3] }
  | _ => none }
def cutNeededRow : OpenClaim := { program := "ytbjebnkfecjpnaa", sum := "851ec8c6290f6d57506966e28814db4dd2699f36082faa659741cf1077f90317", func := "shutter/shutterlaw15.CutNeeded", spec := "cutNeeded", inPlace := ["sync/atomic.StoreUint64", "sync/atomic.OrUint64"], unfollowed := true, recurses := true, apart := false }
def CutNeededSaid : Prop := cutNeededRow.holds Try.pinned (OpenSpec.ofChange cutNeededSpec)

/-- ITS FALSE NEIGHBOUR: 'it returns false'. Refute it at one input. -/
def cutNeededWrong : ChangeSpec := { name := "cutNeeded", fn := fun _ => fun
  | [d1, d2, d3] => { results := [.lit (.bool false)], args := [d1, d2, d3] }
  | _ => none }
def CutNeededWrongFalsely : Prop := cutNeededRow.holds Try.pinned (OpenSpec.ofChange cutNeededWrong)

/-- 'shutterlaw15.CutAny': WHATEVER THE INPUT: true; the input reads as it did. -/
def cutAnySpec : ChangeSpec := { name := "cutAny", fn := fun _ => fun
  | [d1, d2, d3] => { results := [.lit (.bool true)], args := [d1, d2, d3] }
  | _ => none }
def cutAnyRow : OpenClaim := { program := "ytbjebnkfecjpnaa", sum := "851ec8c6290f6d57506966e28814db4dd2699f36082faa659741cf1077f90317", func := "shutter/shutterlaw15.CutAny", spec := "cutAny", inPlace := ["sync/atomic.StoreUint64", "sync/atomic.OrUint64"], unfollowed := true, recurses := true, apart := false }
def CutAnySaid : Prop := cutAnyRow.holds Try.pinned (OpenSpec.ofChange cutAnySpec)

/-- ITS FALSE NEIGHBOUR: 'it returns false'. Refute it at one input. -/
def cutAnyWrong : ChangeSpec := { name := "cutAny", fn := fun _ => fun
  | [d1, d2, d3] => { results := [.lit (.bool false)], args := [d1, d2, d3] }
  | _ => none }
def CutAnyWrongFalsely : Prop := cutAnyRow.holds Try.pinned (OpenSpec.ofChange cutAnyWrong)

/-- 'shutterlaw15.CutKeeps': WHATEVER THE INPUT: true; the input reads as it did. -/
def cutKeepsSpec : ChangeSpec := { name := "cutKeeps", fn := fun _ => fun
  | [d1, d2, d3] => { results := [.lit (.bool true)], args := [d1, d2, d3] }
  | _ => none }
def cutKeepsRow : OpenClaim := { program := "ytbjebnkfecjpnaa", sum := "851ec8c6290f6d57506966e28814db4dd2699f36082faa659741cf1077f90317", func := "shutter/shutterlaw15.CutKeeps", spec := "cutKeeps", inPlace := ["sync/atomic.StoreUint64", "sync/atomic.OrUint64"], unfollowed := true, recurses := true, apart := false }
def CutKeepsSaid : Prop := cutKeepsRow.holds Try.pinned (OpenSpec.ofChange cutKeepsSpec)

/-- ITS FALSE NEIGHBOUR: 'it returns false'. Refute it at one input. -/
def cutKeepsWrong : ChangeSpec := { name := "cutKeeps", fn := fun _ => fun
  | [d1, d2, d3] => { results := [.lit (.bool false)], args := [d1, d2, d3] }
  | _ => none }
def CutKeepsWrongFalsely : Prop := cutKeepsRow.holds Try.pinned (OpenSpec.ofChange cutKeepsWrong)

/-- 'shutterlaw15.CutLeaves': WHATEVER THE INPUT: true; the input reads as it did. -/
def cutLeavesSpec : ChangeSpec := { name := "cutLeaves", fn := fun _ => fun
  | [d1, d2] => { results := [.lit (.bool true)], args := [d1, d2] }
  | _ => none }
def cutLeavesRow : OpenClaim := { program := "ytbjebnkfecjpnaa", sum := "851ec8c6290f6d57506966e28814db4dd2699f36082faa659741cf1077f90317", func := "shutter/shutterlaw15.CutLeaves", spec := "cutLeaves", inPlace := ["sync/atomic.StoreUint64", "sync/atomic.OrUint64"], unfollowed := true, recurses := true, apart := false }
def CutLeavesSaid : Prop := cutLeavesRow.holds Try.pinned (OpenSpec.ofChange cutLeavesSpec)

/-- ITS FALSE NEIGHBOUR: 'it returns false'. Refute it at one input. -/
def cutLeavesWrong : ChangeSpec := { name := "cutLeaves", fn := fun _ => fun
  | [d1, d2] => { results := [.lit (.bool false)], args := [d1, d2] }
  | _ => none }
def CutLeavesWrongFalsely : Prop := cutLeavesRow.holds Try.pinned (OpenSpec.ofChange cutLeavesWrong)

/- THE SECOND FORM. 'bulk': how many values and letters a reading holds, each counted each time it is reached (what is shared counts as often as it is met; a slice's spare places count too). A statement '..UptoSaid' is the law's where the arguments, and the package variables that the reading takes, are together of bulk at most 1048576: NARROWER than '..Said'. Prove '..Said' where nothing that the law and all that it calls make is longer than what came in: it says more and counts as full. Else prove '..UptoSaid'. A law counts once. -/
mutual
def uptoBulk {H : Type} : DataW H → Nat
  | .lit (.string bytes) => bytes.length + 1
  | .lit _ => 1
  | .nil => 1
  | .ptr d => uptoBulk d + 1
  | .slice elems spare => uptoBulkAll elems + uptoBulkAll spare + 1
  | .agg parts => uptoBulkAll parts + 1
  | .iface _ d => uptoBulk d + 1
  | .map entries => uptoBulkEntries entries + 1
  | .held _ => 1
def uptoBulkAll {H : Type} : List (DataW H) → Nat
  | [] => 0
  | d :: r => uptoBulk d + uptoBulkAll r
def uptoBulkEntries {H : Type} : List (Lit × DataW H) → Nat
  | [] => 0
  | x :: r => uptoBulkEntry x + uptoBulkEntries r
def uptoBulkEntry {H : Type} : Lit × DataW H → Nat
  | (.string bytes, d) => bytes.length + uptoBulk d + 1
  | (_, d) => uptoBulk d + 1
 end
def uptoSmall : (H : Type) → List (DataW H) → Bool := fun _ ds => decide (uptoBulkAll ds ≤ 1048576)
def OpenSpec.upto (s : _root_.Go.ChangeSpec) : _root_.Go.OpenSpec := { _root_.Go.OpenSpec.ofChange s with cond := some uptoSmall }

/-- 'shutterlaw15.CutNeeded', WHERE WHAT IT READS IS OF BULK AT MOST 1048576: true; the input reads as it did. -/
def cutNeededUptoRow : OpenClaim := { program := "ytbjebnkfecjpnaa", sum := "851ec8c6290f6d57506966e28814db4dd2699f36082faa659741cf1077f90317", func := "shutter/shutterlaw15.CutNeeded", spec := "cutNeeded", inPlace := ["sync/atomic.StoreUint64", "sync/atomic.OrUint64"], unfollowed := true, recurses := true, apart := false, narrowed := true }
def CutNeededUptoSaid : Prop := cutNeededUptoRow.holds Try.pinned (OpenSpec.upto cutNeededSpec)

/-- 'shutterlaw15.CutAny', WHERE WHAT IT READS IS OF BULK AT MOST 1048576: true; the input reads as it did. -/
def cutAnyUptoRow : OpenClaim := { program := "ytbjebnkfecjpnaa", sum := "851ec8c6290f6d57506966e28814db4dd2699f36082faa659741cf1077f90317", func := "shutter/shutterlaw15.CutAny", spec := "cutAny", inPlace := ["sync/atomic.StoreUint64", "sync/atomic.OrUint64"], unfollowed := true, recurses := true, apart := false, narrowed := true }
def CutAnyUptoSaid : Prop := cutAnyUptoRow.holds Try.pinned (OpenSpec.upto cutAnySpec)

/-- 'shutterlaw15.CutKeeps', WHERE WHAT IT READS IS OF BULK AT MOST 1048576: true; the input reads as it did. -/
def cutKeepsUptoRow : OpenClaim := { program := "ytbjebnkfecjpnaa", sum := "851ec8c6290f6d57506966e28814db4dd2699f36082faa659741cf1077f90317", func := "shutter/shutterlaw15.CutKeeps", spec := "cutKeeps", inPlace := ["sync/atomic.StoreUint64", "sync/atomic.OrUint64"], unfollowed := true, recurses := true, apart := false, narrowed := true }
def CutKeepsUptoSaid : Prop := cutKeepsUptoRow.holds Try.pinned (OpenSpec.upto cutKeepsSpec)

/-- 'shutterlaw15.CutLeaves', WHERE WHAT IT READS IS OF BULK AT MOST 1048576: true; the input reads as it did. -/
def cutLeavesUptoRow : OpenClaim := { program := "ytbjebnkfecjpnaa", sum := "851ec8c6290f6d57506966e28814db4dd2699f36082faa659741cf1077f90317", func := "shutter/shutterlaw15.CutLeaves", spec := "cutLeaves", inPlace := ["sync/atomic.StoreUint64", "sync/atomic.OrUint64"], unfollowed := true, recurses := true, apart := false, narrowed := true }
def CutLeavesUptoSaid : Prop := cutLeavesUptoRow.holds Try.pinned (OpenSpec.upto cutLeavesSpec)

end Rows
end Go.Proofs.Ytbjebnkfecjpnaa
