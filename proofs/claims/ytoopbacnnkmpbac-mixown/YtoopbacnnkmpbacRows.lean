/-
  No cell of these rows narrows 'for every input' (looked for: loops, veiled, ifaces, maps, wideKeys, modest, calm, conditions, laid).
  DERIVED. THE GIVEN ROWS OF THIS SEAT. 4 by the template 'for every input the law returns true; each argument reads behind the call as it read before'; 0 by the template 'total and deterministic' (their statements: YtoopbacnnkmpbacTotals.lean).
  GIVEN WITH THE SEED: the statements are not yours to turn. If you find one false, say at which input.
  Laid BY PROGRAM, IN A SANDBOX (cutbox-rows.mjs): the forced cells as the released guide's own fill.sh prints them over the translation b6aa73b842dd28f6… (all of the seat's roots in one cut). By AI agents, Wed Nov 11 2026. No macro, syntax, notation, axiom, sorry.
-/
import Derived.Test.YtoopbacnnkmpbacChecked
import GoSem.Claim
import GoSem.ClaimJoined
import GoSem.ClaimMapViews
import Derived.JoinedTies
import Derived.KernelRfl
namespace Go.Proofs.Ytoopbacnnkmpbac
/- THE CELL 'sum', in the pinned program and in every row, IS THE sha256 OF THE DUMP (.gsa) THAT YtoopbacnnkmpbacProg.lean LOADS. Nothing in Lean hashes anything: it is a label: what it is worth is what the hold of that sum in a sandbox is worth. -/
noncomputable def Try.pinned : Pinned := { name := "ytoopbacnnkmpbac", sum := "b6aa73b842dd28f60e9ac610cae64a38f9453c669f3ee622a32f81a791f7cd5a", checked := Try.checked }
namespace Rows
def none {H : Type} : Left H := { results := [], args := [] }

/-- 'shutterlaw02.MixCommon': WHATEVER THE INPUT: true; the input reads as it did. -/
def mixCommonSpec : ChangeSpec := { name := "mixCommon", fn := fun _ => fun
  | [d1, d2, d3] => { results := [.lit (.bool true)], args := [d1, d2, d3] }
  | _ => none }
def mixCommonRow : OpenClaim := { program := "ytoopbacnnkmpbac", sum := "b6aa73b842dd28f60e9ac610cae64a38f9453c669f3ee622a32f81a791f7cd5a", func := "shutter/shutterlaw02.MixCommon", spec := "mixCommon", unfollowed := true, recurses := true, apart := false }
def MixCommonSaid : Prop := mixCommonRow.holds Try.pinned (OpenSpec.ofChange mixCommonSpec)

/-- ITS FALSE NEIGHBOUR: 'it returns false'. Refute it at one input. -/
def mixCommonWrong : ChangeSpec := { name := "mixCommon", fn := fun _ => fun
  | [d1, d2, d3] => { results := [.lit (.bool false)], args := [d1, d2, d3] }
  | _ => none }
def MixCommonWrongFalsely : Prop := mixCommonRow.holds Try.pinned (OpenSpec.ofChange mixCommonWrong)

/-- 'shutterlaw02.MixRound': WHATEVER THE INPUT: true; the input reads as it did. -/
def mixRoundSpec : ChangeSpec := { name := "mixRound", fn := fun _ => fun
  | [d1, d2, d3] => { results := [.lit (.bool true)], args := [d1, d2, d3] }
  | _ => none }
def mixRoundRow : OpenClaim := { program := "ytoopbacnnkmpbac", sum := "b6aa73b842dd28f60e9ac610cae64a38f9453c669f3ee622a32f81a791f7cd5a", func := "shutter/shutterlaw02.MixRound", spec := "mixRound", unfollowed := true, recurses := true, apart := false }
def MixRoundSaid : Prop := mixRoundRow.holds Try.pinned (OpenSpec.ofChange mixRoundSpec)

/-- ITS FALSE NEIGHBOUR: 'it returns false'. Refute it at one input. -/
def mixRoundWrong : ChangeSpec := { name := "mixRound", fn := fun _ => fun
  | [d1, d2, d3] => { results := [.lit (.bool false)], args := [d1, d2, d3] }
  | _ => none }
def MixRoundWrongFalsely : Prop := mixRoundRow.holds Try.pinned (OpenSpec.ofChange mixRoundWrong)

/-- 'shutterlaw02.MixOwn': WHATEVER THE INPUT: true; the input reads as it did. -/
def mixOwnSpec : ChangeSpec := { name := "mixOwn", fn := fun _ => fun
  | [d1, d2] => { results := [.lit (.bool true)], args := [d1, d2] }
  | _ => none }
def mixOwnRow : OpenClaim := { program := "ytoopbacnnkmpbac", sum := "b6aa73b842dd28f60e9ac610cae64a38f9453c669f3ee622a32f81a791f7cd5a", func := "shutter/shutterlaw02.MixOwn", spec := "mixOwn", unfollowed := true, recurses := true, apart := false }
def MixOwnSaid : Prop := mixOwnRow.holds Try.pinned (OpenSpec.ofChange mixOwnSpec)

/-- ITS FALSE NEIGHBOUR: 'it returns false'. Refute it at one input. -/
def mixOwnWrong : ChangeSpec := { name := "mixOwn", fn := fun _ => fun
  | [d1, d2] => { results := [.lit (.bool false)], args := [d1, d2] }
  | _ => none }
def MixOwnWrongFalsely : Prop := mixOwnRow.holds Try.pinned (OpenSpec.ofChange mixOwnWrong)

/-- 'shuttertop.TopWays': WHATEVER THE INPUT: true; the input reads as it did. -/
def topWaysSpec : ChangeSpec := { name := "topWays", fn := fun _ => fun
  | [d1, d2, d3] => { results := [.lit (.bool true)], args := [d1, d2, d3] }
  | _ => none }
def topWaysRow : OpenClaim := { program := "ytoopbacnnkmpbac", sum := "b6aa73b842dd28f60e9ac610cae64a38f9453c669f3ee622a32f81a791f7cd5a", func := "shutter/shuttertop.TopWays", spec := "topWays", unfollowed := true, recurses := true, apart := false }
def TopWaysSaid : Prop := topWaysRow.holds Try.pinned (OpenSpec.ofChange topWaysSpec)

/-- ITS FALSE NEIGHBOUR: 'it returns false'. Refute it at one input. -/
def topWaysWrong : ChangeSpec := { name := "topWays", fn := fun _ => fun
  | [d1, d2, d3] => { results := [.lit (.bool false)], args := [d1, d2, d3] }
  | _ => none }
def TopWaysWrongFalsely : Prop := topWaysRow.holds Try.pinned (OpenSpec.ofChange topWaysWrong)

/- THE SECOND FORM. 'bulk': how many values and letters a reading holds, each counted each time it is reached (what is shared counts as often as it is met; a slice's spare places count too). A statement '..UptoSaid' is the law's where the arguments, and the package variables that the reading takes, are together of bulk at most 1048576: NARROWER than '..Said'. Prove '..Said' where nothing that the law and all that it calls make is longer than what came in: it says more and counts as full. Else prove '..UptoSaid'. A law counts once. -/
mutual
def uptoBulk {H : Type} : DataW H → Nat
  | .lit (.string bytes) => bytes.length + 1
  | .lit _ => 1
  | .nil => 1
  | .ptr d => uptoBulk d + 1
  | .slice elems spare => uptoBulkAll elems + uptoBulkAll spare + 1
  | .agg parts => uptoBulkAll parts + 1
  | .iface _ d => uptoBulk d + 1
  | .map entries => uptoBulkEntries entries + 1
  | .held _ => 1
def uptoBulkAll {H : Type} : List (DataW H) → Nat
  | [] => 0
  | d :: r => uptoBulk d + uptoBulkAll r
def uptoBulkEntries {H : Type} : List (Lit × DataW H) → Nat
  | [] => 0
  | x :: r => uptoBulkEntry x + uptoBulkEntries r
def uptoBulkEntry {H : Type} : Lit × DataW H → Nat
  | (.string bytes, d) => bytes.length + uptoBulk d + 1
  | (_, d) => uptoBulk d + 1
 end
def uptoSmall : (H : Type) → List (DataW H) → Bool := fun _ ds => decide (uptoBulkAll ds ≤ 1048576)
def OpenSpec.upto (s : _root_.Go.ChangeSpec) : _root_.Go.OpenSpec := { _root_.Go.OpenSpec.ofChange s with cond := some uptoSmall }

/-- 'shutterlaw02.MixCommon', WHERE WHAT IT READS IS OF BULK AT MOST 1048576: true; the input reads as it did. -/
def mixCommonUptoRow : OpenClaim := { program := "ytoopbacnnkmpbac", sum := "b6aa73b842dd28f60e9ac610cae64a38f9453c669f3ee622a32f81a791f7cd5a", func := "shutter/shutterlaw02.MixCommon", spec := "mixCommon", unfollowed := true, recurses := true, apart := false, narrowed := true }
def MixCommonUptoSaid : Prop := mixCommonUptoRow.holds Try.pinned (OpenSpec.upto mixCommonSpec)

/-- 'shutterlaw02.MixRound', WHERE WHAT IT READS IS OF BULK AT MOST 1048576: true; the input reads as it did. -/
def mixRoundUptoRow : OpenClaim := { program := "ytoopbacnnkmpbac", sum := "b6aa73b842dd28f60e9ac610cae64a38f9453c669f3ee622a32f81a791f7cd5a", func := "shutter/shutterlaw02.MixRound", spec := "mixRound", unfollowed := true, recurses := true, apart := false, narrowed := true }
def MixRoundUptoSaid : Prop := mixRoundUptoRow.holds Try.pinned (OpenSpec.upto mixRoundSpec)

/-- 'shutterlaw02.MixOwn', WHERE WHAT IT READS IS OF BULK AT MOST 1048576: true; the input reads as it did. -/
def mixOwnUptoRow : OpenClaim := { program := "ytoopbacnnkmpbac", sum := "b6aa73b842dd28f60e9ac610cae64a38f9453c669f3ee622a32f81a791f7cd5a", func := "shutter/shutterlaw02.MixOwn", spec := "mixOwn", unfollowed := true, recurses := true, apart := false, narrowed := true }
def MixOwnUptoSaid : Prop := mixOwnUptoRow.holds Try.pinned (OpenSpec.upto mixOwnSpec)

/-- 'shuttertop.TopWays', WHERE WHAT IT READS IS OF BULK AT MOST 1048576: true; the input reads as it did. -/
def topWaysUptoRow : OpenClaim := { program := "ytoopbacnnkmpbac", sum := "b6aa73b842dd28f60e9ac610cae64a38f9453c669f3ee622a32f81a791f7cd5a", func := "shutter/shuttertop.TopWays", spec := "topWays", unfollowed := true, recurses := true, apart := false, narrowed := true }
def TopWaysUptoSaid : Prop := topWaysUptoRow.holds Try.pinned (OpenSpec.upto topWaysSpec)

end Rows
end Go.Proofs.Ytoopbacnnkmpbac
