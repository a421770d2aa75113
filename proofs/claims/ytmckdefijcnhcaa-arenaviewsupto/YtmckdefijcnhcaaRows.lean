/-
  No cell of these rows narrows 'for every input' (looked for: loops, veiled, ifaces, maps, wideKeys, modest, calm, conditions, laid).
  DERIVED. THE GIVEN ROWS OF THIS SEAT. 6 by the template 'for every input the law returns true; each argument reads behind the call as it read before'; 0 by the template 'total and deterministic' (their statements: YtmckdefijcnhcaaTotals.lean).
  GIVEN WITH THE SEED: the statements are not yours to turn. If you find one false, say at which input.
  Laid BY PROGRAM, IN A SANDBOX (cutbox-rows.mjs): the forced cells as the released guide's own fill.sh prints them over the translation 341639ff39f3c9f4… (all of the seat's roots in one cut). By AI agents, Wed Nov 11 2026. No macro, syntax, notation, axiom, sorry.
-/
import Derived.Test.YtmckdefijcnhcaaChecked
import GoSem.Claim
import GoSem.ClaimJoined
import GoSem.ClaimMapViews
import Derived.JoinedTies
import Derived.KernelRfl
namespace Go.Proofs.Ytmckdefijcnhcaa
/- THE CELL 'sum', in the pinned program and in every row, IS THE sha256 OF THE DUMP (.gsa) THAT YtmckdefijcnhcaaProg.lean LOADS. Nothing in Lean hashes anything: it is a label: what it is worth is what the hold of that sum in a sandbox is worth. -/
noncomputable def Try.pinned : Pinned := { name := "ytmckdefijcnhcaa", sum := "341639ff39f3c9f4703d522d1f6e449f4d4bd265ea0a0b270b079098cb674a22", checked := Try.checked }
namespace Rows
def none {H : Type} : Left H := { results := [], args := [] }

/-- 'shutterlaw03.ArenaPlays': WHATEVER THE INPUT: true; the input reads as it did. -/
def arenaPlaysSpec : ChangeSpec := { name := "arenaPlays", fn := fun _ => fun
  | [d1, d2, d3] => { results := [.lit (.bool true)], args := [d1, d2, d3] }
  | _ => none }
def arenaPlaysRow : OpenClaim := { program := "ytmckdefijcnhcaa", sum := "341639ff39f3c9f4703d522d1f6e449f4d4bd265ea0a0b270b079098cb674a22", func := "shutter/shutterlaw03.ArenaPlays", spec := "arenaPlays", inPlace := ["sync/atomic.StoreUint64", "sync/atomic.OrUint64"], unfollowed := true, recurses := true, apart := false }
def ArenaPlaysSaid : Prop := arenaPlaysRow.holds Try.pinned (OpenSpec.ofChange arenaPlaysSpec)

/-- ITS FALSE NEIGHBOUR: 'it returns false'. Refute it at one input. -/
def arenaPlaysWrong : ChangeSpec := { name := "arenaPlays", fn := fun _ => fun
  | [d1, d2, d3] => { results := [.lit (.bool false)], args := [d1, d2, d3] }
  | _ => none }
def ArenaPlaysWrongFalsely : Prop := arenaPlaysRow.holds Try.pinned (OpenSpec.ofChange arenaPlaysWrong)

/-- 'shutterlaw03.ArenaViews': WHATEVER THE INPUT: true; the input reads as it did. -/
def arenaViewsSpec : ChangeSpec := { name := "arenaViews", fn := fun _ => fun
  | [d] => { results := [.lit (.bool true)], args := [d] }
  | _ => none }
def arenaViewsRow : OpenClaim := { program := "ytmckdefijcnhcaa", sum := "341639ff39f3c9f4703d522d1f6e449f4d4bd265ea0a0b270b079098cb674a22", func := "shutter/shutterlaw03.ArenaViews", spec := "arenaViews", inPlace := ["sync/atomic.StoreUint64", "sync/atomic.OrUint64"], unfollowed := true, recurses := true, apart := false }
def ArenaViewsSaid : Prop := arenaViewsRow.holds Try.pinned (OpenSpec.ofChange arenaViewsSpec)

/-- ITS FALSE NEIGHBOUR: 'it returns false'. Refute it at one input. -/
def arenaViewsWrong : ChangeSpec := { name := "arenaViews", fn := fun _ => fun
  | [d] => { results := [.lit (.bool false)], args := [d] }
  | _ => none }
def ArenaViewsWrongFalsely : Prop := arenaViewsRow.holds Try.pinned (OpenSpec.ofChange arenaViewsWrong)

/-- 'shutterlaw03.ArenaTraces': WHATEVER THE INPUT: true; the input reads as it did. -/
def arenaTracesSpec : ChangeSpec := { name := "arenaTraces", fn := fun _ => fun
  | [d1, d2] => { results := [.lit (.bool true)], args := [d1, d2] }
  | _ => none }
def arenaTracesRow : OpenClaim := { program := "ytmckdefijcnhcaa", sum := "341639ff39f3c9f4703d522d1f6e449f4d4bd265ea0a0b270b079098cb674a22", func := "shutter/shutterlaw03.ArenaTraces", spec := "arenaTraces", inPlace := ["sync/atomic.StoreUint64", "sync/atomic.OrUint64"], unfollowed := true, recurses := true, apart := false }
def ArenaTracesSaid : Prop := arenaTracesRow.holds Try.pinned (OpenSpec.ofChange arenaTracesSpec)

/-- ITS FALSE NEIGHBOUR: 'it returns false'. Refute it at one input. -/
def arenaTracesWrong : ChangeSpec := { name := "arenaTraces", fn := fun _ => fun
  | [d1, d2] => { results := [.lit (.bool false)], args := [d1, d2] }
  | _ => none }
def ArenaTracesWrongFalsely : Prop := arenaTracesRow.holds Try.pinned (OpenSpec.ofChange arenaTracesWrong)

/-- 'shutterlaw03.ArenaLive': WHATEVER THE INPUT: true; the input reads as it did. -/
def arenaLiveSpec : ChangeSpec := { name := "arenaLive", fn := fun _ => fun
  | [d] => { results := [.lit (.bool true)], args := [d] }
  | _ => none }
def arenaLiveRow : OpenClaim := { program := "ytmckdefijcnhcaa", sum := "341639ff39f3c9f4703d522d1f6e449f4d4bd265ea0a0b270b079098cb674a22", func := "shutter/shutterlaw03.ArenaLive", spec := "arenaLive", inPlace := ["sync/atomic.StoreUint64", "sync/atomic.OrUint64"], unfollowed := true, recurses := true, apart := false }
def ArenaLiveSaid : Prop := arenaLiveRow.holds Try.pinned (OpenSpec.ofChange arenaLiveSpec)

/-- ITS FALSE NEIGHBOUR: 'it returns false'. Refute it at one input. -/
def arenaLiveWrong : ChangeSpec := { name := "arenaLive", fn := fun _ => fun
  | [d] => { results := [.lit (.bool false)], args := [d] }
  | _ => none }
def ArenaLiveWrongFalsely : Prop := arenaLiveRow.holds Try.pinned (OpenSpec.ofChange arenaLiveWrong)

/-- 'shutterlaw03.ArenaNone': WHATEVER THE INPUT: true; the input reads as it did. -/
def arenaNoneSpec : ChangeSpec := { name := "arenaNone", fn := fun _ => fun
  | [d] => { results := [.lit (.bool true)], args := [d] }
  | _ => none }
def arenaNoneRow : OpenClaim := { program := "ytmckdefijcnhcaa", sum := "341639ff39f3c9f4703d522d1f6e449f4d4bd265ea0a0b270b079098cb674a22", func := "shutter/shutterlaw03.ArenaNone", spec := "arenaNone", inPlace := ["sync/atomic.StoreUint64", "sync/atomic.OrUint64"], unfollowed := true, recurses := true, apart := false }
def ArenaNoneSaid : Prop := arenaNoneRow.holds Try.pinned (OpenSpec.ofChange arenaNoneSpec)

/-- ITS FALSE NEIGHBOUR: 'it returns false'. Refute it at one input. -/
def arenaNoneWrong : ChangeSpec := { name := "arenaNone", fn := fun _ => fun
  | [d] => { results := [.lit (.bool false)], args := [d] }
  | _ => none }
def ArenaNoneWrongFalsely : Prop := arenaNoneRow.holds Try.pinned (OpenSpec.ofChange arenaNoneWrong)

/-- 'shutterlaw03.ArenaOwn': WHATEVER THE INPUT: true; the input reads as it did. -/
def arenaOwnSpec : ChangeSpec := { name := "arenaOwn", fn := fun _ => fun
  | [d] => { results := [.lit (.bool true)], args := [d] }
  | _ => none }
def arenaOwnRow : OpenClaim := { program := "ytmckdefijcnhcaa", sum := "341639ff39f3c9f4703d522d1f6e449f4d4bd265ea0a0b270b079098cb674a22", func := "shutter/shutterlaw03.ArenaOwn", spec := "arenaOwn", inPlace := ["sync/atomic.StoreUint64", "sync/atomic.OrUint64"], unfollowed := true, recurses := true, apart := false }
def ArenaOwnSaid : Prop := arenaOwnRow.holds Try.pinned (OpenSpec.ofChange arenaOwnSpec)

/-- ITS FALSE NEIGHBOUR: 'it returns false'. Refute it at one input. -/
def arenaOwnWrong : ChangeSpec := { name := "arenaOwn", fn := fun _ => fun
  | [d] => { results := [.lit (.bool false)], args := [d] }
  | _ => none }
def ArenaOwnWrongFalsely : Prop := arenaOwnRow.holds Try.pinned (OpenSpec.ofChange arenaOwnWrong)

/- THE SECOND FORM. 'bulk': how many values and letters a reading holds, each counted each time it is reached (what is shared counts as often as it is met; a slice's spare places count too). A statement '..UptoSaid' is the law's where the arguments, and the package variables that the reading takes, are together of bulk at most 1048576: NARROWER than '..Said'. Prove '..Said' where nothing that the law and all that it calls make is longer than what came in: it says more and counts as full. Else prove '..UptoSaid'. A law counts once. -/
mutual
def uptoBulk {H : Type} : DataW H → Nat
  | .lit (.string bytes) => bytes.length + 1
  | .lit _ => 1
  | .nil => 1
  | .ptr d => uptoBulk d + 1
  | .slice elems spare => uptoBulkAll elems + uptoBulkAll spare + 1
  | .agg parts => uptoBulkAll parts + 1
  | .iface _ d => uptoBulk d + 1
  | .map entries => uptoBulkEntries entries + 1
  | .held _ => 1
def uptoBulkAll {H : Type} : List (DataW H) → Nat
  | [] => 0
  | d :: r => uptoBulk d + uptoBulkAll r
def uptoBulkEntries {H : Type} : List (Lit × DataW H) → Nat
  | [] => 0
  | x :: r => uptoBulkEntry x + uptoBulkEntries r
def uptoBulkEntry {H : Type} : Lit × DataW H → Nat
  | (.string bytes, d) => bytes.length + uptoBulk d + 1
  | (_, d) => uptoBulk d + 1
 end
def uptoSmall : (H : Type) → List (DataW H) → Bool := fun _ ds => decide (uptoBulkAll ds ≤ 1048576)
def OpenSpec.upto (s : _root_.Go.ChangeSpec) : _root_.Go.OpenSpec := { _root_.Go.OpenSpec.ofChange s with cond := some uptoSmall }

/-- 'shutterlaw03.ArenaPlays', WHERE WHAT IT READS IS OF BULK AT MOST 1048576: true; the input reads as it did. -/
def arenaPlaysUptoRow : OpenClaim := { program := "ytmckdefijcnhcaa", sum := "341639ff39f3c9f4703d522d1f6e449f4d4bd265ea0a0b270b079098cb674a22", func := "shutter/shutterlaw03.ArenaPlays", spec := "arenaPlays", inPlace := ["sync/atomic.StoreUint64", "sync/atomic.OrUint64"], unfollowed := true, recurses := true, apart := false, narrowed := true }
def ArenaPlaysUptoSaid : Prop := arenaPlaysUptoRow.holds Try.pinned (OpenSpec.upto arenaPlaysSpec)

/-- 'shutterlaw03.ArenaViews', WHERE WHAT IT READS IS OF BULK AT MOST 1048576: true; the input reads as it did. -/
def arenaViewsUptoRow : OpenClaim := { program := "ytmckdefijcnhcaa", sum := "341639ff39f3c9f4703d522d1f6e449f4d4bd265ea0a0b270b079098cb674a22", func := "shutter/shutterlaw03.ArenaViews", spec := "arenaViews", inPlace := ["sync/atomic.StoreUint64", "sync/atomic.OrUint64"], unfollowed := true, recurses := true, apart := false, narrowed := true }
def ArenaViewsUptoSaid : Prop := arenaViewsUptoRow.holds Try.pinned (OpenSpec.upto arenaViewsSpec)

/-- 'shutterlaw03.ArenaTraces', WHERE WHAT IT READS IS OF BULK AT MOST 1048576: true; the input reads as it did. -/
def arenaTracesUptoRow : OpenClaim := { program := "ytmckdefijcnhcaa", sum := "341639ff39f3c9f4703d522d1f6e449f4d4bd265ea0a0b270b079098cb674a22", func := "shutter/shutterlaw03.ArenaTraces", spec := "arenaTraces", inPlace := ["sync/atomic.StoreUint64", "sync/atomic.OrUint64"], unfollowed := true, recurses := true, apart := false, narrowed := true }
def ArenaTracesUptoSaid : Prop := arenaTracesUptoRow.holds Try.pinned (OpenSpec.upto arenaTracesSpec)

/-- 'shutterlaw03.ArenaLive', WHERE WHAT IT READS IS OF BULK AT MOST 1048576: true; the input reads as it did. -/
def arenaLiveUptoRow : OpenClaim := { program := "ytmckdefijcnhcaa", sum := "341639ff39f3c9f4703d522d1f6e449f4d4bd265ea0a0b270b079098cb674a22", func := "shutter/shutterlaw03.ArenaLive", spec := "arenaLive", inPlace := ["sync/atomic.StoreUint64", "sync/atomic.OrUint64"], unfollowed := true, recurses := true, apart := false, narrowed := true }
def ArenaLiveUptoSaid : Prop := arenaLiveUptoRow.holds Try.pinned (OpenSpec.upto arenaLiveSpec)

/-- 'shutterlaw03.ArenaNone', WHERE WHAT IT READS IS OF BULK AT MOST 1048576: true; the input reads as it did. -/
def arenaNoneUptoRow : OpenClaim := { program := "ytmckdefijcnhcaa", sum := "341639ff39f3c9f4703d522d1f6e449f4d4bd265ea0a0b270b079098cb674a22", func := "shutter/shutterlaw03.ArenaNone", spec := "arenaNone", inPlace := ["sync/atomic.StoreUint64", "sync/atomic.OrUint64"], unfollowed := true, recurses := true, apart := false, narrowed := true }
def ArenaNoneUptoSaid : Prop := arenaNoneUptoRow.holds Try.pinned (OpenSpec.upto arenaNoneSpec)

/-- 'shutterlaw03.ArenaOwn', WHERE WHAT IT READS IS OF BULK AT MOST 1048576: true; the input reads as it did. -/
def arenaOwnUptoRow : OpenClaim := { program := "ytmckdefijcnhcaa", sum := "341639ff39f3c9f4703d522d1f6e449f4d4bd265ea0a0b270b079098cb674a22", func := "shutter/shutterlaw03.ArenaOwn", spec := "arenaOwn", inPlace := ["sync/atomic.StoreUint64", "sync/atomic.OrUint64"], unfollowed := true, recurses := true, apart := false, narrowed := true }
def ArenaOwnUptoSaid : Prop := arenaOwnUptoRow.holds Try.pinned (OpenSpec.upto arenaOwnSpec)

end Rows
end Go.Proofs.Ytmckdefijcnhcaa
