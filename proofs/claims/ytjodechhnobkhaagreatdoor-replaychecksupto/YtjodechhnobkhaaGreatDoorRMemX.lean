/- The document's memory: Add. -/
import Derived.Test.YtjodechhnobkhaaGreatDoorRMemB
namespace Go.Proofs.YtjodechhnobkhaaGreatDoor
open Go.RowKit Go.Shelf
set_option linter.unusedVariables false

set_option maxRecDepth 100000 in
theorem r_add (nm sz next addr n : Nat) (th : Int) (R : Nat → Prop) (cs : List Nat) (l : List Acc) (W : World) (h : RMem W R nm sz next cs l) (hl : l.length < 1099511627776) (ha : addr < 18446744073709551616) :
    Calls Tryz.prog 64 #[.pointer (some ⟨nm, 0, none⟩), .int .i64 th, .int .u64 (addr : Int), .int .u64 (n : Int)] W fun e W' => e = .returned (.int .u64 (cellN cs addr : Int)) ∧ ∃ R', RMem W' R' nm sz next (stN sz cs addr (addN (cellN cs addr) n)) (l ++ [⟨th, 4, addr, n, 0, .slice none 0 0, [], cellN cs addr, false⟩]) ∧ Goes W W' R R' := by
  have H := keepH h
  clear h
  obtain ⟨x, hx⟩ : ∃ x, x = cellN cs addr := ⟨_, rfl⟩
  obtain ⟨s, hs⟩ : ∃ s, s = addN x n := ⟨_, rfl⟩
  have w1 : IntKind.u64.wrap ((x : Int) + (n : Int)) = (s : Int) := by rw [hs, IntKind.wrap_u64]; unfold addN; omega
  have HP := keepH (r_peek nm sz next addr R cs l W H.out ha)
  have HS := keepH (r_set nm sz next addr s R cs l W H.out ha (by rw [hs]; unfold addN; omega))
  rw [← hx] at HP
  rw [← hx, ← hs]
  clear hx hs
  go_enter Tryz.func64, Tryz.ntmps64
  go_wp2_with fail
  refine HP.out.mono ?_
  rintro e w2 ⟨rfl, rfl⟩
  go_wp2_with fail
  refine HS.out.mono ?_
  rintro e w3 ⟨rfl, M1, G1⟩
  have HM1 := keepH M1
  have HG1 := keepH G1
  clear M1 G1
  go_wp2_with fail
  refine (r_note nm sz next th 4 addr n 0 x false R _ l _ HM1.out hl).mono ?_
  rintro e w4 ⟨rfl, R2, M2, G2⟩
  have HM2 := keepH M2
  have HG2 := keepH (HG1.out.trans G2)
  clear M2 G2
  go_wp2_with fail
  go_ret
  exact ⟨by simp, R2, HM2.out, HG2.out⟩
end Go.Proofs.YtjodechhnobkhaaGreatDoor
