/- The model's maps that are known: looks and stores; what a copy of one is; New, holds. -/
import Derived.Test.YtbmfjcdafjknaabMsA
import Derived.Maps.Keyed
import Derived.Shelf.SlMaps.Clone
import Derived.Deep.RegionHeld3
import Derived.Deep.MidRow
namespace Go.Proofs.Ytbmfjcdafjknaab
open Go.RowKit
set_option linter.unusedVariables false

theorem ck_u (k : Int) (em : Bool) (w : World) : (Instr.checkKey em 10000 57 (.int .u64 k)).run Try.prog w = .ok () w := by kernel_rfl
theorem fk_u0 (x : Value) (w : World) : (Instr.findKey 57 x []).run Try.prog w = .ok none w := by kernel_rfl
theorem fk_7 (v : Value) (b : Nat) (w : World) : (Instr.findKey 57 (.int .u64 7) [⟨.int .u64 7, v, b⟩]).run Try.prog w = .ok (some (0, v)) w := by kernel_rfl
theorem fk_5 (v : Value) (b : Nat) (w : World) : (Instr.findKey 57 (.int .u64 5) [⟨.int .u64 5, v, b⟩]).run Try.prog w = .ok (some (0, v)) w := by kernel_rfl
theorem ks_7 (w : World) : (Instr.keyThatStays (.int .u64 7) (.int .u64 7)).run Try.prog w = .ok (.int .u64 7) w := by kernel_rfl
theorem setBlock_at {w : World} {b : Nat} {o : Obj} (hb : w.heap[b]? = some o) (o' : Obj) : (ChangeMaps.setBlock w b o').heap[b]? = some o' := by
  show (w.heap.setIfInBounds b o')[b]? = some o'
  rw [Array.getElem?_setIfInBounds_self_of_lt (Array.getElem?_eq_some_iff.1 hb).1]
theorem setBlock_chg {w : World} {b : Nat} {o : Obj} (hb : w.heap[b]? = some o) (o' : Obj) : Chg (fun k => k = b) w (ChangeMaps.setBlock w b o') :=
  ⟨rfl, rfl, rfl, by simp [ChangeMaps.setBlock], fun k _ hn => by
    show (w.heap.setIfInBounds b o')[k]? = w.heap[k]?
    rw [Array.getElem?_setIfInBounds_ne (fun e => hn e.symm)]⟩
end Go.Proofs.Ytbmfjcdafjknaab
