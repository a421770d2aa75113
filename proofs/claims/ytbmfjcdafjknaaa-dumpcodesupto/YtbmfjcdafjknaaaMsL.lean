/- The model's maps that are known: looks and stores; what a copy of one is; New, holds. -/
import Derived.Test.YtbmfjcdafjknaaaMsA
import Derived.Maps.Keyed
import Derived.Shelf.SlMaps.Clone
import Derived.Deep.RegionHeld3
import Derived.Deep.MidRow
namespace Go.Proofs.Ytbmfjcdafjknaaa
open Go.RowKit
set_option linter.unusedVariables false

theorem ck_u (k : Int) (em : Bool) (w : World) : (Instr.checkKey em 10000 57 (.int .u64 k)).run Try.prog w = .ok () w := by kernel_rfl
theorem fk_u0 (x : Value) (w : World) : (Instr.findKey 57 x []).run Try.prog w = .ok none w := by kernel_rfl
theorem fk_7 (v : Value) (b : Nat) (w : World) : (Instr.findKey 57 (.int .u64 7) [⟨.int .u64 7, v, b⟩]).run Try.prog w = .ok (some (0, v)) w := by kernel_rfl
theorem fk_5 (v : Value) (b : Nat) (w : World) : (Instr.findKey 57 (.int .u64 5) [⟨.int .u64 5, v, b⟩]).run Try.prog w = .ok (some (0, v)) w := by kernel_rfl
theorem ks_7 (w : World) : (Instr.keyThatStays (.int .u64 7) (.int .u64 7)).run Try.prog w = .ok (.int .u64 7) w := by kernel_rfl
theorem now_0 {w : World} {b : Nat} (hb : w.heap[b]? = some (.map #[] 0)) : (Instr.lookup 105 (.map (some b)) (.int .u64 7) true).run Try.prog w = .ok (.tuple #[.int .u64 0, .bool false]) w := by
  simp [Instr.lookup, run_underlying Try.underlying105, MapKept.run_getObj_map hb, ck_u, fk_u0, Result.andThen, show (zeroValue 57).run Try.prog w = .ok (.int .u64 0) w by kernel_rfl]
theorem now_1 {w : World} {b c : Nat} {x : Int} (hb : w.heap[b]? = some (.map #[⟨.int .u64 7, .int .u64 x, 0⟩] c)) : (Instr.lookup 105 (.map (some b)) (.int .u64 7) true).run Try.prog w = .ok (.tuple #[.int .u64 x, .bool true]) w := by
  simp [Instr.lookup, run_underlying Try.underlying105, MapKept.run_getObj_map hb, ck_u, fk_7, Result.andThen]
theorem held_0 {w : World} {b : Nat} (hb : w.heap[b]? = some (.map #[] 0)) : (Instr.lookup 106 (.map (some b)) (.int .u64 5) true).run Try.prog w = .ok (.tuple #[.map none, .bool false]) w := by
  simp [Instr.lookup, run_underlying Try.underlying106, MapKept.run_getObj_map hb, ck_u, fk_u0, Result.andThen, show (zeroValue 105).run Try.prog w = .ok (.map none) w by kernel_rfl]
theorem held_1 {w : World} {b c : Nat} {v : Value} (hb : w.heap[b]? = some (.map #[⟨.int .u64 5, v, 0⟩] c)) : (Instr.lookup 106 (.map (some b)) (.int .u64 5) true).run Try.prog w = .ok (.tuple #[v, .bool true]) w := by
  simp [Instr.lookup, run_underlying Try.underlying106, MapKept.run_getObj_map hb, ck_u, fk_5, Result.andThen]
theorem held_2 {w : World} {b c : Nat} {v : Value} (hb : w.heap[b]? = some (.map #[⟨.int .u64 5, v, 0⟩] c)) : (Instr.lookup 106 (.map (some b)) (.int .u64 5) false).run Try.prog w = .ok v w := by
  simp [Instr.lookup, run_underlying Try.underlying106, MapKept.run_getObj_map hb, ck_u, fk_5, Result.andThen]
theorem put_0 {w : World} {b : Nat} (hb : w.heap[b]? = some (.map #[] 0)) (x : Int) : (Instr.mapUpdate 105 (.map (some b)) (.int .u64 7) (.int .u64 x)).run Try.prog w = .ok () (ChangeMaps.setBlock w b (.map #[⟨.int .u64 7, .int .u64 x, 0⟩] 1)) := by
  simp [Instr.mapUpdate, run_underlying Try.underlying105, MapKept.run_getObj_map hb, ck_u, fk_u0, MapKept.run_setObj_map _ hb, Result.andThen, ChangeMaps.setBlock]
theorem put_1 {w : World} {b c : Nat} {y : Int} (hb : w.heap[b]? = some (.map #[⟨.int .u64 7, .int .u64 y, 0⟩] c)) (x : Int) : (Instr.mapUpdate 105 (.map (some b)) (.int .u64 7) (.int .u64 x)).run Try.prog w = .ok () (ChangeMaps.setBlock w b (.map #[⟨.int .u64 7, .int .u64 x, 0⟩] c)) := by
  simp [Instr.mapUpdate, run_underlying Try.underlying105, MapKept.run_getObj_map hb, ck_u, fk_7, ks_7, MapKept.run_setObj_map _ hb, Result.andThen, ChangeMaps.setBlock]
theorem hold_0 {w : World} {b : Nat} (hb : w.heap[b]? = some (.map #[] 0)) (v : Value) : (Instr.mapUpdate 106 (.map (some b)) (.int .u64 5) v).run Try.prog w = .ok () (ChangeMaps.setBlock w b (.map #[⟨.int .u64 5, v, 0⟩] 1)) := by
  simp [Instr.mapUpdate, run_underlying Try.underlying106, MapKept.run_getObj_map hb, ck_u, fk_u0, MapKept.run_setObj_map _ hb, Result.andThen, ChangeMaps.setBlock]
theorem setBlock_at {w : World} {b : Nat} {o : Obj} (hb : w.heap[b]? = some o) (o' : Obj) : (ChangeMaps.setBlock w b o').heap[b]? = some o' := by
  show (w.heap.setIfInBounds b o')[b]? = some o'
  rw [Array.getElem?_setIfInBounds_self_of_lt (Array.getElem?_eq_some_iff.1 hb).1]
theorem setBlock_chg {w : World} {b : Nat} {o : Obj} (hb : w.heap[b]? = some o) (o' : Obj) : Chg (fun k => k = b) w (ChangeMaps.setBlock w b o') :=
  ⟨rfl, rfl, rfl, by simp [ChangeMaps.setBlock], fun k _ hn => by
    show (w.heap.setIfInBounds b o')[k]? = w.heap[k]?
    rw [Array.getElem?_setIfInBounds_ne (fun e => hn e.symm)]⟩
set_option maxRecDepth 100000 in
theorem holds_any {W : World} {m : Nat} {v : Value} {n : Value} {h : Nat} (hm : W.heap[m]? = some (.cells #[.int .i64 4, n, .map (some h)] 108 (0, 0))) (r : Bool) (y : Value) (hlk : (Instr.lookup 106 (.map (some h)) (.int .u64 5) true).run Try.prog W = .ok (.tuple #[y, .bool r]) W) :
    Calls Try.prog 68 #[.pointer (some ⟨m, 0, none⟩), .int .u64 5] W fun e W' => e = .returned (.bool r) ∧ W' = W := by
  have c2 : W.cell? ⟨m, 2, none⟩ = some (.map (some h)) := cell_of hm 2
  clear hm
  go_enter Try.func68, Try.ntmps68
  go_wp2_with fail
  go_ret
  exact ⟨by simp, rfl⟩
set_option maxRecDepth 100000 in
theorem new_4 (W : World) : Calls Try.prog 32 #[.int .i64 4] W fun e W' => e = .returned (.tuple #[.pointer (some ⟨W.heap.size + 2, 0, none⟩), .int .i64 0]) ∧ W' = ((W.alloc (.map #[] 0)).alloc (.map #[] 0)).alloc (.cells #[.int .i64 4, .map (some W.heap.size), .map (some (W.heap.size + 1))] 108) := by
  have hmm := @run_makeMap Try.prog
  go_enter Try.func32, Try.ntmps32
  go_wp2_with fail
  go_ret2
  exact ⟨by simp, by simp⟩
end Go.Proofs.Ytbmfjcdafjknaaa
