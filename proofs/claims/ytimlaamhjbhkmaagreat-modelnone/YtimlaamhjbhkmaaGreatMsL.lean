/- The model's maps that are known: looks and stores; what a copy of one is; New, holds. -/
import Derived.Test.YtimlaamhjbhkmaaGreatMsA
import Derived.Maps.Keyed
import Derived.Shelf.SlMaps.Clone
import Derived.Deep.RegionHeld3
import Derived.Deep.MidRow
namespace Go.Proofs.YtimlaamhjbhkmaaGreat
open Go.RowKit
set_option linter.unusedVariables false

theorem ck_u (k : Int) (em : Bool) (w : World) : (Instr.checkKey em 10000 31 (.int .u64 k)).run Tryz.prog w = .ok () w := by kernel_rfl
theorem fk_u0 (x : Value) (w : World) : (Instr.findKey 31 x []).run Tryz.prog w = .ok none w := by kernel_rfl
theorem fk_7 (v : Value) (b : Nat) (w : World) : (Instr.findKey 31 (.int .u64 7) [⟨.int .u64 7, v, b⟩]).run Tryz.prog w = .ok (some (0, v)) w := by kernel_rfl
theorem fk_5 (v : Value) (b : Nat) (w : World) : (Instr.findKey 31 (.int .u64 5) [⟨.int .u64 5, v, b⟩]).run Tryz.prog w = .ok (some (0, v)) w := by kernel_rfl
theorem ks_7 (w : World) : (Instr.keyThatStays (.int .u64 7) (.int .u64 7)).run Tryz.prog w = .ok (.int .u64 7) w := by kernel_rfl
theorem now_0 {w : World} {b : Nat} (hb : w.heap[b]? = some (.map #[] 0)) : (Instr.lookup 62 (.map (some b)) (.int .u64 7) true).run Tryz.prog w = .ok (.tuple #[.int .u64 0, .bool false]) w := by
  simp [Instr.lookup, run_underlying Tryz.underlying62, MapKept.run_getObj_map hb, ck_u, fk_u0, Result.andThen, show (zeroValue 31).run Tryz.prog w = .ok (.int .u64 0) w by kernel_rfl]
theorem now_1 {w : World} {b c : Nat} {x : Int} (hb : w.heap[b]? = some (.map #[⟨.int .u64 7, .int .u64 x, 0⟩] c)) : (Instr.lookup 62 (.map (some b)) (.int .u64 7) true).run Tryz.prog w = .ok (.tuple #[.int .u64 x, .bool true]) w := by
  simp [Instr.lookup, run_underlying Tryz.underlying62, MapKept.run_getObj_map hb, ck_u, fk_7, Result.andThen]
theorem held_0 {w : World} {b : Nat} (hb : w.heap[b]? = some (.map #[] 0)) : (Instr.lookup 63 (.map (some b)) (.int .u64 5) true).run Tryz.prog w = .ok (.tuple #[.map none, .bool false]) w := by
  simp [Instr.lookup, run_underlying Tryz.underlying63, MapKept.run_getObj_map hb, ck_u, fk_u0, Result.andThen, show (zeroValue 62).run Tryz.prog w = .ok (.map none) w by kernel_rfl]
theorem held_1 {w : World} {b c : Nat} {v : Value} (hb : w.heap[b]? = some (.map #[⟨.int .u64 5, v, 0⟩] c)) : (Instr.lookup 63 (.map (some b)) (.int .u64 5) true).run Tryz.prog w = .ok (.tuple #[v, .bool true]) w := by
  simp [Instr.lookup, run_underlying Tryz.underlying63, MapKept.run_getObj_map hb, ck_u, fk_5, Result.andThen]
theorem held_2 {w : World} {b c : Nat} {v : Value} (hb : w.heap[b]? = some (.map #[⟨.int .u64 5, v, 0⟩] c)) : (Instr.lookup 63 (.map (some b)) (.int .u64 5) false).run Tryz.prog w = .ok v w := by
  simp [Instr.lookup, run_underlying Tryz.underlying63, MapKept.run_getObj_map hb, ck_u, fk_5, Result.andThen]
theorem put_0 {w : World} {b : Nat} (hb : w.heap[b]? = some (.map #[] 0)) (x : Int) : (Instr.mapUpdate 62 (.map (some b)) (.int .u64 7) (.int .u64 x)).run Tryz.prog w = .ok () (ChangeMaps.setBlock w b (.map #[⟨.int .u64 7, .int .u64 x, 0⟩] 1)) := by
  simp [Instr.mapUpdate, run_underlying Tryz.underlying62, MapKept.run_getObj_map hb, ck_u, fk_u0, MapKept.run_setObj_map _ hb, Result.andThen, ChangeMaps.setBlock]
theorem put_1 {w : World} {b c : Nat} {y : Int} (hb : w.heap[b]? = some (.map #[⟨.int .u64 7, .int .u64 y, 0⟩] c)) (x : Int) : (Instr.mapUpdate 62 (.map (some b)) (.int .u64 7) (.int .u64 x)).run Tryz.prog w = .ok () (ChangeMaps.setBlock w b (.map #[⟨.int .u64 7, .int .u64 x, 0⟩] c)) := by
  simp [Instr.mapUpdate, run_underlying Tryz.underlying62, MapKept.run_getObj_map hb, ck_u, fk_7, ks_7, MapKept.run_setObj_map _ hb, Result.andThen, ChangeMaps.setBlock]
theorem hold_0 {w : World} {b : Nat} (hb : w.heap[b]? = some (.map #[] 0)) (v : Value) : (Instr.mapUpdate 63 (.map (some b)) (.int .u64 5) v).run Tryz.prog w = .ok () (ChangeMaps.setBlock w b (.map #[⟨.int .u64 5, v, 0⟩] 1)) := by
  simp [Instr.mapUpdate, run_underlying Tryz.underlying63, MapKept.run_getObj_map hb, ck_u, fk_u0, MapKept.run_setObj_map _ hb, Result.andThen, ChangeMaps.setBlock]
theorem setBlock_at {w : World} {b : Nat} {o : Obj} (hb : w.heap[b]? = some o) (o' : Obj) : (ChangeMaps.setBlock w b o').heap[b]? = some o' := by
  show (w.heap.setIfInBounds b o')[b]? = some o'
  rw [Array.getElem?_setIfInBounds_self_of_lt (Array.getElem?_eq_some_iff.1 hb).1]
theorem setBlock_chg {w : World} {b : Nat} {o : Obj} (hb : w.heap[b]? = some o) (o' : Obj) : Chg (fun k => k = b) w (ChangeMaps.setBlock w b o') :=
  ⟨rfl, rfl, rfl, by simp [ChangeMaps.setBlock], fun k _ hn => by
    show (w.heap.setIfInBounds b o')[k]? = w.heap[k]?
    rw [Array.getElem?_setIfInBounds_ne (fun e => hn e.symm)]⟩
set_option maxRecDepth 100000 in
set_option maxHeartbeats 1000000 in
theorem clone_any {W : World} {b : Nat} {es : Array MapEntry} {c : Nat} (hb : W.heap[b]? = some (.map es c)) : Calls Tryz.prog 27 #[.map (some b)] W fun e W' => e = .returned (.map (some W.heap.size)) ∧ W' = W.alloc (.map es c) := by
  have hq := fun w => run_eql_map_nil_sl (P := Tryz.prog) w 62 _ _ (some b) Tryz.underlying62
  have hcl : (callFunc 55 #[.iface 62 (.map (some b))]).run Tryz.prog W = .ok (.value (.iface 62 (.map (some W.heap.size)))) (W.alloc (.map es c)) := by
    rw [run_callFunc_extern Tryz.func55 (by kernel_rfl) (by kernel_rfl) (by kernel_rfl) (e := Extern.MapsClone.clone) (by kernel_rfl), run_maps_clone_sl W 62 hb]
    rfl
  have hta := run_typeAssert_map_sl (P := Tryz.prog) (W.alloc (.map es c)) 62 20 _ _ (.map (some W.heap.size)) Tryz.underlying62
  clear hb
  go_enter Tryz.func27, Tryz.ntmps27
  go_wp2_with fail
  go_ret
  exact ⟨by simp, rfl⟩
set_option maxRecDepth 100000 in
theorem holds_any {W : World} {m : Nat} {v : Value} {n : Value} {h : Nat} (hm : W.heap[m]? = some (.cells #[.int .i64 4, n, .map (some h)] 65 (0, 0))) (r : Bool) (y : Value) (hlk : (Instr.lookup 63 (.map (some h)) (.int .u64 5) true).run Tryz.prog W = .ok (.tuple #[y, .bool r]) W) :
    Calls Tryz.prog 33 #[.pointer (some ⟨m, 0, none⟩), .int .u64 5] W fun e W' => e = .returned (.bool r) ∧ W' = W := by
  have c2 : W.cell? ⟨m, 2, none⟩ = some (.map (some h)) := cell_of hm 2
  clear hm
  go_enter Tryz.func33, Tryz.ntmps33
  go_wp2_with fail
  go_ret
  exact ⟨by simp, rfl⟩
set_option maxRecDepth 100000 in
theorem new_4 (W : World) : Calls Tryz.prog 6 #[.int .i64 4] W fun e W' => e = .returned (.tuple #[.pointer (some ⟨W.heap.size + 2, 0, none⟩), .int .i64 0]) ∧ W' = ((W.alloc (.map #[] 0)).alloc (.map #[] 0)).alloc (.cells #[.int .i64 4, .map (some W.heap.size), .map (some (W.heap.size + 1))] 65) := by
  have hmm := @run_makeMap Tryz.prog
  go_enter Tryz.func6, Tryz.ntmps6
  go_wp2_with fail
  go_ret2
  exact ⟨by simp, by simp⟩
end Go.Proofs.YtimlaamhjbhkmaaGreat
