/- The trie's Pairs of no memory. -/
import Derived.Test.YtokooplfjibneaaGreatTo
import Derived.Maps.Keyed
namespace Go.Proofs.YtokooplfjibneaaGreat
open Go.RowKit Go.Shelf
set_option linter.unusedVariables false

theorem ck_visit (a l : Int) (em : Bool) (w : World) : (Instr.checkKey em 10000 98 (.agg #[.int .u64 a, .int .i64 l])).run Tryz.prog w = .ok () w := by kernel_rfl
theorem fk_none (x : Value) (w : World) : (Instr.findKey 98 x []).run Tryz.prog w = .ok none w := by kernel_rfl
theorem zero_unit (w : World) : (zeroValue 99).run Tryz.prog w = .ok (.agg #[]) w := by kernel_rfl
theorem lk_empty {w : World} {b : Nat} (hb : w.heap[b]? = some (.map #[] 0)) (a l : Int) : (Instr.lookup 71 (.map (some b)) (.agg #[.int .u64 a, .int .i64 l]) true).run Tryz.prog w = .ok (.tuple #[.agg #[], .bool false]) w := by
  simp [Instr.lookup, run_underlying Tryz.underlying71, MapKept.run_getObj_map hb, ck_visit, fk_none, Result.andThen]
theorem up_empty {w : World} {b : Nat} (hb : w.heap[b]? = some (.map #[] 0)) (a l : Int) : ∃ es c, (Instr.mapUpdate 71 (.map (some b)) (.agg #[.int .u64 a, .int .i64 l]) (.agg #[])).run Tryz.prog w = .ok () (ChangeMaps.setBlock w b (.map es c)) := by
  refine ⟨#[⟨.agg #[.int .u64 a, .int .i64 l], .agg #[], 0⟩], 1, ?_⟩
  simp [Instr.mapUpdate, run_underlying Tryz.underlying71, MapKept.run_getObj_map hb, ck_visit, fk_none, MapKept.run_setObj_map _ hb, Result.andThen, ChangeMaps.setBlock]
set_option maxRecDepth 100000 in
theorem g_value_nil {W : World} {g : Nat} {l : List Value} (hg : Blk W g 73 l) (h0 : l[0]? = some (.pointer none)) (a : Int) : Calls Tryz.prog 41 #[.pointer (some ⟨g, 0, none⟩), .int .u64 a] W fun e W' => e = .returned (.int .u64 0) ∧ W' = W := by
  have c0 : W.cell? ⟨g, 0, none⟩ = some (.pointer none) := (hg.cell 0).trans h0
  clear hg h0
  go_enter Tryz.func41, Tryz.ntmps41
  go_wp2_with fail
  refine (nil_mpeek a _).mono ?_
  rintro e w1 ⟨rfl, rfl⟩
  go_wp2_with fail
  go_ret
  exact ⟨by simp, rfl⟩
set_option maxRecDepth 100000 in
theorem ins_nil (c : Value) (W : World) : Calls Tryz.prog 71 #[.slice none 0 0, .int .i64 0, .int .i64 0, c] W fun e W' => e = .returned (.tuple #[]) ∧ W' = W := by
  go_enter Tryz.func71, Tryz.ntmps71
  go_wp2_with fail
  refine wp_loop_rounds 1 ?_
  rw [rounds_succ]
  go_wp2_with fail
  go_end0
  exact ⟨rfl, rfl⟩
set_option maxRecDepth 100000 in
theorem stable_nil (c : Value) (W : World) : Calls Tryz.prog 56 #[.slice none 0 0, .int .i64 0, c] W fun e W' => e = .returned (.tuple #[]) ∧ W' = W := by
  go_enter Tryz.func56, Tryz.ntmps56
  go_wp2_with fail
  refine wp_loop_rounds 1 ?_
  rw [rounds_succ]
  go_wp2_with fail
  refine (ins_nil c _).mono ?_
  rintro e w1 ⟨rfl, rfl⟩
  go_wp2_with fail
  refine wp_loop_rounds 1 ?_
  rw [rounds_succ]
  go_wp2_with fail
  go_end0
  exact ⟨rfl, rfl⟩
set_option maxRecDepth 100000 in
theorem sort_nil (c : Value) (W : World) : Calls Tryz.prog 43 #[.slice none 0 0, c] W fun e W' => e = .returned (.tuple #[]) ∧ W' = W := by
  go_enter Tryz.func43, Tryz.ntmps43
  go_wp2_with fail
  refine (stable_nil c _).mono ?_
  rintro e w1 ⟨rfl, rfl⟩
  go_wp2_with fail
  go_end0
  exact ⟨rfl, rfl⟩
set_option maxRecDepth 100000 in
theorem compact_nil (c : Value) (W : World) : Calls Tryz.prog 46 #[.slice none 0 0, c] W fun e W' => e = .returned (.slice none 0 0) ∧ W' = W := by
  go_enter Tryz.func46, Tryz.ntmps46
  go_wp2_with fail
  go_ret
  exact ⟨by simp, rfl⟩
set_option maxRecDepth 100000 in
theorem first_nil (W : World) : Calls Tryz.prog 30 #[.slice none 0 0] W fun e W' => e = .returned (.slice none 0 0) ∧ W' = W := by
  go_enter Tryz.func30, Tryz.ntmps30
  go_wp2_with fail
  refine (sort_nil _ _).mono ?_
  rintro e w1 ⟨rfl, rfl⟩
  go_wp2_with fail
  refine (compact_nil _ _).mono ?_
  rintro e w1 ⟨rfl, rfl⟩
  go_wp2_with fail
  go_ret
  exact ⟨by simp, rfl⟩
theorem setBlock_chg {w : World} {b : Nat} {o : Obj} (hb : w.heap[b]? = some o) (o' : Obj) : Chg (fun k => k = b) w (ChangeMaps.setBlock w b o') :=
  ⟨rfl, rfl, rfl, by simp [ChangeMaps.setBlock], fun k _ hn => by
    show (w.heap.setIfInBounds b o')[k]? = w.heap[k]?
    rw [Array.getElem?_setIfInBounds_ne (fun e => hn e.symm)]⟩
set_option maxRecDepth 100000 in
set_option maxHeartbeats 4000000 in
theorem branch_nil {W : World} {g B : Nat} (hg : Blk W g 73 [.pointer none, .map (some B), .slice none 0 0]) (hB : W.heap[B]? = some (.map #[] 0)) (hgB : g ≠ B) (a : Nat) :
    Calls Tryz.prog 29 #[.pointer (some ⟨g, 0, none⟩), .int .u64 (a : Int), .int .i64 0] W fun e W' => e = .returned (.tuple #[]) ∧ Blk W' g 73 [.pointer none, .map (some B), .slice none 0 0] ∧ Chg (fun k => k = B) W W' := by
  obtain ⟨w0, hw0⟩ : ∃ w0, w0 = W.alloc (.cells #[.int .u64 (a : Int), .int .i64 0] 98) := ⟨_, rfl⟩
  have G0 : Blk w0 g 73 [.pointer none, .map (some B), .slice none 0 0] := by rw [hw0]; exact alloc_of hg _
  have B0 : w0.heap[B]? = some (.map #[] 0) := by rw [hw0]; exact alloc_of hB _
  have V0 : Blk w0 W.heap.size 98 [.int .u64 (a : Int), .int .i64 0] := by rw [hw0]; exact heap_alloc_new _ _
  have C0 : Chg (fun k => k = B) W w0 := by rw [hw0]; exact (Chg.refl _ _).alloc _
  have HS0 : Hid (w0.cell? ⟨g, 1, none⟩ = some (.map (some B)) ∧ w0.cell? ⟨W.heap.size, 0, none⟩ = some (.int .u64 (a : Int)) ∧ w0.cell? ⟨W.heap.size, 1, none⟩ = some (.int .i64 0)) := ⟨G0.cell 1, V0.cell 0, V0.cell 1⟩
  have hlk := lk_empty (w := w0.drew) B0 (a : Int) 0
  have hlk2 := lk_empty (w := w0.drew.alloc (.cells #[] 99)) (alloc_of (W := w0.drew) B0 _) (a : Int) 0
  have hlk3 := lk_empty (w := (w0.alloc (.cells #[] 99)).drew) (alloc_of B0 _) (a : Int) 0
  have hlk4 := lk_empty (w := w0.alloc (.cells #[] 99)) (alloc_of B0 _) (a : Int) 0
  obtain ⟨w1, hw1⟩ : ∃ w1, w1 = (w0.alloc (.cells #[] 99)).drew := ⟨_, rfl⟩
  have G1 : Blk w1 g 73 [.pointer none, .map (some B), .slice none 0 0] := by rw [hw1]; exact alloc_of G0 _
  have B1 : w1.heap[B]? = some (.map #[] 0) := by rw [hw1]; exact alloc_of B0 _
  have V1 : Blk w1 W.heap.size 98 [.int .u64 (a : Int), .int .i64 0] := by rw [hw1]; exact alloc_of V0 _
  have C1 : Chg (fun k => k = B) W w1 := by rw [hw1]; exact (C0.alloc _).drew
  have HS1 : Hid (w1.cell? ⟨g, 1, none⟩ = some (.map (some B)) ∧ w1.cell? ⟨W.heap.size, 0, none⟩ = some (.int .u64 (a : Int)) ∧ w1.cell? ⟨W.heap.size, 1, none⟩ = some (.int .i64 0)) := ⟨G1.cell 1, V1.cell 0, V1.cell 1⟩
  obtain ⟨es, c, hup⟩ := up_empty (w := w1.drew) B1 (a : Int) 0
  obtain ⟨w2, hw2⟩ : ∃ w2, w2 = ChangeMaps.setBlock w1.drew B (.map es c) := ⟨_, rfl⟩
  have K2 : Chg (fun k => k = B) w1.drew w2 := by rw [hw2]; exact setBlock_chg (w := w1.drew) B1 _
  have G2 : Blk w2 g 73 [.pointer none, .map (some B), .slice none 0 0] := (show Blk w1.drew g 73 _ from G1).chg K2 hgB
  have vB : W.heap.size ≠ B := by have := (Array.getElem?_eq_some_iff.1 hB).1; omega
  have V2 : Blk w2 W.heap.size 98 [.int .u64 (a : Int), .int .i64 0] := (show Blk w1.drew W.heap.size 98 _ from V1).chg K2 vB
  have C2 : Chg (fun k => k = B) W w2 := C1.drew.trans K2 (fun _ _ x => x) (fun _ _ x => x)
  have HS2 : Hid (w2.cell? ⟨g, 1, none⟩ = some (.map (some B)) ∧ w2.cell? ⟨W.heap.size, 0, none⟩ = some (.int .u64 (a : Int)) ∧ w2.cell? ⟨W.heap.size, 1, none⟩ = some (.int .i64 0)) := ⟨G2.cell 1, V2.cell 0, V2.cell 1⟩
  rw [← hw2] at hup
  have HG2 := keepH G2
  have HC2 := keepH C2
  have HS0' : Hid ((w0.alloc (.cells #[] 99)).cell? ⟨g, 1, none⟩ = some (.map (some B)) ∧ (w0.alloc (.cells #[] 99)).cell? ⟨W.heap.size, 0, none⟩ = some (.int .u64 (a : Int)) ∧ (w0.alloc (.cells #[] 99)).cell? ⟨W.heap.size, 1, none⟩ = some (.int .i64 0)) := by
    have e := HS1.out
    rw [hw1] at e
    exact e
  clear hg hB G0 B0 V0 C0 G1 B1 V1 C1 K2 G2 V2 C2 hw2 vB
  go_enter Tryz.func29, Tryz.ntmps29
  go_upto_region 1 with fail
  rw [← hw0]
  clear hw0
  go_region_held3 (fun w' => w'.cell? ⟨g, 1, none⟩ = some (.map (some B)) ∧ w'.cell? ⟨W.heap.size, 0, none⟩ = some (.int .u64 (a : Int)) ∧ w'.cell? ⟨W.heap.size, 1, none⟩ = some (.int .i64 0)) (first | exact HS0.out | exact HS0'.out) (fail)
  all_goals (
    go_upto_region 3 with fail
    rw [← hw1]
    clear hw1 hlk hlk2 hlk3 hlk4 HS0 HS0'
    go_region_held3 (fun w' => w'.cell? ⟨g, 1, none⟩ = some (.map (some B)) ∧ w'.cell? ⟨W.heap.size, 0, none⟩ = some (.int .u64 (a : Int)) ∧ w'.cell? ⟨W.heap.size, 1, none⟩ = some (.int .i64 0)) (first | exact HS1.out | exact HS2.out) (fail)
    clear hup HS1 HS2
    have HV : Hid (∀ x : Int, Calls Tryz.prog 41 #[.pointer (some ⟨g, 0, none⟩), .int .u64 x] w2 fun e W' => e = .returned (.int .u64 0) ∧ W' = w2) := fun x => g_value_nil HG2.out rfl x
    go_wp2_with fail
    go_loopw [36] (fun s wr => ∃ k : Nat, k ≤ 64 ∧ s = .int .u64 (k : Int) ∧ wr = w2) (fun s _ => 64 - (intOf s).toNat)
    case atStart => exact ⟨0, by omega, rfl, rfl⟩
    case round =>
      obtain ⟨k, hk, rfl, rfl⟩ := hrel
      by_cases e : k = 64
      · subst e
        go_wp2_with fail
        go_end0
        exact ⟨rfl, HG2.out, HC2.out⟩
      · have i1 : (k : Int) < 64 := by omega
        have k1 : IntKind.u64.wrap ((k : Int) + 1) = ((k + 1 : Nat) : Int) := by rw [IntKind.wrap_u64]; omega
        go_wp2_with fail
        refine (HV.out _).mono ?_
        rintro e' w ⟨rfl, rfl⟩
        go_wp2_with fail
        refine (split_0 _).mono ?_
        rintro e' w ⟨rfl, rfl⟩
        go_wp2_with fail
        go_roundw
        case rel => exact ⟨k + 1, by omega, by first | rfl | exact congrArg _ k1 | go_num, by first | rfl | trivial⟩
        case measure => simp [intOf]; omega)
end Go.Proofs.YtokooplfjibneaaGreat
