/- The model's tells and do, of the operations that are asked for. -/
import Derived.Test.YtahgaghokpicgaaGreatW1MsL
import Derived.Maps.OwnSet
import Derived.Maps.RangeWalk
import Derived.Maps.AppendAt
import Derived.OwnWalk
namespace Go.Proofs.YtahgaghokpicgaaGreat
open Go.RowKit
set_option linter.unusedVariables false
set_option maxHeartbeats 16000000
theorem bset {w : World} {g : Nat} {cs : Array Value} {t : TypeId} (h : w.heap[g]? = some (.cells cs t (0, 0))) (i : Nat) (v : Value) : (w.setCell ⟨g, i, none⟩ v).heap[g]? = some (.cells (cs.setIfInBounds i v) t (0, 0)) := set_of h i v
def IsModel (W : World) (m n h : Nat) : Prop := W.heap[m]? = some (.cells #[.int .i64 4, .map (some n), .map (some h)] 100 (0, 0))
theorem IsModel.chg {F : Nat → Prop} {W W' : World} {m n h : Nat} (H : IsModel W m n h) (c : Chg F W W') (hn : ¬ F m) : IsModel W' m n h := (c.block m (lt_of H) hn).trans H
theorem setCells_of (t : TypeId) (p : Nat) (vs : List Value) : ∀ (pre old post : List Value) (w : World), w.heap[p]? = some (.cells (pre ++ old ++ post).toArray t (0, 0)) → old.length = vs.length → (w.setCells p pre.length vs).heap[p]? = some (.cells (pre ++ vs ++ post).toArray t (0, 0)) := by
 induction vs with
 | nil =>
  intro pre old post w h hl
  obtain rfl : old = [] := List.length_eq_zero_iff.1 hl
  simpa [World.setCells] using h
 | cons x vs ih =>
  intro pre old post w h hl
  obtain ⟨y, old', rfl⟩ : ∃ y old', old = y :: old' := by
   cases old with
   | nil => simp at hl
   | cons y o => exact ⟨y, o, rfl⟩
  have h1 := set_of h pre.length x
  have e : (pre ++ y :: old' ++ post).toArray.setIfInBounds pre.length x = ((pre ++ [x]) ++ old' ++ post).toArray := by
   rw [List.setIfInBounds_toArray]
   congr 1
   simp
  rw [e] at h1
  have h2 := ih (pre ++ [x]) old' post (w.setCell ⟨p, pre.length, none⟩ x) h1 (by simpa using hl)
  simp only [List.length_append, List.length_singleton] at h2
  simpa [World.setCells] using h2
theorem setCells_chg (p : Nat) (vs : List Value) : ∀ (o : Nat) (w : World), Chg (fun k => k = p) w (w.setCells p o vs) := by
 induction vs with
 | nil => intro o w; exact Chg.refl _ _
 | cons x vs ih =>
  intro o w
  exact (setP (W := w) (p := p) (i := o) x).trans (ih (o + 1) _) (fun _ _ x => x) (fun _ _ x => x)
set_option maxRecDepth 100000 in
theorem tells_2 (v : Nat) {W : World} {m n h : Nat} (hm : IsModel W m n h) (x : Nat) (th : Bool) (hlk : ∀ w, Chg (fun _ => False) W w → (Instr.lookup 97 (.map (some n)) (.int .u64 7) true).run Tryz.prog w = .ok (.tuple #[.int .u64 x, .bool th]) w) :
    Calls Tryz.prog 40 #[.pointer (some ⟨m, 0, none⟩), .agg #[.int .u8 2, .int .u64 (7 : Int), .int .u64 v, .int .u64 0, .int .u64 0, .bool false, .int .i64 0, .int .i64 0, .slice none 0 0, .int .u64 0, .int .u64 0], .int .u64 0] W fun e W' => e = .returned (.agg #[.int .i64 0, .bool th, .int .u64 x, .bool false, .int .u64 0, .slice none 0 0, .int .u64 0]) ∧ Chg (fun _ => False) W W' := by
 obtain ⟨w0, hw0⟩ : ∃ w0, w0 = ((W.alloc (.cells #[.int .u8 2, .int .u64 (7 : Int), .int .u64 v, .int .u64 0, .int .u64 0, .bool false, .int .i64 0, .int .i64 0, .slice none 0 0, .int .u64 0, .int .u64 0] 35)).alloc (.cells #[.int .i64 0, .bool false, .int .u64 0, .bool false, .int .u64 0, .slice none 0 0, .int .u64 0] 39)).alloc (.cells #[.int .i64 0, .bool false, .int .u64 0, .bool false, .int .u64 0, .slice none 0 0, .int .u64 0] 39) := ⟨_, rfl⟩
 have C0 : Chg (fun _ => False) W w0 := by rw [hw0]; exact (((Chg.refl _ _).alloc _).alloc _).alloc _
 have m0 := hm.chg C0 (fun x => x)
 have o0 : w0.heap[W.heap.size]? = some (.cells #[.int .u8 2, .int .u64 (7 : Int), .int .u64 v, .int .u64 0, .int .u64 0, .bool false, .int .i64 0, .int .i64 0, .slice none 0 0, .int .u64 0, .int .u64 0] 35 (0, 0)) := by rw [hw0]; exact alloc_of (alloc_of (heap_alloc_new _ _) _) _
 have a0 : w0.heap[W.heap.size + 1]? = some (.cells #[.int .i64 0, .bool false, .int .u64 0, .bool false, .int .u64 0, .slice none 0 0, .int .u64 0] 39 (0, 0)) := by
  rw [hw0]
  exact alloc_of al2 _
 have b0 : w0.heap[W.heap.size + 1 + 1]? = some (.cells #[.int .i64 0, .bool false, .int .u64 0, .bool false, .int .u64 0, .slice none 0 0, .int .u64 0] 39 (0, 0)) := by
  rw [hw0]
  exact al3
 have k0 : w0.cell? ⟨W.heap.size, 0, none⟩ = some (.int .u8 2) := cell_of o0 0
 have HS0 : Hid (w0.cell? ⟨m, 1, none⟩ = some (.map (some n)) ∧ w0.cell? ⟨W.heap.size, 1, none⟩ = some (.int .u64 7)) := ⟨cell_of m0 1, cell_of o0 1⟩
 have hl0 := hlk w0.drew C0.drew
 have e2 : w0.cell? ⟨W.heap.size + 1 + 1, 2, none⟩ = some (.int .u64 0) := cell_of b0 2
 have g2 := free_of b0 2
 have b1 := bset b0 2 (.int .u64 x)
 have e1 : (w0.setCell ⟨W.heap.size + 1 + 1, 2, none⟩ (.int .u64 x)).cell? ⟨W.heap.size + 1 + 1, 1, none⟩ = some (.bool false) := cell_of b1 1
 have g1 := free_of b1 1
 have e1' : w0.cell? ⟨W.heap.size + 1 + 1, 1, none⟩ = some (.bool false) := cell_of b0 1
 have b2 := bset b1 1 (.bool th)
 have hlm := lt_of hm
 have hm1 : m ≠ W.heap.size + 1 + 1 := by omega
 have ho1 : W.heap.size ≠ W.heap.size + 1 + 1 := by omega
 have m1 : IsModel (w0.setCell ⟨W.heap.size + 1 + 1, 2, none⟩ (.int .u64 x)) m n h := (Below.heap_setCell _ _ _ _ hm1).trans m0
 have o1 := (Below.heap_setCell w0 ⟨W.heap.size + 1 + 1, 2, none⟩ (.int .u64 x) W.heap.size ho1).trans o0
 have hS5 : (w0.setCell ⟨W.heap.size + 1 + 1, 2, none⟩ (.int .u64 x)).cell? ⟨m, 1, none⟩ = some (.map (some n)) ∧ (w0.setCell ⟨W.heap.size + 1 + 1, 2, none⟩ (.int .u64 x)).cell? ⟨W.heap.size, 1, none⟩ = some (.int .u64 7) := ⟨cell_of m1 1, cell_of o1 1⟩
 have m2 : IsModel ((w0.setCell ⟨W.heap.size + 1 + 1, 2, none⟩ (.int .u64 x)).setCell ⟨W.heap.size + 1 + 1, 1, none⟩ (.bool th)) m n h := (Below.heap_setCell _ _ _ _ hm1).trans m1
 have o2 := (Below.heap_setCell (w0.setCell ⟨W.heap.size + 1 + 1, 2, none⟩ (.int .u64 x)) ⟨W.heap.size + 1 + 1, 1, none⟩ (.bool th) W.heap.size ho1).trans o1
 have hS6 : ((w0.setCell ⟨W.heap.size + 1 + 1, 2, none⟩ (.int .u64 x)).setCell ⟨W.heap.size + 1 + 1, 1, none⟩ (.bool th)).cell? ⟨m, 1, none⟩ = some (.map (some n)) ∧ ((w0.setCell ⟨W.heap.size + 1 + 1, 2, none⟩ (.int .u64 x)).setCell ⟨W.heap.size + 1 + 1, 1, none⟩ (.bool th)).cell? ⟨W.heap.size, 1, none⟩ = some (.int .u64 7) := ⟨cell_of m2 1, cell_of o2 1⟩
 obtain ⟨w1, hw1⟩ : ∃ w1, w1 = ((w0.setCell ⟨W.heap.size + 1 + 1, 2, none⟩ (.int .u64 x)).setCell ⟨W.heap.size + 1 + 1, 1, none⟩ (.bool th)).drew := ⟨_, rfl⟩
 have B1 : w1.heap[W.heap.size + 1 + 1]? = some (.cells #[.int .i64 0, .bool th, .int .u64 x, .bool false, .int .u64 0, .slice none 0 0, .int .u64 0] 39 (0, 0)) := by rw [hw1]; exact b2
 have A1 : w1.heap[W.heap.size + 1]? = some (.cells #[.int .i64 0, .bool false, .int .u64 0, .bool false, .int .u64 0, .slice none 0 0, .int .u64 0] 39 (0, 0)) := by
  rw [hw1]
  have ne : W.heap.size + 1 ≠ W.heap.size + 1 + 1 := by omega
  exact (Below.heap_setCell _ _ _ _ ne).trans ((Below.heap_setCell _ _ _ _ ne).trans a0)
 have C1 : Chg (fun _ => False) W w1 := by
  rw [hw1]
  exact ((C0.trans (setP _) (fun _ _ x => x) (fun i hi e => by omega)).trans (setP _) (fun _ _ x => x) (fun i hi e => by omega)).drew
 clear b1 b2 m1 m2 o1 o2 hlm hm1 ho1 b0 a0 m0 o0 C0 hlk hm
 have r0 : w1.cell? ⟨W.heap.size + 1 + 1, 0, none⟩ = some (.int .i64 0) := cell_of B1 0
 have r1 : w1.cell? ⟨W.heap.size + 1 + 1, 1, none⟩ = some (.bool th) := cell_of B1 1
 have r2 : w1.cell? ⟨W.heap.size + 1 + 1, 2, none⟩ = some (.int .u64 x) := cell_of B1 2
 have r3 : w1.cell? ⟨W.heap.size + 1 + 1, 3, none⟩ = some (.bool false) := cell_of B1 3
 have r4 : w1.cell? ⟨W.heap.size + 1 + 1, 4, none⟩ = some (.int .u64 0) := cell_of B1 4
 have r5 : w1.cell? ⟨W.heap.size + 1 + 1, 5, none⟩ = some (.slice none 0 0) := cell_of B1 5
 have r6 : w1.cell? ⟨W.heap.size + 1 + 1, 6, none⟩ = some (.int .u64 0) := cell_of B1 6
 obtain ⟨w2, hw2⟩ : ∃ w2, w2 = w1.setCells (W.heap.size + 1) 0 (#[.int .i64 0, .bool th, .int .u64 x, .bool false, .int .u64 0, .slice none 0 0, .int .u64 0] : Array Value).toList := ⟨_, rfl⟩
 have A2 : w2.heap[W.heap.size + 1]? = some (.cells #[.int .i64 0, .bool th, .int .u64 x, .bool false, .int .u64 0, .slice none 0 0, .int .u64 0] 39 (0, 0)) := by
  rw [hw2]
  exact setCells_of 39 (W.heap.size + 1) (#[.int .i64 0, .bool th, .int .u64 x, .bool false, .int .u64 0, .slice none 0 0, .int .u64 0] : Array Value).toList [] (#[.int .i64 0, .bool false, .int .u64 0, .bool false, .int .u64 0, .slice none 0 0, .int .u64 0] : Array Value).toList [] w1 A1 rfl
 have C2 : Chg (fun _ => False) W w2 := by rw [hw2]; exact C1.trans (setCells_chg (W.heap.size + 1) _ 0 _) (fun _ _ x => x) (fun i hi e => by omega)
 have HTH : Hid (w1.there (W.heap.size + 1) 0 7) := fun j hj => ⟨by rw [cell_of A1]; match j, hj with | 0, _ => rfl | 1, _ => rfl | 2, _ => rfl | 3, _ => rfl | 4, _ => rfl | 5, _ => rfl | 6, _ => rfl, free_of A1 _⟩
 have HW := keepH hw2
 have HC2 := keepH C2
 have q0 : w2.cell? ⟨W.heap.size + 1, 0, none⟩ = some (.int .i64 0) := cell_of A2 0
 have q1 : w2.cell? ⟨W.heap.size + 1, 1, none⟩ = some (.bool th) := cell_of A2 1
 have q2 : w2.cell? ⟨W.heap.size + 1, 2, none⟩ = some (.int .u64 x) := cell_of A2 2
 have q3 : w2.cell? ⟨W.heap.size + 1, 3, none⟩ = some (.bool false) := cell_of A2 3
 have q4 : w2.cell? ⟨W.heap.size + 1, 4, none⟩ = some (.int .u64 0) := cell_of A2 4
 have q5 : w2.cell? ⟨W.heap.size + 1, 5, none⟩ = some (.slice none 0 0) := cell_of A2 5
 have q6 : w2.cell? ⟨W.heap.size + 1, 6, none⟩ = some (.int .u64 0) := cell_of A2 6
 clear hw2 A1 A2 B1 C1 C2
 go_enter Tryz.func40, Tryz.ntmps40
 go_upto_region 2 with fail
 rw [← hw0]
 clear hw0
 go_upto_region 15 with fail
 go_region_held3 (fun w' => w'.cell? ⟨m, 1, none⟩ = some (.map (some n)) ∧ w'.cell? ⟨W.heap.size, 1, none⟩ = some (.int .u64 7)) (first | exact HS0.out | exact hS5 | exact hS6) (fail)
 all_goals (
  rw [← hw1]
  clear hw1
  go_wp2_with (refine wpList_store_mid rfl 39 (.tmp 6) (.tmp 84) rfl (W.heap.size + 1) 0 #[.int .i64 0, .bool th, .int .u64 x, .bool false, .int .u64 0, .slice none 0 0, .int .u64 0] rfl rfl HTH.out (by kernel_rfl) (by kernel_rfl) ?_; rw [← HW.out]; clear HW HTH)
  (try go_wp2_with fail)
  refine bodyPost_ret (v := .agg #[.int .i64 0, .bool th, .int .u64 x, .bool false, .int .u64 0, .slice none 0 0, .int .u64 0]) (by simp [results, Tryz.results40, go_sem, q0, q1, q2, q3, q4, q5, q6]) rfl ⟨rfl, HC2.out⟩)
set_option maxRecDepth 100000 in
theorem tells_1 (v : Nat) {W : World} {m n h : Nat} (hm : IsModel W m n h) (x : Nat) (th : Bool) (hlk : ∀ w, Chg (fun _ => False) W w → (Instr.lookup 97 (.map (some n)) (.int .u64 7) true).run Tryz.prog w = .ok (.tuple #[.int .u64 x, .bool th]) w) :
    Calls Tryz.prog 40 #[.pointer (some ⟨m, 0, none⟩), .agg #[.int .u8 1, .int .u64 (7 : Int), .int .u64 (0 : Int), .int .u64 0, .int .u64 0, .bool false, .int .i64 0, .int .i64 0, .slice none 0 0, .int .u64 0, .int .u64 0], .int .u64 0] W fun e W' => e = .returned (.agg #[.int .i64 0, .bool th, .int .u64 x, .bool false, .int .u64 0, .slice none 0 0, .int .u64 0]) ∧ Chg (fun _ => False) W W' := by
 obtain ⟨w0, hw0⟩ : ∃ w0, w0 = ((W.alloc (.cells #[.int .u8 1, .int .u64 (7 : Int), .int .u64 (0 : Int), .int .u64 0, .int .u64 0, .bool false, .int .i64 0, .int .i64 0, .slice none 0 0, .int .u64 0, .int .u64 0] 35)).alloc (.cells #[.int .i64 0, .bool false, .int .u64 0, .bool false, .int .u64 0, .slice none 0 0, .int .u64 0] 39)).alloc (.cells #[.int .i64 0, .bool false, .int .u64 0, .bool false, .int .u64 0, .slice none 0 0, .int .u64 0] 39) := ⟨_, rfl⟩
 have C0 : Chg (fun _ => False) W w0 := by rw [hw0]; exact (((Chg.refl _ _).alloc _).alloc _).alloc _
 have m0 := hm.chg C0 (fun x => x)
 have o0 : w0.heap[W.heap.size]? = some (.cells #[.int .u8 1, .int .u64 (7 : Int), .int .u64 (0 : Int), .int .u64 0, .int .u64 0, .bool false, .int .i64 0, .int .i64 0, .slice none 0 0, .int .u64 0, .int .u64 0] 35 (0, 0)) := by rw [hw0]; exact alloc_of (alloc_of (heap_alloc_new _ _) _) _
 have a0 : w0.heap[W.heap.size + 1]? = some (.cells #[.int .i64 0, .bool false, .int .u64 0, .bool false, .int .u64 0, .slice none 0 0, .int .u64 0] 39 (0, 0)) := by
  rw [hw0]
  exact alloc_of al2 _
 have b0 : w0.heap[W.heap.size + 1 + 1]? = some (.cells #[.int .i64 0, .bool false, .int .u64 0, .bool false, .int .u64 0, .slice none 0 0, .int .u64 0] 39 (0, 0)) := by
  rw [hw0]
  exact al3
 have k0 : w0.cell? ⟨W.heap.size, 0, none⟩ = some (.int .u8 1) := cell_of o0 0
 have HS0 : Hid (w0.cell? ⟨m, 1, none⟩ = some (.map (some n)) ∧ w0.cell? ⟨W.heap.size, 1, none⟩ = some (.int .u64 7)) := ⟨cell_of m0 1, cell_of o0 1⟩
 have hl0 := hlk w0.drew C0.drew
 have e2 : w0.cell? ⟨W.heap.size + 1 + 1, 2, none⟩ = some (.int .u64 0) := cell_of b0 2
 have g2 := free_of b0 2
 have b1 := bset b0 2 (.int .u64 x)
 have e1 : (w0.setCell ⟨W.heap.size + 1 + 1, 2, none⟩ (.int .u64 x)).cell? ⟨W.heap.size + 1 + 1, 1, none⟩ = some (.bool false) := cell_of b1 1
 have g1 := free_of b1 1
 have e1' : w0.cell? ⟨W.heap.size + 1 + 1, 1, none⟩ = some (.bool false) := cell_of b0 1
 have b2 := bset b1 1 (.bool th)
 have hlm := lt_of hm
 have hm1 : m ≠ W.heap.size + 1 + 1 := by omega
 have ho1 : W.heap.size ≠ W.heap.size + 1 + 1 := by omega
 have m1 : IsModel (w0.setCell ⟨W.heap.size + 1 + 1, 2, none⟩ (.int .u64 x)) m n h := (Below.heap_setCell _ _ _ _ hm1).trans m0
 have o1 := (Below.heap_setCell w0 ⟨W.heap.size + 1 + 1, 2, none⟩ (.int .u64 x) W.heap.size ho1).trans o0
 have hS5 : (w0.setCell ⟨W.heap.size + 1 + 1, 2, none⟩ (.int .u64 x)).cell? ⟨m, 1, none⟩ = some (.map (some n)) ∧ (w0.setCell ⟨W.heap.size + 1 + 1, 2, none⟩ (.int .u64 x)).cell? ⟨W.heap.size, 1, none⟩ = some (.int .u64 7) := ⟨cell_of m1 1, cell_of o1 1⟩
 have m2 : IsModel ((w0.setCell ⟨W.heap.size + 1 + 1, 2, none⟩ (.int .u64 x)).setCell ⟨W.heap.size + 1 + 1, 1, none⟩ (.bool th)) m n h := (Below.heap_setCell _ _ _ _ hm1).trans m1
 have o2 := (Below.heap_setCell (w0.setCell ⟨W.heap.size + 1 + 1, 2, none⟩ (.int .u64 x)) ⟨W.heap.size + 1 + 1, 1, none⟩ (.bool th) W.heap.size ho1).trans o1
 have hS6 : ((w0.setCell ⟨W.heap.size + 1 + 1, 2, none⟩ (.int .u64 x)).setCell ⟨W.heap.size + 1 + 1, 1, none⟩ (.bool th)).cell? ⟨m, 1, none⟩ = some (.map (some n)) ∧ ((w0.setCell ⟨W.heap.size + 1 + 1, 2, none⟩ (.int .u64 x)).setCell ⟨W.heap.size + 1 + 1, 1, none⟩ (.bool th)).cell? ⟨W.heap.size, 1, none⟩ = some (.int .u64 7) := ⟨cell_of m2 1, cell_of o2 1⟩
 obtain ⟨w1, hw1⟩ : ∃ w1, w1 = ((w0.setCell ⟨W.heap.size + 1 + 1, 2, none⟩ (.int .u64 x)).setCell ⟨W.heap.size + 1 + 1, 1, none⟩ (.bool th)).drew := ⟨_, rfl⟩
 have B1 : w1.heap[W.heap.size + 1 + 1]? = some (.cells #[.int .i64 0, .bool th, .int .u64 x, .bool false, .int .u64 0, .slice none 0 0, .int .u64 0] 39 (0, 0)) := by rw [hw1]; exact b2
 have A1 : w1.heap[W.heap.size + 1]? = some (.cells #[.int .i64 0, .bool false, .int .u64 0, .bool false, .int .u64 0, .slice none 0 0, .int .u64 0] 39 (0, 0)) := by
  rw [hw1]
  have ne : W.heap.size + 1 ≠ W.heap.size + 1 + 1 := by omega
  exact (Below.heap_setCell _ _ _ _ ne).trans ((Below.heap_setCell _ _ _ _ ne).trans a0)
 have C1 : Chg (fun _ => False) W w1 := by
  rw [hw1]
  exact ((C0.trans (setP _) (fun _ _ x => x) (fun i hi e => by omega)).trans (setP _) (fun _ _ x => x) (fun i hi e => by omega)).drew
 clear b1 b2 m1 m2 o1 o2 hlm hm1 ho1 b0 a0 m0 o0 C0 hlk hm
 have r0 : w1.cell? ⟨W.heap.size + 1 + 1, 0, none⟩ = some (.int .i64 0) := cell_of B1 0
 have r1 : w1.cell? ⟨W.heap.size + 1 + 1, 1, none⟩ = some (.bool th) := cell_of B1 1
 have r2 : w1.cell? ⟨W.heap.size + 1 + 1, 2, none⟩ = some (.int .u64 x) := cell_of B1 2
 have r3 : w1.cell? ⟨W.heap.size + 1 + 1, 3, none⟩ = some (.bool false) := cell_of B1 3
 have r4 : w1.cell? ⟨W.heap.size + 1 + 1, 4, none⟩ = some (.int .u64 0) := cell_of B1 4
 have r5 : w1.cell? ⟨W.heap.size + 1 + 1, 5, none⟩ = some (.slice none 0 0) := cell_of B1 5
 have r6 : w1.cell? ⟨W.heap.size + 1 + 1, 6, none⟩ = some (.int .u64 0) := cell_of B1 6
 obtain ⟨w2, hw2⟩ : ∃ w2, w2 = w1.setCells (W.heap.size + 1) 0 (#[.int .i64 0, .bool th, .int .u64 x, .bool false, .int .u64 0, .slice none 0 0, .int .u64 0] : Array Value).toList := ⟨_, rfl⟩
 have A2 : w2.heap[W.heap.size + 1]? = some (.cells #[.int .i64 0, .bool th, .int .u64 x, .bool false, .int .u64 0, .slice none 0 0, .int .u64 0] 39 (0, 0)) := by
  rw [hw2]
  exact setCells_of 39 (W.heap.size + 1) (#[.int .i64 0, .bool th, .int .u64 x, .bool false, .int .u64 0, .slice none 0 0, .int .u64 0] : Array Value).toList [] (#[.int .i64 0, .bool false, .int .u64 0, .bool false, .int .u64 0, .slice none 0 0, .int .u64 0] : Array Value).toList [] w1 A1 rfl
 have C2 : Chg (fun _ => False) W w2 := by rw [hw2]; exact C1.trans (setCells_chg (W.heap.size + 1) _ 0 _) (fun _ _ x => x) (fun i hi e => by omega)
 have HTH : Hid (w1.there (W.heap.size + 1) 0 7) := fun j hj => ⟨by rw [cell_of A1]; match j, hj with | 0, _ => rfl | 1, _ => rfl | 2, _ => rfl | 3, _ => rfl | 4, _ => rfl | 5, _ => rfl | 6, _ => rfl, free_of A1 _⟩
 have HW := keepH hw2
 have HC2 := keepH C2
 have q0 : w2.cell? ⟨W.heap.size + 1, 0, none⟩ = some (.int .i64 0) := cell_of A2 0
 have q1 : w2.cell? ⟨W.heap.size + 1, 1, none⟩ = some (.bool th) := cell_of A2 1
 have q2 : w2.cell? ⟨W.heap.size + 1, 2, none⟩ = some (.int .u64 x) := cell_of A2 2
 have q3 : w2.cell? ⟨W.heap.size + 1, 3, none⟩ = some (.bool false) := cell_of A2 3
 have q4 : w2.cell? ⟨W.heap.size + 1, 4, none⟩ = some (.int .u64 0) := cell_of A2 4
 have q5 : w2.cell? ⟨W.heap.size + 1, 5, none⟩ = some (.slice none 0 0) := cell_of A2 5
 have q6 : w2.cell? ⟨W.heap.size + 1, 6, none⟩ = some (.int .u64 0) := cell_of A2 6
 clear hw2 A1 A2 B1 C1 C2
 go_enter Tryz.func40, Tryz.ntmps40
 go_upto_region 2 with fail
 rw [← hw0]
 clear hw0
 go_upto_region 15 with fail
 go_region_held3 (fun w' => w'.cell? ⟨m, 1, none⟩ = some (.map (some n)) ∧ w'.cell? ⟨W.heap.size, 1, none⟩ = some (.int .u64 7)) (first | exact HS0.out | exact hS5 | exact hS6) (fail)
 all_goals (
  rw [← hw1]
  clear hw1
  go_wp2_with (refine wpList_store_mid rfl 39 (.tmp 6) (.tmp 84) rfl (W.heap.size + 1) 0 #[.int .i64 0, .bool th, .int .u64 x, .bool false, .int .u64 0, .slice none 0 0, .int .u64 0] rfl rfl HTH.out (by kernel_rfl) (by kernel_rfl) ?_; rw [← HW.out]; clear HW HTH)
  (try go_wp2_with fail)
  refine bodyPost_ret (v := .agg #[.int .i64 0, .bool th, .int .u64 x, .bool false, .int .u64 0, .slice none 0 0, .int .u64 0]) (by simp [results, Tryz.results40, go_sem, q0, q1, q2, q3, q4, q5, q6]) rfl ⟨rfl, HC2.out⟩)
set_option maxRecDepth 100000 in
theorem tells_5 (v : Nat) {W : World} {m n h : Nat} (hm : IsModel W m n h) (hlk : ∀ w, Chg (fun _ => False) W w → (Instr.lookup 98 (.map (some h)) (.int .u64 5) true).run Tryz.prog w = .ok (.tuple #[.map none, .bool false]) w) :
    Calls Tryz.prog 40 #[.pointer (some ⟨m, 0, none⟩), .agg #[.int .u8 5, .int .u64 (0 : Int), .int .u64 (0 : Int), .int .u64 0, .int .u64 0, .bool false, .int .i64 0, .int .i64 0, .slice none 0 0, .int .u64 0, .int .u64 0], .int .u64 5] W fun e W' => e = .returned (.agg #[.int .i64 0, .bool false, .int .u64 0, .bool false, .int .u64 5, .slice none 0 0, .int .u64 0]) ∧ Chg (fun _ => False) W W' := by
 obtain ⟨w0, hw0⟩ : ∃ w0, w0 = ((W.alloc (.cells #[.int .u8 5, .int .u64 (0 : Int), .int .u64 (0 : Int), .int .u64 0, .int .u64 0, .bool false, .int .i64 0, .int .i64 0, .slice none 0 0, .int .u64 0, .int .u64 0] 35)).alloc (.cells #[.int .i64 0, .bool false, .int .u64 0, .bool false, .int .u64 0, .slice none 0 0, .int .u64 0] 39)).alloc (.cells #[.int .i64 0, .bool false, .int .u64 0, .bool false, .int .u64 0, .slice none 0 0, .int .u64 0] 39) := ⟨_, rfl⟩
 have C0 : Chg (fun _ => False) W w0 := by rw [hw0]; exact (((Chg.refl _ _).alloc _).alloc _).alloc _
 have m0 := hm.chg C0 (fun x => x)
 have o0 : w0.heap[W.heap.size]? = some (.cells #[.int .u8 5, .int .u64 (0 : Int), .int .u64 (0 : Int), .int .u64 0, .int .u64 0, .bool false, .int .i64 0, .int .i64 0, .slice none 0 0, .int .u64 0, .int .u64 0] 35 (0, 0)) := by rw [hw0]; exact alloc_of (alloc_of (heap_alloc_new _ _) _) _
 have a0 : w0.heap[W.heap.size + 1]? = some (.cells #[.int .i64 0, .bool false, .int .u64 0, .bool false, .int .u64 0, .slice none 0 0, .int .u64 0] 39 (0, 0)) := by
  rw [hw0]
  exact alloc_of al2 _
 have b0 : w0.heap[W.heap.size + 1 + 1]? = some (.cells #[.int .i64 0, .bool false, .int .u64 0, .bool false, .int .u64 0, .slice none 0 0, .int .u64 0] 39 (0, 0)) := by
  rw [hw0]
  exact al3
 have k0 : w0.cell? ⟨W.heap.size, 0, none⟩ = some (.int .u8 5) := cell_of o0 0
 have HH := keepH (holds_any (v := .bool false) m0 false (.map none) (hlk w0 C0))
 have e4 : w0.cell? ⟨W.heap.size + 1 + 1, 4, none⟩ = some (.int .u64 0) := cell_of b0 4
 have g4 := free_of b0 4
 obtain ⟨w1, hw1⟩ : ∃ w1, w1 = w0.setCell ⟨W.heap.size + 1 + 1, 4, none⟩ (.int .u64 5) := ⟨_, rfl⟩
 have B1 : w1.heap[W.heap.size + 1 + 1]? = some (.cells #[.int .i64 0, .bool false, .int .u64 0, .bool false, .int .u64 5, .slice none 0 0, .int .u64 0] 39 (0, 0)) := by rw [hw1]; exact bset b0 4 _
 have A1 : w1.heap[W.heap.size + 1]? = some (.cells #[.int .i64 0, .bool false, .int .u64 0, .bool false, .int .u64 0, .slice none 0 0, .int .u64 0] 39 (0, 0)) := by
  rw [hw1]
  have ne : W.heap.size + 1 ≠ W.heap.size + 1 + 1 := by omega
  exact (Below.heap_setCell _ _ _ _ ne).trans a0
 have C1 : Chg (fun _ => False) W w1 := by
  rw [hw1]
  exact C0.trans (setP _) (fun _ _ x => x) (fun i hi e => by omega)
 clear b0 a0 m0 o0 C0 hlk hm
 have r0 : w1.cell? ⟨W.heap.size + 1 + 1, 0, none⟩ = some (.int .i64 0) := cell_of B1 0
 have r1 : w1.cell? ⟨W.heap.size + 1 + 1, 1, none⟩ = some (.bool false) := cell_of B1 1
 have r2 : w1.cell? ⟨W.heap.size + 1 + 1, 2, none⟩ = some (.int .u64 0) := cell_of B1 2
 have r3 : w1.cell? ⟨W.heap.size + 1 + 1, 3, none⟩ = some (.bool false) := cell_of B1 3
 have r4 : w1.cell? ⟨W.heap.size + 1 + 1, 4, none⟩ = some (.int .u64 5) := cell_of B1 4
 have r5 : w1.cell? ⟨W.heap.size + 1 + 1, 5, none⟩ = some (.slice none 0 0) := cell_of B1 5
 have r6 : w1.cell? ⟨W.heap.size + 1 + 1, 6, none⟩ = some (.int .u64 0) := cell_of B1 6
 obtain ⟨w2, hw2⟩ : ∃ w2, w2 = w1.setCells (W.heap.size + 1) 0 (#[.int .i64 0, .bool false, .int .u64 0, .bool false, .int .u64 5, .slice none 0 0, .int .u64 0] : Array Value).toList := ⟨_, rfl⟩
 have A2 : w2.heap[W.heap.size + 1]? = some (.cells #[.int .i64 0, .bool false, .int .u64 0, .bool false, .int .u64 5, .slice none 0 0, .int .u64 0] 39 (0, 0)) := by
  rw [hw2]
  exact setCells_of 39 (W.heap.size + 1) (#[.int .i64 0, .bool false, .int .u64 0, .bool false, .int .u64 5, .slice none 0 0, .int .u64 0] : Array Value).toList [] (#[.int .i64 0, .bool false, .int .u64 0, .bool false, .int .u64 0, .slice none 0 0, .int .u64 0] : Array Value).toList [] w1 A1 rfl
 have C2 : Chg (fun _ => False) W w2 := by rw [hw2]; exact C1.trans (setCells_chg (W.heap.size + 1) _ 0 _) (fun _ _ x => x) (fun i hi e => by omega)
 have HTH : Hid (w1.there (W.heap.size + 1) 0 7) := fun j hj => ⟨by rw [cell_of A1]; match j, hj with | 0, _ => rfl | 1, _ => rfl | 2, _ => rfl | 3, _ => rfl | 4, _ => rfl | 5, _ => rfl | 6, _ => rfl, free_of A1 _⟩
 have HW := keepH hw2
 have HC2 := keepH C2
 have q0 : w2.cell? ⟨W.heap.size + 1, 0, none⟩ = some (.int .i64 0) := cell_of A2 0
 have q1 : w2.cell? ⟨W.heap.size + 1, 1, none⟩ = some (.bool false) := cell_of A2 1
 have q2 : w2.cell? ⟨W.heap.size + 1, 2, none⟩ = some (.int .u64 0) := cell_of A2 2
 have q3 : w2.cell? ⟨W.heap.size + 1, 3, none⟩ = some (.bool false) := cell_of A2 3
 have q4 : w2.cell? ⟨W.heap.size + 1, 4, none⟩ = some (.int .u64 5) := cell_of A2 4
 have q5 : w2.cell? ⟨W.heap.size + 1, 5, none⟩ = some (.slice none 0 0) := cell_of A2 5
 have q6 : w2.cell? ⟨W.heap.size + 1, 6, none⟩ = some (.int .u64 0) := cell_of A2 6
 clear hw2 A1 A2 B1 C1 C2
 go_enter Tryz.func40, Tryz.ntmps40
 go_upto_region 2 with fail
 rw [← hw0]
 clear hw0
 all_goals (
  go_wp2_with fail
  refine HH.out.mono ?_
  rintro e z ⟨rfl, rfl⟩
  go_upto_region 25 with fail
  rw [← hw1]
  clear hw1
  go_wp2_with (refine wpList_store_mid rfl 39 (.tmp 6) (.tmp 84) rfl (W.heap.size + 1) 0 #[.int .i64 0, .bool false, .int .u64 0, .bool false, .int .u64 5, .slice none 0 0, .int .u64 0] rfl rfl HTH.out (by kernel_rfl) (by kernel_rfl) ?_; rw [← HW.out]; clear HW HTH)
  (try go_wp2_with fail)
  refine bodyPost_ret (v := .agg #[.int .i64 0, .bool false, .int .u64 0, .bool false, .int .u64 5, .slice none 0 0, .int .u64 0]) (by simp [results, Tryz.results40, go_sem, q0, q1, q2, q3, q4, q5, q6]) rfl ⟨rfl, HC2.out⟩)
end Go.Proofs.YtahgaghokpicgaaGreat
namespace Go.Proofs.YtahgaghokpicgaaGreat
open Go.RowKit Go.Maps
set_option linter.unusedVariables false
set_option maxHeartbeats 16000000
theorem K64 : Keyed Tryz.prog 30 := int_keyed Tryz.underlying30
def D7 : DataW Unit := (DataW.map []).put (.int .u64 7) (.lit (.int .u64 1))
theorem own7 {W : World} {b : Nat} (hB : W.heap[b]? = some (.map #[⟨.int .u64 7, .int .u64 1, 0⟩] 1)) : W.ownsMap (H := Unit) Tryz.prog 30 (plainElem Tryz.prog 30) b 1 D7 := by
 have h0 := World.ownsMap_made (H := Unit) W Tryz.prog 30 (plainElem Tryz.prog 30)
 obtain ⟨w', hrun, ho, _⟩ := h0.update (t := 97) (e := 30) K64 Tryz.underlying97 (by unfold maxLen; omega) (keyOf_int_mk Tryz.underlying30 (a := 7) (by decide)) (plainElem_int (H := Unit) Tryz.underlying30 (show (Lit.int .u64 1).wf = true by decide))
 have e := put_0 (w := W.alloc (.map #[] 0)) (heap_alloc_new _ _) 1
 rw [e] at hrun
 simp only [Result.ok.injEq, true_and] at hrun
 subst hrun
 obtain ⟨es, clock, hb, F, hs, hD⟩ := ho
 rw [setBlock_at (heap_alloc_new _ _)] at hb
 simp only [Option.some.injEq, Obj.map.injEq] at hb
 obtain ⟨rfl, rfl⟩ := hb
 exact ⟨_, _, hB, F, hs, hD⟩
theorem d7_has (x : Int) (h : Maps.has D7 (.int .u64 x) = true) : x = 7 := by
 by_cases e : x = 7
 ·exact e
 ·exfalso
  have z : Maps.has D7 (.int .u64 x) = Maps.has (DataW.map [] : DataW Unit) (.int .u64 x) := has_put_other (fun q => e (by injection q)) _
  rw [z] at h
  simp [Maps.has] at h
theorem d7_at (c : Int) (h : ∀ zd, D7.atKey (.int .u64 7) zd = .lit (.int .u64 c)) : c = 1 := by
 have z := h .nil
 have q : D7.atKey (.int .u64 7) .nil = .lit (.int .u64 1) := by rfl
 rw [q] at z
 simpa using z.symm
theorem d7_size : Maps.size D7 = 1 := by rfl
theorem grown_chg {a b : World} {row : Option Nat} {F : Nat → Prop} (h : a.grownBy b row) (hr : ∀ k, row = some k → F k) : Chg F a b := (Chg.refl F a).grown h (fun k e _ => hr k e)
theorem mk_hint (n : Int) (w : World) : (Instr.makeMap 97 (some (.int .i64 n))).run Tryz.prog w = .ok (.map (some w.heap.size)) (w.alloc (.map #[] 0)) := by
 simp [Instr.makeMap, run_underlying Tryz.underlying97, asInt, asIntOf, Result.andThen]
set_option maxRecDepth 100000 in
theorem pict_one {W : World} {b : Nat} (hB : W.heap[b]? = some (.map #[⟨.int .u64 7, .int .u64 1, 0⟩] 1)) :
    Calls Tryz.prog 86 #[.map (some b)] W fun e W' => e = .returned (.map (some W.heap.size)) ∧ W'.heap[W.heap.size]? = some (.map #[⟨.int .u64 7, .int .u64 1, 0⟩] 1) ∧ Chg (fun _ => False) W W' := by
 have hown := own7 hB
 have hbl := (Array.getElem?_eq_some_iff.1 hB).1
 have hmm := mk_hint
 obtain ⟨w0, hw0⟩ : ∃ w0, w0 = W.alloc (.map #[] 0) := ⟨_, rfl⟩
 have hB0 : w0.heap[b]? = some (.map #[⟨.int .u64 7, .int .u64 1, 0⟩] 1) := by rw [hw0]; exact alloc_of hB _
 have hown1 := own7 hB0
 have n0 : w0.heap[W.heap.size]? = some (.map #[] 0) := by rw [hw0]; exact heap_alloc_new _ _
 have C0 : Chg (fun _ => False) W w0 := by rw [hw0]; exact (Chg.refl _ _).alloc _
 have z0 : w0.heap.size = W.heap.size + 1 := by rw [hw0]; exact World.size_alloc _ _
 have HN0 := keepH n0
 have HC0 := keepH C0
 have HZ0 := keepH z0
 have HBL := keepH hbl
 clear hB hB0 n0 C0 z0 hbl
 go_enter Tryz.func86, Tryz.ntmps86
 go_wp2_with (first | (at_len; refine wpList_len_own _ rfl _ 97 rfl 30 30 Tryz.underlying97 _ b 1 D7 rfl hown ?_) | (at_range; rw [← hw0]; refine wpList_range_own _ rfl _ 97 rfl 30 30 K64 Tryz.underlying97 _ b 1 _ rfl hown1 ?_; intro w1 hrg1 hg1 hs1))
 clear hw0 hmm
 refine wp_loop_rounds 2 ?_
 rw [rounds_succ]
 go_wp2_with (first | (at_next; refine wpList_next_ranges_ii _ rfl _ rfl 30 30 .u64 .u64 K64 Tryz.underlying30 Tryz.underlying30 b w0.heap.size 1 _ _ _ rfl hrg1 ?_ ?_))
 ·intro h0 _
  rw [d7_size] at h0
  omega
 ·intro x c w2 cnt2 hwx hwc hlx hat hrg2 hlt hg2 hs2 hen
  obtain rfl := d7_has x hlx
  obtain rfl := d7_at c hat
  rw [d7_size] at hlt
  have c1 : Chg (fun _ => False) w0 w1 := grown_chg hg1 (fun k e => by simp at e)
  have c2 : Chg (fun k => k = w0.heap.size) w1 w2 := grown_chg hg2 (fun k e => (Option.some.inj e).symm)
  have n1 := (c1.block W.heap.size (by have := HZ0.out; omega) (fun x => x)).trans HN0.out
  have n2 := (c2.block W.heap.size (Array.getElem?_eq_some_iff.1 n1).1 (by have := HZ0.out; omega)).trans n1
  have hu := put_0 n2 1
  obtain ⟨w3, hw3⟩ : ∃ w3, w3 = ChangeMaps.setBlock w2 W.heap.size (.map #[⟨.int .u64 7, .int .u64 1, 0⟩] 1) := ⟨_, rfl⟩
  rw [← hw3] at hu
  have C3 : Chg (fun k => k = W.heap.size) w2 w3 := by rw [hw3]; exact setBlock_chg n2 _
  have HN3 : Hid (w3.heap[W.heap.size]? = some (.map #[⟨.int .u64 7, .int .u64 1, 0⟩] 1)) := by rw [hw3]; exact setBlock_at n2 _
  have cg : w2.grownBy w3 (some W.heap.size) := ⟨C3.os, C3.tape, C3.output, C3.size, fun k hk hn => C3.block k hk (fun e => hn (by rw [e]))⟩
  have hrg3 := hrg2.kept cg (fun e => by injection e with e; have := HBL.out; omega) (fun e => by injection e with e; have := HZ0.out; omega)
  have HCH : Hid (Chg (fun _ => False) W w3) := ((HC0.out.trans c1 (H := fun _ => False) (fun _ _ x => x) (fun _ _ x => x)).trans c2 (H := fun _ => False) (fun _ _ x => x) (fun i hi e => by have := HZ0.out; omega)).trans C3 (fun _ _ x => x) (fun i hi e => by omega)
  have HS : Hid (cnt2 < 1) := by show _ < _; omega
  clear hwx hwc hlx hat hg1 hg2 hrg1 hrg2 hown hown1 hs1 hs2 hlt c1 c2 n1 n2 C3 cg hw3 HN0 HC0
  go_wp2_with fail
  rw [rounds_succ]
  go_wp2_with (first | (at_next; refine wpList_next_ranges_ii _ rfl _ rfl 30 30 .u64 .u64 K64 Tryz.underlying30 Tryz.underlying30 b w0.heap.size 1 _ _ _ rfl hrg3 ?_ ?_))
  ·intro h0 _
   go_wp2_with fail
   go_ret
   exact ⟨rfl, HN3.out, HCH.out⟩
  ·intro x' c' w4 cnt4 _ _ _ _ _ hlt4 _ _ _
   have := HS.out
   omega
end Go.Proofs.YtahgaghokpicgaaGreat
namespace Go.Proofs.YtahgaghokpicgaaGreat
open Go.RowKit
set_option linter.unusedVariables false
set_option maxHeartbeats 16000000
set_option maxRecDepth 100000 in
theorem do_put (v x : Nat) (th : Bool) {W : World} {m n h : Nat} (hm : IsModel W m n h) (hmn : m ≠ n) {es es' : Array MapEntry} {c c' : Nat} (hN : W.heap[n]? = some (.map es c)) (hup : ∀ w, w.heap[n]? = some (.map es c) → (Instr.mapUpdate 97 (.map (some n)) (.int .u64 7) (.int .u64 v)).run Tryz.prog w = .ok () (ChangeMaps.setBlock w n (.map es' c'))) :
    Calls Tryz.prog 43 #[.pointer (some ⟨m, 0, none⟩), .agg #[.int .u8 2, .int .u64 (7 : Int), .int .u64 v, .int .u64 0, .int .u64 0, .bool false, .int .i64 0, .int .i64 0, .slice none 0 0, .int .u64 0, .int .u64 0], .agg #[.int .i64 0, .bool th, .int .u64 x, .bool false, .int .u64 0, .slice none 0 0, .int .u64 0]] W fun e W' => e = .returned (.tuple #[]) ∧ W'.heap[n]? = some (.map es' c') ∧ Chg (fun k => k = n) W W' := by
 obtain ⟨w0, hw0⟩ : ∃ w0, w0 = (W.alloc (.cells #[.int .u8 2, .int .u64 (7 : Int), .int .u64 v, .int .u64 0, .int .u64 0, .bool false, .int .i64 0, .int .i64 0, .slice none 0 0, .int .u64 0, .int .u64 0] 35)).alloc (.cells #[.int .i64 0, .bool th, .int .u64 x, .bool false, .int .u64 0, .slice none 0 0, .int .u64 0] 39) := ⟨_, rfl⟩
 have C0 : Chg (fun _ => False) W w0 := by rw [hw0]; exact ((Chg.refl _ _).alloc _).alloc _
 have o0 : w0.heap[W.heap.size]? = some (.cells #[.int .u8 2, .int .u64 (7 : Int), .int .u64 v, .int .u64 0, .int .u64 0, .bool false, .int .i64 0, .int .i64 0, .slice none 0 0, .int .u64 0, .int .u64 0] 35 (0, 0)) := by rw [hw0]; exact alloc_of (heap_alloc_new _ _) _
 have a0 : w0.heap[W.heap.size + 1]? = some (.cells #[.int .i64 0, .bool th, .int .u64 x, .bool false, .int .u64 0, .slice none 0 0, .int .u64 0] 39 (0, 0)) := by
  rw [hw0]
  exact al2
 have m0 := hm.chg C0 (fun x => x)
 have n0 : w0.heap[n]? = some (.map es c) := (C0.block n (Array.getElem?_eq_some_iff.1 hN).1 (fun x => x)).trans hN
 have hnl := (Array.getElem?_eq_some_iff.1 hN).1
 have k0 : w0.cell? ⟨W.heap.size, 0, none⟩ = some (.int .u8 2) := cell_of o0 0
 have e0 : w0.cell? ⟨W.heap.size + 1, 0, none⟩ = some (.int .i64 0) := cell_of a0 0
 have HS0 : Hid (w0.cell? ⟨m, 1, none⟩ = some (.map (some n)) ∧ w0.cell? ⟨W.heap.size, 1, none⟩ = some (.int .u64 7) ∧ w0.cell? ⟨W.heap.size, 2, none⟩ = some (.int .u64 v)) := ⟨cell_of m0 1, cell_of o0 1, cell_of o0 2⟩
 have hu := hup w0.drew n0
 obtain ⟨w1, hw1⟩ : ∃ w1, w1 = ChangeMaps.setBlock w0.drew n (.map es' c') := ⟨_, rfl⟩
 have K1 : Chg (fun k => k = n) w0.drew w1 := by rw [hw1]; exact setBlock_chg (w := w0.drew) n0 _
 have N1 : Hid (w1.heap[n]? = some (.map es' c')) := by rw [hw1]; exact setBlock_at (w := w0.drew) n0 _
 have m1 : IsModel w1 m n h := (show IsModel w0.drew m n h from m0).chg K1 hmn
 have o1 : w1.heap[W.heap.size]? = some (.cells #[.int .u8 2, .int .u64 (7 : Int), .int .u64 v, .int .u64 0, .int .u64 0, .bool false, .int .i64 0, .int .i64 0, .slice none 0 0, .int .u64 0, .int .u64 0] 35 (0, 0)) := (K1.block W.heap.size (lt_of o0) (by omega)).trans o0
 have HC1 : Hid (Chg (fun k => k = n) W w1) := C0.drew.trans K1 (fun _ _ x => x.elim) (fun _ _ x => x)
 have hS6 : w1.cell? ⟨m, 1, none⟩ = some (.map (some n)) ∧ w1.cell? ⟨W.heap.size, 1, none⟩ = some (.int .u64 7) ∧ w1.cell? ⟨W.heap.size, 2, none⟩ = some (.int .u64 v) := ⟨cell_of m1 1, cell_of o1 1, cell_of o1 2⟩
 rw [← hw1] at hu
 clear hm hN hup C0 o0 a0 m0 n0 hnl K1 m1 o1 hw1
 go_enter Tryz.func43, Tryz.ntmps43
 go_upto_region 1 with fail
 rw [← hw0]
 clear hw0
 go_upto_region 9 with fail
 go_region_held3 (fun w' => w'.cell? ⟨m, 1, none⟩ = some (.map (some n)) ∧ w'.cell? ⟨W.heap.size, 1, none⟩ = some (.int .u64 7) ∧ w'.cell? ⟨W.heap.size, 2, none⟩ = some (.int .u64 v)) (first | exact HS0.out | exact hS6) (fail)
 all_goals (
  (try go_wp2_with fail)
  go_end0
  exact ⟨rfl, N1.out, HC1.out⟩)
set_option maxRecDepth 100000 in
theorem do_snap {W : World} {m n h : Nat} (hm : IsModel W m n h) (hmh : m ≠ h) (hnh : n ≠ h) (hN : W.heap[n]? = some (.map #[⟨.int .u64 7, .int .u64 1, 0⟩] 1)) (hH : W.heap[h]? = some (.map #[] 0)) :
    Calls Tryz.prog 43 #[.pointer (some ⟨m, 0, none⟩), .agg #[.int .u8 5, .int .u64 (0 : Int), .int .u64 (0 : Int), .int .u64 0, .int .u64 0, .bool false, .int .i64 0, .int .i64 0, .slice none 0 0, .int .u64 0, .int .u64 0], .agg #[.int .i64 0, .bool false, .int .u64 0, .bool false, .int .u64 5, .slice none 0 0, .int .u64 0]] W fun e W' => e = .returned (.tuple #[]) ∧ ∃ cl, W.heap.size ≤ cl ∧ W'.heap[h]? = some (.map #[⟨.int .u64 5, .map (some cl), 0⟩] 1) ∧ W'.heap[cl]? = some (.map #[⟨.int .u64 7, .int .u64 1, 0⟩] 1) ∧ Chg (fun k => k = h) W W' := by
 obtain ⟨w0, hw0⟩ : ∃ w0, w0 = (W.alloc (.cells #[.int .u8 5, .int .u64 (0 : Int), .int .u64 (0 : Int), .int .u64 0, .int .u64 0, .bool false, .int .i64 0, .int .i64 0, .slice none 0 0, .int .u64 0, .int .u64 0] 35)).alloc (.cells #[.int .i64 0, .bool false, .int .u64 0, .bool false, .int .u64 5, .slice none 0 0, .int .u64 0] 39) := ⟨_, rfl⟩
 have C0 : Chg (fun _ => False) W w0 := by rw [hw0]; exact ((Chg.refl _ _).alloc _).alloc _
 have o0 : w0.heap[W.heap.size]? = some (.cells #[.int .u8 5, .int .u64 (0 : Int), .int .u64 (0 : Int), .int .u64 0, .int .u64 0, .bool false, .int .i64 0, .int .i64 0, .slice none 0 0, .int .u64 0, .int .u64 0] 35 (0, 0)) := by rw [hw0]; exact alloc_of (heap_alloc_new _ _) _
 have a0 : w0.heap[W.heap.size + 1]? = some (.cells #[.int .i64 0, .bool false, .int .u64 0, .bool false, .int .u64 5, .slice none 0 0, .int .u64 0] 39 (0, 0)) := by
  rw [hw0]
  exact al2
 have m0 := hm.chg C0 (fun x => x)
 have hnl := (Array.getElem?_eq_some_iff.1 hN).1
 have hhl := (Array.getElem?_eq_some_iff.1 hH).1
 have hml := lt_of hm
 have n0 : w0.heap[n]? = some (.map #[⟨.int .u64 7, .int .u64 1, 0⟩] 1) := (C0.block n hnl (fun x => x)).trans hN
 have h0 : w0.heap[h]? = some (.map #[] 0) := (C0.block h hhl (fun x => x)).trans hH
 have k0 : w0.cell? ⟨W.heap.size, 0, none⟩ = some (.int .u8 5) := cell_of o0 0
 have e0 : w0.cell? ⟨W.heap.size + 1, 0, none⟩ = some (.int .i64 0) := cell_of a0 0
 have e4 : w0.cell? ⟨W.heap.size + 1, 4, none⟩ = some (.int .u64 5) := cell_of a0 4
 have HS0 : Hid (w0.cell? ⟨m, 2, none⟩ = some (.map (some h)) ∧ w0.cell? ⟨W.heap.size + 1, 4, none⟩ = some (.int .u64 5) ∧ w0.cell? ⟨m, 1, none⟩ = some (.map (some n))) := ⟨cell_of m0 2, cell_of a0 4, cell_of m0 1⟩
 have HCL := keepH (pict_one (W := w0.drew) n0)
 have z0 := C0.size
 have HSE : Hid (∀ z, z.heap[w0.heap.size]? = some (.map #[⟨.int .u64 7, .int .u64 1, 0⟩] 1) → Chg (fun _ => False) w0.drew z → ∃ w2, (Instr.mapUpdate 98 (.map (some h)) (.int .u64 5) (.map (some w0.heap.size))).run Tryz.prog z = .ok () w2 ∧ (z.cell? ⟨m, 2, none⟩ = some (.map (some h)) ∧ z.cell? ⟨W.heap.size + 1, 4, none⟩ = some (.int .u64 5) ∧ z.cell? ⟨m, 1, none⟩ = some (.map (some n))) ∧ (w2.cell? ⟨m, 2, none⟩ = some (.map (some h)) ∧ w2.cell? ⟨W.heap.size + 1, 4, none⟩ = some (.int .u64 5) ∧ w2.cell? ⟨m, 1, none⟩ = some (.map (some n))) ∧ Hid (w2.heap[h]? = some (.map #[⟨.int .u64 5, .map (some w0.heap.size), 0⟩] 1) ∧ w2.heap[w0.heap.size]? = some (.map #[⟨.int .u64 7, .int .u64 1, 0⟩] 1) ∧ Chg (fun k => k = h) W w2)) := by
  intro w1 L1 C1d
  have C1 : Chg (fun _ => False) w0 w1 := ((Chg.refl (fun _ => False) w0).drew).trans C1d (fun _ _ x => x) (fun _ _ x => x)
  have m1 := m0.chg C1 (fun x => x)
  have a1 : w1.heap[W.heap.size + 1]? = some (.cells #[.int .i64 0, .bool false, .int .u64 0, .bool false, .int .u64 5, .slice none 0 0, .int .u64 0] 39 (0, 0)) := (C1.block _ (lt_of a0) (fun x => x)).trans a0
  have h1 : w1.heap[h]? = some (.map #[] 0) := (C1.block h (Array.getElem?_eq_some_iff.1 h0).1 (fun x => x)).trans h0
  have hu := hold_0 h1 (.map (some w0.heap.size))
  obtain ⟨w2, hw2⟩ : ∃ w2, w2 = ChangeMaps.setBlock w1 h (.map #[⟨.int .u64 5, .map (some w0.heap.size), 0⟩] 1) := ⟨_, rfl⟩
  have K2 : Chg (fun k => k = h) w1 w2 := by rw [hw2]; exact setBlock_chg h1 _
  have HH2 : w2.heap[h]? = some (.map #[⟨.int .u64 5, .map (some w0.heap.size), 0⟩] 1) := by rw [hw2]; exact setBlock_at h1 _
  have HL2 : w2.heap[w0.heap.size]? = some (.map #[⟨.int .u64 7, .int .u64 1, 0⟩] 1) := (K2.block _ (Array.getElem?_eq_some_iff.1 L1).1 (by omega)).trans L1
  have m2 := m1.chg K2 hmh
  have a2 : w2.heap[W.heap.size + 1]? = some (.cells #[.int .i64 0, .bool false, .int .u64 0, .bool false, .int .u64 5, .slice none 0 0, .int .u64 0] 39 (0, 0)) := (K2.block _ (lt_of a1) (by omega)).trans a1
  rw [← hw2] at hu
  exact ⟨w2, hu, ⟨cell_of m1 2, cell_of a1 4, cell_of m1 1⟩, ⟨cell_of m2 2, cell_of a2 4, cell_of m2 1⟩, HH2, HL2, (C0.trans C1 (H := fun _ => False) (fun _ _ x => x) (fun _ _ x => x)).trans K2 (fun _ _ x => x.elim) (fun _ _ x => x)⟩
 have HZ : Hid (W.heap.size ≤ w0.heap.size) := z0
 clear hm hN hH C0 o0 a0 m0 n0 h0 hnl hhl hml z0
 go_enter Tryz.func43, Tryz.ntmps43
 go_upto_region 1 with fail
 rw [← hw0]
 clear hw0
 go_upto_region 12 with fail
 go_region_held3 (fun w' => w'.cell? ⟨m, 2, none⟩ = some (.map (some h)) ∧ w'.cell? ⟨W.heap.size + 1, 4, none⟩ = some (.int .u64 5) ∧ w'.cell? ⟨m, 1, none⟩ = some (.map (some n))) (first | exact HS0.out | exact hS5 | exact hS6)
  (first | (go_at_call 86; refine HCL.out.mono ?_; rintro e z ⟨rfl, L1, C1⟩; obtain ⟨w2, hu, hS5, hS6, HE⟩ := HSE.out z L1 C1; clear L1 C1))
 all_goals (
  (try go_wp2_with fail)
  go_end0
  exact ⟨rfl, w0.heap.size, HZ.out, HE.out.1, HE.out.2.1, HE.out.2.2⟩)
end Go.Proofs.YtahgaghokpicgaaGreat
