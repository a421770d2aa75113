/- The model's tells and do, of the operations that are asked for. -/
import Derived.Test.YtbmfjcdafjknaaaMsL
namespace Go.Proofs.Ytbmfjcdafjknaaa
open Go.RowKit
set_option linter.unusedVariables false

theorem bset {w : World} {g : Nat} {cs : Array Value} {t : TypeId} (h : w.heap[g]? = some (.cells cs t (0, 0))) (i : Nat) (v : Value) : (w.setCell ⟨g, i, none⟩ v).heap[g]? = some (.cells (cs.setIfInBounds i v) t (0, 0)) := set_of h i v
def IsModel (W : World) (m n h : Nat) : Prop := W.heap[m]? = some (.cells #[.int .i64 4, .map (some n), .map (some h)] 108 (0, 0))
theorem IsModel.chg {F : Nat → Prop} {W W' : World} {m n h : Nat} (H : IsModel W m n h) (c : Chg F W W') (hn : ¬ F m) : IsModel W' m n h := (c.block m (lt_of H) hn).trans H
theorem setP {W : World} {p i : Nat} (u : Value) : Chg (fun k => k = p) W (W.setCell ⟨p, i, none⟩ u) := (Chg.refl (fun k => k = p) W).setCell (p := ⟨p, i, none⟩) (fun _ => rfl) u
theorem setCells_of (t : TypeId) (p : Nat) (vs : List Value) : ∀ (pre old post : List Value) (w : World), w.heap[p]? = some (.cells (pre ++ old ++ post).toArray t (0, 0)) → old.length = vs.length → (w.setCells p pre.length vs).heap[p]? = some (.cells (pre ++ vs ++ post).toArray t (0, 0)) := by
  induction vs with
  | nil =>
    intro pre old post w h hl
    obtain rfl : old = [] := List.length_eq_zero_iff.1 hl
    simpa [World.setCells] using h
  | cons x vs ih =>
    intro pre old post w h hl
    obtain ⟨y, old', rfl⟩ : ∃ y old', old = y :: old' := by
      cases old with
      | nil => simp at hl
      | cons y o => exact ⟨y, o, rfl⟩
    have h1 := set_of h pre.length x
    have e : (pre ++ y :: old' ++ post).toArray.setIfInBounds pre.length x = ((pre ++ [x]) ++ old' ++ post).toArray := by
      rw [List.setIfInBounds_toArray]
      congr 1
      simp
    rw [e] at h1
    have h2 := ih (pre ++ [x]) old' post (w.setCell ⟨p, pre.length, none⟩ x) h1 (by simpa using hl)
    simp only [List.length_append, List.length_singleton] at h2
    simpa [World.setCells] using h2
theorem setCells_chg (p : Nat) (vs : List Value) : ∀ (o : Nat) (w : World), Chg (fun k => k = p) w (w.setCells p o vs) := by
  induction vs with
  | nil => intro o w; exact Chg.refl _ _
  | cons x vs ih =>
    intro o w
    exact (setP (W := w) (p := p) (i := o) x).trans (ih (o + 1) _) (fun _ _ x => x) (fun _ _ x => x)
set_option maxRecDepth 100000 in
set_option maxHeartbeats 4000000 in
theorem tells_2 (v : Nat) {W : World} {m n h : Nat} (hm : IsModel W m n h) (x : Nat) (th : Bool) (hlk : ∀ w, Chg (fun _ => False) W w → (Instr.lookup 105 (.map (some n)) (.int .u64 7) true).run Try.prog w = .ok (.tuple #[.int .u64 (x : Int), .bool th]) w) :
    Calls Try.prog 57 #[.pointer (some ⟨m, 0, none⟩), .agg #[.int .u8 2, .int .u64 (7 : Int), .int .u64 (v : Int), .int .u64 0, .int .u64 0, .bool false, .int .i64 0, .int .i64 0, .slice none 0 0, .int .u64 0, .int .u64 0], .int .u64 0] W fun e W' => e = .returned (.agg #[.int .i64 0, .bool th, .int .u64 (x : Int), .bool false, .int .u64 0, .slice none 0 0, .int .u64 0]) ∧ Chg (fun _ => False) W W' := by
  obtain ⟨w0, hw0⟩ : ∃ w0, w0 = ((W.alloc (.cells #[.int .u8 2, .int .u64 (7 : Int), .int .u64 (v : Int), .int .u64 0, .int .u64 0, .bool false, .int .i64 0, .int .i64 0, .slice none 0 0, .int .u64 0, .int .u64 0] 66)).alloc (.cells #[.int .i64 0, .bool false, .int .u64 0, .bool false, .int .u64 0, .slice none 0 0, .int .u64 0] 59)).alloc (.cells #[.int .i64 0, .bool false, .int .u64 0, .bool false, .int .u64 0, .slice none 0 0, .int .u64 0] 59) := ⟨_, rfl⟩
  have C0 : Chg (fun _ => False) W w0 := by rw [hw0]; exact (((Chg.refl _ _).alloc _).alloc _).alloc _
  have m0 := hm.chg C0 (fun x => x)
  have o0 : w0.heap[W.heap.size]? = some (.cells #[.int .u8 2, .int .u64 (7 : Int), .int .u64 (v : Int), .int .u64 0, .int .u64 0, .bool false, .int .i64 0, .int .i64 0, .slice none 0 0, .int .u64 0, .int .u64 0] 66 (0, 0)) := by rw [hw0]; exact alloc_of (alloc_of (heap_alloc_new _ _) _) _
  have a0 : w0.heap[W.heap.size + 1]? = some (.cells #[.int .i64 0, .bool false, .int .u64 0, .bool false, .int .u64 0, .slice none 0 0, .int .u64 0] 59 (0, 0)) := by
    have e := heap_alloc_new (W.alloc (.cells #[.int .u8 2, .int .u64 (7 : Int), .int .u64 (v : Int), .int .u64 0, .int .u64 0, .bool false, .int .i64 0, .int .i64 0, .slice none 0 0, .int .u64 0, .int .u64 0] 66)) (.cells #[.int .i64 0, .bool false, .int .u64 0, .bool false, .int .u64 0, .slice none 0 0, .int .u64 0] 59)
    rw [World.size_alloc] at e
    rw [hw0]
    exact alloc_of e _
  have b0 : w0.heap[W.heap.size + 1 + 1]? = some (.cells #[.int .i64 0, .bool false, .int .u64 0, .bool false, .int .u64 0, .slice none 0 0, .int .u64 0] 59 (0, 0)) := by
    have e := heap_alloc_new ((W.alloc (.cells #[.int .u8 2, .int .u64 (7 : Int), .int .u64 (v : Int), .int .u64 0, .int .u64 0, .bool false, .int .i64 0, .int .i64 0, .slice none 0 0, .int .u64 0, .int .u64 0] 66)).alloc (.cells #[.int .i64 0, .bool false, .int .u64 0, .bool false, .int .u64 0, .slice none 0 0, .int .u64 0] 59)) (.cells #[.int .i64 0, .bool false, .int .u64 0, .bool false, .int .u64 0, .slice none 0 0, .int .u64 0] 59)
    rw [World.size_alloc, World.size_alloc] at e
    rw [hw0]
    exact e
  have k0 : w0.cell? ⟨W.heap.size, 0, none⟩ = some (.int .u8 2) := cell_of o0 0
  have HS0 : Hid (w0.cell? ⟨m, 1, none⟩ = some (.map (some n)) ∧ w0.cell? ⟨W.heap.size, 1, none⟩ = some (.int .u64 7)) := ⟨cell_of m0 1, cell_of o0 1⟩
  have hl0 := hlk w0.drew C0.drew
  have e2 : w0.cell? ⟨W.heap.size + 1 + 1, 2, none⟩ = some (.int .u64 0) := cell_of b0 2
  have g2 := free_of b0 2
  have b1 := bset b0 2 (.int .u64 (x : Int))
  have e1 : (w0.setCell ⟨W.heap.size + 1 + 1, 2, none⟩ (.int .u64 (x : Int))).cell? ⟨W.heap.size + 1 + 1, 1, none⟩ = some (.bool false) := cell_of b1 1
  have g1 := free_of b1 1
  have e1' : w0.cell? ⟨W.heap.size + 1 + 1, 1, none⟩ = some (.bool false) := cell_of b0 1
  have b2 := bset b1 1 (.bool th)
  have hlm := lt_of hm
  have hm1 : m ≠ W.heap.size + 1 + 1 := by omega
  have ho1 : W.heap.size ≠ W.heap.size + 1 + 1 := by omega
  have m1 : IsModel (w0.setCell ⟨W.heap.size + 1 + 1, 2, none⟩ (.int .u64 (x : Int))) m n h := (Below.heap_setCell _ _ _ _ hm1).trans m0
  have o1 := (Below.heap_setCell w0 ⟨W.heap.size + 1 + 1, 2, none⟩ (.int .u64 (x : Int)) W.heap.size ho1).trans o0
  have hS5 : (w0.setCell ⟨W.heap.size + 1 + 1, 2, none⟩ (.int .u64 (x : Int))).cell? ⟨m, 1, none⟩ = some (.map (some n)) ∧ (w0.setCell ⟨W.heap.size + 1 + 1, 2, none⟩ (.int .u64 (x : Int))).cell? ⟨W.heap.size, 1, none⟩ = some (.int .u64 7) := ⟨cell_of m1 1, cell_of o1 1⟩
  have m2 : IsModel ((w0.setCell ⟨W.heap.size + 1 + 1, 2, none⟩ (.int .u64 (x : Int))).setCell ⟨W.heap.size + 1 + 1, 1, none⟩ (.bool th)) m n h := (Below.heap_setCell _ _ _ _ hm1).trans m1
  have o2 := (Below.heap_setCell (w0.setCell ⟨W.heap.size + 1 + 1, 2, none⟩ (.int .u64 (x : Int))) ⟨W.heap.size + 1 + 1, 1, none⟩ (.bool th) W.heap.size ho1).trans o1
  have hS6 : ((w0.setCell ⟨W.heap.size + 1 + 1, 2, none⟩ (.int .u64 (x : Int))).setCell ⟨W.heap.size + 1 + 1, 1, none⟩ (.bool th)).cell? ⟨m, 1, none⟩ = some (.map (some n)) ∧ ((w0.setCell ⟨W.heap.size + 1 + 1, 2, none⟩ (.int .u64 (x : Int))).setCell ⟨W.heap.size + 1 + 1, 1, none⟩ (.bool th)).cell? ⟨W.heap.size, 1, none⟩ = some (.int .u64 7) := ⟨cell_of m2 1, cell_of o2 1⟩
  obtain ⟨w1, hw1⟩ : ∃ w1, w1 = ((w0.setCell ⟨W.heap.size + 1 + 1, 2, none⟩ (.int .u64 (x : Int))).setCell ⟨W.heap.size + 1 + 1, 1, none⟩ (.bool th)).drew := ⟨_, rfl⟩
  have B1 : w1.heap[W.heap.size + 1 + 1]? = some (.cells #[.int .i64 0, .bool th, .int .u64 (x : Int), .bool false, .int .u64 0, .slice none 0 0, .int .u64 0] 59 (0, 0)) := by rw [hw1]; exact b2
  have A1 : w1.heap[W.heap.size + 1]? = some (.cells #[.int .i64 0, .bool false, .int .u64 0, .bool false, .int .u64 0, .slice none 0 0, .int .u64 0] 59 (0, 0)) := by
    rw [hw1]
    have ne : W.heap.size + 1 ≠ W.heap.size + 1 + 1 := by omega
    exact (Below.heap_setCell _ _ _ _ ne).trans ((Below.heap_setCell _ _ _ _ ne).trans a0)
  have C1 : Chg (fun _ => False) W w1 := by
    rw [hw1]
    exact ((C0.trans (setP _) (fun _ _ x => x) (fun i hi e => by omega)).trans (setP _) (fun _ _ x => x) (fun i hi e => by omega)).drew
  clear b1 b2 m1 m2 o1 o2 hlm hm1 ho1 b0 a0 m0 o0 C0 hlk hm
  have r0 : w1.cell? ⟨W.heap.size + 1 + 1, 0, none⟩ = some (.int .i64 0) := cell_of B1 0
  have r1 : w1.cell? ⟨W.heap.size + 1 + 1, 1, none⟩ = some (.bool th) := cell_of B1 1
  have r2 : w1.cell? ⟨W.heap.size + 1 + 1, 2, none⟩ = some (.int .u64 (x : Int)) := cell_of B1 2
  have r3 : w1.cell? ⟨W.heap.size + 1 + 1, 3, none⟩ = some (.bool false) := cell_of B1 3
  have r4 : w1.cell? ⟨W.heap.size + 1 + 1, 4, none⟩ = some (.int .u64 0) := cell_of B1 4
  have r5 : w1.cell? ⟨W.heap.size + 1 + 1, 5, none⟩ = some (.slice none 0 0) := cell_of B1 5
  have r6 : w1.cell? ⟨W.heap.size + 1 + 1, 6, none⟩ = some (.int .u64 0) := cell_of B1 6
  obtain ⟨w2, hw2⟩ : ∃ w2, w2 = w1.setCells (W.heap.size + 1) 0 (#[.int .i64 0, .bool th, .int .u64 (x : Int), .bool false, .int .u64 0, .slice none 0 0, .int .u64 0] : Array Value).toList := ⟨_, rfl⟩
  have A2 : w2.heap[W.heap.size + 1]? = some (.cells #[.int .i64 0, .bool th, .int .u64 (x : Int), .bool false, .int .u64 0, .slice none 0 0, .int .u64 0] 59 (0, 0)) := by
    rw [hw2]
    exact setCells_of 59 (W.heap.size + 1) (#[.int .i64 0, .bool th, .int .u64 (x : Int), .bool false, .int .u64 0, .slice none 0 0, .int .u64 0] : Array Value).toList [] (#[.int .i64 0, .bool false, .int .u64 0, .bool false, .int .u64 0, .slice none 0 0, .int .u64 0] : Array Value).toList [] w1 A1 rfl
  have C2 : Chg (fun _ => False) W w2 := by rw [hw2]; exact C1.trans (setCells_chg (W.heap.size + 1) _ 0 _) (fun _ _ x => x) (fun i hi e => by omega)
  have HTH : Hid (w1.there (W.heap.size + 1) 0 7) := fun j hj => ⟨by rw [cell_of A1]; match j, hj with | 0, _ => rfl | 1, _ => rfl | 2, _ => rfl | 3, _ => rfl | 4, _ => rfl | 5, _ => rfl | 6, _ => rfl, free_of A1 _⟩
  have HW := keepH hw2
  have HC2 := keepH C2
  have q0 : w2.cell? ⟨W.heap.size + 1, 0, none⟩ = some (.int .i64 0) := cell_of A2 0
  have q1 : w2.cell? ⟨W.heap.size + 1, 1, none⟩ = some (.bool th) := cell_of A2 1
  have q2 : w2.cell? ⟨W.heap.size + 1, 2, none⟩ = some (.int .u64 (x : Int)) := cell_of A2 2
  have q3 : w2.cell? ⟨W.heap.size + 1, 3, none⟩ = some (.bool false) := cell_of A2 3
  have q4 : w2.cell? ⟨W.heap.size + 1, 4, none⟩ = some (.int .u64 0) := cell_of A2 4
  have q5 : w2.cell? ⟨W.heap.size + 1, 5, none⟩ = some (.slice none 0 0) := cell_of A2 5
  have q6 : w2.cell? ⟨W.heap.size + 1, 6, none⟩ = some (.int .u64 0) := cell_of A2 6
  clear hw2 A1 A2 B1 C1 C2
  go_enter Try.func57, Try.ntmps57
  go_upto_region 2 with fail
  rw [← hw0]
  clear hw0
  go_upto_region 15 with fail
  go_region_held3 (fun w' => w'.cell? ⟨m, 1, none⟩ = some (.map (some n)) ∧ w'.cell? ⟨W.heap.size, 1, none⟩ = some (.int .u64 7)) (first | exact HS0.out | exact hS5 | exact hS6) (fail)
  all_goals (
    rw [← hw1]
    clear hw1
    go_wp2_with (refine wpList_store_mid rfl 59 (.tmp 6) (.tmp 84) rfl (W.heap.size + 1) 0 #[.int .i64 0, .bool th, .int .u64 (x : Int), .bool false, .int .u64 0, .slice none 0 0, .int .u64 0] rfl rfl HTH.out (by kernel_rfl) (by kernel_rfl) ?_; rw [← HW.out]; clear HW HTH)
    (try go_wp2_with fail)
    refine bodyPost_ret (v := .agg #[.int .i64 0, .bool th, .int .u64 (x : Int), .bool false, .int .u64 0, .slice none 0 0, .int .u64 0]) (by simp [results, Try.results57, go_sem, q0, q1, q2, q3, q4, q5, q6]) rfl ⟨rfl, HC2.out⟩)
set_option maxRecDepth 100000 in
set_option maxHeartbeats 4000000 in
theorem tells_1 (v : Nat) {W : World} {m n h : Nat} (hm : IsModel W m n h) (x : Nat) (th : Bool) (hlk : ∀ w, Chg (fun _ => False) W w → (Instr.lookup 105 (.map (some n)) (.int .u64 7) true).run Try.prog w = .ok (.tuple #[.int .u64 (x : Int), .bool th]) w) :
    Calls Try.prog 57 #[.pointer (some ⟨m, 0, none⟩), .agg #[.int .u8 1, .int .u64 (7 : Int), .int .u64 (0 : Int), .int .u64 0, .int .u64 0, .bool false, .int .i64 0, .int .i64 0, .slice none 0 0, .int .u64 0, .int .u64 0], .int .u64 0] W fun e W' => e = .returned (.agg #[.int .i64 0, .bool th, .int .u64 (x : Int), .bool false, .int .u64 0, .slice none 0 0, .int .u64 0]) ∧ Chg (fun _ => False) W W' := by
  obtain ⟨w0, hw0⟩ : ∃ w0, w0 = ((W.alloc (.cells #[.int .u8 1, .int .u64 (7 : Int), .int .u64 (0 : Int), .int .u64 0, .int .u64 0, .bool false, .int .i64 0, .int .i64 0, .slice none 0 0, .int .u64 0, .int .u64 0] 66)).alloc (.cells #[.int .i64 0, .bool false, .int .u64 0, .bool false, .int .u64 0, .slice none 0 0, .int .u64 0] 59)).alloc (.cells #[.int .i64 0, .bool false, .int .u64 0, .bool false, .int .u64 0, .slice none 0 0, .int .u64 0] 59) := ⟨_, rfl⟩
  have C0 : Chg (fun _ => False) W w0 := by rw [hw0]; exact (((Chg.refl _ _).alloc _).alloc _).alloc _
  have m0 := hm.chg C0 (fun x => x)
  have o0 : w0.heap[W.heap.size]? = some (.cells #[.int .u8 1, .int .u64 (7 : Int), .int .u64 (0 : Int), .int .u64 0, .int .u64 0, .bool false, .int .i64 0, .int .i64 0, .slice none 0 0, .int .u64 0, .int .u64 0] 66 (0, 0)) := by rw [hw0]; exact alloc_of (alloc_of (heap_alloc_new _ _) _) _
  have a0 : w0.heap[W.heap.size + 1]? = some (.cells #[.int .i64 0, .bool false, .int .u64 0, .bool false, .int .u64 0, .slice none 0 0, .int .u64 0] 59 (0, 0)) := by
    have e := heap_alloc_new (W.alloc (.cells #[.int .u8 1, .int .u64 (7 : Int), .int .u64 (0 : Int), .int .u64 0, .int .u64 0, .bool false, .int .i64 0, .int .i64 0, .slice none 0 0, .int .u64 0, .int .u64 0] 66)) (.cells #[.int .i64 0, .bool false, .int .u64 0, .bool false, .int .u64 0, .slice none 0 0, .int .u64 0] 59)
    rw [World.size_alloc] at e
    rw [hw0]
    exact alloc_of e _
  have b0 : w0.heap[W.heap.size + 1 + 1]? = some (.cells #[.int .i64 0, .bool false, .int .u64 0, .bool false, .int .u64 0, .slice none 0 0, .int .u64 0] 59 (0, 0)) := by
    have e := heap_alloc_new ((W.alloc (.cells #[.int .u8 1, .int .u64 (7 : Int), .int .u64 (0 : Int), .int .u64 0, .int .u64 0, .bool false, .int .i64 0, .int .i64 0, .slice none 0 0, .int .u64 0, .int .u64 0] 66)).alloc (.cells #[.int .i64 0, .bool false, .int .u64 0, .bool false, .int .u64 0, .slice none 0 0, .int .u64 0] 59)) (.cells #[.int .i64 0, .bool false, .int .u64 0, .bool false, .int .u64 0, .slice none 0 0, .int .u64 0] 59)
    rw [World.size_alloc, World.size_alloc] at e
    rw [hw0]
    exact e
  have k0 : w0.cell? ⟨W.heap.size, 0, none⟩ = some (.int .u8 1) := cell_of o0 0
  have HS0 : Hid (w0.cell? ⟨m, 1, none⟩ = some (.map (some n)) ∧ w0.cell? ⟨W.heap.size, 1, none⟩ = some (.int .u64 7)) := ⟨cell_of m0 1, cell_of o0 1⟩
  have hl0 := hlk w0.drew C0.drew
  have e2 : w0.cell? ⟨W.heap.size + 1 + 1, 2, none⟩ = some (.int .u64 0) := cell_of b0 2
  have g2 := free_of b0 2
  have b1 := bset b0 2 (.int .u64 (x : Int))
  have e1 : (w0.setCell ⟨W.heap.size + 1 + 1, 2, none⟩ (.int .u64 (x : Int))).cell? ⟨W.heap.size + 1 + 1, 1, none⟩ = some (.bool false) := cell_of b1 1
  have g1 := free_of b1 1
  have e1' : w0.cell? ⟨W.heap.size + 1 + 1, 1, none⟩ = some (.bool false) := cell_of b0 1
  have b2 := bset b1 1 (.bool th)
  have hlm := lt_of hm
  have hm1 : m ≠ W.heap.size + 1 + 1 := by omega
  have ho1 : W.heap.size ≠ W.heap.size + 1 + 1 := by omega
  have m1 : IsModel (w0.setCell ⟨W.heap.size + 1 + 1, 2, none⟩ (.int .u64 (x : Int))) m n h := (Below.heap_setCell _ _ _ _ hm1).trans m0
  have o1 := (Below.heap_setCell w0 ⟨W.heap.size + 1 + 1, 2, none⟩ (.int .u64 (x : Int)) W.heap.size ho1).trans o0
  have hS5 : (w0.setCell ⟨W.heap.size + 1 + 1, 2, none⟩ (.int .u64 (x : Int))).cell? ⟨m, 1, none⟩ = some (.map (some n)) ∧ (w0.setCell ⟨W.heap.size + 1 + 1, 2, none⟩ (.int .u64 (x : Int))).cell? ⟨W.heap.size, 1, none⟩ = some (.int .u64 7) := ⟨cell_of m1 1, cell_of o1 1⟩
  have m2 : IsModel ((w0.setCell ⟨W.heap.size + 1 + 1, 2, none⟩ (.int .u64 (x : Int))).setCell ⟨W.heap.size + 1 + 1, 1, none⟩ (.bool th)) m n h := (Below.heap_setCell _ _ _ _ hm1).trans m1
  have o2 := (Below.heap_setCell (w0.setCell ⟨W.heap.size + 1 + 1, 2, none⟩ (.int .u64 (x : Int))) ⟨W.heap.size + 1 + 1, 1, none⟩ (.bool th) W.heap.size ho1).trans o1
  have hS6 : ((w0.setCell ⟨W.heap.size + 1 + 1, 2, none⟩ (.int .u64 (x : Int))).setCell ⟨W.heap.size + 1 + 1, 1, none⟩ (.bool th)).cell? ⟨m, 1, none⟩ = some (.map (some n)) ∧ ((w0.setCell ⟨W.heap.size + 1 + 1, 2, none⟩ (.int .u64 (x : Int))).setCell ⟨W.heap.size + 1 + 1, 1, none⟩ (.bool th)).cell? ⟨W.heap.size, 1, none⟩ = some (.int .u64 7) := ⟨cell_of m2 1, cell_of o2 1⟩
  obtain ⟨w1, hw1⟩ : ∃ w1, w1 = ((w0.setCell ⟨W.heap.size + 1 + 1, 2, none⟩ (.int .u64 (x : Int))).setCell ⟨W.heap.size + 1 + 1, 1, none⟩ (.bool th)).drew := ⟨_, rfl⟩
  have B1 : w1.heap[W.heap.size + 1 + 1]? = some (.cells #[.int .i64 0, .bool th, .int .u64 (x : Int), .bool false, .int .u64 0, .slice none 0 0, .int .u64 0] 59 (0, 0)) := by rw [hw1]; exact b2
  have A1 : w1.heap[W.heap.size + 1]? = some (.cells #[.int .i64 0, .bool false, .int .u64 0, .bool false, .int .u64 0, .slice none 0 0, .int .u64 0] 59 (0, 0)) := by
    rw [hw1]
    have ne : W.heap.size + 1 ≠ W.heap.size + 1 + 1 := by omega
    exact (Below.heap_setCell _ _ _ _ ne).trans ((Below.heap_setCell _ _ _ _ ne).trans a0)
  have C1 : Chg (fun _ => False) W w1 := by
    rw [hw1]
    exact ((C0.trans (setP _) (fun _ _ x => x) (fun i hi e => by omega)).trans (setP _) (fun _ _ x => x) (fun i hi e => by omega)).drew
  clear b1 b2 m1 m2 o1 o2 hlm hm1 ho1 b0 a0 m0 o0 C0 hlk hm
  have r0 : w1.cell? ⟨W.heap.size + 1 + 1, 0, none⟩ = some (.int .i64 0) := cell_of B1 0
  have r1 : w1.cell? ⟨W.heap.size + 1 + 1, 1, none⟩ = some (.bool th) := cell_of B1 1
  have r2 : w1.cell? ⟨W.heap.size + 1 + 1, 2, none⟩ = some (.int .u64 (x : Int)) := cell_of B1 2
  have r3 : w1.cell? ⟨W.heap.size + 1 + 1, 3, none⟩ = some (.bool false) := cell_of B1 3
  have r4 : w1.cell? ⟨W.heap.size + 1 + 1, 4, none⟩ = some (.int .u64 0) := cell_of B1 4
  have r5 : w1.cell? ⟨W.heap.size + 1 + 1, 5, none⟩ = some (.slice none 0 0) := cell_of B1 5
  have r6 : w1.cell? ⟨W.heap.size + 1 + 1, 6, none⟩ = some (.int .u64 0) := cell_of B1 6
  obtain ⟨w2, hw2⟩ : ∃ w2, w2 = w1.setCells (W.heap.size + 1) 0 (#[.int .i64 0, .bool th, .int .u64 (x : Int), .bool false, .int .u64 0, .slice none 0 0, .int .u64 0] : Array Value).toList := ⟨_, rfl⟩
  have A2 : w2.heap[W.heap.size + 1]? = some (.cells #[.int .i64 0, .bool th, .int .u64 (x : Int), .bool false, .int .u64 0, .slice none 0 0, .int .u64 0] 59 (0, 0)) := by
    rw [hw2]
    exact setCells_of 59 (W.heap.size + 1) (#[.int .i64 0, .bool th, .int .u64 (x : Int), .bool false, .int .u64 0, .slice none 0 0, .int .u64 0] : Array Value).toList [] (#[.int .i64 0, .bool false, .int .u64 0, .bool false, .int .u64 0, .slice none 0 0, .int .u64 0] : Array Value).toList [] w1 A1 rfl
  have C2 : Chg (fun _ => False) W w2 := by rw [hw2]; exact C1.trans (setCells_chg (W.heap.size + 1) _ 0 _) (fun _ _ x => x) (fun i hi e => by omega)
  have HTH : Hid (w1.there (W.heap.size + 1) 0 7) := fun j hj => ⟨by rw [cell_of A1]; match j, hj with | 0, _ => rfl | 1, _ => rfl | 2, _ => rfl | 3, _ => rfl | 4, _ => rfl | 5, _ => rfl | 6, _ => rfl, free_of A1 _⟩
  have HW := keepH hw2
  have HC2 := keepH C2
  have q0 : w2.cell? ⟨W.heap.size + 1, 0, none⟩ = some (.int .i64 0) := cell_of A2 0
  have q1 : w2.cell? ⟨W.heap.size + 1, 1, none⟩ = some (.bool th) := cell_of A2 1
  have q2 : w2.cell? ⟨W.heap.size + 1, 2, none⟩ = some (.int .u64 (x : Int)) := cell_of A2 2
  have q3 : w2.cell? ⟨W.heap.size + 1, 3, none⟩ = some (.bool false) := cell_of A2 3
  have q4 : w2.cell? ⟨W.heap.size + 1, 4, none⟩ = some (.int .u64 0) := cell_of A2 4
  have q5 : w2.cell? ⟨W.heap.size + 1, 5, none⟩ = some (.slice none 0 0) := cell_of A2 5
  have q6 : w2.cell? ⟨W.heap.size + 1, 6, none⟩ = some (.int .u64 0) := cell_of A2 6
  clear hw2 A1 A2 B1 C1 C2
  go_enter Try.func57, Try.ntmps57
  go_upto_region 2 with fail
  rw [← hw0]
  clear hw0
  go_upto_region 15 with fail
  go_region_held3 (fun w' => w'.cell? ⟨m, 1, none⟩ = some (.map (some n)) ∧ w'.cell? ⟨W.heap.size, 1, none⟩ = some (.int .u64 7)) (first | exact HS0.out | exact hS5 | exact hS6) (fail)
  all_goals (
    rw [← hw1]
    clear hw1
    go_wp2_with (refine wpList_store_mid rfl 59 (.tmp 6) (.tmp 84) rfl (W.heap.size + 1) 0 #[.int .i64 0, .bool th, .int .u64 (x : Int), .bool false, .int .u64 0, .slice none 0 0, .int .u64 0] rfl rfl HTH.out (by kernel_rfl) (by kernel_rfl) ?_; rw [← HW.out]; clear HW HTH)
    (try go_wp2_with fail)
    refine bodyPost_ret (v := .agg #[.int .i64 0, .bool th, .int .u64 (x : Int), .bool false, .int .u64 0, .slice none 0 0, .int .u64 0]) (by simp [results, Try.results57, go_sem, q0, q1, q2, q3, q4, q5, q6]) rfl ⟨rfl, HC2.out⟩)
set_option maxRecDepth 100000 in
set_option maxHeartbeats 4000000 in
theorem tells_5 (v : Nat) {W : World} {m n h : Nat} (hm : IsModel W m n h) (hlk : ∀ w, Chg (fun _ => False) W w → (Instr.lookup 106 (.map (some h)) (.int .u64 5) true).run Try.prog w = .ok (.tuple #[.map none, .bool false]) w) :
    Calls Try.prog 57 #[.pointer (some ⟨m, 0, none⟩), .agg #[.int .u8 5, .int .u64 (0 : Int), .int .u64 (0 : Int), .int .u64 0, .int .u64 0, .bool false, .int .i64 0, .int .i64 0, .slice none 0 0, .int .u64 0, .int .u64 0], .int .u64 5] W fun e W' => e = .returned (.agg #[.int .i64 0, .bool false, .int .u64 0, .bool false, .int .u64 5, .slice none 0 0, .int .u64 0]) ∧ Chg (fun _ => False) W W' := by
  obtain ⟨w0, hw0⟩ : ∃ w0, w0 = ((W.alloc (.cells #[.int .u8 5, .int .u64 (0 : Int), .int .u64 (0 : Int), .int .u64 0, .int .u64 0, .bool false, .int .i64 0, .int .i64 0, .slice none 0 0, .int .u64 0, .int .u64 0] 66)).alloc (.cells #[.int .i64 0, .bool false, .int .u64 0, .bool false, .int .u64 0, .slice none 0 0, .int .u64 0] 59)).alloc (.cells #[.int .i64 0, .bool false, .int .u64 0, .bool false, .int .u64 0, .slice none 0 0, .int .u64 0] 59) := ⟨_, rfl⟩
  have C0 : Chg (fun _ => False) W w0 := by rw [hw0]; exact (((Chg.refl _ _).alloc _).alloc _).alloc _
  have m0 := hm.chg C0 (fun x => x)
  have o0 : w0.heap[W.heap.size]? = some (.cells #[.int .u8 5, .int .u64 (0 : Int), .int .u64 (0 : Int), .int .u64 0, .int .u64 0, .bool false, .int .i64 0, .int .i64 0, .slice none 0 0, .int .u64 0, .int .u64 0] 66 (0, 0)) := by rw [hw0]; exact alloc_of (alloc_of (heap_alloc_new _ _) _) _
  have a0 : w0.heap[W.heap.size + 1]? = some (.cells #[.int .i64 0, .bool false, .int .u64 0, .bool false, .int .u64 0, .slice none 0 0, .int .u64 0] 59 (0, 0)) := by
    have e := heap_alloc_new (W.alloc (.cells #[.int .u8 5, .int .u64 (0 : Int), .int .u64 (0 : Int), .int .u64 0, .int .u64 0, .bool false, .int .i64 0, .int .i64 0, .slice none 0 0, .int .u64 0, .int .u64 0] 66)) (.cells #[.int .i64 0, .bool false, .int .u64 0, .bool false, .int .u64 0, .slice none 0 0, .int .u64 0] 59)
    rw [World.size_alloc] at e
    rw [hw0]
    exact alloc_of e _
  have b0 : w0.heap[W.heap.size + 1 + 1]? = some (.cells #[.int .i64 0, .bool false, .int .u64 0, .bool false, .int .u64 0, .slice none 0 0, .int .u64 0] 59 (0, 0)) := by
    have e := heap_alloc_new ((W.alloc (.cells #[.int .u8 5, .int .u64 (0 : Int), .int .u64 (0 : Int), .int .u64 0, .int .u64 0, .bool false, .int .i64 0, .int .i64 0, .slice none 0 0, .int .u64 0, .int .u64 0] 66)).alloc (.cells #[.int .i64 0, .bool false, .int .u64 0, .bool false, .int .u64 0, .slice none 0 0, .int .u64 0] 59)) (.cells #[.int .i64 0, .bool false, .int .u64 0, .bool false, .int .u64 0, .slice none 0 0, .int .u64 0] 59)
    rw [World.size_alloc, World.size_alloc] at e
    rw [hw0]
    exact e
  have k0 : w0.cell? ⟨W.heap.size, 0, none⟩ = some (.int .u8 5) := cell_of o0 0
  have HH := keepH (holds_any (v := .bool false) m0 false (.map none) (hlk w0 C0))
  have e4 : w0.cell? ⟨W.heap.size + 1 + 1, 4, none⟩ = some (.int .u64 0) := cell_of b0 4
  have g4 := free_of b0 4
  obtain ⟨w1, hw1⟩ : ∃ w1, w1 = w0.setCell ⟨W.heap.size + 1 + 1, 4, none⟩ (.int .u64 5) := ⟨_, rfl⟩
  have B1 : w1.heap[W.heap.size + 1 + 1]? = some (.cells #[.int .i64 0, .bool false, .int .u64 0, .bool false, .int .u64 5, .slice none 0 0, .int .u64 0] 59 (0, 0)) := by rw [hw1]; exact bset b0 4 _
  have A1 : w1.heap[W.heap.size + 1]? = some (.cells #[.int .i64 0, .bool false, .int .u64 0, .bool false, .int .u64 0, .slice none 0 0, .int .u64 0] 59 (0, 0)) := by
    rw [hw1]
    have ne : W.heap.size + 1 ≠ W.heap.size + 1 + 1 := by omega
    exact (Below.heap_setCell _ _ _ _ ne).trans a0
  have C1 : Chg (fun _ => False) W w1 := by
    rw [hw1]
    exact C0.trans (setP _) (fun _ _ x => x) (fun i hi e => by omega)
  clear b0 a0 m0 o0 C0 hlk hm
  have r0 : w1.cell? ⟨W.heap.size + 1 + 1, 0, none⟩ = some (.int .i64 0) := cell_of B1 0
  have r1 : w1.cell? ⟨W.heap.size + 1 + 1, 1, none⟩ = some (.bool false) := cell_of B1 1
  have r2 : w1.cell? ⟨W.heap.size + 1 + 1, 2, none⟩ = some (.int .u64 0) := cell_of B1 2
  have r3 : w1.cell? ⟨W.heap.size + 1 + 1, 3, none⟩ = some (.bool false) := cell_of B1 3
  have r4 : w1.cell? ⟨W.heap.size + 1 + 1, 4, none⟩ = some (.int .u64 5) := cell_of B1 4
  have r5 : w1.cell? ⟨W.heap.size + 1 + 1, 5, none⟩ = some (.slice none 0 0) := cell_of B1 5
  have r6 : w1.cell? ⟨W.heap.size + 1 + 1, 6, none⟩ = some (.int .u64 0) := cell_of B1 6
  obtain ⟨w2, hw2⟩ : ∃ w2, w2 = w1.setCells (W.heap.size + 1) 0 (#[.int .i64 0, .bool false, .int .u64 0, .bool false, .int .u64 5, .slice none 0 0, .int .u64 0] : Array Value).toList := ⟨_, rfl⟩
  have A2 : w2.heap[W.heap.size + 1]? = some (.cells #[.int .i64 0, .bool false, .int .u64 0, .bool false, .int .u64 5, .slice none 0 0, .int .u64 0] 59 (0, 0)) := by
    rw [hw2]
    exact setCells_of 59 (W.heap.size + 1) (#[.int .i64 0, .bool false, .int .u64 0, .bool false, .int .u64 5, .slice none 0 0, .int .u64 0] : Array Value).toList [] (#[.int .i64 0, .bool false, .int .u64 0, .bool false, .int .u64 0, .slice none 0 0, .int .u64 0] : Array Value).toList [] w1 A1 rfl
  have C2 : Chg (fun _ => False) W w2 := by rw [hw2]; exact C1.trans (setCells_chg (W.heap.size + 1) _ 0 _) (fun _ _ x => x) (fun i hi e => by omega)
  have HTH : Hid (w1.there (W.heap.size + 1) 0 7) := fun j hj => ⟨by rw [cell_of A1]; match j, hj with | 0, _ => rfl | 1, _ => rfl | 2, _ => rfl | 3, _ => rfl | 4, _ => rfl | 5, _ => rfl | 6, _ => rfl, free_of A1 _⟩
  have HW := keepH hw2
  have HC2 := keepH C2
  have q0 : w2.cell? ⟨W.heap.size + 1, 0, none⟩ = some (.int .i64 0) := cell_of A2 0
  have q1 : w2.cell? ⟨W.heap.size + 1, 1, none⟩ = some (.bool false) := cell_of A2 1
  have q2 : w2.cell? ⟨W.heap.size + 1, 2, none⟩ = some (.int .u64 0) := cell_of A2 2
  have q3 : w2.cell? ⟨W.heap.size + 1, 3, none⟩ = some (.bool false) := cell_of A2 3
  have q4 : w2.cell? ⟨W.heap.size + 1, 4, none⟩ = some (.int .u64 5) := cell_of A2 4
  have q5 : w2.cell? ⟨W.heap.size + 1, 5, none⟩ = some (.slice none 0 0) := cell_of A2 5
  have q6 : w2.cell? ⟨W.heap.size + 1, 6, none⟩ = some (.int .u64 0) := cell_of A2 6
  clear hw2 A1 A2 B1 C1 C2
  go_enter Try.func57, Try.ntmps57
  go_upto_region 2 with fail
  rw [← hw0]
  clear hw0
  all_goals (
    go_wp2_with fail
    refine HH.out.mono ?_
    rintro e z ⟨rfl, rfl⟩
    go_upto_region 25 with fail
    rw [← hw1]
    clear hw1
    go_wp2_with (refine wpList_store_mid rfl 59 (.tmp 6) (.tmp 84) rfl (W.heap.size + 1) 0 #[.int .i64 0, .bool false, .int .u64 0, .bool false, .int .u64 5, .slice none 0 0, .int .u64 0] rfl rfl HTH.out (by kernel_rfl) (by kernel_rfl) ?_; rw [← HW.out]; clear HW HTH)
    (try go_wp2_with fail)
    refine bodyPost_ret (v := .agg #[.int .i64 0, .bool false, .int .u64 0, .bool false, .int .u64 5, .slice none 0 0, .int .u64 0]) (by simp [results, Try.results57, go_sem, q0, q1, q2, q3, q4, q5, q6]) rfl ⟨rfl, HC2.out⟩)
end Go.Proofs.Ytbmfjcdafjknaaa
