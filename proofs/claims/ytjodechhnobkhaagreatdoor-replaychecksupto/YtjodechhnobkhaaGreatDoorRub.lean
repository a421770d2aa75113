/- The document's right. (mkRub.py) -/
import Derived.Test.YtjodechhnobkhaaGreatDoorRua
namespace Go.Proofs.YtjodechhnobkhaaGreatDoor
open Go.RowKit Go.Shelf
set_option linter.unusedVariables false

def RightQ (x : Ax) (v : Value) : Prop := ∃ r, v = .bool r ∧ (r = true ↔ RightA x)
theorem two_boxes (W : World) (o1 o2 : Obj) : Below W.heap.size W ((W.alloc o1).alloc o2) := (below_alloc _ _).trans ((below_alloc _ _).mono (by simp))
theorem set_below {W w : World} {b i : Nat} {v : Value} (h : Below W.heap.size W w) (hb : W.heap.size ≤ b) : Below W.heap.size W (w.setCell ⟨b, i, none⟩ v) := h.setCell hb _
theorem drew_heap {w : World} {b : Nat} {o : Obj} (h : w.heap[b]? = some o) : w.drew.heap[b]? = some o := h

set_option maxRecDepth 100000 in
set_option maxHeartbeats 4000000 in
theorem d_right_1 (th : Int) (ad a b got : Nat) (n : Nat) (vals : List Nat) (hn : n = vals.length) (p : Option Addr) (c : Nat) (ok : Bool) (W : World) (hu : URd W p vals) (hl : vals.length ≤ 1048576) :
    Calls Tryz.prog 34 #[.agg #[.int .i64 th, .int .u8 1, .int .u64 (ad : Int), .int .u64 (a : Int), .int .u64 (b : Int), .slice p n c, .int .u64 (got : Int), .bool ok]] W fun e W' => ∃ v, e = .returned v ∧ SameQ ⟨th, 1, ad, a, b, vals, got, ok⟩ ⟨th, 1, ad, 0, 0, [], got, false⟩ v ∧ Below W.heap.size W W' := by
  have HS : Hid (∀ w', Below W.heap.size W w' → Calls Tryz.prog 21 #[.agg (bxA ⟨th, 1, ad, a, b, vals, got, ok⟩ (.slice p vals.length c)), .agg (bxA ⟨th, 1, ad, 0, 0, [], got, false⟩ (.slice none (Ax.vals ⟨th, 1, ad, 0, 0, [], got, false⟩).length 0))] w' fun e W' => ∃ v, e = .returned v ∧ SameQ ⟨th, 1, ad, a, b, vals, got, ok⟩ ⟨th, 1, ad, 0, 0, [], got, false⟩ v ∧ Below w'.heap.size w' W') := keepH (fun w' hb => s_any ⟨th, 1, ad, a, b, vals, got, ok⟩ ⟨th, 1, ad, 0, 0, [], got, false⟩ p none c 0 w' (hu.on hb) (Or.inl rfl) hl (by simp))
  obtain ⟨w1, hw1⟩ : ∃ w1, w1 = (W.alloc (.cells #[.int .i64 th, .int .u8 1, .int .u64 (ad : Int), .int .u64 (a : Int), .int .u64 (b : Int), .slice p n c, .int .u64 (got : Int), .bool ok] 44)).alloc (.cells #[.int .i64 th, .int .u8 1, .int .u64 (ad : Int), .int .u64 0, .int .u64 0, .slice none 0 0, .int .u64 0, .bool false] 44) := ⟨_, rfl⟩
  obtain ⟨B, hB⟩ : ∃ B, B = W.heap.size := ⟨_, rfl⟩
  obtain ⟨C, hC⟩ : ∃ C, C = W.heap.size + 1 := ⟨_, rfl⟩
  have B1 : Below W.heap.size W w1 := by rw [hw1]; exact two_boxes _ _ _
  have X1 : w1.heap[B]? = some (.cells #[.int .i64 th, .int .u8 1, .int .u64 (ad : Int), .int .u64 (a : Int), .int .u64 (b : Int), .slice p n c, .int .u64 (got : Int), .bool ok] 44 (0, 0)) := by rw [hw1, hB]; exact alloc_of (heap_alloc_new _ _) _
  have Y1 : w1.heap[C]? = some (.cells #[.int .i64 th, .int .u8 1, .int .u64 (ad : Int), .int .u64 0, .int .u64 0, .slice none 0 0, .int .u64 0, .bool false] 44 (0, 0)) := by
    rw [hw1, hC]
    have e := heap_alloc_new (W.alloc (.cells #[.int .i64 th, .int .u8 1, .int .u64 (ad : Int), .int .u64 (a : Int), .int .u64 (b : Int), .slice p n c, .int .u64 (got : Int), .bool ok] 44)) (.cells #[.int .i64 th, .int .u8 1, .int .u64 (ad : Int), .int .u64 0, .int .u64 0, .slice none 0 0, .int .u64 0, .bool false] 44)
    rw [World.size_alloc] at e
    exact e
  have hne : B ≠ C := by omega
  have hC1 : W.heap.size ≤ C := by omega
  obtain ⟨w2, hw2⟩ : ∃ w2, w2 = (w1.setCell ⟨C, 6, none⟩ (.int .u64 (got : Int))) := ⟨_, rfl⟩
  have B2 : Below W.heap.size W w2 := by rw [hw2]; exact (set_below B1 hC1)
  have X2 : w2.heap[B]? = some (.cells #[.int .i64 th, .int .u8 1, .int .u64 (ad : Int), .int .u64 (a : Int), .int .u64 (b : Int), .slice p n c, .int .u64 (got : Int), .bool ok] 44 (0, 0)) := by rw [hw2]; exact (other_of X1 hne (.int .u64 (got : Int)))
  have Y2 : w2.heap[C]? = some (.cells #[.int .i64 th, .int .u8 1, .int .u64 (ad : Int), .int .u64 0, .int .u64 0, .slice none 0 0, .int .u64 (got : Int), .bool false] 44 (0, 0)) := by rw [hw2]; exact (set_of Y1 6 (.int .u64 (got : Int)))
  have HH := keepH (And.intro B2 (And.intro X2 Y2))
  have HW2 := keepH hw2
  have x0 : w1.cell? ⟨B, 0, none⟩ = some (.int .i64 th) := cell_of X1 0
  have x1 : w1.cell? ⟨B, 1, none⟩ = some (.int .u8 1) := cell_of X1 1
  have x2 : w1.cell? ⟨B, 2, none⟩ = some (.int .u64 (ad : Int)) := cell_of X1 2
  have x6 : w1.cell? ⟨B, 6, none⟩ = some (.int .u64 (got : Int)) := cell_of X1 6
  have y6 : w1.cell? ⟨C, 6, none⟩ = some (.int .u64 0) := cell_of Y1 6
  have z6 := free_of Y1 6
  have HX1 := keepH (And.intro X1 Y1)
  have HN := keepH hn
  clear hn hw2 B1 X1 Y1 B2 X2 Y2 hu hl
  go_enter Tryz.func34, Tryz.ntmps34
  go_upto_region 2 with fail
  rw [← hw1, show W.heap.size + 1 = C from hC.symm, ← hB]
  clear hw1 hB hC
  go_upto_region 14 with fail
  rw [← HW2.out]
  have e0 : w2.cell? ⟨B, 0, none⟩ = some (.int .i64 th) := cell_of HH.out.2.1 0
  have f0 : w2.cell? ⟨C, 0, none⟩ = some (.int .i64 th) := cell_of HH.out.2.2 0
  have e1 : w2.cell? ⟨B, 1, none⟩ = some (.int .u8 1) := cell_of HH.out.2.1 1
  have f1 : w2.cell? ⟨C, 1, none⟩ = some (.int .u8 1) := cell_of HH.out.2.2 1
  have e2 : w2.cell? ⟨B, 2, none⟩ = some (.int .u64 (ad : Int)) := cell_of HH.out.2.1 2
  have f2 : w2.cell? ⟨C, 2, none⟩ = some (.int .u64 (ad : Int)) := cell_of HH.out.2.2 2
  have e3 : w2.cell? ⟨B, 3, none⟩ = some (.int .u64 (a : Int)) := cell_of HH.out.2.1 3
  have f3 : w2.cell? ⟨C, 3, none⟩ = some (.int .u64 0) := cell_of HH.out.2.2 3
  have e4 : w2.cell? ⟨B, 4, none⟩ = some (.int .u64 (b : Int)) := cell_of HH.out.2.1 4
  have f4 : w2.cell? ⟨C, 4, none⟩ = some (.int .u64 0) := cell_of HH.out.2.2 4
  have e5 : w2.cell? ⟨B, 5, none⟩ = some (.slice p n c) := cell_of HH.out.2.1 5
  have f5 : w2.cell? ⟨C, 5, none⟩ = some (.slice none 0 0) := cell_of HH.out.2.2 5
  have e6 : w2.cell? ⟨B, 6, none⟩ = some (.int .u64 (got : Int)) := cell_of HH.out.2.1 6
  have f6 : w2.cell? ⟨C, 6, none⟩ = some (.int .u64 (got : Int)) := cell_of HH.out.2.2 6
  have e7 : w2.cell? ⟨B, 7, none⟩ = some (.bool ok) := cell_of HH.out.2.1 7
  have f7 : w2.cell? ⟨C, 7, none⟩ = some (.bool false) := cell_of HH.out.2.2 7
  have hs := HS.out w2 HH.out.1
  simp only [List.length_nil] at hs
  rw [← HN.out] at hs
  clear x0 x1 x2 x6 y6 z6
  go_wp2_with fail
  refine hs.mono ?_
  rintro e w3 ⟨v, rfl, hq, C3⟩
  have B3 := below_chain HH.out.1 C3
  clear C3 hs
  obtain ⟨r, rfl, hr⟩ := hq
  go_wp2_with fail
  go_ret
  exact ⟨_, rfl, ⟨r, rfl, hr⟩, B3⟩

set_option maxRecDepth 100000 in
set_option maxHeartbeats 4000000 in
theorem d_right_2 (th : Int) (ad a b got : Nat) (n : Nat) (vals : List Nat) (hn : n = vals.length) (p : Option Addr) (c : Nat) (ok : Bool) (W : World) (hu : URd W p vals) (hl : vals.length ≤ 1048576) :
    Calls Tryz.prog 34 #[.agg #[.int .i64 th, .int .u8 2, .int .u64 (ad : Int), .int .u64 (a : Int), .int .u64 (b : Int), .slice p n c, .int .u64 (got : Int), .bool ok]] W fun e W' => ∃ v, e = .returned v ∧ SameQ ⟨th, 2, ad, a, b, vals, got, ok⟩ ⟨th, 2, ad, a, 0, [], 0, false⟩ v ∧ Below W.heap.size W W' := by
  have HS : Hid (∀ w', Below W.heap.size W w' → Calls Tryz.prog 21 #[.agg (bxA ⟨th, 2, ad, a, b, vals, got, ok⟩ (.slice p vals.length c)), .agg (bxA ⟨th, 2, ad, a, 0, [], 0, false⟩ (.slice none (Ax.vals ⟨th, 2, ad, a, 0, [], 0, false⟩).length 0))] w' fun e W' => ∃ v, e = .returned v ∧ SameQ ⟨th, 2, ad, a, b, vals, got, ok⟩ ⟨th, 2, ad, a, 0, [], 0, false⟩ v ∧ Below w'.heap.size w' W') := keepH (fun w' hb => s_any ⟨th, 2, ad, a, b, vals, got, ok⟩ ⟨th, 2, ad, a, 0, [], 0, false⟩ p none c 0 w' (hu.on hb) (Or.inl rfl) hl (by simp))
  obtain ⟨w1, hw1⟩ : ∃ w1, w1 = (W.alloc (.cells #[.int .i64 th, .int .u8 2, .int .u64 (ad : Int), .int .u64 (a : Int), .int .u64 (b : Int), .slice p n c, .int .u64 (got : Int), .bool ok] 44)).alloc (.cells #[.int .i64 th, .int .u8 2, .int .u64 (ad : Int), .int .u64 0, .int .u64 0, .slice none 0 0, .int .u64 0, .bool false] 44) := ⟨_, rfl⟩
  obtain ⟨B, hB⟩ : ∃ B, B = W.heap.size := ⟨_, rfl⟩
  obtain ⟨C, hC⟩ : ∃ C, C = W.heap.size + 1 := ⟨_, rfl⟩
  have B1 : Below W.heap.size W w1 := by rw [hw1]; exact two_boxes _ _ _
  have X1 : w1.heap[B]? = some (.cells #[.int .i64 th, .int .u8 2, .int .u64 (ad : Int), .int .u64 (a : Int), .int .u64 (b : Int), .slice p n c, .int .u64 (got : Int), .bool ok] 44 (0, 0)) := by rw [hw1, hB]; exact alloc_of (heap_alloc_new _ _) _
  have Y1 : w1.heap[C]? = some (.cells #[.int .i64 th, .int .u8 2, .int .u64 (ad : Int), .int .u64 0, .int .u64 0, .slice none 0 0, .int .u64 0, .bool false] 44 (0, 0)) := by
    rw [hw1, hC]
    have e := heap_alloc_new (W.alloc (.cells #[.int .i64 th, .int .u8 2, .int .u64 (ad : Int), .int .u64 (a : Int), .int .u64 (b : Int), .slice p n c, .int .u64 (got : Int), .bool ok] 44)) (.cells #[.int .i64 th, .int .u8 2, .int .u64 (ad : Int), .int .u64 0, .int .u64 0, .slice none 0 0, .int .u64 0, .bool false] 44)
    rw [World.size_alloc] at e
    exact e
  have hne : B ≠ C := by omega
  have hC1 : W.heap.size ≤ C := by omega
  obtain ⟨w2, hw2⟩ : ∃ w2, w2 = (w1.setCell ⟨C, 3, none⟩ (.int .u64 (a : Int))) := ⟨_, rfl⟩
  have B2 : Below W.heap.size W w2 := by rw [hw2]; exact (set_below B1 hC1)
  have X2 : w2.heap[B]? = some (.cells #[.int .i64 th, .int .u8 2, .int .u64 (ad : Int), .int .u64 (a : Int), .int .u64 (b : Int), .slice p n c, .int .u64 (got : Int), .bool ok] 44 (0, 0)) := by rw [hw2]; exact (other_of X1 hne (.int .u64 (a : Int)))
  have Y2 : w2.heap[C]? = some (.cells #[.int .i64 th, .int .u8 2, .int .u64 (ad : Int), .int .u64 (a : Int), .int .u64 0, .slice none 0 0, .int .u64 0, .bool false] 44 (0, 0)) := by rw [hw2]; exact (set_of Y1 3 (.int .u64 (a : Int)))
  have HH := keepH (And.intro B2 (And.intro X2 Y2))
  have HW2 := keepH hw2
  have x0 : w1.cell? ⟨B, 0, none⟩ = some (.int .i64 th) := cell_of X1 0
  have x1 : w1.cell? ⟨B, 1, none⟩ = some (.int .u8 2) := cell_of X1 1
  have x2 : w1.cell? ⟨B, 2, none⟩ = some (.int .u64 (ad : Int)) := cell_of X1 2
  have x3 : w1.cell? ⟨B, 3, none⟩ = some (.int .u64 (a : Int)) := cell_of X1 3
  have y3 : w1.cell? ⟨C, 3, none⟩ = some (.int .u64 0) := cell_of Y1 3
  have z3 := free_of Y1 3
  have HX1 := keepH (And.intro X1 Y1)
  have HN := keepH hn
  clear hn hw2 B1 X1 Y1 B2 X2 Y2 hu hl
  go_enter Tryz.func34, Tryz.ntmps34
  go_upto_region 2 with fail
  rw [← hw1, show W.heap.size + 1 = C from hC.symm, ← hB]
  clear hw1 hB hC
  go_upto_region 14 with fail
  rw [← HW2.out]
  have e0 : w2.cell? ⟨B, 0, none⟩ = some (.int .i64 th) := cell_of HH.out.2.1 0
  have f0 : w2.cell? ⟨C, 0, none⟩ = some (.int .i64 th) := cell_of HH.out.2.2 0
  have e1 : w2.cell? ⟨B, 1, none⟩ = some (.int .u8 2) := cell_of HH.out.2.1 1
  have f1 : w2.cell? ⟨C, 1, none⟩ = some (.int .u8 2) := cell_of HH.out.2.2 1
  have e2 : w2.cell? ⟨B, 2, none⟩ = some (.int .u64 (ad : Int)) := cell_of HH.out.2.1 2
  have f2 : w2.cell? ⟨C, 2, none⟩ = some (.int .u64 (ad : Int)) := cell_of HH.out.2.2 2
  have e3 : w2.cell? ⟨B, 3, none⟩ = some (.int .u64 (a : Int)) := cell_of HH.out.2.1 3
  have f3 : w2.cell? ⟨C, 3, none⟩ = some (.int .u64 (a : Int)) := cell_of HH.out.2.2 3
  have e4 : w2.cell? ⟨B, 4, none⟩ = some (.int .u64 (b : Int)) := cell_of HH.out.2.1 4
  have f4 : w2.cell? ⟨C, 4, none⟩ = some (.int .u64 0) := cell_of HH.out.2.2 4
  have e5 : w2.cell? ⟨B, 5, none⟩ = some (.slice p n c) := cell_of HH.out.2.1 5
  have f5 : w2.cell? ⟨C, 5, none⟩ = some (.slice none 0 0) := cell_of HH.out.2.2 5
  have e6 : w2.cell? ⟨B, 6, none⟩ = some (.int .u64 (got : Int)) := cell_of HH.out.2.1 6
  have f6 : w2.cell? ⟨C, 6, none⟩ = some (.int .u64 0) := cell_of HH.out.2.2 6
  have e7 : w2.cell? ⟨B, 7, none⟩ = some (.bool ok) := cell_of HH.out.2.1 7
  have f7 : w2.cell? ⟨C, 7, none⟩ = some (.bool false) := cell_of HH.out.2.2 7
  have hs := HS.out w2 HH.out.1
  simp only [List.length_nil] at hs
  rw [← HN.out] at hs
  clear x0 x1 x2 x3 y3 z3
  go_wp2_with fail
  refine hs.mono ?_
  rintro e w3 ⟨v, rfl, hq, C3⟩
  have B3 := below_chain HH.out.1 C3
  clear C3 hs
  obtain ⟨r, rfl, hr⟩ := hq
  go_wp2_with fail
  go_ret
  exact ⟨_, rfl, ⟨r, rfl, hr⟩, B3⟩

set_option maxRecDepth 100000 in
set_option maxHeartbeats 4000000 in
theorem d_right_3 (th : Int) (ad a b got : Nat) (n : Nat) (vals : List Nat) (hn : n = vals.length) (p : Option Addr) (c : Nat) (ok : Bool) (W : World) (hu : URd W p vals) (hl : vals.length ≤ 1048576) :
    Calls Tryz.prog 34 #[.agg #[.int .i64 th, .int .u8 3, .int .u64 (ad : Int), .int .u64 (a : Int), .int .u64 (b : Int), .slice p n c, .int .u64 (got : Int), .bool ok]] W fun e W' => ∃ v, e = .returned v ∧ SameQ ⟨th, 3, ad, a, b, vals, got, ok⟩ ⟨th, 3, ad, a, b, [], 0, ok⟩ v ∧ Below W.heap.size W W' := by
  have HS : Hid (∀ w', Below W.heap.size W w' → Calls Tryz.prog 21 #[.agg (bxA ⟨th, 3, ad, a, b, vals, got, ok⟩ (.slice p vals.length c)), .agg (bxA ⟨th, 3, ad, a, b, [], 0, ok⟩ (.slice none (Ax.vals ⟨th, 3, ad, a, b, [], 0, ok⟩).length 0))] w' fun e W' => ∃ v, e = .returned v ∧ SameQ ⟨th, 3, ad, a, b, vals, got, ok⟩ ⟨th, 3, ad, a, b, [], 0, ok⟩ v ∧ Below w'.heap.size w' W') := keepH (fun w' hb => s_any ⟨th, 3, ad, a, b, vals, got, ok⟩ ⟨th, 3, ad, a, b, [], 0, ok⟩ p none c 0 w' (hu.on hb) (Or.inl rfl) hl (by simp))
  obtain ⟨w1, hw1⟩ : ∃ w1, w1 = (W.alloc (.cells #[.int .i64 th, .int .u8 3, .int .u64 (ad : Int), .int .u64 (a : Int), .int .u64 (b : Int), .slice p n c, .int .u64 (got : Int), .bool ok] 44)).alloc (.cells #[.int .i64 th, .int .u8 3, .int .u64 (ad : Int), .int .u64 0, .int .u64 0, .slice none 0 0, .int .u64 0, .bool false] 44) := ⟨_, rfl⟩
  obtain ⟨B, hB⟩ : ∃ B, B = W.heap.size := ⟨_, rfl⟩
  obtain ⟨C, hC⟩ : ∃ C, C = W.heap.size + 1 := ⟨_, rfl⟩
  have B1 : Below W.heap.size W w1 := by rw [hw1]; exact two_boxes _ _ _
  have X1 : w1.heap[B]? = some (.cells #[.int .i64 th, .int .u8 3, .int .u64 (ad : Int), .int .u64 (a : Int), .int .u64 (b : Int), .slice p n c, .int .u64 (got : Int), .bool ok] 44 (0, 0)) := by rw [hw1, hB]; exact alloc_of (heap_alloc_new _ _) _
  have Y1 : w1.heap[C]? = some (.cells #[.int .i64 th, .int .u8 3, .int .u64 (ad : Int), .int .u64 0, .int .u64 0, .slice none 0 0, .int .u64 0, .bool false] 44 (0, 0)) := by
    rw [hw1, hC]
    have e := heap_alloc_new (W.alloc (.cells #[.int .i64 th, .int .u8 3, .int .u64 (ad : Int), .int .u64 (a : Int), .int .u64 (b : Int), .slice p n c, .int .u64 (got : Int), .bool ok] 44)) (.cells #[.int .i64 th, .int .u8 3, .int .u64 (ad : Int), .int .u64 0, .int .u64 0, .slice none 0 0, .int .u64 0, .bool false] 44)
    rw [World.size_alloc] at e
    exact e
  have hne : B ≠ C := by omega
  have hC1 : W.heap.size ≤ C := by omega
  obtain ⟨w2, hw2⟩ : ∃ w2, w2 = (((w1.setCell ⟨C, 3, none⟩ (.int .u64 (a : Int))).setCell ⟨C, 4, none⟩ (.int .u64 (b : Int))).setCell ⟨C, 7, none⟩ (.bool ok)).drew := ⟨_, rfl⟩
  have B2 : Below W.heap.size W w2 := by rw [hw2]; exact below_drew1 (set_below (set_below (set_below B1 hC1) hC1) hC1)
  have X2 : w2.heap[B]? = some (.cells #[.int .i64 th, .int .u8 3, .int .u64 (ad : Int), .int .u64 (a : Int), .int .u64 (b : Int), .slice p n c, .int .u64 (got : Int), .bool ok] 44 (0, 0)) := by rw [hw2]; exact drew_heap (other_of (other_of (other_of X1 hne (.int .u64 (a : Int))) hne (.int .u64 (b : Int))) hne (.bool ok))
  have Y2 : w2.heap[C]? = some (.cells #[.int .i64 th, .int .u8 3, .int .u64 (ad : Int), .int .u64 (a : Int), .int .u64 (b : Int), .slice none 0 0, .int .u64 0, .bool ok] 44 (0, 0)) := by rw [hw2]; exact drew_heap (set_of (set_of (set_of Y1 3 (.int .u64 (a : Int))) 4 (.int .u64 (b : Int))) 7 (.bool ok))
  have HH := keepH (And.intro B2 (And.intro X2 Y2))
  have HW2 := keepH hw2
  have x0 : w1.cell? ⟨B, 0, none⟩ = some (.int .i64 th) := cell_of X1 0
  have x1 : w1.cell? ⟨B, 1, none⟩ = some (.int .u8 3) := cell_of X1 1
  have x2 : w1.cell? ⟨B, 2, none⟩ = some (.int .u64 (ad : Int)) := cell_of X1 2
  have x3 : w1.cell? ⟨B, 3, none⟩ = some (.int .u64 (a : Int)) := cell_of X1 3
  have x4 : w1.cell? ⟨B, 4, none⟩ = some (.int .u64 (b : Int)) := cell_of X1 4
  have x7 : w1.cell? ⟨B, 7, none⟩ = some (.bool ok) := cell_of X1 7
  have y3 : w1.cell? ⟨C, 3, none⟩ = some (.int .u64 0) := cell_of Y1 3
  have z3 := free_of Y1 3
  have y4 : w1.cell? ⟨C, 4, none⟩ = some (.int .u64 0) := cell_of Y1 4
  have z4 := free_of Y1 4
  have y7 : w1.cell? ⟨C, 7, none⟩ = some (.bool false) := cell_of Y1 7
  have z7 := free_of Y1 7
  have HX1 := keepH (And.intro X1 Y1)
  have HN := keepH hn
  clear hn hw2 B1 X1 Y1 B2 X2 Y2 hu hl
  go_enter Tryz.func34, Tryz.ntmps34
  go_upto_region 2 with fail
  rw [← hw1, show W.heap.size + 1 = C from hC.symm, ← hB]
  clear hw1 hB hC
  go_upto_region 9 with fail
  go_region
  rw [← HW2.out]
  have e0 : w2.cell? ⟨B, 0, none⟩ = some (.int .i64 th) := cell_of HH.out.2.1 0
  have f0 : w2.cell? ⟨C, 0, none⟩ = some (.int .i64 th) := cell_of HH.out.2.2 0
  have e1 : w2.cell? ⟨B, 1, none⟩ = some (.int .u8 3) := cell_of HH.out.2.1 1
  have f1 : w2.cell? ⟨C, 1, none⟩ = some (.int .u8 3) := cell_of HH.out.2.2 1
  have e2 : w2.cell? ⟨B, 2, none⟩ = some (.int .u64 (ad : Int)) := cell_of HH.out.2.1 2
  have f2 : w2.cell? ⟨C, 2, none⟩ = some (.int .u64 (ad : Int)) := cell_of HH.out.2.2 2
  have e3 : w2.cell? ⟨B, 3, none⟩ = some (.int .u64 (a : Int)) := cell_of HH.out.2.1 3
  have f3 : w2.cell? ⟨C, 3, none⟩ = some (.int .u64 (a : Int)) := cell_of HH.out.2.2 3
  have e4 : w2.cell? ⟨B, 4, none⟩ = some (.int .u64 (b : Int)) := cell_of HH.out.2.1 4
  have f4 : w2.cell? ⟨C, 4, none⟩ = some (.int .u64 (b : Int)) := cell_of HH.out.2.2 4
  have e5 : w2.cell? ⟨B, 5, none⟩ = some (.slice p n c) := cell_of HH.out.2.1 5
  have f5 : w2.cell? ⟨C, 5, none⟩ = some (.slice none 0 0) := cell_of HH.out.2.2 5
  have e6 : w2.cell? ⟨B, 6, none⟩ = some (.int .u64 (got : Int)) := cell_of HH.out.2.1 6
  have f6 : w2.cell? ⟨C, 6, none⟩ = some (.int .u64 0) := cell_of HH.out.2.2 6
  have e7 : w2.cell? ⟨B, 7, none⟩ = some (.bool ok) := cell_of HH.out.2.1 7
  have f7 : w2.cell? ⟨C, 7, none⟩ = some (.bool ok) := cell_of HH.out.2.2 7
  have hs := HS.out w2 HH.out.1
  simp only [List.length_nil] at hs
  rw [← HN.out] at hs
  clear x0 x1 x2 x3 x4 x7 y3 z3 y4 z4 y7 z7
  go_wp2_with fail
  refine hs.mono ?_
  rintro e w3 ⟨v, rfl, hq, C3⟩
  have B3 := below_chain HH.out.1 C3
  clear C3 hs
  obtain ⟨r, rfl, hr⟩ := hq
  go_wp2_with fail
  go_ret
  exact ⟨_, rfl, ⟨r, rfl, hr⟩, B3⟩

set_option maxRecDepth 100000 in
set_option maxHeartbeats 4000000 in
theorem d_right_4 (th : Int) (ad a b got : Nat) (n : Nat) (vals : List Nat) (hn : n = vals.length) (p : Option Addr) (c : Nat) (ok : Bool) (W : World) (hu : URd W p vals) (hl : vals.length ≤ 1048576) :
    Calls Tryz.prog 34 #[.agg #[.int .i64 th, .int .u8 4, .int .u64 (ad : Int), .int .u64 (a : Int), .int .u64 (b : Int), .slice p n c, .int .u64 (got : Int), .bool ok]] W fun e W' => ∃ v, e = .returned v ∧ SameQ ⟨th, 4, ad, a, b, vals, got, ok⟩ ⟨th, 4, ad, a, 0, [], got, false⟩ v ∧ Below W.heap.size W W' := by
  have HS : Hid (∀ w', Below W.heap.size W w' → Calls Tryz.prog 21 #[.agg (bxA ⟨th, 4, ad, a, b, vals, got, ok⟩ (.slice p vals.length c)), .agg (bxA ⟨th, 4, ad, a, 0, [], got, false⟩ (.slice none (Ax.vals ⟨th, 4, ad, a, 0, [], got, false⟩).length 0))] w' fun e W' => ∃ v, e = .returned v ∧ SameQ ⟨th, 4, ad, a, b, vals, got, ok⟩ ⟨th, 4, ad, a, 0, [], got, false⟩ v ∧ Below w'.heap.size w' W') := keepH (fun w' hb => s_any ⟨th, 4, ad, a, b, vals, got, ok⟩ ⟨th, 4, ad, a, 0, [], got, false⟩ p none c 0 w' (hu.on hb) (Or.inl rfl) hl (by simp))
  obtain ⟨w1, hw1⟩ : ∃ w1, w1 = (W.alloc (.cells #[.int .i64 th, .int .u8 4, .int .u64 (ad : Int), .int .u64 (a : Int), .int .u64 (b : Int), .slice p n c, .int .u64 (got : Int), .bool ok] 44)).alloc (.cells #[.int .i64 th, .int .u8 4, .int .u64 (ad : Int), .int .u64 0, .int .u64 0, .slice none 0 0, .int .u64 0, .bool false] 44) := ⟨_, rfl⟩
  obtain ⟨B, hB⟩ : ∃ B, B = W.heap.size := ⟨_, rfl⟩
  obtain ⟨C, hC⟩ : ∃ C, C = W.heap.size + 1 := ⟨_, rfl⟩
  have B1 : Below W.heap.size W w1 := by rw [hw1]; exact two_boxes _ _ _
  have X1 : w1.heap[B]? = some (.cells #[.int .i64 th, .int .u8 4, .int .u64 (ad : Int), .int .u64 (a : Int), .int .u64 (b : Int), .slice p n c, .int .u64 (got : Int), .bool ok] 44 (0, 0)) := by rw [hw1, hB]; exact alloc_of (heap_alloc_new _ _) _
  have Y1 : w1.heap[C]? = some (.cells #[.int .i64 th, .int .u8 4, .int .u64 (ad : Int), .int .u64 0, .int .u64 0, .slice none 0 0, .int .u64 0, .bool false] 44 (0, 0)) := by
    rw [hw1, hC]
    have e := heap_alloc_new (W.alloc (.cells #[.int .i64 th, .int .u8 4, .int .u64 (ad : Int), .int .u64 (a : Int), .int .u64 (b : Int), .slice p n c, .int .u64 (got : Int), .bool ok] 44)) (.cells #[.int .i64 th, .int .u8 4, .int .u64 (ad : Int), .int .u64 0, .int .u64 0, .slice none 0 0, .int .u64 0, .bool false] 44)
    rw [World.size_alloc] at e
    exact e
  have hne : B ≠ C := by omega
  have hC1 : W.heap.size ≤ C := by omega
  obtain ⟨w2, hw2⟩ : ∃ w2, w2 = ((w1.setCell ⟨C, 3, none⟩ (.int .u64 (a : Int))).setCell ⟨C, 6, none⟩ (.int .u64 (got : Int))).drew := ⟨_, rfl⟩
  have B2 : Below W.heap.size W w2 := by rw [hw2]; exact below_drew1 (set_below (set_below B1 hC1) hC1)
  have X2 : w2.heap[B]? = some (.cells #[.int .i64 th, .int .u8 4, .int .u64 (ad : Int), .int .u64 (a : Int), .int .u64 (b : Int), .slice p n c, .int .u64 (got : Int), .bool ok] 44 (0, 0)) := by rw [hw2]; exact drew_heap (other_of (other_of X1 hne (.int .u64 (a : Int))) hne (.int .u64 (got : Int)))
  have Y2 : w2.heap[C]? = some (.cells #[.int .i64 th, .int .u8 4, .int .u64 (ad : Int), .int .u64 (a : Int), .int .u64 0, .slice none 0 0, .int .u64 (got : Int), .bool false] 44 (0, 0)) := by rw [hw2]; exact drew_heap (set_of (set_of Y1 3 (.int .u64 (a : Int))) 6 (.int .u64 (got : Int)))
  have HH := keepH (And.intro B2 (And.intro X2 Y2))
  have HW2 := keepH hw2
  have x0 : w1.cell? ⟨B, 0, none⟩ = some (.int .i64 th) := cell_of X1 0
  have x1 : w1.cell? ⟨B, 1, none⟩ = some (.int .u8 4) := cell_of X1 1
  have x2 : w1.cell? ⟨B, 2, none⟩ = some (.int .u64 (ad : Int)) := cell_of X1 2
  have x3 : w1.cell? ⟨B, 3, none⟩ = some (.int .u64 (a : Int)) := cell_of X1 3
  have x6 : w1.cell? ⟨B, 6, none⟩ = some (.int .u64 (got : Int)) := cell_of X1 6
  have y3 : w1.cell? ⟨C, 3, none⟩ = some (.int .u64 0) := cell_of Y1 3
  have z3 := free_of Y1 3
  have y6 : w1.cell? ⟨C, 6, none⟩ = some (.int .u64 0) := cell_of Y1 6
  have z6 := free_of Y1 6
  have HX1 := keepH (And.intro X1 Y1)
  have HN := keepH hn
  clear hn hw2 B1 X1 Y1 B2 X2 Y2 hu hl
  go_enter Tryz.func34, Tryz.ntmps34
  go_upto_region 2 with fail
  rw [← hw1, show W.heap.size + 1 = C from hC.symm, ← hB]
  clear hw1 hB hC
  go_upto_region 11 with fail
  go_region
  rw [← HW2.out]
  have e0 : w2.cell? ⟨B, 0, none⟩ = some (.int .i64 th) := cell_of HH.out.2.1 0
  have f0 : w2.cell? ⟨C, 0, none⟩ = some (.int .i64 th) := cell_of HH.out.2.2 0
  have e1 : w2.cell? ⟨B, 1, none⟩ = some (.int .u8 4) := cell_of HH.out.2.1 1
  have f1 : w2.cell? ⟨C, 1, none⟩ = some (.int .u8 4) := cell_of HH.out.2.2 1
  have e2 : w2.cell? ⟨B, 2, none⟩ = some (.int .u64 (ad : Int)) := cell_of HH.out.2.1 2
  have f2 : w2.cell? ⟨C, 2, none⟩ = some (.int .u64 (ad : Int)) := cell_of HH.out.2.2 2
  have e3 : w2.cell? ⟨B, 3, none⟩ = some (.int .u64 (a : Int)) := cell_of HH.out.2.1 3
  have f3 : w2.cell? ⟨C, 3, none⟩ = some (.int .u64 (a : Int)) := cell_of HH.out.2.2 3
  have e4 : w2.cell? ⟨B, 4, none⟩ = some (.int .u64 (b : Int)) := cell_of HH.out.2.1 4
  have f4 : w2.cell? ⟨C, 4, none⟩ = some (.int .u64 0) := cell_of HH.out.2.2 4
  have e5 : w2.cell? ⟨B, 5, none⟩ = some (.slice p n c) := cell_of HH.out.2.1 5
  have f5 : w2.cell? ⟨C, 5, none⟩ = some (.slice none 0 0) := cell_of HH.out.2.2 5
  have e6 : w2.cell? ⟨B, 6, none⟩ = some (.int .u64 (got : Int)) := cell_of HH.out.2.1 6
  have f6 : w2.cell? ⟨C, 6, none⟩ = some (.int .u64 (got : Int)) := cell_of HH.out.2.2 6
  have e7 : w2.cell? ⟨B, 7, none⟩ = some (.bool ok) := cell_of HH.out.2.1 7
  have f7 : w2.cell? ⟨C, 7, none⟩ = some (.bool false) := cell_of HH.out.2.2 7
  have hs := HS.out w2 HH.out.1
  simp only [List.length_nil] at hs
  rw [← HN.out] at hs
  clear x0 x1 x2 x3 x6 y3 z3 y6 z6
  go_wp2_with fail
  refine hs.mono ?_
  rintro e w3 ⟨v, rfl, hq, C3⟩
  have B3 := below_chain HH.out.1 C3
  clear C3 hs
  obtain ⟨r, rfl, hr⟩ := hq
  go_wp2_with fail
  go_ret
  exact ⟨_, rfl, ⟨r, rfl, hr⟩, B3⟩

set_option maxRecDepth 100000 in
set_option maxHeartbeats 4000000 in
theorem d_right_5 (th : Int) (ad a b got : Nat) (n : Nat) (vals : List Nat) (hn : n = vals.length) (p : Option Addr) (c : Nat) (ok : Bool) (W : World) (hu : URd W p vals) (hl : vals.length ≤ 1048576) :
    Calls Tryz.prog 34 #[.agg #[.int .i64 th, .int .u8 5, .int .u64 (ad : Int), .int .u64 (a : Int), .int .u64 (b : Int), .slice p n c, .int .u64 (got : Int), .bool ok]] W fun e W' => ∃ v, e = .returned v ∧ SameQ ⟨th, 5, ad, a, b, vals, got, ok⟩ ⟨th, 5, ad, 0, 0, vals, 0, false⟩ v ∧ Below W.heap.size W W' := by
  have HS : Hid (∀ w', Below W.heap.size W w' → Calls Tryz.prog 21 #[.agg (bxA ⟨th, 5, ad, a, b, vals, got, ok⟩ (.slice p vals.length c)), .agg (bxA ⟨th, 5, ad, 0, 0, vals, 0, false⟩ (.slice p (Ax.vals ⟨th, 5, ad, 0, 0, vals, 0, false⟩).length c))] w' fun e W' => ∃ v, e = .returned v ∧ SameQ ⟨th, 5, ad, a, b, vals, got, ok⟩ ⟨th, 5, ad, 0, 0, vals, 0, false⟩ v ∧ Below w'.heap.size w' W') := keepH (fun w' hb => s_any ⟨th, 5, ad, a, b, vals, got, ok⟩ ⟨th, 5, ad, 0, 0, vals, 0, false⟩ p p c c w' (hu.on hb) (hu.on hb) hl (by simpa using hl))
  obtain ⟨w1, hw1⟩ : ∃ w1, w1 = (W.alloc (.cells #[.int .i64 th, .int .u8 5, .int .u64 (ad : Int), .int .u64 (a : Int), .int .u64 (b : Int), .slice p n c, .int .u64 (got : Int), .bool ok] 44)).alloc (.cells #[.int .i64 th, .int .u8 5, .int .u64 (ad : Int), .int .u64 0, .int .u64 0, .slice none 0 0, .int .u64 0, .bool false] 44) := ⟨_, rfl⟩
  obtain ⟨B, hB⟩ : ∃ B, B = W.heap.size := ⟨_, rfl⟩
  obtain ⟨C, hC⟩ : ∃ C, C = W.heap.size + 1 := ⟨_, rfl⟩
  have B1 : Below W.heap.size W w1 := by rw [hw1]; exact two_boxes _ _ _
  have X1 : w1.heap[B]? = some (.cells #[.int .i64 th, .int .u8 5, .int .u64 (ad : Int), .int .u64 (a : Int), .int .u64 (b : Int), .slice p n c, .int .u64 (got : Int), .bool ok] 44 (0, 0)) := by rw [hw1, hB]; exact alloc_of (heap_alloc_new _ _) _
  have Y1 : w1.heap[C]? = some (.cells #[.int .i64 th, .int .u8 5, .int .u64 (ad : Int), .int .u64 0, .int .u64 0, .slice none 0 0, .int .u64 0, .bool false] 44 (0, 0)) := by
    rw [hw1, hC]
    have e := heap_alloc_new (W.alloc (.cells #[.int .i64 th, .int .u8 5, .int .u64 (ad : Int), .int .u64 (a : Int), .int .u64 (b : Int), .slice p n c, .int .u64 (got : Int), .bool ok] 44)) (.cells #[.int .i64 th, .int .u8 5, .int .u64 (ad : Int), .int .u64 0, .int .u64 0, .slice none 0 0, .int .u64 0, .bool false] 44)
    rw [World.size_alloc] at e
    exact e
  have hne : B ≠ C := by omega
  have hC1 : W.heap.size ≤ C := by omega
  obtain ⟨w2, hw2⟩ : ∃ w2, w2 = (w1.setCell ⟨C, 5, none⟩ (.slice p n c)) := ⟨_, rfl⟩
  have B2 : Below W.heap.size W w2 := by rw [hw2]; exact (set_below B1 hC1)
  have X2 : w2.heap[B]? = some (.cells #[.int .i64 th, .int .u8 5, .int .u64 (ad : Int), .int .u64 (a : Int), .int .u64 (b : Int), .slice p n c, .int .u64 (got : Int), .bool ok] 44 (0, 0)) := by rw [hw2]; exact (other_of X1 hne (.slice p n c))
  have Y2 : w2.heap[C]? = some (.cells #[.int .i64 th, .int .u8 5, .int .u64 (ad : Int), .int .u64 0, .int .u64 0, .slice p n c, .int .u64 0, .bool false] 44 (0, 0)) := by rw [hw2]; exact (set_of Y1 5 (.slice p n c))
  have HH := keepH (And.intro B2 (And.intro X2 Y2))
  have HW2 := keepH hw2
  have x0 : w1.cell? ⟨B, 0, none⟩ = some (.int .i64 th) := cell_of X1 0
  have x1 : w1.cell? ⟨B, 1, none⟩ = some (.int .u8 5) := cell_of X1 1
  have x2 : w1.cell? ⟨B, 2, none⟩ = some (.int .u64 (ad : Int)) := cell_of X1 2
  have x5 : w1.cell? ⟨B, 5, none⟩ = some (.slice p n c) := cell_of X1 5
  have y5 : w1.cell? ⟨C, 5, none⟩ = some (.slice none 0 0) := cell_of Y1 5
  have z5 := free_of Y1 5
  have HX1 := keepH (And.intro X1 Y1)
  have HN := keepH hn
  clear hn hw2 B1 X1 Y1 B2 X2 Y2 hu hl
  go_enter Tryz.func34, Tryz.ntmps34
  go_upto_region 2 with fail
  rw [← hw1, show W.heap.size + 1 = C from hC.symm, ← hB]
  clear hw1 hB hC
  go_upto_region 14 with fail
  rw [← HW2.out]
  have e0 : w2.cell? ⟨B, 0, none⟩ = some (.int .i64 th) := cell_of HH.out.2.1 0
  have f0 : w2.cell? ⟨C, 0, none⟩ = some (.int .i64 th) := cell_of HH.out.2.2 0
  have e1 : w2.cell? ⟨B, 1, none⟩ = some (.int .u8 5) := cell_of HH.out.2.1 1
  have f1 : w2.cell? ⟨C, 1, none⟩ = some (.int .u8 5) := cell_of HH.out.2.2 1
  have e2 : w2.cell? ⟨B, 2, none⟩ = some (.int .u64 (ad : Int)) := cell_of HH.out.2.1 2
  have f2 : w2.cell? ⟨C, 2, none⟩ = some (.int .u64 (ad : Int)) := cell_of HH.out.2.2 2
  have e3 : w2.cell? ⟨B, 3, none⟩ = some (.int .u64 (a : Int)) := cell_of HH.out.2.1 3
  have f3 : w2.cell? ⟨C, 3, none⟩ = some (.int .u64 0) := cell_of HH.out.2.2 3
  have e4 : w2.cell? ⟨B, 4, none⟩ = some (.int .u64 (b : Int)) := cell_of HH.out.2.1 4
  have f4 : w2.cell? ⟨C, 4, none⟩ = some (.int .u64 0) := cell_of HH.out.2.2 4
  have e5 : w2.cell? ⟨B, 5, none⟩ = some (.slice p n c) := cell_of HH.out.2.1 5
  have f5 : w2.cell? ⟨C, 5, none⟩ = some (.slice p n c) := cell_of HH.out.2.2 5
  have e6 : w2.cell? ⟨B, 6, none⟩ = some (.int .u64 (got : Int)) := cell_of HH.out.2.1 6
  have f6 : w2.cell? ⟨C, 6, none⟩ = some (.int .u64 0) := cell_of HH.out.2.2 6
  have e7 : w2.cell? ⟨B, 7, none⟩ = some (.bool ok) := cell_of HH.out.2.1 7
  have f7 : w2.cell? ⟨C, 7, none⟩ = some (.bool false) := cell_of HH.out.2.2 7
  have hs := HS.out w2 HH.out.1
  simp only at hs
  rw [← HN.out] at hs
  clear x0 x1 x2 x5 y5 z5
  go_wp2_with fail
  refine hs.mono ?_
  rintro e w3 ⟨v, rfl, hq, C3⟩
  have B3 := below_chain HH.out.1 C3
  clear C3 hs
  obtain ⟨r, rfl, hr⟩ := hq
  go_wp2_with fail
  go_ret
  exact ⟨_, rfl, ⟨r, rfl, hr⟩, B3⟩
end Go.Proofs.YtjodechhnobkhaaGreatDoor
