/- The document's SameAccess, of any two accesses. (mkRua.py) -/
import Derived.Test.YtjodechhnobkhaaGreatDoorRpr
namespace Go.Proofs.YtjodechhnobkhaaGreatDoor
open Go.RowKit Go.Shelf
set_option linter.unusedVariables false

def SameQ (x y : Ax) (v : Value) : Prop := ∃ r, v = .bool r ∧ (r = true ↔ x = y)

set_option maxRecDepth 100000 in
set_option maxHeartbeats 4000000 in
theorem s_ne0 (th : Int) (kind : Nat) (addr : Nat) (a : Nat) (b : Nat) (got : Nat) (ok : Bool) (th' : Int) (kind' : Nat) (addr' : Nat) (a' : Nat) (b' : Nat) (got' : Nat) (ok' : Bool) (n m : Nat) (p q : Option Addr) (c d : Nat) (W : World) (hd : th ≠ th') :
    Calls Tryz.prog 21 #[.agg #[.int .i64 th, .int .u8 (kind : Int), .int .u64 (addr : Int), .int .u64 (a : Int), .int .u64 (b : Int), .slice p n c, .int .u64 (got : Int), .bool ok], .agg #[.int .i64 th', .int .u8 (kind' : Int), .int .u64 (addr' : Int), .int .u64 (a' : Int), .int .u64 (b' : Int), .slice q m d, .int .u64 (got' : Int), .bool ok']] W fun e W' => e = .returned (.bool false) ∧ Below W.heap.size W W' := by
  have q1 : (th != th') = true := by simp; exact hd
  obtain ⟨w0, hw0⟩ : ∃ w0, w0 = (W.alloc (.cells #[.int .i64 th, .int .u8 (kind : Int), .int .u64 (addr : Int), .int .u64 (a : Int), .int .u64 (b : Int), .slice p n c, .int .u64 (got : Int), .bool ok] 44)).alloc (.cells #[.int .i64 th', .int .u8 (kind' : Int), .int .u64 (addr' : Int), .int .u64 (a' : Int), .int .u64 (b' : Int), .slice q m d, .int .u64 (got' : Int), .bool ok'] 44) := ⟨_, rfl⟩
  have B0 : Below W.heap.size W w0 := by rw [hw0]; exact (below_alloc _ _).trans ((below_alloc _ _).mono (by simp))
  have B1 : w0.heap[W.heap.size]? = some (.cells #[.int .i64 th, .int .u8 (kind : Int), .int .u64 (addr : Int), .int .u64 (a : Int), .int .u64 (b : Int), .slice p n c, .int .u64 (got : Int), .bool ok] 44 (0, 0)) := by rw [hw0]; exact alloc_of (heap_alloc_new _ _) _
  have B2 : w0.heap[W.heap.size + 1]? = some (.cells #[.int .i64 th', .int .u8 (kind' : Int), .int .u64 (addr' : Int), .int .u64 (a' : Int), .int .u64 (b' : Int), .slice q m d, .int .u64 (got' : Int), .bool ok'] 44 (0, 0)) := by
    rw [hw0]
    have e := heap_alloc_new (W.alloc (.cells #[.int .i64 th, .int .u8 (kind : Int), .int .u64 (addr : Int), .int .u64 (a : Int), .int .u64 (b : Int), .slice p n c, .int .u64 (got : Int), .bool ok] 44)) (.cells #[.int .i64 th', .int .u8 (kind' : Int), .int .u64 (addr' : Int), .int .u64 (a' : Int), .int .u64 (b' : Int), .slice q m d, .int .u64 (got' : Int), .bool ok'] 44)
    rw [World.size_alloc] at e
    exact e
  have a0 : w0.cell? ⟨W.heap.size, 0, none⟩ = some (.int .i64 th) := cell_of B1 0
  have b0 : w0.cell? ⟨W.heap.size + 1, 0, none⟩ = some (.int .i64 th') := cell_of B2 0
  have a1 : w0.cell? ⟨W.heap.size, 1, none⟩ = some (.int .u8 (kind : Int)) := cell_of B1 1
  have b1 : w0.cell? ⟨W.heap.size + 1, 1, none⟩ = some (.int .u8 (kind' : Int)) := cell_of B2 1
  have a2 : w0.cell? ⟨W.heap.size, 2, none⟩ = some (.int .u64 (addr : Int)) := cell_of B1 2
  have b2 : w0.cell? ⟨W.heap.size + 1, 2, none⟩ = some (.int .u64 (addr' : Int)) := cell_of B2 2
  have a3 : w0.cell? ⟨W.heap.size, 3, none⟩ = some (.int .u64 (a : Int)) := cell_of B1 3
  have b3 : w0.cell? ⟨W.heap.size + 1, 3, none⟩ = some (.int .u64 (a' : Int)) := cell_of B2 3
  have a4 : w0.cell? ⟨W.heap.size, 4, none⟩ = some (.int .u64 (b : Int)) := cell_of B1 4
  have b4 : w0.cell? ⟨W.heap.size + 1, 4, none⟩ = some (.int .u64 (b' : Int)) := cell_of B2 4
  have a5 : w0.cell? ⟨W.heap.size, 5, none⟩ = some (.slice p n c) := cell_of B1 5
  have b5 : w0.cell? ⟨W.heap.size + 1, 5, none⟩ = some (.slice q m d) := cell_of B2 5
  have a6 : w0.cell? ⟨W.heap.size, 6, none⟩ = some (.int .u64 (got : Int)) := cell_of B1 6
  have b6 : w0.cell? ⟨W.heap.size + 1, 6, none⟩ = some (.int .u64 (got' : Int)) := cell_of B2 6
  have a7 : w0.cell? ⟨W.heap.size, 7, none⟩ = some (.bool ok) := cell_of B1 7
  have b7 : w0.cell? ⟨W.heap.size + 1, 7, none⟩ = some (.bool ok') := cell_of B2 7
  have HB0 := keepH B0
  have HW0 := keepH hw0
  clear hw0 B1 B2 B0 hd
  go_enter Tryz.func21, Tryz.ntmps21
  go_upto_region 1 with fail
  rw [← HW0.out]
  clear HW0
  go_wp2_with fail
  go_ret
  exact ⟨rfl, HB0.out⟩

set_option maxRecDepth 100000 in
set_option maxHeartbeats 4000000 in
theorem s_ne1 (th : Int) (kind : Nat) (addr : Nat) (a : Nat) (b : Nat) (got : Nat) (ok : Bool) (kind' : Nat) (addr' : Nat) (a' : Nat) (b' : Nat) (got' : Nat) (ok' : Bool) (n m : Nat) (p q : Option Addr) (c d : Nat) (W : World) (hd : kind ≠ kind') :
    Calls Tryz.prog 21 #[.agg #[.int .i64 th, .int .u8 (kind : Int), .int .u64 (addr : Int), .int .u64 (a : Int), .int .u64 (b : Int), .slice p n c, .int .u64 (got : Int), .bool ok], .agg #[.int .i64 th, .int .u8 (kind' : Int), .int .u64 (addr' : Int), .int .u64 (a' : Int), .int .u64 (b' : Int), .slice q m d, .int .u64 (got' : Int), .bool ok']] W fun e W' => e = .returned (.bool false) ∧ Below W.heap.size W W' := by
  have q1 : ((kind : Int) != (kind' : Int)) = true := by simp; omega
  obtain ⟨w0, hw0⟩ : ∃ w0, w0 = (W.alloc (.cells #[.int .i64 th, .int .u8 (kind : Int), .int .u64 (addr : Int), .int .u64 (a : Int), .int .u64 (b : Int), .slice p n c, .int .u64 (got : Int), .bool ok] 44)).alloc (.cells #[.int .i64 th, .int .u8 (kind' : Int), .int .u64 (addr' : Int), .int .u64 (a' : Int), .int .u64 (b' : Int), .slice q m d, .int .u64 (got' : Int), .bool ok'] 44) := ⟨_, rfl⟩
  have B0 : Below W.heap.size W w0 := by rw [hw0]; exact (below_alloc _ _).trans ((below_alloc _ _).mono (by simp))
  have B1 : w0.heap[W.heap.size]? = some (.cells #[.int .i64 th, .int .u8 (kind : Int), .int .u64 (addr : Int), .int .u64 (a : Int), .int .u64 (b : Int), .slice p n c, .int .u64 (got : Int), .bool ok] 44 (0, 0)) := by rw [hw0]; exact alloc_of (heap_alloc_new _ _) _
  have B2 : w0.heap[W.heap.size + 1]? = some (.cells #[.int .i64 th, .int .u8 (kind' : Int), .int .u64 (addr' : Int), .int .u64 (a' : Int), .int .u64 (b' : Int), .slice q m d, .int .u64 (got' : Int), .bool ok'] 44 (0, 0)) := by
    rw [hw0]
    have e := heap_alloc_new (W.alloc (.cells #[.int .i64 th, .int .u8 (kind : Int), .int .u64 (addr : Int), .int .u64 (a : Int), .int .u64 (b : Int), .slice p n c, .int .u64 (got : Int), .bool ok] 44)) (.cells #[.int .i64 th, .int .u8 (kind' : Int), .int .u64 (addr' : Int), .int .u64 (a' : Int), .int .u64 (b' : Int), .slice q m d, .int .u64 (got' : Int), .bool ok'] 44)
    rw [World.size_alloc] at e
    exact e
  have a0 : w0.cell? ⟨W.heap.size, 0, none⟩ = some (.int .i64 th) := cell_of B1 0
  have b0 : w0.cell? ⟨W.heap.size + 1, 0, none⟩ = some (.int .i64 th) := cell_of B2 0
  have a1 : w0.cell? ⟨W.heap.size, 1, none⟩ = some (.int .u8 (kind : Int)) := cell_of B1 1
  have b1 : w0.cell? ⟨W.heap.size + 1, 1, none⟩ = some (.int .u8 (kind' : Int)) := cell_of B2 1
  have a2 : w0.cell? ⟨W.heap.size, 2, none⟩ = some (.int .u64 (addr : Int)) := cell_of B1 2
  have b2 : w0.cell? ⟨W.heap.size + 1, 2, none⟩ = some (.int .u64 (addr' : Int)) := cell_of B2 2
  have a3 : w0.cell? ⟨W.heap.size, 3, none⟩ = some (.int .u64 (a : Int)) := cell_of B1 3
  have b3 : w0.cell? ⟨W.heap.size + 1, 3, none⟩ = some (.int .u64 (a' : Int)) := cell_of B2 3
  have a4 : w0.cell? ⟨W.heap.size, 4, none⟩ = some (.int .u64 (b : Int)) := cell_of B1 4
  have b4 : w0.cell? ⟨W.heap.size + 1, 4, none⟩ = some (.int .u64 (b' : Int)) := cell_of B2 4
  have a5 : w0.cell? ⟨W.heap.size, 5, none⟩ = some (.slice p n c) := cell_of B1 5
  have b5 : w0.cell? ⟨W.heap.size + 1, 5, none⟩ = some (.slice q m d) := cell_of B2 5
  have a6 : w0.cell? ⟨W.heap.size, 6, none⟩ = some (.int .u64 (got : Int)) := cell_of B1 6
  have b6 : w0.cell? ⟨W.heap.size + 1, 6, none⟩ = some (.int .u64 (got' : Int)) := cell_of B2 6
  have a7 : w0.cell? ⟨W.heap.size, 7, none⟩ = some (.bool ok) := cell_of B1 7
  have b7 : w0.cell? ⟨W.heap.size + 1, 7, none⟩ = some (.bool ok') := cell_of B2 7
  have HB0 := keepH B0
  have HW0 := keepH hw0
  clear hw0 B1 B2 B0 hd
  go_enter Tryz.func21, Tryz.ntmps21
  go_upto_region 1 with fail
  rw [← HW0.out]
  clear HW0
  go_wp2_with fail
  go_ret
  exact ⟨rfl, HB0.out⟩

set_option maxRecDepth 100000 in
set_option maxHeartbeats 4000000 in
theorem s_ne2 (th : Int) (kind : Nat) (addr : Nat) (a : Nat) (b : Nat) (got : Nat) (ok : Bool) (addr' : Nat) (a' : Nat) (b' : Nat) (got' : Nat) (ok' : Bool) (n m : Nat) (p q : Option Addr) (c d : Nat) (W : World) (hd : addr ≠ addr') :
    Calls Tryz.prog 21 #[.agg #[.int .i64 th, .int .u8 (kind : Int), .int .u64 (addr : Int), .int .u64 (a : Int), .int .u64 (b : Int), .slice p n c, .int .u64 (got : Int), .bool ok], .agg #[.int .i64 th, .int .u8 (kind : Int), .int .u64 (addr' : Int), .int .u64 (a' : Int), .int .u64 (b' : Int), .slice q m d, .int .u64 (got' : Int), .bool ok']] W fun e W' => e = .returned (.bool false) ∧ Below W.heap.size W W' := by
  have q1 : ((addr : Int) != (addr' : Int)) = true := by simp; omega
  obtain ⟨w0, hw0⟩ : ∃ w0, w0 = (W.alloc (.cells #[.int .i64 th, .int .u8 (kind : Int), .int .u64 (addr : Int), .int .u64 (a : Int), .int .u64 (b : Int), .slice p n c, .int .u64 (got : Int), .bool ok] 44)).alloc (.cells #[.int .i64 th, .int .u8 (kind : Int), .int .u64 (addr' : Int), .int .u64 (a' : Int), .int .u64 (b' : Int), .slice q m d, .int .u64 (got' : Int), .bool ok'] 44) := ⟨_, rfl⟩
  have B0 : Below W.heap.size W w0 := by rw [hw0]; exact (below_alloc _ _).trans ((below_alloc _ _).mono (by simp))
  have B1 : w0.heap[W.heap.size]? = some (.cells #[.int .i64 th, .int .u8 (kind : Int), .int .u64 (addr : Int), .int .u64 (a : Int), .int .u64 (b : Int), .slice p n c, .int .u64 (got : Int), .bool ok] 44 (0, 0)) := by rw [hw0]; exact alloc_of (heap_alloc_new _ _) _
  have B2 : w0.heap[W.heap.size + 1]? = some (.cells #[.int .i64 th, .int .u8 (kind : Int), .int .u64 (addr' : Int), .int .u64 (a' : Int), .int .u64 (b' : Int), .slice q m d, .int .u64 (got' : Int), .bool ok'] 44 (0, 0)) := by
    rw [hw0]
    have e := heap_alloc_new (W.alloc (.cells #[.int .i64 th, .int .u8 (kind : Int), .int .u64 (addr : Int), .int .u64 (a : Int), .int .u64 (b : Int), .slice p n c, .int .u64 (got : Int), .bool ok] 44)) (.cells #[.int .i64 th, .int .u8 (kind : Int), .int .u64 (addr' : Int), .int .u64 (a' : Int), .int .u64 (b' : Int), .slice q m d, .int .u64 (got' : Int), .bool ok'] 44)
    rw [World.size_alloc] at e
    exact e
  have a0 : w0.cell? ⟨W.heap.size, 0, none⟩ = some (.int .i64 th) := cell_of B1 0
  have b0 : w0.cell? ⟨W.heap.size + 1, 0, none⟩ = some (.int .i64 th) := cell_of B2 0
  have a1 : w0.cell? ⟨W.heap.size, 1, none⟩ = some (.int .u8 (kind : Int)) := cell_of B1 1
  have b1 : w0.cell? ⟨W.heap.size + 1, 1, none⟩ = some (.int .u8 (kind : Int)) := cell_of B2 1
  have a2 : w0.cell? ⟨W.heap.size, 2, none⟩ = some (.int .u64 (addr : Int)) := cell_of B1 2
  have b2 : w0.cell? ⟨W.heap.size + 1, 2, none⟩ = some (.int .u64 (addr' : Int)) := cell_of B2 2
  have a3 : w0.cell? ⟨W.heap.size, 3, none⟩ = some (.int .u64 (a : Int)) := cell_of B1 3
  have b3 : w0.cell? ⟨W.heap.size + 1, 3, none⟩ = some (.int .u64 (a' : Int)) := cell_of B2 3
  have a4 : w0.cell? ⟨W.heap.size, 4, none⟩ = some (.int .u64 (b : Int)) := cell_of B1 4
  have b4 : w0.cell? ⟨W.heap.size + 1, 4, none⟩ = some (.int .u64 (b' : Int)) := cell_of B2 4
  have a5 : w0.cell? ⟨W.heap.size, 5, none⟩ = some (.slice p n c) := cell_of B1 5
  have b5 : w0.cell? ⟨W.heap.size + 1, 5, none⟩ = some (.slice q m d) := cell_of B2 5
  have a6 : w0.cell? ⟨W.heap.size, 6, none⟩ = some (.int .u64 (got : Int)) := cell_of B1 6
  have b6 : w0.cell? ⟨W.heap.size + 1, 6, none⟩ = some (.int .u64 (got' : Int)) := cell_of B2 6
  have a7 : w0.cell? ⟨W.heap.size, 7, none⟩ = some (.bool ok) := cell_of B1 7
  have b7 : w0.cell? ⟨W.heap.size + 1, 7, none⟩ = some (.bool ok') := cell_of B2 7
  have HB0 := keepH B0
  have HW0 := keepH hw0
  clear hw0 B1 B2 B0 hd
  go_enter Tryz.func21, Tryz.ntmps21
  go_upto_region 1 with fail
  rw [← HW0.out]
  clear HW0
  go_wp2_with fail
  go_ret
  exact ⟨rfl, HB0.out⟩

set_option maxRecDepth 100000 in
set_option maxHeartbeats 4000000 in
theorem s_ne3 (th : Int) (kind : Nat) (addr : Nat) (a : Nat) (b : Nat) (got : Nat) (ok : Bool) (a' : Nat) (b' : Nat) (got' : Nat) (ok' : Bool) (n m : Nat) (p q : Option Addr) (c d : Nat) (W : World) (hd : a ≠ a') :
    Calls Tryz.prog 21 #[.agg #[.int .i64 th, .int .u8 (kind : Int), .int .u64 (addr : Int), .int .u64 (a : Int), .int .u64 (b : Int), .slice p n c, .int .u64 (got : Int), .bool ok], .agg #[.int .i64 th, .int .u8 (kind : Int), .int .u64 (addr : Int), .int .u64 (a' : Int), .int .u64 (b' : Int), .slice q m d, .int .u64 (got' : Int), .bool ok']] W fun e W' => e = .returned (.bool false) ∧ Below W.heap.size W W' := by
  have q1 : ((a : Int) != (a' : Int)) = true := by simp; omega
  obtain ⟨w0, hw0⟩ : ∃ w0, w0 = (W.alloc (.cells #[.int .i64 th, .int .u8 (kind : Int), .int .u64 (addr : Int), .int .u64 (a : Int), .int .u64 (b : Int), .slice p n c, .int .u64 (got : Int), .bool ok] 44)).alloc (.cells #[.int .i64 th, .int .u8 (kind : Int), .int .u64 (addr : Int), .int .u64 (a' : Int), .int .u64 (b' : Int), .slice q m d, .int .u64 (got' : Int), .bool ok'] 44) := ⟨_, rfl⟩
  have B0 : Below W.heap.size W w0 := by rw [hw0]; exact (below_alloc _ _).trans ((below_alloc _ _).mono (by simp))
  have B1 : w0.heap[W.heap.size]? = some (.cells #[.int .i64 th, .int .u8 (kind : Int), .int .u64 (addr : Int), .int .u64 (a : Int), .int .u64 (b : Int), .slice p n c, .int .u64 (got : Int), .bool ok] 44 (0, 0)) := by rw [hw0]; exact alloc_of (heap_alloc_new _ _) _
  have B2 : w0.heap[W.heap.size + 1]? = some (.cells #[.int .i64 th, .int .u8 (kind : Int), .int .u64 (addr : Int), .int .u64 (a' : Int), .int .u64 (b' : Int), .slice q m d, .int .u64 (got' : Int), .bool ok'] 44 (0, 0)) := by
    rw [hw0]
    have e := heap_alloc_new (W.alloc (.cells #[.int .i64 th, .int .u8 (kind : Int), .int .u64 (addr : Int), .int .u64 (a : Int), .int .u64 (b : Int), .slice p n c, .int .u64 (got : Int), .bool ok] 44)) (.cells #[.int .i64 th, .int .u8 (kind : Int), .int .u64 (addr : Int), .int .u64 (a' : Int), .int .u64 (b' : Int), .slice q m d, .int .u64 (got' : Int), .bool ok'] 44)
    rw [World.size_alloc] at e
    exact e
  have a0 : w0.cell? ⟨W.heap.size, 0, none⟩ = some (.int .i64 th) := cell_of B1 0
  have b0 : w0.cell? ⟨W.heap.size + 1, 0, none⟩ = some (.int .i64 th) := cell_of B2 0
  have a1 : w0.cell? ⟨W.heap.size, 1, none⟩ = some (.int .u8 (kind : Int)) := cell_of B1 1
  have b1 : w0.cell? ⟨W.heap.size + 1, 1, none⟩ = some (.int .u8 (kind : Int)) := cell_of B2 1
  have a2 : w0.cell? ⟨W.heap.size, 2, none⟩ = some (.int .u64 (addr : Int)) := cell_of B1 2
  have b2 : w0.cell? ⟨W.heap.size + 1, 2, none⟩ = some (.int .u64 (addr : Int)) := cell_of B2 2
  have a3 : w0.cell? ⟨W.heap.size, 3, none⟩ = some (.int .u64 (a : Int)) := cell_of B1 3
  have b3 : w0.cell? ⟨W.heap.size + 1, 3, none⟩ = some (.int .u64 (a' : Int)) := cell_of B2 3
  have a4 : w0.cell? ⟨W.heap.size, 4, none⟩ = some (.int .u64 (b : Int)) := cell_of B1 4
  have b4 : w0.cell? ⟨W.heap.size + 1, 4, none⟩ = some (.int .u64 (b' : Int)) := cell_of B2 4
  have a5 : w0.cell? ⟨W.heap.size, 5, none⟩ = some (.slice p n c) := cell_of B1 5
  have b5 : w0.cell? ⟨W.heap.size + 1, 5, none⟩ = some (.slice q m d) := cell_of B2 5
  have a6 : w0.cell? ⟨W.heap.size, 6, none⟩ = some (.int .u64 (got : Int)) := cell_of B1 6
  have b6 : w0.cell? ⟨W.heap.size + 1, 6, none⟩ = some (.int .u64 (got' : Int)) := cell_of B2 6
  have a7 : w0.cell? ⟨W.heap.size, 7, none⟩ = some (.bool ok) := cell_of B1 7
  have b7 : w0.cell? ⟨W.heap.size + 1, 7, none⟩ = some (.bool ok') := cell_of B2 7
  have HB0 := keepH B0
  have HW0 := keepH hw0
  clear hw0 B1 B2 B0 hd
  go_enter Tryz.func21, Tryz.ntmps21
  go_upto_region 1 with fail
  rw [← HW0.out]
  clear HW0
  go_wp2_with fail
  go_ret
  exact ⟨rfl, HB0.out⟩

set_option maxRecDepth 100000 in
set_option maxHeartbeats 4000000 in
theorem s_ne4 (th : Int) (kind : Nat) (addr : Nat) (a : Nat) (b : Nat) (got : Nat) (ok : Bool) (b' : Nat) (got' : Nat) (ok' : Bool) (n m : Nat) (p q : Option Addr) (c d : Nat) (W : World) (hd : b ≠ b') :
    Calls Tryz.prog 21 #[.agg #[.int .i64 th, .int .u8 (kind : Int), .int .u64 (addr : Int), .int .u64 (a : Int), .int .u64 (b : Int), .slice p n c, .int .u64 (got : Int), .bool ok], .agg #[.int .i64 th, .int .u8 (kind : Int), .int .u64 (addr : Int), .int .u64 (a : Int), .int .u64 (b' : Int), .slice q m d, .int .u64 (got' : Int), .bool ok']] W fun e W' => e = .returned (.bool false) ∧ Below W.heap.size W W' := by
  have q1 : ((b : Int) != (b' : Int)) = true := by simp; omega
  obtain ⟨w0, hw0⟩ : ∃ w0, w0 = (W.alloc (.cells #[.int .i64 th, .int .u8 (kind : Int), .int .u64 (addr : Int), .int .u64 (a : Int), .int .u64 (b : Int), .slice p n c, .int .u64 (got : Int), .bool ok] 44)).alloc (.cells #[.int .i64 th, .int .u8 (kind : Int), .int .u64 (addr : Int), .int .u64 (a : Int), .int .u64 (b' : Int), .slice q m d, .int .u64 (got' : Int), .bool ok'] 44) := ⟨_, rfl⟩
  have B0 : Below W.heap.size W w0 := by rw [hw0]; exact (below_alloc _ _).trans ((below_alloc _ _).mono (by simp))
  have B1 : w0.heap[W.heap.size]? = some (.cells #[.int .i64 th, .int .u8 (kind : Int), .int .u64 (addr : Int), .int .u64 (a : Int), .int .u64 (b : Int), .slice p n c, .int .u64 (got : Int), .bool ok] 44 (0, 0)) := by rw [hw0]; exact alloc_of (heap_alloc_new _ _) _
  have B2 : w0.heap[W.heap.size + 1]? = some (.cells #[.int .i64 th, .int .u8 (kind : Int), .int .u64 (addr : Int), .int .u64 (a : Int), .int .u64 (b' : Int), .slice q m d, .int .u64 (got' : Int), .bool ok'] 44 (0, 0)) := by
    rw [hw0]
    have e := heap_alloc_new (W.alloc (.cells #[.int .i64 th, .int .u8 (kind : Int), .int .u64 (addr : Int), .int .u64 (a : Int), .int .u64 (b : Int), .slice p n c, .int .u64 (got : Int), .bool ok] 44)) (.cells #[.int .i64 th, .int .u8 (kind : Int), .int .u64 (addr : Int), .int .u64 (a : Int), .int .u64 (b' : Int), .slice q m d, .int .u64 (got' : Int), .bool ok'] 44)
    rw [World.size_alloc] at e
    exact e
  have a0 : w0.cell? ⟨W.heap.size, 0, none⟩ = some (.int .i64 th) := cell_of B1 0
  have b0 : w0.cell? ⟨W.heap.size + 1, 0, none⟩ = some (.int .i64 th) := cell_of B2 0
  have a1 : w0.cell? ⟨W.heap.size, 1, none⟩ = some (.int .u8 (kind : Int)) := cell_of B1 1
  have b1 : w0.cell? ⟨W.heap.size + 1, 1, none⟩ = some (.int .u8 (kind : Int)) := cell_of B2 1
  have a2 : w0.cell? ⟨W.heap.size, 2, none⟩ = some (.int .u64 (addr : Int)) := cell_of B1 2
  have b2 : w0.cell? ⟨W.heap.size + 1, 2, none⟩ = some (.int .u64 (addr : Int)) := cell_of B2 2
  have a3 : w0.cell? ⟨W.heap.size, 3, none⟩ = some (.int .u64 (a : Int)) := cell_of B1 3
  have b3 : w0.cell? ⟨W.heap.size + 1, 3, none⟩ = some (.int .u64 (a : Int)) := cell_of B2 3
  have a4 : w0.cell? ⟨W.heap.size, 4, none⟩ = some (.int .u64 (b : Int)) := cell_of B1 4
  have b4 : w0.cell? ⟨W.heap.size + 1, 4, none⟩ = some (.int .u64 (b' : Int)) := cell_of B2 4
  have a5 : w0.cell? ⟨W.heap.size, 5, none⟩ = some (.slice p n c) := cell_of B1 5
  have b5 : w0.cell? ⟨W.heap.size + 1, 5, none⟩ = some (.slice q m d) := cell_of B2 5
  have a6 : w0.cell? ⟨W.heap.size, 6, none⟩ = some (.int .u64 (got : Int)) := cell_of B1 6
  have b6 : w0.cell? ⟨W.heap.size + 1, 6, none⟩ = some (.int .u64 (got' : Int)) := cell_of B2 6
  have a7 : w0.cell? ⟨W.heap.size, 7, none⟩ = some (.bool ok) := cell_of B1 7
  have b7 : w0.cell? ⟨W.heap.size + 1, 7, none⟩ = some (.bool ok') := cell_of B2 7
  have HB0 := keepH B0
  have HW0 := keepH hw0
  clear hw0 B1 B2 B0 hd
  go_enter Tryz.func21, Tryz.ntmps21
  go_upto_region 1 with fail
  rw [← HW0.out]
  clear HW0
  go_wp2_with fail
  go_ret
  exact ⟨rfl, HB0.out⟩

set_option maxRecDepth 100000 in
set_option maxHeartbeats 4000000 in
theorem s_ne5 (th : Int) (kind : Nat) (addr : Nat) (a : Nat) (b : Nat) (got : Nat) (ok : Bool) (got' : Nat) (ok' : Bool) (n m : Nat) (p q : Option Addr) (c d : Nat) (W : World) (hd : got ≠ got') :
    Calls Tryz.prog 21 #[.agg #[.int .i64 th, .int .u8 (kind : Int), .int .u64 (addr : Int), .int .u64 (a : Int), .int .u64 (b : Int), .slice p n c, .int .u64 (got : Int), .bool ok], .agg #[.int .i64 th, .int .u8 (kind : Int), .int .u64 (addr : Int), .int .u64 (a : Int), .int .u64 (b : Int), .slice q m d, .int .u64 (got' : Int), .bool ok']] W fun e W' => e = .returned (.bool false) ∧ Below W.heap.size W W' := by
  have q1 : ((got : Int) != (got' : Int)) = true := by simp; omega
  obtain ⟨w0, hw0⟩ : ∃ w0, w0 = (W.alloc (.cells #[.int .i64 th, .int .u8 (kind : Int), .int .u64 (addr : Int), .int .u64 (a : Int), .int .u64 (b : Int), .slice p n c, .int .u64 (got : Int), .bool ok] 44)).alloc (.cells #[.int .i64 th, .int .u8 (kind : Int), .int .u64 (addr : Int), .int .u64 (a : Int), .int .u64 (b : Int), .slice q m d, .int .u64 (got' : Int), .bool ok'] 44) := ⟨_, rfl⟩
  have B0 : Below W.heap.size W w0 := by rw [hw0]; exact (below_alloc _ _).trans ((below_alloc _ _).mono (by simp))
  have B1 : w0.heap[W.heap.size]? = some (.cells #[.int .i64 th, .int .u8 (kind : Int), .int .u64 (addr : Int), .int .u64 (a : Int), .int .u64 (b : Int), .slice p n c, .int .u64 (got : Int), .bool ok] 44 (0, 0)) := by rw [hw0]; exact alloc_of (heap_alloc_new _ _) _
  have B2 : w0.heap[W.heap.size + 1]? = some (.cells #[.int .i64 th, .int .u8 (kind : Int), .int .u64 (addr : Int), .int .u64 (a : Int), .int .u64 (b : Int), .slice q m d, .int .u64 (got' : Int), .bool ok'] 44 (0, 0)) := by
    rw [hw0]
    have e := heap_alloc_new (W.alloc (.cells #[.int .i64 th, .int .u8 (kind : Int), .int .u64 (addr : Int), .int .u64 (a : Int), .int .u64 (b : Int), .slice p n c, .int .u64 (got : Int), .bool ok] 44)) (.cells #[.int .i64 th, .int .u8 (kind : Int), .int .u64 (addr : Int), .int .u64 (a : Int), .int .u64 (b : Int), .slice q m d, .int .u64 (got' : Int), .bool ok'] 44)
    rw [World.size_alloc] at e
    exact e
  have a0 : w0.cell? ⟨W.heap.size, 0, none⟩ = some (.int .i64 th) := cell_of B1 0
  have b0 : w0.cell? ⟨W.heap.size + 1, 0, none⟩ = some (.int .i64 th) := cell_of B2 0
  have a1 : w0.cell? ⟨W.heap.size, 1, none⟩ = some (.int .u8 (kind : Int)) := cell_of B1 1
  have b1 : w0.cell? ⟨W.heap.size + 1, 1, none⟩ = some (.int .u8 (kind : Int)) := cell_of B2 1
  have a2 : w0.cell? ⟨W.heap.size, 2, none⟩ = some (.int .u64 (addr : Int)) := cell_of B1 2
  have b2 : w0.cell? ⟨W.heap.size + 1, 2, none⟩ = some (.int .u64 (addr : Int)) := cell_of B2 2
  have a3 : w0.cell? ⟨W.heap.size, 3, none⟩ = some (.int .u64 (a : Int)) := cell_of B1 3
  have b3 : w0.cell? ⟨W.heap.size + 1, 3, none⟩ = some (.int .u64 (a : Int)) := cell_of B2 3
  have a4 : w0.cell? ⟨W.heap.size, 4, none⟩ = some (.int .u64 (b : Int)) := cell_of B1 4
  have b4 : w0.cell? ⟨W.heap.size + 1, 4, none⟩ = some (.int .u64 (b : Int)) := cell_of B2 4
  have a5 : w0.cell? ⟨W.heap.size, 5, none⟩ = some (.slice p n c) := cell_of B1 5
  have b5 : w0.cell? ⟨W.heap.size + 1, 5, none⟩ = some (.slice q m d) := cell_of B2 5
  have a6 : w0.cell? ⟨W.heap.size, 6, none⟩ = some (.int .u64 (got : Int)) := cell_of B1 6
  have b6 : w0.cell? ⟨W.heap.size + 1, 6, none⟩ = some (.int .u64 (got' : Int)) := cell_of B2 6
  have a7 : w0.cell? ⟨W.heap.size, 7, none⟩ = some (.bool ok) := cell_of B1 7
  have b7 : w0.cell? ⟨W.heap.size + 1, 7, none⟩ = some (.bool ok') := cell_of B2 7
  have HB0 := keepH B0
  have HW0 := keepH hw0
  clear hw0 B1 B2 B0 hd
  go_enter Tryz.func21, Tryz.ntmps21
  go_upto_region 1 with fail
  rw [← HW0.out]
  clear HW0
  go_wp2_with fail
  go_ret
  exact ⟨rfl, HB0.out⟩

set_option maxRecDepth 100000 in
set_option maxHeartbeats 4000000 in
theorem s_ne6 (th : Int) (kind : Nat) (addr : Nat) (a : Nat) (b : Nat) (got : Nat) (ok : Bool) (ok' : Bool) (n m : Nat) (p q : Option Addr) (c d : Nat) (W : World) (hd : ok ≠ ok') :
    Calls Tryz.prog 21 #[.agg #[.int .i64 th, .int .u8 (kind : Int), .int .u64 (addr : Int), .int .u64 (a : Int), .int .u64 (b : Int), .slice p n c, .int .u64 (got : Int), .bool ok], .agg #[.int .i64 th, .int .u8 (kind : Int), .int .u64 (addr : Int), .int .u64 (a : Int), .int .u64 (b : Int), .slice q m d, .int .u64 (got : Int), .bool ok']] W fun e W' => e = .returned (.bool false) ∧ Below W.heap.size W W' := by
  obtain rfl : ok' = !ok := by cases ok <;> cases ok' <;> simp_all
  obtain ⟨w0, hw0⟩ : ∃ w0, w0 = (W.alloc (.cells #[.int .i64 th, .int .u8 (kind : Int), .int .u64 (addr : Int), .int .u64 (a : Int), .int .u64 (b : Int), .slice p n c, .int .u64 (got : Int), .bool ok] 44)).alloc (.cells #[.int .i64 th, .int .u8 (kind : Int), .int .u64 (addr : Int), .int .u64 (a : Int), .int .u64 (b : Int), .slice q m d, .int .u64 (got : Int), .bool !ok] 44) := ⟨_, rfl⟩
  have B0 : Below W.heap.size W w0 := by rw [hw0]; exact (below_alloc _ _).trans ((below_alloc _ _).mono (by simp))
  have B1 : w0.heap[W.heap.size]? = some (.cells #[.int .i64 th, .int .u8 (kind : Int), .int .u64 (addr : Int), .int .u64 (a : Int), .int .u64 (b : Int), .slice p n c, .int .u64 (got : Int), .bool ok] 44 (0, 0)) := by rw [hw0]; exact alloc_of (heap_alloc_new _ _) _
  have B2 : w0.heap[W.heap.size + 1]? = some (.cells #[.int .i64 th, .int .u8 (kind : Int), .int .u64 (addr : Int), .int .u64 (a : Int), .int .u64 (b : Int), .slice q m d, .int .u64 (got : Int), .bool !ok] 44 (0, 0)) := by
    rw [hw0]
    have e := heap_alloc_new (W.alloc (.cells #[.int .i64 th, .int .u8 (kind : Int), .int .u64 (addr : Int), .int .u64 (a : Int), .int .u64 (b : Int), .slice p n c, .int .u64 (got : Int), .bool ok] 44)) (.cells #[.int .i64 th, .int .u8 (kind : Int), .int .u64 (addr : Int), .int .u64 (a : Int), .int .u64 (b : Int), .slice q m d, .int .u64 (got : Int), .bool !ok] 44)
    rw [World.size_alloc] at e
    exact e
  have a0 : w0.cell? ⟨W.heap.size, 0, none⟩ = some (.int .i64 th) := cell_of B1 0
  have b0 : w0.cell? ⟨W.heap.size + 1, 0, none⟩ = some (.int .i64 th) := cell_of B2 0
  have a1 : w0.cell? ⟨W.heap.size, 1, none⟩ = some (.int .u8 (kind : Int)) := cell_of B1 1
  have b1 : w0.cell? ⟨W.heap.size + 1, 1, none⟩ = some (.int .u8 (kind : Int)) := cell_of B2 1
  have a2 : w0.cell? ⟨W.heap.size, 2, none⟩ = some (.int .u64 (addr : Int)) := cell_of B1 2
  have b2 : w0.cell? ⟨W.heap.size + 1, 2, none⟩ = some (.int .u64 (addr : Int)) := cell_of B2 2
  have a3 : w0.cell? ⟨W.heap.size, 3, none⟩ = some (.int .u64 (a : Int)) := cell_of B1 3
  have b3 : w0.cell? ⟨W.heap.size + 1, 3, none⟩ = some (.int .u64 (a : Int)) := cell_of B2 3
  have a4 : w0.cell? ⟨W.heap.size, 4, none⟩ = some (.int .u64 (b : Int)) := cell_of B1 4
  have b4 : w0.cell? ⟨W.heap.size + 1, 4, none⟩ = some (.int .u64 (b : Int)) := cell_of B2 4
  have a5 : w0.cell? ⟨W.heap.size, 5, none⟩ = some (.slice p n c) := cell_of B1 5
  have b5 : w0.cell? ⟨W.heap.size + 1, 5, none⟩ = some (.slice q m d) := cell_of B2 5
  have a6 : w0.cell? ⟨W.heap.size, 6, none⟩ = some (.int .u64 (got : Int)) := cell_of B1 6
  have b6 : w0.cell? ⟨W.heap.size + 1, 6, none⟩ = some (.int .u64 (got : Int)) := cell_of B2 6
  have a7 : w0.cell? ⟨W.heap.size, 7, none⟩ = some (.bool ok) := cell_of B1 7
  have b7 : w0.cell? ⟨W.heap.size + 1, 7, none⟩ = some (.bool !ok) := cell_of B2 7
  have HB0 := keepH B0
  have HW0 := keepH hw0
  clear hw0 B1 B2 B0 hd
  go_enter Tryz.func21, Tryz.ntmps21
  go_upto_region 1 with fail
  rw [← HW0.out]
  clear HW0
  cases ok
  · go_wp2_with fail
    go_ret
    exact ⟨rfl, HB0.out⟩
  · go_wp2_with fail
    go_ret
    exact ⟨rfl, HB0.out⟩

set_option maxRecDepth 100000 in
set_option maxHeartbeats 4000000 in
theorem s_ne7 (th : Int) (kind : Nat) (addr : Nat) (a : Nat) (b : Nat) (got : Nat) (ok : Bool)  (n m : Nat) (p q : Option Addr) (c d : Nat) (W : World) (hd : n ≠ m) :
    Calls Tryz.prog 21 #[.agg #[.int .i64 th, .int .u8 (kind : Int), .int .u64 (addr : Int), .int .u64 (a : Int), .int .u64 (b : Int), .slice p n c, .int .u64 (got : Int), .bool ok], .agg #[.int .i64 th, .int .u8 (kind : Int), .int .u64 (addr : Int), .int .u64 (a : Int), .int .u64 (b : Int), .slice q m d, .int .u64 (got : Int), .bool ok]] W fun e W' => e = .returned (.bool false) ∧ Below W.heap.size W W' := by
  have q1 : ((n : Int) != (m : Int)) = true := by simp; omega
  obtain ⟨w0, hw0⟩ : ∃ w0, w0 = (W.alloc (.cells #[.int .i64 th, .int .u8 (kind : Int), .int .u64 (addr : Int), .int .u64 (a : Int), .int .u64 (b : Int), .slice p n c, .int .u64 (got : Int), .bool ok] 44)).alloc (.cells #[.int .i64 th, .int .u8 (kind : Int), .int .u64 (addr : Int), .int .u64 (a : Int), .int .u64 (b : Int), .slice q m d, .int .u64 (got : Int), .bool ok] 44) := ⟨_, rfl⟩
  have B0 : Below W.heap.size W w0 := by rw [hw0]; exact (below_alloc _ _).trans ((below_alloc _ _).mono (by simp))
  have B1 : w0.heap[W.heap.size]? = some (.cells #[.int .i64 th, .int .u8 (kind : Int), .int .u64 (addr : Int), .int .u64 (a : Int), .int .u64 (b : Int), .slice p n c, .int .u64 (got : Int), .bool ok] 44 (0, 0)) := by rw [hw0]; exact alloc_of (heap_alloc_new _ _) _
  have B2 : w0.heap[W.heap.size + 1]? = some (.cells #[.int .i64 th, .int .u8 (kind : Int), .int .u64 (addr : Int), .int .u64 (a : Int), .int .u64 (b : Int), .slice q m d, .int .u64 (got : Int), .bool ok] 44 (0, 0)) := by
    rw [hw0]
    have e := heap_alloc_new (W.alloc (.cells #[.int .i64 th, .int .u8 (kind : Int), .int .u64 (addr : Int), .int .u64 (a : Int), .int .u64 (b : Int), .slice p n c, .int .u64 (got : Int), .bool ok] 44)) (.cells #[.int .i64 th, .int .u8 (kind : Int), .int .u64 (addr : Int), .int .u64 (a : Int), .int .u64 (b : Int), .slice q m d, .int .u64 (got : Int), .bool ok] 44)
    rw [World.size_alloc] at e
    exact e
  have a0 : w0.cell? ⟨W.heap.size, 0, none⟩ = some (.int .i64 th) := cell_of B1 0
  have b0 : w0.cell? ⟨W.heap.size + 1, 0, none⟩ = some (.int .i64 th) := cell_of B2 0
  have a1 : w0.cell? ⟨W.heap.size, 1, none⟩ = some (.int .u8 (kind : Int)) := cell_of B1 1
  have b1 : w0.cell? ⟨W.heap.size + 1, 1, none⟩ = some (.int .u8 (kind : Int)) := cell_of B2 1
  have a2 : w0.cell? ⟨W.heap.size, 2, none⟩ = some (.int .u64 (addr : Int)) := cell_of B1 2
  have b2 : w0.cell? ⟨W.heap.size + 1, 2, none⟩ = some (.int .u64 (addr : Int)) := cell_of B2 2
  have a3 : w0.cell? ⟨W.heap.size, 3, none⟩ = some (.int .u64 (a : Int)) := cell_of B1 3
  have b3 : w0.cell? ⟨W.heap.size + 1, 3, none⟩ = some (.int .u64 (a : Int)) := cell_of B2 3
  have a4 : w0.cell? ⟨W.heap.size, 4, none⟩ = some (.int .u64 (b : Int)) := cell_of B1 4
  have b4 : w0.cell? ⟨W.heap.size + 1, 4, none⟩ = some (.int .u64 (b : Int)) := cell_of B2 4
  have a5 : w0.cell? ⟨W.heap.size, 5, none⟩ = some (.slice p n c) := cell_of B1 5
  have b5 : w0.cell? ⟨W.heap.size + 1, 5, none⟩ = some (.slice q m d) := cell_of B2 5
  have a6 : w0.cell? ⟨W.heap.size, 6, none⟩ = some (.int .u64 (got : Int)) := cell_of B1 6
  have b6 : w0.cell? ⟨W.heap.size + 1, 6, none⟩ = some (.int .u64 (got : Int)) := cell_of B2 6
  have a7 : w0.cell? ⟨W.heap.size, 7, none⟩ = some (.bool ok) := cell_of B1 7
  have b7 : w0.cell? ⟨W.heap.size + 1, 7, none⟩ = some (.bool ok) := cell_of B2 7
  have HB0 := keepH B0
  have HW0 := keepH hw0
  clear hw0 B1 B2 B0 hd
  go_enter Tryz.func21, Tryz.ntmps21
  go_upto_region 1 with fail
  rw [← HW0.out]
  clear HW0
  go_wp2_with fail
  go_ret
  exact ⟨rfl, HB0.out⟩

set_option maxRecDepth 100000 in
set_option maxHeartbeats 4000000 in
theorem s_nev (th : Int) (kind addr a b got : Nat) (ok : Bool) (us vs : List Nat) (hl : us.length = vs.length) (hb : us.length ≤ 200000000) (hd : us ≠ vs) (p q : Option Addr) (c d : Nat) (W : World) (hp : URd W p us) (hq : URd W q vs) :
    Calls Tryz.prog 21 #[.agg #[.int .i64 th, .int .u8 (kind : Int), .int .u64 (addr : Int), .int .u64 (a : Int), .int .u64 (b : Int), .slice p us.length c, .int .u64 (got : Int), .bool ok], .agg #[.int .i64 th, .int .u8 (kind : Int), .int .u64 (addr : Int), .int .u64 (a : Int), .int .u64 (b : Int), .slice q vs.length d, .int .u64 (got : Int), .bool ok]] W fun e W' => e = .returned (.bool false) ∧ Below W.heap.size W W' := by
  obtain ⟨n, hn⟩ : ∃ n, n = us.length := ⟨_, rfl⟩
  rw [← hl, ← hn]
  rw [← hn] at hb
  obtain ⟨w0, hw0⟩ : ∃ w0, w0 = (W.alloc (.cells #[.int .i64 th, .int .u8 (kind : Int), .int .u64 (addr : Int), .int .u64 (a : Int), .int .u64 (b : Int), .slice p n c, .int .u64 (got : Int), .bool ok] 44)).alloc (.cells #[.int .i64 th, .int .u8 (kind : Int), .int .u64 (addr : Int), .int .u64 (a : Int), .int .u64 (b : Int), .slice q n d, .int .u64 (got : Int), .bool ok] 44) := ⟨_, rfl⟩
  have B0 : Below W.heap.size W w0 := by rw [hw0]; exact (below_alloc _ _).trans ((below_alloc _ _).mono (by simp))
  have B1 : w0.heap[W.heap.size]? = some (.cells #[.int .i64 th, .int .u8 (kind : Int), .int .u64 (addr : Int), .int .u64 (a : Int), .int .u64 (b : Int), .slice p n c, .int .u64 (got : Int), .bool ok] 44 (0, 0)) := by rw [hw0]; exact alloc_of (heap_alloc_new _ _) _
  have B2 : w0.heap[W.heap.size + 1]? = some (.cells #[.int .i64 th, .int .u8 (kind : Int), .int .u64 (addr : Int), .int .u64 (a : Int), .int .u64 (b : Int), .slice q n d, .int .u64 (got : Int), .bool ok] 44 (0, 0)) := by
    rw [hw0]
    have e := heap_alloc_new (W.alloc (.cells #[.int .i64 th, .int .u8 (kind : Int), .int .u64 (addr : Int), .int .u64 (a : Int), .int .u64 (b : Int), .slice p n c, .int .u64 (got : Int), .bool ok] 44)) (.cells #[.int .i64 th, .int .u8 (kind : Int), .int .u64 (addr : Int), .int .u64 (a : Int), .int .u64 (b : Int), .slice q n d, .int .u64 (got : Int), .bool ok] 44)
    rw [World.size_alloc] at e
    exact e
  have a0 : w0.cell? ⟨W.heap.size, 0, none⟩ = some (.int .i64 th) := cell_of B1 0
  have b0 : w0.cell? ⟨W.heap.size + 1, 0, none⟩ = some (.int .i64 th) := cell_of B2 0
  have a1 : w0.cell? ⟨W.heap.size, 1, none⟩ = some (.int .u8 (kind : Int)) := cell_of B1 1
  have b1 : w0.cell? ⟨W.heap.size + 1, 1, none⟩ = some (.int .u8 (kind : Int)) := cell_of B2 1
  have a2 : w0.cell? ⟨W.heap.size, 2, none⟩ = some (.int .u64 (addr : Int)) := cell_of B1 2
  have b2 : w0.cell? ⟨W.heap.size + 1, 2, none⟩ = some (.int .u64 (addr : Int)) := cell_of B2 2
  have a3 : w0.cell? ⟨W.heap.size, 3, none⟩ = some (.int .u64 (a : Int)) := cell_of B1 3
  have b3 : w0.cell? ⟨W.heap.size + 1, 3, none⟩ = some (.int .u64 (a : Int)) := cell_of B2 3
  have a4 : w0.cell? ⟨W.heap.size, 4, none⟩ = some (.int .u64 (b : Int)) := cell_of B1 4
  have b4 : w0.cell? ⟨W.heap.size + 1, 4, none⟩ = some (.int .u64 (b : Int)) := cell_of B2 4
  have a5 : w0.cell? ⟨W.heap.size, 5, none⟩ = some (.slice p n c) := cell_of B1 5
  have b5 : w0.cell? ⟨W.heap.size + 1, 5, none⟩ = some (.slice q n d) := cell_of B2 5
  have a6 : w0.cell? ⟨W.heap.size, 6, none⟩ = some (.int .u64 (got : Int)) := cell_of B1 6
  have b6 : w0.cell? ⟨W.heap.size + 1, 6, none⟩ = some (.int .u64 (got : Int)) := cell_of B2 6
  have a7 : w0.cell? ⟨W.heap.size, 7, none⟩ = some (.bool ok) := cell_of B1 7
  have b7 : w0.cell? ⟨W.heap.size + 1, 7, none⟩ = some (.bool ok) := cell_of B2 7
  have HB0 := keepH B0
  have HW0 := keepH hw0
  have HP := keepH (hp.on B0)
  have HQ := keepH (hq.on B0)
  have HN := keepH hn
  have HL := keepH hl
  have HD := keepH hd
  clear hw0 B1 B2 B0 hp hq hn hl hd
  go_enter Tryz.func21, Tryz.ntmps21
  go_upto_region 1 with fail
  rw [← HW0.out]
  clear HW0
  go_wp2_with fail
  go_loopw [5] (fun s wr => ∃ i : Nat, i ≤ n ∧ s = .int .i64 (i : Int) ∧ Hid ((∃ m, wr = w0.drewN m) ∧ us.take i = vs.take i)) (fun s _ => n - (intOf s).toNat)
  case atStart => exact ⟨0, by omega, rfl, keepH ⟨⟨0, rfl⟩, rfl⟩⟩
  case round =>
    obtain ⟨i, hi, rfl, HM⟩ := hrel
    obtain ⟨m, hm⟩ := HM.out.1
    have D : Below w0.heap.size w0 wr := by rw [hm]; exact below_drewN (Below.refl _ _) _
    replace a5 := cell_below a5 D
    replace b5 := cell_below b5 D
    have HDD := keepH D
    clear a0 a1 a2 a3 a4 a6 a7 b0 b1 b2 b3 b4 b6 b7 hm D
    by_cases hlt : i < n
    · have t1 : (i : Int) < (n : Int) := by omega
      obtain ⟨x, hx⟩ : ∃ x, us[i]? = some x := ⟨us[i]'(by rw [← HN.out]; exact hlt), List.getElem?_eq_getElem _⟩
      obtain ⟨y, hy⟩ : ∃ y, vs[i]? = some y := ⟨vs[i]'(by rw [← HL.out, ← HN.out]; exact hlt), List.getElem?_eq_getElem _⟩
      obtain ⟨bk, off, rfl, _, c0⟩ := (HP.out.on HDD.out).get i x hx
      obtain ⟨bk', off', rfl, _, d0⟩ := (HQ.out.on HDD.out).get i y hy
      by_cases hxy : x = y
      · subst hxy
        obtain ⟨z, hz⟩ : ∃ z : Int, z = (x : Int) := ⟨_, rfl⟩
        rw [← hz] at c0 d0
        have HX := keepH (And.intro hx hy)
        clear hx hy hz
        go_wp2_with fail
        go_quiet (fail)
        go_wp2_with fail
        go_roundw
        case rel => exact ⟨i + 1, by omega, by first | rfl | go_num, keepH ⟨by obtain ⟨m, e⟩ := HM.out.1; exact ⟨m + nq, by rw [e]; simp [World.drewN, Nat.add_assoc]⟩, by rw [List.take_add_one, List.take_add_one, HX.out.1, HX.out.2, HM.out.2]⟩⟩
        case measure => simp [intOf]; omega
      · have qx : ((x : Int) != (y : Int)) = true := by simp; omega
        clear hx hy hxy
        go_wp2_with fail
        go_quiet (fail)
        go_wp2_with fail
        go_ret
        exact ⟨by first | rfl | simp, below_drewN (below_chain HB0.out HDD.out) _⟩
    · exfalso
      obtain rfl : i = n := by omega
      have := HM.out.2
      rw [List.take_of_length_le (by rw [← HN.out]; omega), List.take_of_length_le (by rw [← HL.out, ← HN.out]; omega)] at this
      exact HD.out this

theorem s_any (x y : Ax) (p q : Option Addr) (c d : Nat) (W : World) (hp : URd W p x.vals) (hq : URd W q y.vals) (hl : x.vals.length ≤ 1048576) (hl' : y.vals.length ≤ 1048576) :
    Calls Tryz.prog 21 #[.agg (bxA x (.slice p x.vals.length c)), .agg (bxA y (.slice q y.vals.length d))] W fun e W' => ∃ v, e = .returned v ∧ SameQ x y v ∧ Below W.heap.size W W' := by
  by_cases hxy : x = y
  · subst hxy
    refine (s_acc x p q c d W hp hq hl).mono ?_
    rintro e W' ⟨rfl, hb⟩
    exact ⟨_, rfl, ⟨true, rfl, by simp⟩, hb⟩
  · have key : Calls Tryz.prog 21 #[.agg (bxA x (.slice p x.vals.length c)), .agg (bxA y (.slice q y.vals.length d))] W fun e W' => e = .returned (.bool false) ∧ Below W.heap.size W W' := by
      obtain ⟨th, kind, addr, a, b, vals, got, ok⟩ := x
      obtain ⟨th', kind', addr', a', b', vals', got', ok'⟩ := y
      simp only at hp hq hl hl' ⊢
      by_cases e0 : th = th'
      rotate_left
      · exact s_ne0 th kind addr a b got ok th' kind' addr' a' b' got' ok' vals.length vals'.length p q c d W e0
      subst e0
      by_cases e1 : kind = kind'
      rotate_left
      · exact s_ne1 th kind addr a b got ok kind' addr' a' b' got' ok' vals.length vals'.length p q c d W e1
      subst e1
      by_cases e2 : addr = addr'
      rotate_left
      · exact s_ne2 th kind addr a b got ok addr' a' b' got' ok' vals.length vals'.length p q c d W e2
      subst e2
      by_cases e3 : a = a'
      rotate_left
      · exact s_ne3 th kind addr a b got ok a' b' got' ok' vals.length vals'.length p q c d W e3
      subst e3
      by_cases e4 : b = b'
      rotate_left
      · exact s_ne4 th kind addr a b got ok b' got' ok' vals.length vals'.length p q c d W e4
      subst e4
      by_cases e5 : got = got'
      rotate_left
      · exact s_ne5 th kind addr a b got ok got' ok' vals.length vals'.length p q c d W e5
      subst e5
      by_cases e6 : ok = ok'
      rotate_left
      · exact s_ne6 th kind addr a b got ok ok' vals.length vals'.length p q c d W e6
      subst e6
      by_cases e7 : vals.length = vals'.length
      rotate_left
      · exact s_ne7 th kind addr a b got ok vals.length vals'.length p q c d W e7
      exact s_nev th kind addr a b got ok vals vals' e7 (by omega) (fun e => hxy (by rw [e])) p q c d W hp hq
    refine key.mono ?_
    rintro e W' ⟨rfl, hb⟩
    exact ⟨_, rfl, ⟨false, rfl, by simp [hxy]⟩, hb⟩
end Go.Proofs.YtjodechhnobkhaaGreatDoor
