/- The model's do and Do, of the operations that are asked for. -/
import Derived.Test.YtbmfjcdafjknaaaMsT
import Derived.Test.YtbmfjcdafjknaaaMsC
namespace Go.Proofs.Ytbmfjcdafjknaaa
open Go.RowKit
set_option linter.unusedVariables false

set_option maxRecDepth 100000 in
set_option maxHeartbeats 4000000 in
theorem do_put (v x : Nat) (th : Bool) {W : World} {m n h : Nat} (hm : IsModel W m n h) (hmn : m ≠ n) {es es' : Array MapEntry} {c c' : Nat} (hN : W.heap[n]? = some (.map es c)) (hup : ∀ w, w.heap[n]? = some (.map es c) → (Instr.mapUpdate 105 (.map (some n)) (.int .u64 7) (.int .u64 (v : Int))).run Try.prog w = .ok () (ChangeMaps.setBlock w n (.map es' c'))) :
    Calls Try.prog 58 #[.pointer (some ⟨m, 0, none⟩), .agg #[.int .u8 2, .int .u64 (7 : Int), .int .u64 (v : Int), .int .u64 0, .int .u64 0, .bool false, .int .i64 0, .int .i64 0, .slice none 0 0, .int .u64 0, .int .u64 0], .agg #[.int .i64 0, .bool th, .int .u64 (x : Int), .bool false, .int .u64 0, .slice none 0 0, .int .u64 0]] W fun e W' => e = .returned (.tuple #[]) ∧ W'.heap[n]? = some (.map es' c') ∧ Chg (fun k => k = n) W W' := by
  obtain ⟨w0, hw0⟩ : ∃ w0, w0 = (W.alloc (.cells #[.int .u8 2, .int .u64 (7 : Int), .int .u64 (v : Int), .int .u64 0, .int .u64 0, .bool false, .int .i64 0, .int .i64 0, .slice none 0 0, .int .u64 0, .int .u64 0] 66)).alloc (.cells #[.int .i64 0, .bool th, .int .u64 (x : Int), .bool false, .int .u64 0, .slice none 0 0, .int .u64 0] 59) := ⟨_, rfl⟩
  have C0 : Chg (fun _ => False) W w0 := by rw [hw0]; exact ((Chg.refl _ _).alloc _).alloc _
  have o0 : w0.heap[W.heap.size]? = some (.cells #[.int .u8 2, .int .u64 (7 : Int), .int .u64 (v : Int), .int .u64 0, .int .u64 0, .bool false, .int .i64 0, .int .i64 0, .slice none 0 0, .int .u64 0, .int .u64 0] 66 (0, 0)) := by rw [hw0]; exact alloc_of (heap_alloc_new _ _) _
  have a0 : w0.heap[W.heap.size + 1]? = some (.cells #[.int .i64 0, .bool th, .int .u64 (x : Int), .bool false, .int .u64 0, .slice none 0 0, .int .u64 0] 59 (0, 0)) := by
    have e := heap_alloc_new (W.alloc (.cells #[.int .u8 2, .int .u64 (7 : Int), .int .u64 (v : Int), .int .u64 0, .int .u64 0, .bool false, .int .i64 0, .int .i64 0, .slice none 0 0, .int .u64 0, .int .u64 0] 66)) (.cells #[.int .i64 0, .bool th, .int .u64 (x : Int), .bool false, .int .u64 0, .slice none 0 0, .int .u64 0] 59)
    rw [World.size_alloc] at e
    rw [hw0]
    exact e
  have m0 := hm.chg C0 (fun x => x)
  have n0 : w0.heap[n]? = some (.map es c) := (C0.block n (Array.getElem?_eq_some_iff.1 hN).1 (fun x => x)).trans hN
  have hnl := (Array.getElem?_eq_some_iff.1 hN).1
  have k0 : w0.cell? ⟨W.heap.size, 0, none⟩ = some (.int .u8 2) := cell_of o0 0
  have e0 : w0.cell? ⟨W.heap.size + 1, 0, none⟩ = some (.int .i64 0) := cell_of a0 0
  have HS0 : Hid (w0.cell? ⟨m, 1, none⟩ = some (.map (some n)) ∧ w0.cell? ⟨W.heap.size, 1, none⟩ = some (.int .u64 7) ∧ w0.cell? ⟨W.heap.size, 2, none⟩ = some (.int .u64 (v : Int))) := ⟨cell_of m0 1, cell_of o0 1, cell_of o0 2⟩
  have hu := hup w0.drew n0
  obtain ⟨w1, hw1⟩ : ∃ w1, w1 = ChangeMaps.setBlock w0.drew n (.map es' c') := ⟨_, rfl⟩
  have K1 : Chg (fun k => k = n) w0.drew w1 := by rw [hw1]; exact setBlock_chg (w := w0.drew) n0 _
  have N1 : Hid (w1.heap[n]? = some (.map es' c')) := by rw [hw1]; exact setBlock_at (w := w0.drew) n0 _
  have m1 : IsModel w1 m n h := (show IsModel w0.drew m n h from m0).chg K1 hmn
  have o1 : w1.heap[W.heap.size]? = some (.cells #[.int .u8 2, .int .u64 (7 : Int), .int .u64 (v : Int), .int .u64 0, .int .u64 0, .bool false, .int .i64 0, .int .i64 0, .slice none 0 0, .int .u64 0, .int .u64 0] 66 (0, 0)) := (K1.block W.heap.size (lt_of o0) (by omega)).trans o0
  have HC1 : Hid (Chg (fun k => k = n) W w1) := C0.drew.trans K1 (fun _ _ x => x.elim) (fun _ _ x => x)
  have hS6 : w1.cell? ⟨m, 1, none⟩ = some (.map (some n)) ∧ w1.cell? ⟨W.heap.size, 1, none⟩ = some (.int .u64 7) ∧ w1.cell? ⟨W.heap.size, 2, none⟩ = some (.int .u64 (v : Int)) := ⟨cell_of m1 1, cell_of o1 1, cell_of o1 2⟩
  rw [← hw1] at hu
  clear hm hN hup C0 o0 a0 m0 n0 hnl K1 m1 o1 hw1
  go_enter Try.func58, Try.ntmps58
  go_upto_region 1 with fail
  rw [← hw0]
  clear hw0
  go_upto_region 9 with fail
  go_region_held3 (fun w' => w'.cell? ⟨m, 1, none⟩ = some (.map (some n)) ∧ w'.cell? ⟨W.heap.size, 1, none⟩ = some (.int .u64 7) ∧ w'.cell? ⟨W.heap.size, 2, none⟩ = some (.int .u64 (v : Int))) (first | exact HS0.out | exact hS6) (fail)
  all_goals (
    (try go_wp2_with fail)
    go_end0
    exact ⟨rfl, N1.out, HC1.out⟩)
set_option maxRecDepth 100000 in
set_option maxHeartbeats 4000000 in
theorem do_snap {W : World} {m n h : Nat} (hm : IsModel W m n h) (hmh : m ≠ h) (hnh : n ≠ h) (hN : W.heap[n]? = some (.map #[⟨.int .u64 7, .int .u64 1, 0⟩] 1)) (hH : W.heap[h]? = some (.map #[] 0)) :
    Calls Try.prog 58 #[.pointer (some ⟨m, 0, none⟩), .agg #[.int .u8 5, .int .u64 (0 : Int), .int .u64 (0 : Int), .int .u64 0, .int .u64 0, .bool false, .int .i64 0, .int .i64 0, .slice none 0 0, .int .u64 0, .int .u64 0], .agg #[.int .i64 0, .bool false, .int .u64 0, .bool false, .int .u64 5, .slice none 0 0, .int .u64 0]] W fun e W' => e = .returned (.tuple #[]) ∧ ∃ cl, W.heap.size ≤ cl ∧ W'.heap[h]? = some (.map #[⟨.int .u64 5, .map (some cl), 0⟩] 1) ∧ W'.heap[cl]? = some (.map #[⟨.int .u64 7, .int .u64 1, 0⟩] 1) ∧ Chg (fun k => k = h) W W' := by
  obtain ⟨w0, hw0⟩ : ∃ w0, w0 = (W.alloc (.cells #[.int .u8 5, .int .u64 (0 : Int), .int .u64 (0 : Int), .int .u64 0, .int .u64 0, .bool false, .int .i64 0, .int .i64 0, .slice none 0 0, .int .u64 0, .int .u64 0] 66)).alloc (.cells #[.int .i64 0, .bool false, .int .u64 0, .bool false, .int .u64 5, .slice none 0 0, .int .u64 0] 59) := ⟨_, rfl⟩
  have C0 : Chg (fun _ => False) W w0 := by rw [hw0]; exact ((Chg.refl _ _).alloc _).alloc _
  have o0 : w0.heap[W.heap.size]? = some (.cells #[.int .u8 5, .int .u64 (0 : Int), .int .u64 (0 : Int), .int .u64 0, .int .u64 0, .bool false, .int .i64 0, .int .i64 0, .slice none 0 0, .int .u64 0, .int .u64 0] 66 (0, 0)) := by rw [hw0]; exact alloc_of (heap_alloc_new _ _) _
  have a0 : w0.heap[W.heap.size + 1]? = some (.cells #[.int .i64 0, .bool false, .int .u64 0, .bool false, .int .u64 5, .slice none 0 0, .int .u64 0] 59 (0, 0)) := by
    have e := heap_alloc_new (W.alloc (.cells #[.int .u8 5, .int .u64 (0 : Int), .int .u64 (0 : Int), .int .u64 0, .int .u64 0, .bool false, .int .i64 0, .int .i64 0, .slice none 0 0, .int .u64 0, .int .u64 0] 66)) (.cells #[.int .i64 0, .bool false, .int .u64 0, .bool false, .int .u64 5, .slice none 0 0, .int .u64 0] 59)
    rw [World.size_alloc] at e
    rw [hw0]
    exact e
  have m0 := hm.chg C0 (fun x => x)
  have hnl := (Array.getElem?_eq_some_iff.1 hN).1
  have hhl := (Array.getElem?_eq_some_iff.1 hH).1
  have hml := lt_of hm
  have n0 : w0.heap[n]? = some (.map #[⟨.int .u64 7, .int .u64 1, 0⟩] 1) := (C0.block n hnl (fun x => x)).trans hN
  have h0 : w0.heap[h]? = some (.map #[] 0) := (C0.block h hhl (fun x => x)).trans hH
  have k0 : w0.cell? ⟨W.heap.size, 0, none⟩ = some (.int .u8 5) := cell_of o0 0
  have e0 : w0.cell? ⟨W.heap.size + 1, 0, none⟩ = some (.int .i64 0) := cell_of a0 0
  have e4 : w0.cell? ⟨W.heap.size + 1, 4, none⟩ = some (.int .u64 5) := cell_of a0 4
  have HS0 : Hid (w0.cell? ⟨m, 2, none⟩ = some (.map (some h)) ∧ w0.cell? ⟨W.heap.size + 1, 4, none⟩ = some (.int .u64 5) ∧ w0.cell? ⟨m, 1, none⟩ = some (.map (some n))) := ⟨cell_of m0 2, cell_of a0 4, cell_of m0 1⟩
  have HCL := keepH (pict_one (W := w0.drew) n0)
  have z0 := C0.size
  have HSE : Hid (∀ z, z.heap[w0.heap.size]? = some (.map #[⟨.int .u64 7, .int .u64 1, 0⟩] 1) → Chg (fun _ => False) w0.drew z → ∃ w2, (Instr.mapUpdate 106 (.map (some h)) (.int .u64 5) (.map (some w0.heap.size))).run Try.prog z = .ok () w2 ∧ (z.cell? ⟨m, 2, none⟩ = some (.map (some h)) ∧ z.cell? ⟨W.heap.size + 1, 4, none⟩ = some (.int .u64 5) ∧ z.cell? ⟨m, 1, none⟩ = some (.map (some n))) ∧ (w2.cell? ⟨m, 2, none⟩ = some (.map (some h)) ∧ w2.cell? ⟨W.heap.size + 1, 4, none⟩ = some (.int .u64 5) ∧ w2.cell? ⟨m, 1, none⟩ = some (.map (some n))) ∧ Hid (w2.heap[h]? = some (.map #[⟨.int .u64 5, .map (some w0.heap.size), 0⟩] 1) ∧ w2.heap[w0.heap.size]? = some (.map #[⟨.int .u64 7, .int .u64 1, 0⟩] 1) ∧ Chg (fun k => k = h) W w2)) := by
    intro w1 L1 C1d
    have C1 : Chg (fun _ => False) w0 w1 := ((Chg.refl (fun _ => False) w0).drew).trans C1d (fun _ _ x => x) (fun _ _ x => x)
    have m1 := m0.chg C1 (fun x => x)
    have a1 : w1.heap[W.heap.size + 1]? = some (.cells #[.int .i64 0, .bool false, .int .u64 0, .bool false, .int .u64 5, .slice none 0 0, .int .u64 0] 59 (0, 0)) := (C1.block _ (lt_of a0) (fun x => x)).trans a0
    have h1 : w1.heap[h]? = some (.map #[] 0) := (C1.block h (Array.getElem?_eq_some_iff.1 h0).1 (fun x => x)).trans h0
    have hu := hold_0 h1 (.map (some w0.heap.size))
    obtain ⟨w2, hw2⟩ : ∃ w2, w2 = ChangeMaps.setBlock w1 h (.map #[⟨.int .u64 5, .map (some w0.heap.size), 0⟩] 1) := ⟨_, rfl⟩
    have K2 : Chg (fun k => k = h) w1 w2 := by rw [hw2]; exact setBlock_chg h1 _
    have HH2 : w2.heap[h]? = some (.map #[⟨.int .u64 5, .map (some w0.heap.size), 0⟩] 1) := by rw [hw2]; exact setBlock_at h1 _
    have HL2 : w2.heap[w0.heap.size]? = some (.map #[⟨.int .u64 7, .int .u64 1, 0⟩] 1) := (K2.block _ (Array.getElem?_eq_some_iff.1 L1).1 (by omega)).trans L1
    have m2 := m1.chg K2 hmh
    have a2 : w2.heap[W.heap.size + 1]? = some (.cells #[.int .i64 0, .bool false, .int .u64 0, .bool false, .int .u64 5, .slice none 0 0, .int .u64 0] 59 (0, 0)) := (K2.block _ (lt_of a1) (by omega)).trans a1
    rw [← hw2] at hu
    exact ⟨w2, hu, ⟨cell_of m1 2, cell_of a1 4, cell_of m1 1⟩, ⟨cell_of m2 2, cell_of a2 4, cell_of m2 1⟩, HH2, HL2, (C0.trans C1 (H := fun _ => False) (fun _ _ x => x) (fun _ _ x => x)).trans K2 (fun _ _ x => x.elim) (fun _ _ x => x)⟩
  have HZ : Hid (W.heap.size ≤ w0.heap.size) := z0
  clear hm hN hH C0 o0 a0 m0 n0 h0 hnl hhl hml z0
  go_enter Try.func58, Try.ntmps58
  go_upto_region 1 with fail
  rw [← hw0]
  clear hw0
  go_upto_region 12 with fail
  go_region_held3 (fun w' => w'.cell? ⟨m, 2, none⟩ = some (.map (some h)) ∧ w'.cell? ⟨W.heap.size + 1, 4, none⟩ = some (.int .u64 5) ∧ w'.cell? ⟨m, 1, none⟩ = some (.map (some n))) (first | exact HS0.out | exact hS5 | exact hS6)
    (first | (go_at_call 70; refine HCL.out.mono ?_; rintro e z ⟨rfl, L1, C1⟩; obtain ⟨w2, hu, hS5, hS6, HE⟩ := HSE.out z L1 C1; clear L1 C1))
  all_goals (
    (try go_wp2_with fail)
    go_end0
    exact ⟨rfl, w0.heap.size, HZ.out, HE.out.1, HE.out.2.1, HE.out.2.2⟩)
end Go.Proofs.Ytbmfjcdafjknaaa
