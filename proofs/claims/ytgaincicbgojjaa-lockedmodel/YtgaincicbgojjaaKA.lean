/- An operation told under the lock; Do. -/
import Derived.Test.YtgaincicbgojjaaK9
namespace Go.Proofs.Ytgaincicbgojjaa
open Go.RowKit Go.Maps Go.MuLone
set_option linter.unusedVariables false

set_option maxRecDepth 100000 in
set_option maxHeartbeats 4000000 in
theorem tell_5 {o : OpP} {r5 : Bool} {r6 r7 : Int} {kp : Option Addr} {kc : Nat} (kk : o.kd = 5) {W : World} {s : Nat} {G : Nat → Prop} (hG : ∀ k, G k → k < W.heap.size) {R : World → World → Ans → Option Addr → Prop}
    (hD : ∀ w, Chg (fun _ => False) W w → Calls Try.prog 37 #[.pointer (some ⟨s, 0, none⟩), .agg #[.int .u8 o.kd, .int .u64 (o.k : Int), .int .u64 (o.v : Int), .int .u64 (o.od : Int), .int .u64 (o.hk : Int), .bool r5, .int .i64 r6, .int .i64 r7, .slice kp o.ks.length kc, .int .u64 (o.lo : Int), .int .u64 (o.hi : Int)]] w fun e w' => ∃ A p c, e = .returned (.agg #[.int .i64 A.e, .bool A.f, .int .u64 (A.x : Int), .bool A.d, .int .u64 (A.h : Int), .slice p A.l.length c, .int .u64 (A.n : Int)]) ∧ R w w' A p ∧ Chg G w w') :
    Calls Try.prog 21 #[.pointer (some ⟨s, 0, none⟩), .agg #[.int .u8 o.kd, .int .u64 (o.k : Int), .int .u64 (o.v : Int), .int .u64 (o.od : Int), .int .u64 (o.hk : Int), .bool r5, .int .i64 r6, .int .i64 r7, .slice kp o.ks.length kc, .int .u64 (o.lo : Int), .int .u64 (o.hi : Int)]] W fun e W' => ∃ A p c w w1, e = .returned (.agg #[.int .i64 A.e, .bool A.f, .int .u64 (A.x : Int), .bool A.d, .int .u64 (A.h : Int), .slice p A.l.length c, .int .u64 (A.n : Int)]) ∧ Chg (fun _ => False) W w ∧ W.heap.size + 2 ≤ w.heap.size ∧ R w w1 A p ∧ Chg G w w1 ∧ Chg (fun i => i = W.heap.size + 1) w1 W' := by
  have q : (o.kd == 5) = true := by simpa using kk
  obtain ⟨w0, hw0⟩ : ∃ w0, w0 = (W.alloc (.cells #[.int .u8 o.kd, .int .u64 (o.k : Int), .int .u64 (o.v : Int), .int .u64 (o.od : Int), .int .u64 (o.hk : Int), .bool r5, .int .i64 r6, .int .i64 r7, .slice kp o.ks.length kc, .int .u64 (o.lo : Int), .int .u64 (o.hi : Int)] 28)).alloc (.cells #[.int .i64 0, .bool false, .int .u64 0, .bool false, .int .u64 0, .slice none 0 0, .int .u64 0] 33) := ⟨_, rfl⟩
  have C0 : Chg (fun _ => False) W w0 := by rw [hw0]; exact ((Chg.refl _ _).alloc _).alloc _
  have o0 : w0.heap[W.heap.size]? = some (.cells #[.int .u8 o.kd, .int .u64 (o.k : Int), .int .u64 (o.v : Int), .int .u64 (o.od : Int), .int .u64 (o.hk : Int), .bool r5, .int .i64 r6, .int .i64 r7, .slice kp o.ks.length kc, .int .u64 (o.lo : Int), .int .u64 (o.hi : Int)] 28 (0, 0)) := by rw [hw0]; exact alloc_of (heap_alloc_new _ _) _
  have a0 : w0.heap[W.heap.size + 1]? = some (.cells #[.int .i64 0, .bool false, .int .u64 0, .bool false, .int .u64 0, .slice none 0 0, .int .u64 0] 33 (0, 0)) := by
    have e := heap_alloc_new (W.alloc (.cells #[.int .u8 o.kd, .int .u64 (o.k : Int), .int .u64 (o.v : Int), .int .u64 (o.od : Int), .int .u64 (o.hk : Int), .bool r5, .int .i64 r6, .int .i64 r7, .slice kp o.ks.length kc, .int .u64 (o.lo : Int), .int .u64 (o.hi : Int)] 28)) (.cells #[.int .i64 0, .bool false, .int .u64 0, .bool false, .int .u64 0, .slice none 0 0, .int .u64 0] 33)
    rw [World.size_alloc] at e
    rw [hw0]
    exact e
  have HSZ : Hid (w0.heap.size = W.heap.size + 2) := by rw [hw0]; show _ = _; simp
  have HE : Hid (∀ (z : World) (A : Ans) (p : Option Addr) (c : Nat), Chg G w0 z → ∃ w9, w9 = (((((((z.setCell ⟨W.heap.size + 1, 0, none⟩ (.int .i64 A.e)).setCell ⟨W.heap.size + 1, 1, none⟩ (.bool A.f)).setCell ⟨W.heap.size + 1, 2, none⟩ (.int .u64 (A.x : Int))).setCell ⟨W.heap.size + 1, 3, none⟩ (.bool A.d)).setCell ⟨W.heap.size + 1, 4, none⟩ (.int .u64 (A.h : Int))).setCell ⟨W.heap.size + 1, 5, none⟩ (.slice p A.l.length c)).setCell ⟨W.heap.size + 1, 6, none⟩ (.int .u64 (A.n : Int))) ∧ z.cell? ⟨W.heap.size + 1, 0, none⟩ = some (.int .i64 0) ∧ z.cell? ⟨W.heap.size + 1, 1, none⟩ = some (.bool false) ∧ z.cell? ⟨W.heap.size + 1, 2, none⟩ = some (.int .u64 0) ∧ z.cell? ⟨W.heap.size + 1, 3, none⟩ = some (.bool false) ∧ z.cell? ⟨W.heap.size + 1, 4, none⟩ = some (.int .u64 0) ∧ z.cell? ⟨W.heap.size + 1, 5, none⟩ = some (.slice none 0 0) ∧ z.cell? ⟨W.heap.size + 1, 6, none⟩ = some (.int .u64 0) ∧ z.frozen? ⟨W.heap.size + 1, 0, none⟩ = false ∧ z.frozen? ⟨W.heap.size + 1, 1, none⟩ = false ∧ z.frozen? ⟨W.heap.size + 1, 2, none⟩ = false ∧ z.frozen? ⟨W.heap.size + 1, 3, none⟩ = false ∧ z.frozen? ⟨W.heap.size + 1, 4, none⟩ = false ∧ z.frozen? ⟨W.heap.size + 1, 5, none⟩ = false ∧ z.frozen? ⟨W.heap.size + 1, 6, none⟩ = false ∧ w9.cell? ⟨W.heap.size + 1, 0, none⟩ = some (.int .i64 A.e) ∧ w9.cell? ⟨W.heap.size + 1, 1, none⟩ = some (.bool A.f) ∧ w9.cell? ⟨W.heap.size + 1, 2, none⟩ = some (.int .u64 (A.x : Int)) ∧ w9.cell? ⟨W.heap.size + 1, 3, none⟩ = some (.bool A.d) ∧ w9.cell? ⟨W.heap.size + 1, 4, none⟩ = some (.int .u64 (A.h : Int)) ∧ w9.cell? ⟨W.heap.size + 1, 5, none⟩ = some (.slice p A.l.length c) ∧ w9.cell? ⟨W.heap.size + 1, 6, none⟩ = some (.int .u64 (A.n : Int)) ∧ Hid (Chg (fun i => i = W.heap.size + 1) z w9)) := by
    intro z A p c cz
    have nG : ∀ k, W.heap.size ≤ k → ¬ G k := fun k hk x => by have := hG k x; omega
    have az := (cz.block _ (lt_of a0) (nG _ (Nat.le_succ _))).trans a0
    obtain ⟨w9, hw9⟩ : ∃ w9, w9 = (((((((z.setCell ⟨W.heap.size + 1, 0, none⟩ (.int .i64 A.e)).setCell ⟨W.heap.size + 1, 1, none⟩ (.bool A.f)).setCell ⟨W.heap.size + 1, 2, none⟩ (.int .u64 (A.x : Int))).setCell ⟨W.heap.size + 1, 3, none⟩ (.bool A.d)).setCell ⟨W.heap.size + 1, 4, none⟩ (.int .u64 (A.h : Int))).setCell ⟨W.heap.size + 1, 5, none⟩ (.slice p A.l.length c)).setCell ⟨W.heap.size + 1, 6, none⟩ (.int .u64 (A.n : Int))) := ⟨_, rfl⟩
    have a9 : w9.heap[W.heap.size + 1]? = some (.cells #[.int .i64 A.e, .bool A.f, .int .u64 (A.x : Int), .bool A.d, .int .u64 (A.h : Int), .slice p A.l.length c, .int .u64 (A.n : Int)] 33 (0, 0)) := by rw [hw9]; exact set_of (set_of (set_of (set_of (set_of (set_of (set_of (az) 0 _) 1 _) 2 _) 3 _) 4 _) 5 _) 6 _
    exact ⟨w9, hw9, cell_of az 0, cell_of az 1, cell_of az 2, cell_of az 3, cell_of az 4, cell_of az 5, cell_of az 6, free_of az 0, free_of az 1, free_of az 2, free_of az 3, free_of az 4, free_of az 5, free_of az 6, cell_of a9 0, cell_of a9 1, cell_of a9 2, cell_of a9 3, cell_of a9 4, cell_of a9 5, cell_of a9 6, by rw [hw9]; exact (((((((Chg.refl (fun i => i = W.heap.size + 1) z).setCell (fun _ => rfl) _).setCell (fun _ => rfl) _).setCell (fun _ => rfl) _).setCell (fun _ => rfl) _).setCell (fun _ => rfl) _).setCell (fun _ => rfl) _).setCell (fun _ => rfl) _⟩
  have HD := keepH (hD w0 C0)
  have HC0 := keepH C0
  have c0 : w0.cell? ⟨W.heap.size, 0, none⟩ = some (.int .u8 o.kd) := cell_of o0 0
  have c1 := cell_of o0 1
  have c2 := cell_of o0 2
  have c3 := cell_of o0 3
  have c4 := cell_of o0 4
  have c5 := cell_of o0 5
  have c6 := cell_of o0 6
  have c7 := cell_of o0 7
  have c8 := cell_of o0 8
  have c9 := cell_of o0 9
  have c10 := cell_of o0 10
  clear o0 a0 C0 hD hG kk
  go_enter Try.func21, Try.ntmps21
  go_upto_region 1 with fail
  rw [← hw0]
  clear hw0
  go_wp2_with fail
  refine HD.out.mono ?_
  rintro e z ⟨A, p, c, rfl, hQ, cz⟩
  obtain ⟨w9, hw9, g0, g1, g2, g3, g4, g5, g6, f0, f1, f2, f3, f4, f5, f6, e0, e1, e2, e3, e4, e5, e6, HC9⟩ := HE.out z A p c cz
  have HW9 := keepH hw9
  have HQ := keepH hQ
  have HCZ := keepH cz
  clear hw9 hQ cz c0 c1 c2 c3 c4 c5 c6 c7 c8 c9 c10
  go_wp2_with fail
  rw [← HW9.out]
  (try simp only [Exit.inBlock, Exit.then])
  refine bodyPost_ret (v := .agg #[.int .i64 A.e, .bool A.f, .int .u64 (A.x : Int), .bool A.d, .int .u64 (A.h : Int), .slice p A.l.length c, .int .u64 (A.n : Int)]) (by simp [results, Try.results21, go_sem, e0, e1, e2, e3, e4, e5, e6]) rfl ?_
  exact ⟨A, p, c, w0, z, rfl, HC0.out, Nat.le_of_eq HSZ.out.symm, HQ.out, HCZ.out, HC9.out⟩
set_option maxRecDepth 100000 in
set_option maxHeartbeats 4000000 in
theorem tell_6 {o : OpP} {r5 : Bool} {r6 r7 : Int} {kp : Option Addr} {kc : Nat} (kk : o.kd = 6) {W : World} {s : Nat} {G : Nat → Prop} (hG : ∀ k, G k → k < W.heap.size) {R : World → World → Ans → Option Addr → Prop}
    (hD : ∀ w, Chg (fun _ => False) W w → Calls Try.prog 38 #[.pointer (some ⟨s, 0, none⟩), .agg #[.int .u8 o.kd, .int .u64 (o.k : Int), .int .u64 (o.v : Int), .int .u64 (o.od : Int), .int .u64 (o.hk : Int), .bool r5, .int .i64 r6, .int .i64 r7, .slice kp o.ks.length kc, .int .u64 (o.lo : Int), .int .u64 (o.hi : Int)]] w fun e w' => ∃ A p c, e = .returned (.agg #[.int .i64 A.e, .bool A.f, .int .u64 (A.x : Int), .bool A.d, .int .u64 (A.h : Int), .slice p A.l.length c, .int .u64 (A.n : Int)]) ∧ R w w' A p ∧ Chg G w w') :
    Calls Try.prog 21 #[.pointer (some ⟨s, 0, none⟩), .agg #[.int .u8 o.kd, .int .u64 (o.k : Int), .int .u64 (o.v : Int), .int .u64 (o.od : Int), .int .u64 (o.hk : Int), .bool r5, .int .i64 r6, .int .i64 r7, .slice kp o.ks.length kc, .int .u64 (o.lo : Int), .int .u64 (o.hi : Int)]] W fun e W' => ∃ A p c w w1, e = .returned (.agg #[.int .i64 A.e, .bool A.f, .int .u64 (A.x : Int), .bool A.d, .int .u64 (A.h : Int), .slice p A.l.length c, .int .u64 (A.n : Int)]) ∧ Chg (fun _ => False) W w ∧ W.heap.size + 2 ≤ w.heap.size ∧ R w w1 A p ∧ Chg G w w1 ∧ Chg (fun i => i = W.heap.size + 1) w1 W' := by
  have q : (o.kd == 6) = true := by simpa using kk
  have q5 : (o.kd == 5) = false := by rw [kk]; rfl
  obtain ⟨w0, hw0⟩ : ∃ w0, w0 = (W.alloc (.cells #[.int .u8 o.kd, .int .u64 (o.k : Int), .int .u64 (o.v : Int), .int .u64 (o.od : Int), .int .u64 (o.hk : Int), .bool r5, .int .i64 r6, .int .i64 r7, .slice kp o.ks.length kc, .int .u64 (o.lo : Int), .int .u64 (o.hi : Int)] 28)).alloc (.cells #[.int .i64 0, .bool false, .int .u64 0, .bool false, .int .u64 0, .slice none 0 0, .int .u64 0] 33) := ⟨_, rfl⟩
  have C0 : Chg (fun _ => False) W w0 := by rw [hw0]; exact ((Chg.refl _ _).alloc _).alloc _
  have o0 : w0.heap[W.heap.size]? = some (.cells #[.int .u8 o.kd, .int .u64 (o.k : Int), .int .u64 (o.v : Int), .int .u64 (o.od : Int), .int .u64 (o.hk : Int), .bool r5, .int .i64 r6, .int .i64 r7, .slice kp o.ks.length kc, .int .u64 (o.lo : Int), .int .u64 (o.hi : Int)] 28 (0, 0)) := by rw [hw0]; exact alloc_of (heap_alloc_new _ _) _
  have a0 : w0.heap[W.heap.size + 1]? = some (.cells #[.int .i64 0, .bool false, .int .u64 0, .bool false, .int .u64 0, .slice none 0 0, .int .u64 0] 33 (0, 0)) := by
    have e := heap_alloc_new (W.alloc (.cells #[.int .u8 o.kd, .int .u64 (o.k : Int), .int .u64 (o.v : Int), .int .u64 (o.od : Int), .int .u64 (o.hk : Int), .bool r5, .int .i64 r6, .int .i64 r7, .slice kp o.ks.length kc, .int .u64 (o.lo : Int), .int .u64 (o.hi : Int)] 28)) (.cells #[.int .i64 0, .bool false, .int .u64 0, .bool false, .int .u64 0, .slice none 0 0, .int .u64 0] 33)
    rw [World.size_alloc] at e
    rw [hw0]
    exact e
  have HSZ : Hid (w0.heap.size = W.heap.size + 2) := by rw [hw0]; show _ = _; simp
  have HE : Hid (∀ (z : World) (A : Ans) (p : Option Addr) (c : Nat), Chg G w0 z → ∃ w9, w9 = (((((((z.setCell ⟨W.heap.size + 1, 0, none⟩ (.int .i64 A.e)).setCell ⟨W.heap.size + 1, 1, none⟩ (.bool A.f)).setCell ⟨W.heap.size + 1, 2, none⟩ (.int .u64 (A.x : Int))).setCell ⟨W.heap.size + 1, 3, none⟩ (.bool A.d)).setCell ⟨W.heap.size + 1, 4, none⟩ (.int .u64 (A.h : Int))).setCell ⟨W.heap.size + 1, 5, none⟩ (.slice p A.l.length c)).setCell ⟨W.heap.size + 1, 6, none⟩ (.int .u64 (A.n : Int))) ∧ z.cell? ⟨W.heap.size + 1, 0, none⟩ = some (.int .i64 0) ∧ z.cell? ⟨W.heap.size + 1, 1, none⟩ = some (.bool false) ∧ z.cell? ⟨W.heap.size + 1, 2, none⟩ = some (.int .u64 0) ∧ z.cell? ⟨W.heap.size + 1, 3, none⟩ = some (.bool false) ∧ z.cell? ⟨W.heap.size + 1, 4, none⟩ = some (.int .u64 0) ∧ z.cell? ⟨W.heap.size + 1, 5, none⟩ = some (.slice none 0 0) ∧ z.cell? ⟨W.heap.size + 1, 6, none⟩ = some (.int .u64 0) ∧ z.frozen? ⟨W.heap.size + 1, 0, none⟩ = false ∧ z.frozen? ⟨W.heap.size + 1, 1, none⟩ = false ∧ z.frozen? ⟨W.heap.size + 1, 2, none⟩ = false ∧ z.frozen? ⟨W.heap.size + 1, 3, none⟩ = false ∧ z.frozen? ⟨W.heap.size + 1, 4, none⟩ = false ∧ z.frozen? ⟨W.heap.size + 1, 5, none⟩ = false ∧ z.frozen? ⟨W.heap.size + 1, 6, none⟩ = false ∧ w9.cell? ⟨W.heap.size + 1, 0, none⟩ = some (.int .i64 A.e) ∧ w9.cell? ⟨W.heap.size + 1, 1, none⟩ = some (.bool A.f) ∧ w9.cell? ⟨W.heap.size + 1, 2, none⟩ = some (.int .u64 (A.x : Int)) ∧ w9.cell? ⟨W.heap.size + 1, 3, none⟩ = some (.bool A.d) ∧ w9.cell? ⟨W.heap.size + 1, 4, none⟩ = some (.int .u64 (A.h : Int)) ∧ w9.cell? ⟨W.heap.size + 1, 5, none⟩ = some (.slice p A.l.length c) ∧ w9.cell? ⟨W.heap.size + 1, 6, none⟩ = some (.int .u64 (A.n : Int)) ∧ Hid (Chg (fun i => i = W.heap.size + 1) z w9)) := by
    intro z A p c cz
    have nG : ∀ k, W.heap.size ≤ k → ¬ G k := fun k hk x => by have := hG k x; omega
    have az := (cz.block _ (lt_of a0) (nG _ (Nat.le_succ _))).trans a0
    obtain ⟨w9, hw9⟩ : ∃ w9, w9 = (((((((z.setCell ⟨W.heap.size + 1, 0, none⟩ (.int .i64 A.e)).setCell ⟨W.heap.size + 1, 1, none⟩ (.bool A.f)).setCell ⟨W.heap.size + 1, 2, none⟩ (.int .u64 (A.x : Int))).setCell ⟨W.heap.size + 1, 3, none⟩ (.bool A.d)).setCell ⟨W.heap.size + 1, 4, none⟩ (.int .u64 (A.h : Int))).setCell ⟨W.heap.size + 1, 5, none⟩ (.slice p A.l.length c)).setCell ⟨W.heap.size + 1, 6, none⟩ (.int .u64 (A.n : Int))) := ⟨_, rfl⟩
    have a9 : w9.heap[W.heap.size + 1]? = some (.cells #[.int .i64 A.e, .bool A.f, .int .u64 (A.x : Int), .bool A.d, .int .u64 (A.h : Int), .slice p A.l.length c, .int .u64 (A.n : Int)] 33 (0, 0)) := by rw [hw9]; exact set_of (set_of (set_of (set_of (set_of (set_of (set_of (az) 0 _) 1 _) 2 _) 3 _) 4 _) 5 _) 6 _
    exact ⟨w9, hw9, cell_of az 0, cell_of az 1, cell_of az 2, cell_of az 3, cell_of az 4, cell_of az 5, cell_of az 6, free_of az 0, free_of az 1, free_of az 2, free_of az 3, free_of az 4, free_of az 5, free_of az 6, cell_of a9 0, cell_of a9 1, cell_of a9 2, cell_of a9 3, cell_of a9 4, cell_of a9 5, cell_of a9 6, by rw [hw9]; exact (((((((Chg.refl (fun i => i = W.heap.size + 1) z).setCell (fun _ => rfl) _).setCell (fun _ => rfl) _).setCell (fun _ => rfl) _).setCell (fun _ => rfl) _).setCell (fun _ => rfl) _).setCell (fun _ => rfl) _).setCell (fun _ => rfl) _⟩
  have HD := keepH (hD w0 C0)
  have HC0 := keepH C0
  have c0 : w0.cell? ⟨W.heap.size, 0, none⟩ = some (.int .u8 o.kd) := cell_of o0 0
  have c1 := cell_of o0 1
  have c2 := cell_of o0 2
  have c3 := cell_of o0 3
  have c4 := cell_of o0 4
  have c5 := cell_of o0 5
  have c6 := cell_of o0 6
  have c7 := cell_of o0 7
  have c8 := cell_of o0 8
  have c9 := cell_of o0 9
  have c10 := cell_of o0 10
  clear o0 a0 C0 hD hG kk
  go_enter Try.func21, Try.ntmps21
  go_upto_region 1 with fail
  rw [← hw0]
  clear hw0
  go_wp2_with fail
  refine HD.out.mono ?_
  rintro e z ⟨A, p, c, rfl, hQ, cz⟩
  obtain ⟨w9, hw9, g0, g1, g2, g3, g4, g5, g6, f0, f1, f2, f3, f4, f5, f6, e0, e1, e2, e3, e4, e5, e6, HC9⟩ := HE.out z A p c cz
  have HW9 := keepH hw9
  have HQ := keepH hQ
  have HCZ := keepH cz
  clear hw9 hQ cz c0 c1 c2 c3 c4 c5 c6 c7 c8 c9 c10
  go_wp2_with fail
  rw [← HW9.out]
  (try simp only [Exit.inBlock, Exit.then])
  refine bodyPost_ret (v := .agg #[.int .i64 A.e, .bool A.f, .int .u64 (A.x : Int), .bool A.d, .int .u64 (A.h : Int), .slice p A.l.length c, .int .u64 (A.n : Int)]) (by simp [results, Try.results21, go_sem, e0, e1, e2, e3, e4, e5, e6]) rfl ?_
  exact ⟨A, p, c, w0, z, rfl, HC0.out, Nat.le_of_eq HSZ.out.symm, HQ.out, HCZ.out, HC9.out⟩
theorem stC_set0 (lk lk' : Int) (m sb N hc lf dn : Nat) : (stC lk m sb N hc lf dn).setIfInBounds 0 (.int .i32 lk') = stC lk' m sb N hc lf dn := rfl
theorem stC_set6 (lk : Int) (m sb N hc lf dn : Nat) : (stC lk m sb N hc lf dn).setIfInBounds 6 (.int .i64 ((dn : Int) + 1)) = stC lk m sb N hc lf (dn + 1) := rfl
set_option maxRecDepth 100000 in
set_option maxHeartbeats 4000000 in
theorem do_go {o : OpP} {r5 : Bool} {r6 r7 : Int} {kp : Option Addr} {kc : Nat} {W : World} {s m sb N hc lf dn : Nat} (hs : W.heap[s]? = some (.cells (stC 0 m sb N hc lf dn) 69 (0, 0))) (hdn : dn ≤ 4000000000000000000) {G : Nat → Prop} (hG : ∀ k, G k → k < W.heap.size) {R : World → World → Ans → Option Addr → Prop}
    (hD : ∀ w, Chg (fun k => k = s) W w → w.heap[s]? = some (.cells (stC 1 m sb N hc lf (dn + 1)) 69 (0, 0)) → Calls Try.prog 21 #[.pointer (some ⟨s, 0, none⟩), .agg #[.int .u8 o.kd, .int .u64 (o.k : Int), .int .u64 (o.v : Int), .int .u64 (o.od : Int), .int .u64 (o.hk : Int), .bool r5, .int .i64 r6, .int .i64 r7, .slice kp o.ks.length kc, .int .u64 (o.lo : Int), .int .u64 (o.hi : Int)]] w fun e w' => ∃ A p c, e = .returned (.agg #[.int .i64 A.e, .bool A.f, .int .u64 (A.x : Int), .bool A.d, .int .u64 (A.h : Int), .slice p A.l.length c, .int .u64 (A.n : Int)]) ∧ (R w w' A p ∧ ∃ hc' lf', w'.heap[s]? = some (.cells (stC 1 m sb N hc' lf' (dn + 1)) 69 (0, 0))) ∧ Chg G w w') :
    Calls Try.prog 6 #[.pointer (some ⟨s, 0, none⟩), .agg #[.int .u8 o.kd, .int .u64 (o.k : Int), .int .u64 (o.v : Int), .int .u64 (o.od : Int), .int .u64 (o.hk : Int), .bool r5, .int .i64 r6, .int .i64 r7, .slice kp o.ks.length kc, .int .u64 (o.lo : Int), .int .u64 (o.hi : Int)]] W fun e W' => ∃ A p c w w1 hc' lf', e = .returned (.tuple #[.agg #[.int .i64 A.e, .bool A.f, .int .u64 (A.x : Int), .bool A.d, .int .u64 (A.h : Int), .slice p A.l.length c, .int .u64 (A.n : Int)], .int .i64 (dn : Int)]) ∧ Chg (fun k => k = s) W w ∧ W.heap.size + 2 ≤ w.heap.size ∧ R w w1 A p ∧ Chg G w w1 ∧ W'.heap[s]? = some (.cells (stC 0 m sb N hc' lf' (dn + 1)) 69 (0, 0)) ∧ w1.heap[s]? = some (.cells (stC 1 m sb N hc' lf' (dn + 1)) 69 (0, 0)) ∧ Chg (fun i => i = s ∨ i = W.heap.size + 1) w1 W' := by
  obtain ⟨w0, hw0⟩ : ∃ w0, w0 = (W.alloc (.cells #[.int .u8 o.kd, .int .u64 (o.k : Int), .int .u64 (o.v : Int), .int .u64 (o.od : Int), .int .u64 (o.hk : Int), .bool r5, .int .i64 r6, .int .i64 r7, .slice kp o.ks.length kc, .int .u64 (o.lo : Int), .int .u64 (o.hi : Int)] 28)).alloc (.cells #[.int .i64 0, .bool false, .int .u64 0, .bool false, .int .u64 0, .slice none 0 0, .int .u64 0] 33) := ⟨_, rfl⟩
  have C0 : Chg (fun _ => False) W w0 := by rw [hw0]; exact ((Chg.refl _ _).alloc _).alloc _
  have o0 : w0.heap[W.heap.size]? = some (.cells #[.int .u8 o.kd, .int .u64 (o.k : Int), .int .u64 (o.v : Int), .int .u64 (o.od : Int), .int .u64 (o.hk : Int), .bool r5, .int .i64 r6, .int .i64 r7, .slice kp o.ks.length kc, .int .u64 (o.lo : Int), .int .u64 (o.hi : Int)] 28 (0, 0)) := by rw [hw0]; exact alloc_of (heap_alloc_new _ _) _
  have a0 : w0.heap[W.heap.size + 1]? = some (.cells #[.int .i64 0, .bool false, .int .u64 0, .bool false, .int .u64 0, .slice none 0 0, .int .u64 0] 33 (0, 0)) := by
    have e := heap_alloc_new (W.alloc (.cells #[.int .u8 o.kd, .int .u64 (o.k : Int), .int .u64 (o.v : Int), .int .u64 (o.od : Int), .int .u64 (o.hk : Int), .bool r5, .int .i64 r6, .int .i64 r7, .slice kp o.ks.length kc, .int .u64 (o.lo : Int), .int .u64 (o.hi : Int)] 28)) (.cells #[.int .i64 0, .bool false, .int .u64 0, .bool false, .int .u64 0, .slice none 0 0, .int .u64 0] 33)
    rw [World.size_alloc] at e
    rw [hw0]
    exact e
  have HSZ : Hid (w0.heap.size = W.heap.size + 2) := by rw [hw0]; show _ = _; simp
  have ls := lt_of hs
  have s0 := (C0.block s ls (fun x => x)).trans hs
  obtain ⟨w2, hw2⟩ : ∃ w2, w2 = w0.setCell ⟨s, 0, none⟩ (.int .i32 1) := ⟨_, rfl⟩
  have s2 : w2.heap[s]? = some (.cells (stC 1 m sb N hc lf dn) 69 (0, 0)) := by rw [hw2]; exact set_of s0 0 _
  obtain ⟨w3, hw3⟩ : ∃ w3, w3 = w2.setCell ⟨s, 6, none⟩ (.int .i64 ((dn : Int) + 1)) := ⟨_, rfl⟩
  have s3 : w3.heap[s]? = some (.cells (stC 1 m sb N hc lf (dn + 1)) 69 (0, 0)) := by rw [hw3, ← stC_set6]; exact set_of s2 6 _
  have C3 : Chg (fun k => k = s) W w3 := by rw [hw3, hw2]; exact ((C0.mono (G := fun k => k = s) (fun _ _ x => x.elim)).setCell (p := ⟨s, 0, none⟩) (fun _ => rfl) _).setCell (p := ⟨s, 6, none⟩) (fun _ => rfl) _
  have o3 : w3.heap[W.heap.size]? = some (.cells #[.int .u8 o.kd, .int .u64 (o.k : Int), .int .u64 (o.v : Int), .int .u64 (o.od : Int), .int .u64 (o.hk : Int), .bool r5, .int .i64 r6, .int .i64 r7, .slice kp o.ks.length kc, .int .u64 (o.lo : Int), .int .u64 (o.hi : Int)] 28 (0, 0)) := by rw [hw3, hw2]; exact other_of (other_of o0 (by omega) _) (by omega) _
  have a3 : w3.heap[W.heap.size + 1]? = some (.cells #[.int .i64 0, .bool false, .int .u64 0, .bool false, .int .u64 0, .slice none 0 0, .int .u64 0] 33 (0, 0)) := by rw [hw3, hw2]; exact other_of (other_of a0 (by omega) _) (by omega) _
  have HE : Hid (∀ (z : World) (A : Ans) (p : Option Addr) (c : Nat) (hc' lf' : Nat), z.heap[s]? = some (.cells (stC 1 m sb N hc' lf' (dn + 1)) 69 (0, 0)) → Chg G w3 z → ∃ w9, w9 = (((((((z.setCell ⟨W.heap.size + 1, 0, none⟩ (.int .i64 A.e)).setCell ⟨W.heap.size + 1, 1, none⟩ (.bool A.f)).setCell ⟨W.heap.size + 1, 2, none⟩ (.int .u64 (A.x : Int))).setCell ⟨W.heap.size + 1, 3, none⟩ (.bool A.d)).setCell ⟨W.heap.size + 1, 4, none⟩ (.int .u64 (A.h : Int))).setCell ⟨W.heap.size + 1, 5, none⟩ (.slice p A.l.length c)).setCell ⟨W.heap.size + 1, 6, none⟩ (.int .u64 (A.n : Int))) ∧ z.cell? ⟨W.heap.size + 1, 0, none⟩ = some (.int .i64 0) ∧ z.cell? ⟨W.heap.size + 1, 1, none⟩ = some (.bool false) ∧ z.cell? ⟨W.heap.size + 1, 2, none⟩ = some (.int .u64 0) ∧ z.cell? ⟨W.heap.size + 1, 3, none⟩ = some (.bool false) ∧ z.cell? ⟨W.heap.size + 1, 4, none⟩ = some (.int .u64 0) ∧ z.cell? ⟨W.heap.size + 1, 5, none⟩ = some (.slice none 0 0) ∧ z.cell? ⟨W.heap.size + 1, 6, none⟩ = some (.int .u64 0) ∧ z.frozen? ⟨W.heap.size + 1, 0, none⟩ = false ∧ z.frozen? ⟨W.heap.size + 1, 1, none⟩ = false ∧ z.frozen? ⟨W.heap.size + 1, 2, none⟩ = false ∧ z.frozen? ⟨W.heap.size + 1, 3, none⟩ = false ∧ z.frozen? ⟨W.heap.size + 1, 4, none⟩ = false ∧ z.frozen? ⟨W.heap.size + 1, 5, none⟩ = false ∧ z.frozen? ⟨W.heap.size + 1, 6, none⟩ = false ∧ w9.cell? ⟨W.heap.size + 1, 0, none⟩ = some (.int .i64 A.e) ∧ w9.cell? ⟨W.heap.size + 1, 1, none⟩ = some (.bool A.f) ∧ w9.cell? ⟨W.heap.size + 1, 2, none⟩ = some (.int .u64 (A.x : Int)) ∧ w9.cell? ⟨W.heap.size + 1, 3, none⟩ = some (.bool A.d) ∧ w9.cell? ⟨W.heap.size + 1, 4, none⟩ = some (.int .u64 (A.h : Int)) ∧ w9.cell? ⟨W.heap.size + 1, 5, none⟩ = some (.slice p A.l.length c) ∧ w9.cell? ⟨W.heap.size + 1, 6, none⟩ = some (.int .u64 (A.n : Int)) ∧ w9.cell? ⟨s, 0, none⟩ = some (.int .i32 1) ∧ w9.frozen? ⟨s, 0, none⟩ = false ∧ Hid ((w9.setCell ⟨s, 0, none⟩ (.int .i32 0)).heap[s]? = some (.cells (stC 0 m sb N hc' lf' (dn + 1)) 69 (0, 0)) ∧ Chg (fun i => i = s ∨ i = W.heap.size + 1) z (w9.setCell ⟨s, 0, none⟩ (.int .i32 0)))) := by
    intro z A p c hc' lf' sz cz
    have az := (cz.block _ (lt_of a3) (fun x => by have := hG _ x; omega)).trans a3
    obtain ⟨w9, hw9⟩ : ∃ w9, w9 = (((((((z.setCell ⟨W.heap.size + 1, 0, none⟩ (.int .i64 A.e)).setCell ⟨W.heap.size + 1, 1, none⟩ (.bool A.f)).setCell ⟨W.heap.size + 1, 2, none⟩ (.int .u64 (A.x : Int))).setCell ⟨W.heap.size + 1, 3, none⟩ (.bool A.d)).setCell ⟨W.heap.size + 1, 4, none⟩ (.int .u64 (A.h : Int))).setCell ⟨W.heap.size + 1, 5, none⟩ (.slice p A.l.length c)).setCell ⟨W.heap.size + 1, 6, none⟩ (.int .u64 (A.n : Int))) := ⟨_, rfl⟩
    have a9 : w9.heap[W.heap.size + 1]? = some (.cells #[.int .i64 A.e, .bool A.f, .int .u64 (A.x : Int), .bool A.d, .int .u64 (A.h : Int), .slice p A.l.length c, .int .u64 (A.n : Int)] 33 (0, 0)) := by rw [hw9]; exact set_of (set_of (set_of (set_of (set_of (set_of (set_of (az) 0 _) 1 _) 2 _) 3 _) 4 _) 5 _) 6 _
    have s9 : w9.heap[s]? = some (.cells (stC 1 m sb N hc' lf' (dn + 1)) 69 (0, 0)) := by rw [hw9]; exact other_of (other_of (other_of (other_of (other_of (other_of (other_of (sz) (by omega) _) (by omega) _) (by omega) _) (by omega) _) (by omega) _) (by omega) _) (by omega) _
    refine ⟨w9, hw9, cell_of az 0, cell_of az 1, cell_of az 2, cell_of az 3, cell_of az 4, cell_of az 5, cell_of az 6, free_of az 0, free_of az 1, free_of az 2, free_of az 3, free_of az 4, free_of az 5, free_of az 6, cell_of a9 0, cell_of a9 1, cell_of a9 2, cell_of a9 3, cell_of a9 4, cell_of a9 5, cell_of a9 6, cell_of s9 0, free_of s9 0, set_of s9 0 _, ?_⟩
    rw [hw9]
    exact ((((((((Chg.refl (fun i => i = s ∨ i = W.heap.size + 1) z).setCell (fun _ => .inr rfl) _).setCell (fun _ => .inr rfl) _).setCell (fun _ => .inr rfl) _).setCell (fun _ => .inr rfl) _).setCell (fun _ => .inr rfl) _).setCell (fun _ => .inr rfl) _).setCell (fun _ => .inr rfl) _).setCell (fun _ => .inl rfl) _
  have HD := keepH (hD w3 C3 s3)
  have HC3 := keepH C3
  have HLS := keepH ls
  have HZ3 : Hid (W.heap.size + 2 ≤ w3.heap.size) := by show _ ≤ _; rw [hw3, hw2]; simp [World.setCell]; have := HSZ.out; omega
  have c0 := cell_of o3 0
  have c1 := cell_of o3 1
  have c2 := cell_of o3 2
  have c3 := cell_of o3 3
  have c4 := cell_of o3 4
  have c5 := cell_of o3 5
  have c6 := cell_of o3 6
  have c7 := cell_of o3 7
  have c8 := cell_of o3 8
  have c9 := cell_of o3 9
  have c10 := cell_of o3 10
  have l0 : w0.cell? ⟨s, 0, none⟩ = some (.int .i32 0) := cell_of s0 0
  have lz0 := free_of s0 0
  have d2 : w2.cell? ⟨s, 6, none⟩ = some (.int .i64 (dn : Int)) := cell_of s2 6
  have dz2 := free_of s2 6
  have HLK := keepH (lock_free muLib ⟨s, 0, none⟩ w0 l0 lz0)
  have b1 : (dn : Int) ≤ 4000000000000000000 := by omega
  have HW2 := keepH hw2
  have HW3 := keepH hw3
  clear o0 a0 C0 hD hG o3 a3 s0 s2 s3 C3 hs ls hdn hw2 hw3 l0 lz0
  go_enter_defers Try.func6, Try.ntmps6
  go_upto_region 1 with fail
  rw [← hw0]
  clear hw0
  go_upto_region 5 with (go_at_call 19; refine HLK.out.mono ?_; rintro e w' ⟨rfl, hw'⟩; rw [← HW2.out] at hw'; subst hw')
  go_upto_region 7 with fail
  rw [← HW3.out]
  go_wp2_with fail
  refine HD.out.mono ?_
  rintro e z ⟨A, p, c, rfl, ⟨hQ, hc', lf', sz⟩, cz⟩
  obtain ⟨w9, hw9, g0, g1, g2, g3, g4, g5, g6, f0, f1, f2, f3, f4, f5, f6, e0, e1, e2, e3, e4, e5, e6, lk9, lz9, HC9⟩ := HE.out z A p c hc' lf' sz cz
  have HW9 := keepH hw9
  have HQ := keepH hQ
  have HCZ := keepH cz
  have HSZ' := keepH sz
  have HUL := keepH (unlock_deferred muLib ⟨s, 0, none⟩ .returning w9 lk9 lz9)
  clear hw9 hQ cz sz c0 c1 c2 c3 c4 c5 c6 c7 c8 c9 c10 lk9 lz9
  obtain ⟨wx, hwx⟩ : ∃ wx, wx = w9.setCell ⟨s, 0, none⟩ (.int .i32 0) := ⟨_, rfl⟩
  rw [← hwx] at HC9 HUL
  have h0 : wx.cell? ⟨W.heap.size + 1, 0, none⟩ = some (.int .i64 A.e) := by rw [hwx]; exact (World.cell?_setCell_other w9 ⟨s, 0, none⟩ ⟨W.heap.size + 1, 0, none⟩ _ (by have := HLS.out; simp; try omega)).trans e0
  have h1 : wx.cell? ⟨W.heap.size + 1, 1, none⟩ = some (.bool A.f) := by rw [hwx]; exact (World.cell?_setCell_other w9 ⟨s, 0, none⟩ ⟨W.heap.size + 1, 1, none⟩ _ (by have := HLS.out; simp; try omega)).trans e1
  have h2 : wx.cell? ⟨W.heap.size + 1, 2, none⟩ = some (.int .u64 (A.x : Int)) := by rw [hwx]; exact (World.cell?_setCell_other w9 ⟨s, 0, none⟩ ⟨W.heap.size + 1, 2, none⟩ _ (by have := HLS.out; simp; try omega)).trans e2
  have h3 : wx.cell? ⟨W.heap.size + 1, 3, none⟩ = some (.bool A.d) := by rw [hwx]; exact (World.cell?_setCell_other w9 ⟨s, 0, none⟩ ⟨W.heap.size + 1, 3, none⟩ _ (by have := HLS.out; simp; try omega)).trans e3
  have h4 : wx.cell? ⟨W.heap.size + 1, 4, none⟩ = some (.int .u64 (A.h : Int)) := by rw [hwx]; exact (World.cell?_setCell_other w9 ⟨s, 0, none⟩ ⟨W.heap.size + 1, 4, none⟩ _ (by have := HLS.out; simp; try omega)).trans e4
  have h5 : wx.cell? ⟨W.heap.size + 1, 5, none⟩ = some (.slice p A.l.length c) := by rw [hwx]; exact (World.cell?_setCell_other w9 ⟨s, 0, none⟩ ⟨W.heap.size + 1, 5, none⟩ _ (by have := HLS.out; simp; try omega)).trans e5
  have h6 : wx.cell? ⟨W.heap.size + 1, 6, none⟩ = some (.int .u64 (A.n : Int)) := by rw [hwx]; exact (World.cell?_setCell_other w9 ⟨s, 0, none⟩ ⟨W.heap.size + 1, 6, none⟩ _ (by have := HLS.out; simp; try omega)).trans e6
  have HWX := keepH hwx
  clear hwx
  go_wp2_with fail
  rw [← HW9.out]
  refine leaves_cons (f := 20) (args := #[.pointer (some ⟨s, 0, none⟩)]) (by simp) (by simp [go_sem]) ?_
  refine HUL.out.mono ?_
  rintro e u' w'' ⟨rfl, rfl, rfl⟩
  refine ⟨.tuple #[.agg #[.int .i64 A.e, .bool A.f, .int .u64 (A.x : Int), .bool A.d, .int .u64 (A.h : Int), .slice p A.l.length c, .int .u64 (A.n : Int)], .int .i64 (dn : Int)], by simp [results, Try.results6, go_sem, h0, h1, h2, h3, h4, h5, h6], ?_⟩
  exact ⟨A, p, c, w3, z, hc', lf', rfl, HC3.out, HZ3.out, HQ.out, HCZ.out, HC9.out.1, HSZ'.out, HC9.out.2⟩
end Go.Proofs.Ytgaincicbgojjaa
