/- An operation told under the lock; Do. -/
import Derived.Test.YtahgaghokpicgaaL18K9
namespace Go.Proofs.Ytahgaghokpicgaa
open Go.RowKit Go.Maps Go.MuLone
set_option linter.unusedVariables false

set_option maxRecDepth 100000 in
set_option maxHeartbeats 4000000 in
theorem tell_5 {o : OpP} {r5 : Bool} {r6 r7 : Int} {kp : Option Addr} {kc : Nat} (kk : o.kd = 5) {W : World} {s : Nat} {G : Nat → Prop} (hG : ∀ k, G k → k < W.heap.size) {R : World → World → Ans → Option Addr → Prop}
    (hD : ∀ w, Chg (fun _ => False) W w → Calls Try.prog 69 #[.pointer (some ⟨s, 0, none⟩), .agg #[.int .u8 o.kd, .int .u64 (o.k : Int), .int .u64 (o.v : Int), .int .u64 (o.od : Int), .int .u64 (o.hk : Int), .bool r5, .int .i64 r6, .int .i64 r7, .slice kp o.ks.length kc, .int .u64 (o.lo : Int), .int .u64 (o.hi : Int)]] w fun e w' => ∃ A p c, e = .returned (.agg #[.int .i64 A.e, .bool A.f, .int .u64 (A.x : Int), .bool A.d, .int .u64 (A.h : Int), .slice p A.l.length c, .int .u64 (A.n : Int)]) ∧ R w w' A p ∧ Chg G w w') :
    Calls Try.prog 41 #[.pointer (some ⟨s, 0, none⟩), .agg #[.int .u8 o.kd, .int .u64 (o.k : Int), .int .u64 (o.v : Int), .int .u64 (o.od : Int), .int .u64 (o.hk : Int), .bool r5, .int .i64 r6, .int .i64 r7, .slice kp o.ks.length kc, .int .u64 (o.lo : Int), .int .u64 (o.hi : Int)]] W fun e W' => ∃ A p c w w1, e = .returned (.agg #[.int .i64 A.e, .bool A.f, .int .u64 (A.x : Int), .bool A.d, .int .u64 (A.h : Int), .slice p A.l.length c, .int .u64 (A.n : Int)]) ∧ Chg (fun _ => False) W w ∧ W.heap.size + 2 ≤ w.heap.size ∧ R w w1 A p ∧ Chg G w w1 ∧ Chg (fun i => i = W.heap.size + 1) w1 W' := by
  have q : (o.kd == 5) = true := by simpa using kk
  obtain ⟨w0, hw0⟩ : ∃ w0, w0 = (W.alloc (.cells #[.int .u8 o.kd, .int .u64 (o.k : Int), .int .u64 (o.v : Int), .int .u64 (o.od : Int), .int .u64 (o.hk : Int), .bool r5, .int .i64 r6, .int .i64 r7, .slice kp o.ks.length kc, .int .u64 (o.lo : Int), .int .u64 (o.hi : Int)] 34)).alloc (.cells #[.int .i64 0, .bool false, .int .u64 0, .bool false, .int .u64 0, .slice none 0 0, .int .u64 0] 38) := ⟨_, rfl⟩
  have C0 : Chg (fun _ => False) W w0 := by rw [hw0]; exact ((Chg.refl _ _).alloc _).alloc _
  have o0 : w0.heap[W.heap.size]? = some (.cells #[.int .u8 o.kd, .int .u64 (o.k : Int), .int .u64 (o.v : Int), .int .u64 (o.od : Int), .int .u64 (o.hk : Int), .bool r5, .int .i64 r6, .int .i64 r7, .slice kp o.ks.length kc, .int .u64 (o.lo : Int), .int .u64 (o.hi : Int)] 34 (0, 0)) := by rw [hw0]; exact alloc_of (heap_alloc_new _ _) _
  have a0 : w0.heap[W.heap.size + 1]? = some (.cells #[.int .i64 0, .bool false, .int .u64 0, .bool false, .int .u64 0, .slice none 0 0, .int .u64 0] 38 (0, 0)) := by
    have e := heap_alloc_new (W.alloc (.cells #[.int .u8 o.kd, .int .u64 (o.k : Int), .int .u64 (o.v : Int), .int .u64 (o.od : Int), .int .u64 (o.hk : Int), .bool r5, .int .i64 r6, .int .i64 r7, .slice kp o.ks.length kc, .int .u64 (o.lo : Int), .int .u64 (o.hi : Int)] 34)) (.cells #[.int .i64 0, .bool false, .int .u64 0, .bool false, .int .u64 0, .slice none 0 0, .int .u64 0] 38)
    rw [World.size_alloc] at e
    rw [hw0]
    exact e
  have HSZ : Hid (w0.heap.size = W.heap.size + 2) := by rw [hw0]; show _ = _; simp
  have HE : Hid (∀ (z : World) (A : Ans) (p : Option Addr) (c : Nat), Chg G w0 z → ∃ w9, w9 = (((((((z.setCell ⟨W.heap.size + 1, 0, none⟩ (.int .i64 A.e)).setCell ⟨W.heap.size + 1, 1, none⟩ (.bool A.f)).setCell ⟨W.heap.size + 1, 2, none⟩ (.int .u64 (A.x : Int))).setCell ⟨W.heap.size + 1, 3, none⟩ (.bool A.d)).setCell ⟨W.heap.size + 1, 4, none⟩ (.int .u64 (A.h : Int))).setCell ⟨W.heap.size + 1, 5, none⟩ (.slice p A.l.length c)).setCell ⟨W.heap.size + 1, 6, none⟩ (.int .u64 (A.n : Int))) ∧ z.cell? ⟨W.heap.size + 1, 0, none⟩ = some (.int .i64 0) ∧ z.cell? ⟨W.heap.size + 1, 1, none⟩ = some (.bool false) ∧ z.cell? ⟨W.heap.size + 1, 2, none⟩ = some (.int .u64 0) ∧ z.cell? ⟨W.heap.size + 1, 3, none⟩ = some (.bool false) ∧ z.cell? ⟨W.heap.size + 1, 4, none⟩ = some (.int .u64 0) ∧ z.cell? ⟨W.heap.size + 1, 5, none⟩ = some (.slice none 0 0) ∧ z.cell? ⟨W.heap.size + 1, 6, none⟩ = some (.int .u64 0) ∧ z.frozen? ⟨W.heap.size + 1, 0, none⟩ = false ∧ z.frozen? ⟨W.heap.size + 1, 1, none⟩ = false ∧ z.frozen? ⟨W.heap.size + 1, 2, none⟩ = false ∧ z.frozen? ⟨W.heap.size + 1, 3, none⟩ = false ∧ z.frozen? ⟨W.heap.size + 1, 4, none⟩ = false ∧ z.frozen? ⟨W.heap.size + 1, 5, none⟩ = false ∧ z.frozen? ⟨W.heap.size + 1, 6, none⟩ = false ∧ w9.cell? ⟨W.heap.size + 1, 0, none⟩ = some (.int .i64 A.e) ∧ w9.cell? ⟨W.heap.size + 1, 1, none⟩ = some (.bool A.f) ∧ w9.cell? ⟨W.heap.size + 1, 2, none⟩ = some (.int .u64 (A.x : Int)) ∧ w9.cell? ⟨W.heap.size + 1, 3, none⟩ = some (.bool A.d) ∧ w9.cell? ⟨W.heap.size + 1, 4, none⟩ = some (.int .u64 (A.h : Int)) ∧ w9.cell? ⟨W.heap.size + 1, 5, none⟩ = some (.slice p A.l.length c) ∧ w9.cell? ⟨W.heap.size + 1, 6, none⟩ = some (.int .u64 (A.n : Int)) ∧ Hid (Chg (fun i => i = W.heap.size + 1) z w9)) := by
    intro z A p c cz
    have nG : ∀ k, W.heap.size ≤ k → ¬ G k := fun k hk x => by have := hG k x; omega
    have az := (cz.block _ (lt_of a0) (nG _ (Nat.le_succ _))).trans a0
    obtain ⟨w9, hw9⟩ : ∃ w9, w9 = (((((((z.setCell ⟨W.heap.size + 1, 0, none⟩ (.int .i64 A.e)).setCell ⟨W.heap.size + 1, 1, none⟩ (.bool A.f)).setCell ⟨W.heap.size + 1, 2, none⟩ (.int .u64 (A.x : Int))).setCell ⟨W.heap.size + 1, 3, none⟩ (.bool A.d)).setCell ⟨W.heap.size + 1, 4, none⟩ (.int .u64 (A.h : Int))).setCell ⟨W.heap.size + 1, 5, none⟩ (.slice p A.l.length c)).setCell ⟨W.heap.size + 1, 6, none⟩ (.int .u64 (A.n : Int))) := ⟨_, rfl⟩
    have a9 : w9.heap[W.heap.size + 1]? = some (.cells #[.int .i64 A.e, .bool A.f, .int .u64 (A.x : Int), .bool A.d, .int .u64 (A.h : Int), .slice p A.l.length c, .int .u64 (A.n : Int)] 38 (0, 0)) := by rw [hw9]; exact set_of (set_of (set_of (set_of (set_of (set_of (set_of (az) 0 _) 1 _) 2 _) 3 _) 4 _) 5 _) 6 _
    exact ⟨w9, hw9, cell_of az 0, cell_of az 1, cell_of az 2, cell_of az 3, cell_of az 4, cell_of az 5, cell_of az 6, free_of az 0, free_of az 1, free_of az 2, free_of az 3, free_of az 4, free_of az 5, free_of az 6, cell_of a9 0, cell_of a9 1, cell_of a9 2, cell_of a9 3, cell_of a9 4, cell_of a9 5, cell_of a9 6, by rw [hw9]; exact (((((((Chg.refl (fun i => i = W.heap.size + 1) z).setCell (fun _ => rfl) _).setCell (fun _ => rfl) _).setCell (fun _ => rfl) _).setCell (fun _ => rfl) _).setCell (fun _ => rfl) _).setCell (fun _ => rfl) _).setCell (fun _ => rfl) _⟩
  have HD := keepH (hD w0 C0)
  have HC0 := keepH C0
  have c0 : w0.cell? ⟨W.heap.size, 0, none⟩ = some (.int .u8 o.kd) := cell_of o0 0
  have c1 := cell_of o0 1
  have c2 := cell_of o0 2
  have c3 := cell_of o0 3
  have c4 := cell_of o0 4
  have c5 := cell_of o0 5
  have c6 := cell_of o0 6
  have c7 := cell_of o0 7
  have c8 := cell_of o0 8
  have c9 := cell_of o0 9
  have c10 := cell_of o0 10
  clear o0 a0 C0 hD hG kk
  go_enter Try.func41, Try.ntmps41
  go_upto_region 1 with fail
  rw [← hw0]
  clear hw0
  go_wp2_with fail
  refine HD.out.mono ?_
  rintro e z ⟨A, p, c, rfl, hQ, cz⟩
  obtain ⟨w9, hw9, g0, g1, g2, g3, g4, g5, g6, f0, f1, f2, f3, f4, f5, f6, e0, e1, e2, e3, e4, e5, e6, HC9⟩ := HE.out z A p c cz
  have HW9 := keepH hw9
  have HQ := keepH hQ
  have HCZ := keepH cz
  clear hw9 hQ cz c0 c1 c2 c3 c4 c5 c6 c7 c8 c9 c10
  go_wp2_with fail
  rw [← HW9.out]
  (try simp only [Exit.inBlock, Exit.then])
  refine bodyPost_ret (v := .agg #[.int .i64 A.e, .bool A.f, .int .u64 (A.x : Int), .bool A.d, .int .u64 (A.h : Int), .slice p A.l.length c, .int .u64 (A.n : Int)]) (by simp [results, Try.results41, go_sem, e0, e1, e2, e3, e4, e5, e6]) rfl ?_
  exact ⟨A, p, c, w0, z, rfl, HC0.out, Nat.le_of_eq HSZ.out.symm, HQ.out, HCZ.out, HC9.out⟩
set_option maxRecDepth 100000 in
set_option maxHeartbeats 4000000 in
theorem tell_6 {o : OpP} {r5 : Bool} {r6 r7 : Int} {kp : Option Addr} {kc : Nat} (kk : o.kd = 6) {W : World} {s : Nat} {G : Nat → Prop} (hG : ∀ k, G k → k < W.heap.size) {R : World → World → Ans → Option Addr → Prop}
    (hD : ∀ w, Chg (fun _ => False) W w → Calls Try.prog 70 #[.pointer (some ⟨s, 0, none⟩), .agg #[.int .u8 o.kd, .int .u64 (o.k : Int), .int .u64 (o.v : Int), .int .u64 (o.od : Int), .int .u64 (o.hk : Int), .bool r5, .int .i64 r6, .int .i64 r7, .slice kp o.ks.length kc, .int .u64 (o.lo : Int), .int .u64 (o.hi : Int)]] w fun e w' => ∃ A p c, e = .returned (.agg #[.int .i64 A.e, .bool A.f, .int .u64 (A.x : Int), .bool A.d, .int .u64 (A.h : Int), .slice p A.l.length c, .int .u64 (A.n : Int)]) ∧ R w w' A p ∧ Chg G w w') :
    Calls Try.prog 41 #[.pointer (some ⟨s, 0, none⟩), .agg #[.int .u8 o.kd, .int .u64 (o.k : Int), .int .u64 (o.v : Int), .int .u64 (o.od : Int), .int .u64 (o.hk : Int), .bool r5, .int .i64 r6, .int .i64 r7, .slice kp o.ks.length kc, .int .u64 (o.lo : Int), .int .u64 (o.hi : Int)]] W fun e W' => ∃ A p c w w1, e = .returned (.agg #[.int .i64 A.e, .bool A.f, .int .u64 (A.x : Int), .bool A.d, .int .u64 (A.h : Int), .slice p A.l.length c, .int .u64 (A.n : Int)]) ∧ Chg (fun _ => False) W w ∧ W.heap.size + 2 ≤ w.heap.size ∧ R w w1 A p ∧ Chg G w w1 ∧ Chg (fun i => i = W.heap.size + 1) w1 W' := by
  have q : (o.kd == 6) = true := by simpa using kk
  have q5 : (o.kd == 5) = false := by rw [kk]; rfl
  obtain ⟨w0, hw0⟩ : ∃ w0, w0 = (W.alloc (.cells #[.int .u8 o.kd, .int .u64 (o.k : Int), .int .u64 (o.v : Int), .int .u64 (o.od : Int), .int .u64 (o.hk : Int), .bool r5, .int .i64 r6, .int .i64 r7, .slice kp o.ks.length kc, .int .u64 (o.lo : Int), .int .u64 (o.hi : Int)] 34)).alloc (.cells #[.int .i64 0, .bool false, .int .u64 0, .bool false, .int .u64 0, .slice none 0 0, .int .u64 0] 38) := ⟨_, rfl⟩
  have C0 : Chg (fun _ => False) W w0 := by rw [hw0]; exact ((Chg.refl _ _).alloc _).alloc _
  have o0 : w0.heap[W.heap.size]? = some (.cells #[.int .u8 o.kd, .int .u64 (o.k : Int), .int .u64 (o.v : Int), .int .u64 (o.od : Int), .int .u64 (o.hk : Int), .bool r5, .int .i64 r6, .int .i64 r7, .slice kp o.ks.length kc, .int .u64 (o.lo : Int), .int .u64 (o.hi : Int)] 34 (0, 0)) := by rw [hw0]; exact alloc_of (heap_alloc_new _ _) _
  have a0 : w0.heap[W.heap.size + 1]? = some (.cells #[.int .i64 0, .bool false, .int .u64 0, .bool false, .int .u64 0, .slice none 0 0, .int .u64 0] 38 (0, 0)) := by
    have e := heap_alloc_new (W.alloc (.cells #[.int .u8 o.kd, .int .u64 (o.k : Int), .int .u64 (o.v : Int), .int .u64 (o.od : Int), .int .u64 (o.hk : Int), .bool r5, .int .i64 r6, .int .i64 r7, .slice kp o.ks.length kc, .int .u64 (o.lo : Int), .int .u64 (o.hi : Int)] 34)) (.cells #[.int .i64 0, .bool false, .int .u64 0, .bool false, .int .u64 0, .slice none 0 0, .int .u64 0] 38)
    rw [World.size_alloc] at e
    rw [hw0]
    exact e
  have HSZ : Hid (w0.heap.size = W.heap.size + 2) := by rw [hw0]; show _ = _; simp
  have HE : Hid (∀ (z : World) (A : Ans) (p : Option Addr) (c : Nat), Chg G w0 z → ∃ w9, w9 = (((((((z.setCell ⟨W.heap.size + 1, 0, none⟩ (.int .i64 A.e)).setCell ⟨W.heap.size + 1, 1, none⟩ (.bool A.f)).setCell ⟨W.heap.size + 1, 2, none⟩ (.int .u64 (A.x : Int))).setCell ⟨W.heap.size + 1, 3, none⟩ (.bool A.d)).setCell ⟨W.heap.size + 1, 4, none⟩ (.int .u64 (A.h : Int))).setCell ⟨W.heap.size + 1, 5, none⟩ (.slice p A.l.length c)).setCell ⟨W.heap.size + 1, 6, none⟩ (.int .u64 (A.n : Int))) ∧ z.cell? ⟨W.heap.size + 1, 0, none⟩ = some (.int .i64 0) ∧ z.cell? ⟨W.heap.size + 1, 1, none⟩ = some (.bool false) ∧ z.cell? ⟨W.heap.size + 1, 2, none⟩ = some (.int .u64 0) ∧ z.cell? ⟨W.heap.size + 1, 3, none⟩ = some (.bool false) ∧ z.cell? ⟨W.heap.size + 1, 4, none⟩ = some (.int .u64 0) ∧ z.cell? ⟨W.heap.size + 1, 5, none⟩ = some (.slice none 0 0) ∧ z.cell? ⟨W.heap.size + 1, 6, none⟩ = some (.int .u64 0) ∧ z.frozen? ⟨W.heap.size + 1, 0, none⟩ = false ∧ z.frozen? ⟨W.heap.size + 1, 1, none⟩ = false ∧ z.frozen? ⟨W.heap.size + 1, 2, none⟩ = false ∧ z.frozen? ⟨W.heap.size + 1, 3, none⟩ = false ∧ z.frozen? ⟨W.heap.size + 1, 4, none⟩ = false ∧ z.frozen? ⟨W.heap.size + 1, 5, none⟩ = false ∧ z.frozen? ⟨W.heap.size + 1, 6, none⟩ = false ∧ w9.cell? ⟨W.heap.size + 1, 0, none⟩ = some (.int .i64 A.e) ∧ w9.cell? ⟨W.heap.size + 1, 1, none⟩ = some (.bool A.f) ∧ w9.cell? ⟨W.heap.size + 1, 2, none⟩ = some (.int .u64 (A.x : Int)) ∧ w9.cell? ⟨W.heap.size + 1, 3, none⟩ = some (.bool A.d) ∧ w9.cell? ⟨W.heap.size + 1, 4, none⟩ = some (.int .u64 (A.h : Int)) ∧ w9.cell? ⟨W.heap.size + 1, 5, none⟩ = some (.slice p A.l.length c) ∧ w9.cell? ⟨W.heap.size + 1, 6, none⟩ = some (.int .u64 (A.n : Int)) ∧ Hid (Chg (fun i => i = W.heap.size + 1) z w9)) := by
    intro z A p c cz
    have nG : ∀ k, W.heap.size ≤ k → ¬ G k := fun k hk x => by have := hG k x; omega
    have az := (cz.block _ (lt_of a0) (nG _ (Nat.le_succ _))).trans a0
    obtain ⟨w9, hw9⟩ : ∃ w9, w9 = (((((((z.setCell ⟨W.heap.size + 1, 0, none⟩ (.int .i64 A.e)).setCell ⟨W.heap.size + 1, 1, none⟩ (.bool A.f)).setCell ⟨W.heap.size + 1, 2, none⟩ (.int .u64 (A.x : Int))).setCell ⟨W.heap.size + 1, 3, none⟩ (.bool A.d)).setCell ⟨W.heap.size + 1, 4, none⟩ (.int .u64 (A.h : Int))).setCell ⟨W.heap.size + 1, 5, none⟩ (.slice p A.l.length c)).setCell ⟨W.heap.size + 1, 6, none⟩ (.int .u64 (A.n : Int))) := ⟨_, rfl⟩
    have a9 : w9.heap[W.heap.size + 1]? = some (.cells #[.int .i64 A.e, .bool A.f, .int .u64 (A.x : Int), .bool A.d, .int .u64 (A.h : Int), .slice p A.l.length c, .int .u64 (A.n : Int)] 38 (0, 0)) := by rw [hw9]; exact set_of (set_of (set_of (set_of (set_of (set_of (set_of (az) 0 _) 1 _) 2 _) 3 _) 4 _) 5 _) 6 _
    exact ⟨w9, hw9, cell_of az 0, cell_of az 1, cell_of az 2, cell_of az 3, cell_of az 4, cell_of az 5, cell_of az 6, free_of az 0, free_of az 1, free_of az 2, free_of az 3, free_of az 4, free_of az 5, free_of az 6, cell_of a9 0, cell_of a9 1, cell_of a9 2, cell_of a9 3, cell_of a9 4, cell_of a9 5, cell_of a9 6, by rw [hw9]; exact (((((((Chg.refl (fun i => i = W.heap.size + 1) z).setCell (fun _ => rfl) _).setCell (fun _ => rfl) _).setCell (fun _ => rfl) _).setCell (fun _ => rfl) _).setCell (fun _ => rfl) _).setCell (fun _ => rfl) _).setCell (fun _ => rfl) _⟩
  have HD := keepH (hD w0 C0)
  have HC0 := keepH C0
  have c0 : w0.cell? ⟨W.heap.size, 0, none⟩ = some (.int .u8 o.kd) := cell_of o0 0
  have c1 := cell_of o0 1
  have c2 := cell_of o0 2
  have c3 := cell_of o0 3
  have c4 := cell_of o0 4
  have c5 := cell_of o0 5
  have c6 := cell_of o0 6
  have c7 := cell_of o0 7
  have c8 := cell_of o0 8
  have c9 := cell_of o0 9
  have c10 := cell_of o0 10
  clear o0 a0 C0 hD hG kk
  go_enter Try.func41, Try.ntmps41
  go_upto_region 1 with fail
  rw [← hw0]
  clear hw0
  go_wp2_with fail
  refine HD.out.mono ?_
  rintro e z ⟨A, p, c, rfl, hQ, cz⟩
  obtain ⟨w9, hw9, g0, g1, g2, g3, g4, g5, g6, f0, f1, f2, f3, f4, f5, f6, e0, e1, e2, e3, e4, e5, e6, HC9⟩ := HE.out z A p c cz
  have HW9 := keepH hw9
  have HQ := keepH hQ
  have HCZ := keepH cz
  clear hw9 hQ cz c0 c1 c2 c3 c4 c5 c6 c7 c8 c9 c10
  go_wp2_with fail
  rw [← HW9.out]
  (try simp only [Exit.inBlock, Exit.then])
  refine bodyPost_ret (v := .agg #[.int .i64 A.e, .bool A.f, .int .u64 (A.x : Int), .bool A.d, .int .u64 (A.h : Int), .slice p A.l.length c, .int .u64 (A.n : Int)]) (by simp [results, Try.results41, go_sem, e0, e1, e2, e3, e4, e5, e6]) rfl ?_
  exact ⟨A, p, c, w0, z, rfl, HC0.out, Nat.le_of_eq HSZ.out.symm, HQ.out, HCZ.out, HC9.out⟩
theorem stC_set6 (lk : Int) (m sb N hc lf dn : Nat) : (stC lk m sb N hc lf dn).setIfInBounds 6 (.int .i64 ((dn : Int) + 1)) = stC lk m sb N hc lf (dn + 1) := rfl
set_option maxRecDepth 100000 in
set_option maxHeartbeats 4000000 in
theorem do_go {o : OpP} {r5 : Bool} {r6 r7 : Int} {kp : Option Addr} {kc : Nat} {W : World} {s m sb N hc lf dn : Nat} (hs : W.heap[s]? = some (.cells (stC 0 m sb N hc lf dn) 92 (0, 0))) (hdn : dn ≤ 4000000000000000000) {G : Nat → Prop} (hG : ∀ k, G k → k < W.heap.size) {R : World → World → Ans → Option Addr → Prop}
    (hD : ∀ w, Chg (fun k => k = s) W w → w.heap[s]? = some (.cells (stC 1 m sb N hc lf (dn + 1)) 92 (0, 0)) → Calls Try.prog 41 #[.pointer (some ⟨s, 0, none⟩), .agg #[.int .u8 o.kd, .int .u64 (o.k : Int), .int .u64 (o.v : Int), .int .u64 (o.od : Int), .int .u64 (o.hk : Int), .bool r5, .int .i64 r6, .int .i64 r7, .slice kp o.ks.length kc, .int .u64 (o.lo : Int), .int .u64 (o.hi : Int)]] w fun e w' => ∃ A p c, e = .returned (.agg #[.int .i64 A.e, .bool A.f, .int .u64 (A.x : Int), .bool A.d, .int .u64 (A.h : Int), .slice p A.l.length c, .int .u64 (A.n : Int)]) ∧ (R w w' A p ∧ ∃ hc' lf', w'.heap[s]? = some (.cells (stC 1 m sb N hc' lf' (dn + 1)) 92 (0, 0))) ∧ Chg G w w') :
    Calls Try.prog 12 #[.pointer (some ⟨s, 0, none⟩), .agg #[.int .u8 o.kd, .int .u64 (o.k : Int), .int .u64 (o.v : Int), .int .u64 (o.od : Int), .int .u64 (o.hk : Int), .bool r5, .int .i64 r6, .int .i64 r7, .slice kp o.ks.length kc, .int .u64 (o.lo : Int), .int .u64 (o.hi : Int)]] W fun e W' => ∃ A p c w w1 hc' lf', e = .returned (.tuple #[.agg #[.int .i64 A.e, .bool A.f, .int .u64 (A.x : Int), .bool A.d, .int .u64 (A.h : Int), .slice p A.l.length c, .int .u64 (A.n : Int)], .int .i64 (dn : Int)]) ∧ Chg (fun k => k = s) W w ∧ W.heap.size + 2 ≤ w.heap.size ∧ R w w1 A p ∧ Chg G w w1 ∧ W'.heap[s]? = some (.cells (stC 0 m sb N hc' lf' (dn + 1)) 92 (0, 0)) ∧ w1.heap[s]? = some (.cells (stC 1 m sb N hc' lf' (dn + 1)) 92 (0, 0)) ∧ Chg (fun i => i = s ∨ i = W.heap.size + 1) w1 W' := by
  obtain ⟨w0, hw0⟩ : ∃ w0, w0 = (W.alloc (.cells #[.int .u8 o.kd, .int .u64 (o.k : Int), .int .u64 (o.v : Int), .int .u64 (o.od : Int), .int .u64 (o.hk : Int), .bool r5, .int .i64 r6, .int .i64 r7, .slice kp o.ks.length kc, .int .u64 (o.lo : Int), .int .u64 (o.hi : Int)] 34)).alloc (.cells #[.int .i64 0, .bool false, .int .u64 0, .bool false, .int .u64 0, .slice none 0 0, .int .u64 0] 38) := ⟨_, rfl⟩
  have C0 : Chg (fun _ => False) W w0 := by rw [hw0]; exact ((Chg.refl _ _).alloc _).alloc _
  have o0 : w0.heap[W.heap.size]? = some (.cells #[.int .u8 o.kd, .int .u64 (o.k : Int), .int .u64 (o.v : Int), .int .u64 (o.od : Int), .int .u64 (o.hk : Int), .bool r5, .int .i64 r6, .int .i64 r7, .slice kp o.ks.length kc, .int .u64 (o.lo : Int), .int .u64 (o.hi : Int)] 34 (0, 0)) := by rw [hw0]; exact alloc_of (heap_alloc_new _ _) _
  have a0 : w0.heap[W.heap.size + 1]? = some (.cells #[.int .i64 0, .bool false, .int .u64 0, .bool false, .int .u64 0, .slice none 0 0, .int .u64 0] 38 (0, 0)) := by
    have e := heap_alloc_new (W.alloc (.cells #[.int .u8 o.kd, .int .u64 (o.k : Int), .int .u64 (o.v : Int), .int .u64 (o.od : Int), .int .u64 (o.hk : Int), .bool r5, .int .i64 r6, .int .i64 r7, .slice kp o.ks.length kc, .int .u64 (o.lo : Int), .int .u64 (o.hi : Int)] 34)) (.cells #[.int .i64 0, .bool false, .int .u64 0, .bool false, .int .u64 0, .slice none 0 0, .int .u64 0] 38)
    rw [World.size_alloc] at e
    rw [hw0]
    exact e
  have HSZ : Hid (w0.heap.size = W.heap.size + 2) := by rw [hw0]; show _ = _; simp
  have ls := lt_of hs
  have s0 := (C0.block s ls (fun x => x)).trans hs
  obtain ⟨w2, hw2⟩ : ∃ w2, w2 = w0.setCell ⟨s, 0, none⟩ (.int .i32 1) := ⟨_, rfl⟩
  have s2 : w2.heap[s]? = some (.cells (stC 1 m sb N hc lf dn) 92 (0, 0)) := by rw [hw2]; exact set_of s0 0 _
  obtain ⟨w3, hw3⟩ : ∃ w3, w3 = w2.setCell ⟨s, 6, none⟩ (.int .i64 ((dn : Int) + 1)) := ⟨_, rfl⟩
  have s3 : w3.heap[s]? = some (.cells (stC 1 m sb N hc lf (dn + 1)) 92 (0, 0)) := by rw [hw3, ← stC_set6]; exact set_of s2 6 _
  have C3 : Chg (fun k => k = s) W w3 := by rw [hw3, hw2]; exact ((C0.mono (G := fun k => k = s) (fun _ _ x => x.elim)).setCell (p := ⟨s, 0, none⟩) (fun _ => rfl) _).setCell (p := ⟨s, 6, none⟩) (fun _ => rfl) _
  have o3 : w3.heap[W.heap.size]? = some (.cells #[.int .u8 o.kd, .int .u64 (o.k : Int), .int .u64 (o.v : Int), .int .u64 (o.od : Int), .int .u64 (o.hk : Int), .bool r5, .int .i64 r6, .int .i64 r7, .slice kp o.ks.length kc, .int .u64 (o.lo : Int), .int .u64 (o.hi : Int)] 34 (0, 0)) := by rw [hw3, hw2]; exact other_of (other_of o0 (by omega) _) (by omega) _
  have a3 : w3.heap[W.heap.size + 1]? = some (.cells #[.int .i64 0, .bool false, .int .u64 0, .bool false, .int .u64 0, .slice none 0 0, .int .u64 0] 38 (0, 0)) := by rw [hw3, hw2]; exact other_of (other_of a0 (by omega) _) (by omega) _
  have HE : Hid (∀ (z : World) (A : Ans) (p : Option Addr) (c : Nat) (hc' lf' : Nat), z.heap[s]? = some (.cells (stC 1 m sb N hc' lf' (dn + 1)) 92 (0, 0)) → Chg G w3 z → ∃ w9, w9 = (((((((z.setCell ⟨W.heap.size + 1, 0, none⟩ (.int .i64 A.e)).setCell ⟨W.heap.size + 1, 1, none⟩ (.bool A.f)).setCell ⟨W.heap.size + 1, 2, none⟩ (.int .u64 (A.x : Int))).setCell ⟨W.heap.size + 1, 3, none⟩ (.bool A.d)).setCell ⟨W.heap.size + 1, 4, none⟩ (.int .u64 (A.h : Int))).setCell ⟨W.heap.size + 1, 5, none⟩ (.slice p A.l.length c)).setCell ⟨W.heap.size + 1, 6, none⟩ (.int .u64 (A.n : Int))) ∧ z.cell? ⟨W.heap.size + 1, 0, none⟩ = some (.int .i64 0) ∧ z.cell? ⟨W.heap.size + 1, 1, none⟩ = some (.bool false) ∧ z.cell? ⟨W.heap.size + 1, 2, none⟩ = some (.int .u64 0) ∧ z.cell? ⟨W.heap.size + 1, 3, none⟩ = some (.bool false) ∧ z.cell? ⟨W.heap.size + 1, 4, none⟩ = some (.int .u64 0) ∧ z.cell? ⟨W.heap.size + 1, 5, none⟩ = some (.slice none 0 0) ∧ z.cell? ⟨W.heap.size + 1, 6, none⟩ = some (.int .u64 0) ∧ z.frozen? ⟨W.heap.size + 1, 0, none⟩ = false ∧ z.frozen? ⟨W.heap.size + 1, 1, none⟩ = false ∧ z.frozen? ⟨W.heap.size + 1, 2, none⟩ = false ∧ z.frozen? ⟨W.heap.size + 1, 3, none⟩ = false ∧ z.frozen? ⟨W.heap.size + 1, 4, none⟩ = false ∧ z.frozen? ⟨W.heap.size + 1, 5, none⟩ = false ∧ z.frozen? ⟨W.heap.size + 1, 6, none⟩ = false ∧ w9.cell? ⟨W.heap.size + 1, 0, none⟩ = some (.int .i64 A.e) ∧ w9.cell? ⟨W.heap.size + 1, 1, none⟩ = some (.bool A.f) ∧ w9.cell? ⟨W.heap.size + 1, 2, none⟩ = some (.int .u64 (A.x : Int)) ∧ w9.cell? ⟨W.heap.size + 1, 3, none⟩ = some (.bool A.d) ∧ w9.cell? ⟨W.heap.size + 1, 4, none⟩ = some (.int .u64 (A.h : Int)) ∧ w9.cell? ⟨W.heap.size + 1, 5, none⟩ = some (.slice p A.l.length c) ∧ w9.cell? ⟨W.heap.size + 1, 6, none⟩ = some (.int .u64 (A.n : Int)) ∧ w9.cell? ⟨s, 0, none⟩ = some (.int .i32 1) ∧ w9.frozen? ⟨s, 0, none⟩ = false ∧ Hid ((w9.setCell ⟨s, 0, none⟩ (.int .i32 0)).heap[s]? = some (.cells (stC 0 m sb N hc' lf' (dn + 1)) 92 (0, 0)) ∧ Chg (fun i => i = s ∨ i = W.heap.size + 1) z (w9.setCell ⟨s, 0, none⟩ (.int .i32 0)))) := by
    intro z A p c hc' lf' sz cz
    have az := (cz.block _ (lt_of a3) (fun x => by have := hG _ x; omega)).trans a3
    obtain ⟨w9, hw9⟩ : ∃ w9, w9 = (((((((z.setCell ⟨W.heap.size + 1, 0, none⟩ (.int .i64 A.e)).setCell ⟨W.heap.size + 1, 1, none⟩ (.bool A.f)).setCell ⟨W.heap.size + 1, 2, none⟩ (.int .u64 (A.x : Int))).setCell ⟨W.heap.size + 1, 3, none⟩ (.bool A.d)).setCell ⟨W.heap.size + 1, 4, none⟩ (.int .u64 (A.h : Int))).setCell ⟨W.heap.size + 1, 5, none⟩ (.slice p A.l.length c)).setCell ⟨W.heap.size + 1, 6, none⟩ (.int .u64 (A.n : Int))) := ⟨_, rfl⟩
    have a9 : w9.heap[W.heap.size + 1]? = some (.cells #[.int .i64 A.e, .bool A.f, .int .u64 (A.x : Int), .bool A.d, .int .u64 (A.h : Int), .slice p A.l.length c, .int .u64 (A.n : Int)] 38 (0, 0)) := by rw [hw9]; exact set_of (set_of (set_of (set_of (set_of (set_of (set_of (az) 0 _) 1 _) 2 _) 3 _) 4 _) 5 _) 6 _
    have s9 : w9.heap[s]? = some (.cells (stC 1 m sb N hc' lf' (dn + 1)) 92 (0, 0)) := by rw [hw9]; exact other_of (other_of (other_of (other_of (other_of (other_of (other_of (sz) (by omega) _) (by omega) _) (by omega) _) (by omega) _) (by omega) _) (by omega) _) (by omega) _
    refine ⟨w9, hw9, cell_of az 0, cell_of az 1, cell_of az 2, cell_of az 3, cell_of az 4, cell_of az 5, cell_of az 6, free_of az 0, free_of az 1, free_of az 2, free_of az 3, free_of az 4, free_of az 5, free_of az 6, cell_of a9 0, cell_of a9 1, cell_of a9 2, cell_of a9 3, cell_of a9 4, cell_of a9 5, cell_of a9 6, cell_of s9 0, free_of s9 0, set_of s9 0 _, ?_⟩
    rw [hw9]
    exact ((((((((Chg.refl (fun i => i = s ∨ i = W.heap.size + 1) z).setCell (fun _ => .inr rfl) _).setCell (fun _ => .inr rfl) _).setCell (fun _ => .inr rfl) _).setCell (fun _ => .inr rfl) _).setCell (fun _ => .inr rfl) _).setCell (fun _ => .inr rfl) _).setCell (fun _ => .inr rfl) _).setCell (fun _ => .inl rfl) _
  have HD := keepH (hD w3 C3 s3)
  have HC3 := keepH C3
  have HLS := keepH ls
  have HZ3 : Hid (W.heap.size + 2 ≤ w3.heap.size) := by show _ ≤ _; rw [hw3, hw2]; simp [World.setCell]; have := HSZ.out; omega
  have c0 := cell_of o3 0
  have c1 := cell_of o3 1
  have c2 := cell_of o3 2
  have c3 := cell_of o3 3
  have c4 := cell_of o3 4
  have c5 := cell_of o3 5
  have c6 := cell_of o3 6
  have c7 := cell_of o3 7
  have c8 := cell_of o3 8
  have c9 := cell_of o3 9
  have c10 := cell_of o3 10
  have l0 : w0.cell? ⟨s, 0, none⟩ = some (.int .i32 0) := cell_of s0 0
  have lz0 := free_of s0 0
  have d2 : w2.cell? ⟨s, 6, none⟩ = some (.int .i64 (dn : Int)) := cell_of s2 6
  have dz2 := free_of s2 6
  have HLK := keepH (lock_free muLib ⟨s, 0, none⟩ w0 l0 lz0)
  have b1 : (dn : Int) ≤ 4000000000000000000 := by omega
  have HW2 := keepH hw2
  have HW3 := keepH hw3
  clear o0 a0 C0 hD hG o3 a3 s0 s2 s3 C3 hs ls hdn hw2 hw3 l0 lz0
  go_enter_defers Try.func12, Try.ntmps12
  go_upto_region 1 with fail
  rw [← hw0]
  clear hw0
  go_upto_region 5 with (go_at_call 39; refine HLK.out.mono ?_; rintro e w' ⟨rfl, hw'⟩; rw [← HW2.out] at hw'; subst hw')
  go_upto_region 7 with fail
  rw [← HW3.out]
  go_wp2_with fail
  refine HD.out.mono ?_
  rintro e z ⟨A, p, c, rfl, ⟨hQ, hc', lf', sz⟩, cz⟩
  obtain ⟨w9, hw9, g0, g1, g2, g3, g4, g5, g6, f0, f1, f2, f3, f4, f5, f6, e0, e1, e2, e3, e4, e5, e6, lk9, lz9, HC9⟩ := HE.out z A p c hc' lf' sz cz
  have HW9 := keepH hw9
  have HQ := keepH hQ
  have HCZ := keepH cz
  have HSZ' := keepH sz
  have HUL := keepH (unlock_deferred muLib ⟨s, 0, none⟩ .returning w9 lk9 lz9)
  clear hw9 hQ cz sz c0 c1 c2 c3 c4 c5 c6 c7 c8 c9 c10 lk9 lz9
  obtain ⟨wx, hwx⟩ : ∃ wx, wx = w9.setCell ⟨s, 0, none⟩ (.int .i32 0) := ⟨_, rfl⟩
  rw [← hwx] at HC9 HUL
  have h0 : wx.cell? ⟨W.heap.size + 1, 0, none⟩ = some (.int .i64 A.e) := by rw [hwx]; exact (World.cell?_setCell_other w9 ⟨s, 0, none⟩ ⟨W.heap.size + 1, 0, none⟩ _ (by have := HLS.out; simp; try omega)).trans e0
  have h1 : wx.cell? ⟨W.heap.size + 1, 1, none⟩ = some (.bool A.f) := by rw [hwx]; exact (World.cell?_setCell_other w9 ⟨s, 0, none⟩ ⟨W.heap.size + 1, 1, none⟩ _ (by have := HLS.out; simp; try omega)).trans e1
  have h2 : wx.cell? ⟨W.heap.size + 1, 2, none⟩ = some (.int .u64 (A.x : Int)) := by rw [hwx]; exact (World.cell?_setCell_other w9 ⟨s, 0, none⟩ ⟨W.heap.size + 1, 2, none⟩ _ (by have := HLS.out; simp; try omega)).trans e2
  have h3 : wx.cell? ⟨W.heap.size + 1, 3, none⟩ = some (.bool A.d) := by rw [hwx]; exact (World.cell?_setCell_other w9 ⟨s, 0, none⟩ ⟨W.heap.size + 1, 3, none⟩ _ (by have := HLS.out; simp; try omega)).trans e3
  have h4 : wx.cell? ⟨W.heap.size + 1, 4, none⟩ = some (.int .u64 (A.h : Int)) := by rw [hwx]; exact (World.cell?_setCell_other w9 ⟨s, 0, none⟩ ⟨W.heap.size + 1, 4, none⟩ _ (by have := HLS.out; simp; try omega)).trans e4
  have h5 : wx.cell? ⟨W.heap.size + 1, 5, none⟩ = some (.slice p A.l.length c) := by rw [hwx]; exact (World.cell?_setCell_other w9 ⟨s, 0, none⟩ ⟨W.heap.size + 1, 5, none⟩ _ (by have := HLS.out; simp; try omega)).trans e5
  have h6 : wx.cell? ⟨W.heap.size + 1, 6, none⟩ = some (.int .u64 (A.n : Int)) := by rw [hwx]; exact (World.cell?_setCell_other w9 ⟨s, 0, none⟩ ⟨W.heap.size + 1, 6, none⟩ _ (by have := HLS.out; simp; try omega)).trans e6
  have HWX := keepH hwx
  clear hwx
  go_wp2_with fail
  rw [← HW9.out]
  refine leaves_cons (f := 40) (args := #[.pointer (some ⟨s, 0, none⟩)]) (by simp) (by simp [go_sem]) ?_
  refine HUL.out.mono ?_
  rintro e u' w'' ⟨rfl, rfl, rfl⟩
  refine ⟨.tuple #[.agg #[.int .i64 A.e, .bool A.f, .int .u64 (A.x : Int), .bool A.d, .int .u64 (A.h : Int), .slice p A.l.length c, .int .u64 (A.n : Int)], .int .i64 (dn : Int)], by simp [results, Try.results12, go_sem, h0, h1, h2, h3, h4, h5, h6], ?_⟩
  exact ⟨A, p, c, w3, z, hc', lf', rfl, HC3.out, HZ3.out, HQ.out, HCZ.out, HC9.out.1, HSZ'.out, HC9.out.2⟩
end Go.Proofs.Ytahgaghokpicgaa
/- What holds of the slots; what an operation under the lock leaves. -/
namespace Go.Proofs.Ytahgaghokpicgaa
open Go.RowKit Go.Maps
set_option linter.unusedVariables false

theorem hdl_inj {i j g g' : Nat} (hi : i < 256) (hj : j < 256) (h : hdl i g = hdl j g') : i = j ∧ g = g' := by
  unfold hdl at h
  omega
structure SlInv (sl : List (Bool × Nat)) (hc lf : Nat) (pc : Nat → Option (Nat → Option Nat)) : Prop where
  len : sl.length ≤ 256
  cnt : hc = sl.countP (fun x => x.1)
  gen : ∀ (i : Nat) (b : Bool) (g : Nat), sl[i]? = some (b, g) → g ≤ 1048575 ∧ (b = true → g < 1048575)
  pcs : ∀ k, (pc k).isSome = true ↔ ∃ i g, sl[i]? = some (true, g) ∧ k = hdl i g
  lf64 : lf < 18446744073709551616
theorem SlInv.start (N lf : Nat) (hN : N ≤ 256) (hl : lf < 18446744073709551616) : SlInv (List.replicate N (false, 0)) 0 lf (fun _ => none) := by
  refine ⟨by simpa using hN, by rw [List.countP_replicate]; simp, fun i b g h => ?_, fun k => ⟨fun h => by simp at h, ?_⟩, hl⟩
  · rw [List.getElem?_replicate] at h
    split at h
    · simp at h; obtain ⟨rfl, rfl⟩ := h; simp
    · simp at h
  · rintro ⟨i, g, h, _⟩
    rw [List.getElem?_replicate] at h
    split at h <;> simp at h
theorem SlInv.idx {sl : List (Bool × Nat)} {hc lf : Nat} {pc : Nat → Option (Nat → Option Nat)} (I : SlInv sl hc lf pc) {i : Nat} {x : Bool × Nat} (h : sl[i]? = some x) : i < 256 := by
  have := (List.getElem?_eq_some_iff.1 h).1
  have := I.len
  omega
theorem SlInv.le {sl : List (Bool × Nat)} {hc lf : Nat} {pc : Nat → Option (Nat → Option Nat)} (I : SlInv sl hc lf pc) : hc ≤ sl.length := by
  rw [I.cnt]
  exact List.countP_le_length
theorem SlInv.free {sl : List (Bool × Nat)} {hc lf : Nat} {pc : Nat → Option (Nat → Option Nat)} (I : SlInv sl hc lf pc) {i g : Nat} (h : sl[i]? = some (false, g)) : pc (hdl i g) = none := by
  cases hp : pc (hdl i g) with
  | none => rfl
  | some x =>
    obtain ⟨j, g', hj, e⟩ := (I.pcs (hdl i g)).1 (by rw [hp]; rfl)
    obtain ⟨rfl, rfl⟩ := hdl_inj (I.idx h) (I.idx hj) e
    rw [h] at hj
    simp at hj
theorem SlInv.take {sl : List (Bool × Nat)} {hc lf : Nat} {pc : Nat → Option (Nat → Option Nat)} (I : SlInv sl hc lf pc) {i g : Nat} (h : sl[i]? = some (false, g)) (hg : g < 1048575) (f : Nat → Option Nat) : SlInv (sl.set i (true, g)) (hc + 1) (lf - 1) (fun k => if k = hdl i g then some f else pc k) := by
  obtain ⟨hil, hie⟩ := List.getElem?_eq_some_iff.1 h
  refine ⟨by rw [List.length_set]; exact I.len, ?_, fun j b g' hj => ?_, fun k => ?_, by have := I.lf64; omega⟩
  · rw [List.countP_set hil, hie, I.cnt]
    simp
  · by_cases e : j = i
    · subst e
      rw [List.getElem?_set_self hil] at hj
      simp at hj
      obtain ⟨rfl, rfl⟩ := hj
      exact ⟨by omega, fun _ => hg⟩
    · rw [List.getElem?_set_ne (Ne.symm e)] at hj
      exact I.gen j b g' hj
  · by_cases e : k = hdl i g
    · rw [if_pos e]
      exact ⟨fun _ => ⟨i, g, List.getElem?_set_self hil, e⟩, fun _ => rfl⟩
    · rw [if_neg e, I.pcs k]
      constructor
      · rintro ⟨j, g', hj, ek⟩
        refine ⟨j, g', ?_, ek⟩
        by_cases q : j = i
        · subst q; rw [h] at hj; simp at hj
        · rw [List.getElem?_set_ne (Ne.symm q)]; exact hj
      · rintro ⟨j, g', hj, ek⟩
        by_cases q : j = i
        · subst q
          rw [List.getElem?_set_self hil] at hj
          simp at hj
          subst hj
          exact absurd ek e
        · rw [List.getElem?_set_ne (Ne.symm q)] at hj
          exact ⟨j, g', hj, ek⟩
theorem SlInv.go {sl : List (Bool × Nat)} {hc lf : Nat} {pc : Nat → Option (Nat → Option Nat)} (I : SlInv sl hc lf pc) {i g : Nat} (h : sl[i]? = some (true, g)) : 1 ≤ hc ∧ SlInv (sl.set i (false, g + 1)) (hc - 1) lf (fun k => if k = hdl i g then none else pc k) := by
  obtain ⟨hil, hie⟩ := List.getElem?_eq_some_iff.1 h
  have hg := (I.gen i true g h).2 rfl
  have h1 : 1 ≤ hc := by
    rw [I.cnt]
    exact List.countP_pos_iff.2 ⟨(true, g), List.mem_of_getElem? h, rfl⟩
  refine ⟨h1, by rw [List.length_set]; exact I.len, ?_, fun j b g' hj => ?_, fun k => ?_, I.lf64⟩
  · rw [List.countP_set hil, hie, I.cnt]
    simp
  · by_cases e : j = i
    · subst e
      rw [List.getElem?_set_self hil] at hj
      simp at hj
      obtain ⟨rfl, rfl⟩ := hj
      exact ⟨by omega, fun h => by cases h⟩
    · rw [List.getElem?_set_ne (Ne.symm e)] at hj
      exact I.gen j b g' hj
  · by_cases e : k = hdl i g
    · rw [if_pos e]
      refine ⟨fun x => by simp at x, ?_⟩
      rintro ⟨j, g', hj, ek⟩
      by_cases q : j = i
      · subst q
        rw [List.getElem?_set_self hil] at hj
        simp at hj
      · rw [List.getElem?_set_ne (Ne.symm q)] at hj
        exact absurd (hdl_inj (I.idx h) (I.idx hj) (e.symm.trans ek)).1.symm q
    · rw [if_neg e, I.pcs k]
      constructor
      · rintro ⟨j, g', hj, ek⟩
        refine ⟨j, g', ?_, ek⟩
        by_cases q : j = i
        · subst q; rw [h] at hj; simp at hj; subst hj; exact absurd ek e
        · rw [List.getElem?_set_ne (Ne.symm q)]; exact hj
      · rintro ⟨j, g', hj, ek⟩
        by_cases q : j = i
        · subst q
          rw [List.getElem?_set_self hil] at hj
          simp at hj
        · rw [List.getElem?_set_ne (Ne.symm q)] at hj
          exact ⟨j, g', hj, ek⟩
/-- Pairs that were told: none, or a row of one's own. -/
def OPy (W : World) (p : Option Addr) (l : List (Nat × Nat)) : Prop := l = [] ∨ ∃ c, OPairs W p c l
theorem OPy.chgF {F : Nat → Prop} {W W' : World} {p : Option Addr} {l : List (Nat × Nat)} (h : OPy W p l) (k : Chg F W W') (hn : ∀ bk off, p = some ⟨bk, off, none⟩ → ¬ F bk) : OPy W' p l := h.imp id (fun h => h.imp (fun _ h => h.chgF k hn))
theorem OPy.at_ {W : World} {p : Option Addr} {l : List (Nat × Nat)} (h : OPy W p l) : PairsAt W p l := by
  rcases h with h | ⟨c, h⟩
  · exact .inl h
  · exact h.at_
/-- What an operation under the lock tells and leaves. -/
def LStep (mu : Nat) (o : OpP) (f : Nat → Option Nat) (pc : Nat → Option (Nat → Option Nat)) (A : Ans) (f' : Nat → Option Nat) (pc' : Nat → Option (Nat → Option Nat)) : Prop :=
  (o.kd = 5 ∧ (A = errA 31 ∨ A = errA 32) ∧ f' = f ∧ pc' = pc) ∨ (∃ th, th < 18446744073709551616 ∧ (o.kd = 5 → th ≠ 0) ∧ A = tellP mu f pc o th ∧ f' = doF o A f ∧ pc' = doP o A f pc)
structure Outs (mu : Nat) (o : OpP) (n s sb m nw hd lk dn N : Nat) (f : Nat → Option Nat) (pc : Nat → Option (Nat → Option Nat)) (Z B0 B : Nat) (w : World) (A : Ans) (p : Option Addr) (hc lf : Nat) (sl : List (Bool × Nat)) (f' h' : Nat → Option Nat) (g' : Nat → Nat → Option Nat) : Prop where
  sa : SlAt w s sb m lk hc lf dn sl
  mo : MoAt w m nw hd mu f' h' g' (n + 1)
  inv : SlInv sl hc lf (pcs h' g')
  stp : LStep mu o f pc A f' (pcs h' g')
  len : sl.length = N
  new : ∀ k b, h' k = some b → (Z ≤ b ∧ b < B0) ∨ B ≤ b
  prs : OPy w p A.l
  pnew : ∀ bk off, p = some ⟨bk, off, none⟩ → B ≤ bk
  plen : A.l.length ≤ 8796093022000
def Out (mu : Nat) (o : OpP) (n s sb m nw hd lk dn N : Nat) (f : Nat → Option Nat) (pc : Nat → Option (Nat → Option Nat)) (Z B0 B : Nat) (w : World) (A : Ans) (p : Option Addr) : Prop := ∃ hc lf sl f' h' g', Outs mu o n s sb m nw hd lk dn N f pc Z B0 B w A p hc lf sl f' h' g'
theorem Outs.chg {mu : Nat} {o : OpP} {n s sb m nw hd lk dn N : Nat} {f : Nat → Option Nat} {pc : Nat → Option (Nat → Option Nat)} {Z B0 B : Nat} {w w' : World} {A : Ans} {p : Option Addr} {hc lf : Nat} {sl : List (Bool × Nat)} {f' h' : Nat → Option Nat} {g' : Nat → Nat → Option Nat} (H : Outs mu o n s sb m nw hd lk dn N f pc Z B0 B w A p hc lf sl f' h' g') {F : Nat → Prop} (c : Chg F w w') (hF : ∀ i, F i → B0 ≤ i ∧ i < B) (hb : s < B0 ∧ sb < B0 ∧ m < B0 ∧ nw < B0 ∧ hd < B0) : Outs mu o n s sb m nw hd lk dn N f pc Z B0 B w' A p hc lf sl f' h' g' := by
  have nf : ∀ i, i < B0 → ¬ F i := fun i hi x => by have := hF i x; omega
  exact ⟨H.sa.chg c (nf _ hb.1) (nf _ hb.2.1), H.mo.chg c (nf _ hb.2.2.1) (nf _ hb.2.2.2.1) (nf _ hb.2.2.2.2) (fun k b hk x => by have := hF b x; rcases H.new k b hk with q | q; (have := q.2; omega); omega), H.inv, H.stp, H.len, H.new, H.prs.chgF c (fun bk off e x => by have := hF bk x; have := H.pnew bk off e; omega), H.pnew, H.plen⟩
theorem Outs.mono {mu : Nat} {o : OpP} {n s sb m nw hd lk dn N : Nat} {f : Nat → Option Nat} {pc : Nat → Option (Nat → Option Nat)} {Z B0 B B1 : Nat} {w : World} {A : Ans} {p : Option Addr} {hc lf : Nat} {sl : List (Bool × Nat)} {f' h' : Nat → Option Nat} {g' : Nat → Nat → Option Nat} (H : Outs mu o n s sb m nw hd lk dn N f pc Z B0 B w A p hc lf sl f' h' g') (h : B1 ≤ B) : Outs mu o n s sb m nw hd lk dn N f pc Z B0 B1 w A p hc lf sl f' h' g' :=
  ⟨H.sa, H.mo, H.inv, H.stp, H.len, fun k b hk => (H.new k b hk).imp id (fun q => by omega), H.prs, fun bk off e => by have := H.pnew bk off e; omega, H.plen⟩
/-- The store's own blocks lie apart from the model's. -/
theorem st_ap {W : World} {s sb m lk hc lf dn : Nat} {sl : List (Bool × Nat)} (S : SlAt W s sb m lk hc lf dn sl) {nw hd mu : Nat} {f h : Nat → Option Nat} {g : Nat → Nat → Option Nat} {n : Nat} (M : MoAt W m nw hd mu f h g n) : (s ≠ m ∧ s ≠ nw ∧ s ≠ hd) ∧ (sb ≠ m ∧ sb ≠ nw ∧ sb ≠ hd) ∧ ∀ k b, h k = some b → b ≠ s ∧ b ≠ sb := by
  obtain ⟨e1, c1, n1⟩ := MapR.is M.now
  obtain ⟨e2, c2, n2⟩ := MapR.is M.held
  refine ⟨⟨?_, ?_, ?_⟩, ⟨?_, ?_, ?_⟩, fun k b hk => ?_⟩
  · rintro rfl; have := S.st.symm.trans M.md; simp at this
  · rintro rfl; have := S.st.symm.trans n1; simp at this
  · rintro rfl; have := S.st.symm.trans n2; simp at this
  · rintro rfl; have := S.row.symm.trans M.md; simp at this
  · rintro rfl; have := S.row.symm.trans n1; simp at this
  · rintro rfl; have := S.row.symm.trans n2; simp at this
  · obtain ⟨e3, c3, n3⟩ := MapR.is (M.pic k b hk)
    refine ⟨?_, ?_⟩
    · rintro rfl; have := S.st.symm.trans n3; simp at this
    · rintro rfl; have := S.row.symm.trans n3; simp at this
theorem doH_new {o : OpP} {A : Ans} {cl : Nat} {h : Nat → Option Nat} {k b : Nat} (hk : doH o A cl h k = some b) : h k = some b ∨ b = cl := by
  unfold doH at hk
  split at hk
  · by_cases e : k = A.h
    · subst e; rw [updO_same] at hk; injection hk with hk; exact .inr hk.symm
    · rw [updO_other _ _ e] at hk; exact .inl hk
  · split at hk
    · by_cases e : k = o.hk
      · subst e; rw [updO_same] at hk; cases hk
      · rw [updO_other _ _ e] at hk; exact .inl hk
    · exact .inl hk
end Go.Proofs.Ytahgaghokpicgaa
/- Any operation under the lock. -/
namespace Go.Proofs.Ytahgaghokpicgaa
open Go.RowKit Go.Maps
set_option linter.unusedVariables false

theorem KeysAt.chgE {F : Nat → Prop} {W W' : World} {p : Option Addr} {l : List Nat} (h : KeysAt W p l) (c : Chg F W W') (hn : ∀ bk off, p = some ⟨bk, off, none⟩ → l ≠ [] → ¬ F bk) : KeysAt W' p l := by
  by_cases e : l = []
  · exact .inl e
  · exact h.chg c (fun bk off q => hn bk off q e)
theorem doP_else {o : OpP} (k5 : ¬ o.kd = 5) (k6 : ¬ o.kd = 6) (A : Ans) (f : Nat → Option Nat) (pc : Nat → Option (Nat → Option Nat)) : doP o A f pc = pc := by
  funext k
  unfold doP
  rw [if_neg (fun x => k5 x.2.1), if_neg (fun x => k6 x.2)]
def MD (mu : Nat) (o : OpP) (n m nw hd th : Nat) (f h : Nat → Option Nat) (g : Nat → Nat → Option Nat) (w w1 : World) (A : Ans) (p : Option Addr) : Prop := ∃ cl, w.heap.size ≤ cl ∧ MoAt w1 m nw hd mu (doF o A f) (doH o A cl h) (setG g cl f) (n + 1) ∧ A = tellP mu f (pcs h g) o th ∧ OPy w1 p A.l ∧ (∀ bk off, p = some ⟨bk, off, none⟩ → w.heap.size ≤ bk) ∧ A.l.length ≤ 8796093022000
theorem m_do {o : OpP} (ho : o.Ok) {r5 : Bool} {r6 r7 : Int} {kp : Option Addr} {kc th : Nat} (hth : th < 18446744073709551616) {W : World} {m nw hd mu : Nat} {f h : Nat → Option Nat} {g : Nat → Nat → Option Nat} {n : Nat} (H : MoAt W m nw hd mu f h g n) (hmu : mu ≤ 1024) (hn : n ≤ 8796093022000) (hks : KeysAt W kp o.ks) :
    Calls Try.prog 19 #[.pointer (some ⟨m, 0, none⟩), .agg #[.int .u8 o.kd, .int .u64 (o.k : Int), .int .u64 (o.v : Int), .int .u64 (o.od : Int), .int .u64 (o.hk : Int), .bool r5, .int .i64 r6, .int .i64 r7, .slice kp o.ks.length kc, .int .u64 (o.lo : Int), .int .u64 (o.hi : Int)], .int .u64 (th : Int)] W fun e W' => ∃ A p c, e = .returned (.agg #[.int .i64 A.e, .bool A.f, .int .u64 (A.x : Int), .bool A.d, .int .u64 (A.h : Int), .slice p A.l.length c, .int .u64 (A.n : Int)]) ∧ MD mu o n m nw hd th f h g W W' A p ∧ Chg (fun i => i = nw ∨ i = hd) W W' := by
  refine (Do_all ho hth H hmu hn hks rfl).mono ?_
  rintro e W' ⟨⟨p, c, rfl, h1, h2, h3⟩, ⟨cl, hcl, hM⟩, hc⟩
  exact ⟨_, p, c, rfl, ⟨cl, hcl, hM, rfl, .inr ⟨c, h1⟩, h2, h3⟩, hc⟩
theorem MD.new {mu : Nat} {o : OpP} {n m nw hd th : Nat} {f h : Nat → Option Nat} {g : Nat → Nat → Option Nat} {w w1 : World} {A : Ans} {p : Option Addr} (hb : ∀ k b, h k = some b → b < w.heap.size) (H : MD mu o n m nw hd th f h g w w1 A p) : ∃ h' g', MoAt w1 m nw hd mu (doF o A f) h' g' (n + 1) ∧ pcs h' g' = doP o A f (pcs h g) ∧ (∀ k b, h' k = some b → h k = some b ∨ w.heap.size ≤ b) ∧ A = tellP mu f (pcs h g) o th ∧ OPy w1 p A.l ∧ (∀ bk off, p = some ⟨bk, off, none⟩ → w.heap.size ≤ bk) ∧ A.l.length ≤ 8796093022000 := by
  obtain ⟨cl, hcl, hM, hA, h1, h2, h3⟩ := H
  refine ⟨_, _, hM, pcs_do o A (fun k b hk => by have := hb k b hk; omega), fun k b hk => ?_, hA, h1, h2, h3⟩
  rcases doH_new hk with q | q
  · exact .inl q
  · exact .inr (by omega)
theorem err_out {o : OpP} {er : Int} (k5 : o.kd = 5) (her : er = 31 ∨ er = 32) {W : World} {s sb m nw hd mu hc lf dn : Nat} {sl : List (Bool × Nat)} {f h : Nat → Option Nat} {g : Nat → Nat → Option Nat} {n : Nat} {lk : Nat} (S : SlAt W s sb m lk hc lf dn sl) (M : MoAt W m nw hd mu f h g n) (I : SlInv sl hc lf (pcs h g)) {Z B0 B : Nat} (hBh : ∀ k b, h k = some b → Z ≤ b ∧ b < B0) : Out mu o n s sb m nw hd lk dn sl.length f (pcs h g) Z B0 B W (errA er) none := by
  refine ⟨hc, lf, sl, f, h, g, S, M.mono (Nat.le_succ n), I, .inl ⟨k5, ?_, rfl, rfl⟩, rfl, fun k b hk => .inl (hBh k b hk), .inl rfl, (fun bk off e => by cases e), (by simp [errA])⟩
  rcases her with rfl | rfl
  · exact .inl rfl
  · exact .inr rfl
theorem k_snap {o : OpP} {r5 : Bool} {r6 r7 : Int} {kp : Option Addr} {kc : Nat} (ho : o.Ok) (k5 : o.kd = 5) {W : World} {s sb m nw hd mu hc lf dn : Nat} {sl : List (Bool × Nat)} {f h : Nat → Option Nat} {g : Nat → Nat → Option Nat} {n : Nat} (S : SlAt W s sb m 1 hc lf dn sl) (M : MoAt W m nw hd mu f h g n) (I : SlInv sl hc lf (pcs h g)) (hmu : mu ≤ 1024) (hn : n ≤ 8796093022000) (hks : KeysAt W kp o.ks) (hkb : ∀ bk off, kp = some ⟨bk, off, none⟩ → o.ks ≠ [] → bk ≠ s ∧ bk ≠ sb) {Z B0 : Nat} (hB : s < B0 ∧ sb < B0 ∧ m < B0 ∧ nw < B0 ∧ hd < B0) (hBh : ∀ k b, h k = some b → Z ≤ b ∧ b < B0) (hBW : B0 ≤ W.heap.size) :
    Calls Try.prog 69 #[.pointer (some ⟨s, 0, none⟩), .agg #[.int .u8 o.kd, .int .u64 (o.k : Int), .int .u64 (o.v : Int), .int .u64 (o.od : Int), .int .u64 (o.hk : Int), .bool r5, .int .i64 r6, .int .i64 r7, .slice kp o.ks.length kc, .int .u64 (o.lo : Int), .int .u64 (o.hi : Int)]] W fun e W' => ∃ A p c, e = .returned (.agg #[.int .i64 A.e, .bool A.f, .int .u64 (A.x : Int), .bool A.d, .int .u64 (A.h : Int), .slice p A.l.length c, .int .u64 (A.n : Int)]) ∧ Out mu o n s sb m nw hd 1 dn sl.length f (pcs h g) Z B0 (W.heap.size + 2) W' A p ∧ Chg (fun k => k = s ∨ k = sb ∨ k = nw ∨ k = hd) W W' := by
  obtain ⟨⟨a1, a2, a3⟩, ⟨a4, a5, a6⟩, a7⟩ := st_ap S M
  have ne := S.ne
  have hG : ∀ k, k = nw ∨ k = hd → k < W.heap.size ∧ k ≠ s := by
    have b1 := M.blk.2.1
    have b2 := M.blk.2.2.1
    intro k x
    omega
  have err : ∀ er : Int, er = 31 ∨ er = 32 → (∀ w, Chg (fun _ => False) W w → Calls Try.prog 90 #[.pointer (some ⟨s, 3, none⟩)] w fun e w' => e = .returned (.tuple #[.int .u64 0, .int .i64 er]) ∧ Chg (fun _ => False) w w') → Calls Try.prog 69 #[.pointer (some ⟨s, 0, none⟩), .agg #[.int .u8 o.kd, .int .u64 (o.k : Int), .int .u64 (o.v : Int), .int .u64 (o.od : Int), .int .u64 (o.hk : Int), .bool r5, .int .i64 r6, .int .i64 r7, .slice kp o.ks.length kc, .int .u64 (o.lo : Int), .int .u64 (o.hi : Int)]] W fun e W' => ∃ A p c, e = .returned (.agg #[.int .i64 A.e, .bool A.f, .int .u64 (A.x : Int), .bool A.d, .int .u64 (A.h : Int), .slice p A.l.length c, .int .u64 (A.n : Int)]) ∧ Out mu o n s sb m nw hd 1 dn sl.length f (pcs h g) Z B0 (W.heap.size + 2) W' A p ∧ Chg (fun k => k = s ∨ k = sb ∨ k = nw ∨ k = hd) W W' := by
    intro er her hT
    refine (snap_err (by omega) hT).mono ?_
    rintro e W' ⟨rfl, c⟩
    exact ⟨errA er, none, 0, rfl, err_out k5 her (S.chg c (fun x => x) (fun x => x)) (M.quiet c) I hBh, c.mono (fun _ _ x => x.elim)⟩
  by_cases c1 : hc = sl.length
  · exact err 32 (.inr rfl) (fun w cw => take_full (S.chg cw (fun x => x) (fun x => x)) c1)
  by_cases c2 : lf = 0
  · exact err 31 (.inl rfl) (fun w cw => take_out (S.chg cw (fun x => x) (fun x => x)) c1 c2)
  cases hi : idxS sl with
  | none => exact err 32 (.inr rfl) (fun w cw => take_worn (S.chg cw (fun x => x) (fun x => x)) c1 c2 hi)
  | some i =>
    obtain ⟨g0, hx, hg⟩ := idxS_spec hi
    have hi256 := I.idx hx
    have hth : hdl i g0 < 18446744073709551616 := by unfold hdl; omega
    have hth0 : hdl i g0 ≠ 0 := by unfold hdl; omega
    refine (snap_go (th := hdl i g0) (sb := sb) (m := m) (lt_of S.st) (lt_of S.row) (T := fun w w' => SlAt w' s sb m 1 (hc + 1) (lf - 1) dn (sl.set i (true, g0))) (fun w cw => take_ok (S.chg cw (fun x => x) (fun x => x)) c1 I.le c2 I.lf64 hi hx hg) (fun w w' hT => ⟨_, hT.st, rfl⟩) (G := fun k => k = nw ∨ k = hd) hG (Q := MD mu o n m nw hd (hdl i g0) f h g)
      (fun w w' w2 cw hT ct c2 => m_do ho hth ((((M.quiet cw).chg ct (by omega) (by omega) (by omega) (fun k b hk => by have := a7 k b hk; omega))).quiet c2) hmu hn ((((hks.chg cw (fun _ _ _ x => x)).chgE ct (fun bk off e e2 => ?_))).chg c2 (fun _ _ _ x => x)))).mono ?_
    · have := hkb bk off e e2; omega
    · rintro e W' ⟨A, p, c, w, w', w2, w1, rfl, cw, hz, hT, ct, cc2, hQ, cG, c9⟩
      have z1 := cw.size
      have z2 := ct.size
      have z3 := cc2.size
      obtain ⟨h', g', hM, hpc, hnew, hA, hP, hPB, hPL⟩ := hQ.new (fun k b hk => by have := hBh k b hk; omega)
      have e5 := tellP_5 mu f (pcs h g) o (hdl i g0) k5
      rw [I.free hx] at e5
      simp only [Option.isSome_none, Bool.false_eq_true, if_false] at e5
      have eA : A = ⟨0, false, 0, false, hdl i g0, [], 0⟩ := hA.trans e5
      have hpc2 : pcs h' g' = fun k => if k = hdl i g0 then some f else pcs h g k := by
        rw [hpc, eA]
        funext k
        unfold doP
        rw [if_pos ⟨rfl, k5, hth0⟩]
      have H1 : Outs mu o n s sb m nw hd 1 dn sl.length f (pcs h g) Z B0 (W.heap.size + 2) w1 A p (hc + 1) (lf - 1) (sl.set i (true, g0)) (doF o A f) h' g' :=
        ⟨(SlAt.chg hT cc2 (fun x => x) (fun x => x)).chg cG (by omega) (by omega), hM, by rw [hpc2]; exact I.take hx hg f, .inr ⟨hdl i g0, hth, fun _ => hth0, hA, rfl, hpc⟩, by rw [List.length_set], fun k b hk => (hnew k b hk).imp (hBh k b) (fun q => by omega), hP, fun bk off e => by have := hPB bk off e; omega, hPL⟩
      refine ⟨A, p, c, rfl, ⟨_, _, _, _, _, _, H1.chg c9 (fun i hi => by omega) hB⟩, ?_⟩
      exact ((((cw.trans ct (H := fun k => k = s ∨ k = sb ∨ k = nw ∨ k = hd) (fun _ _ x => x.elim) (fun _ _ x => x.elim .inl (fun y => .inr (.inl y)))).trans cc2 (H := fun k => k = s ∨ k = sb ∨ k = nw ∨ k = hd) (fun _ _ x => x) (fun _ _ x => x.elim)).trans cG (H := fun k => k = s ∨ k = sb ∨ k = nw ∨ k = hd) (fun _ _ x => x) (fun _ _ x => .inr (.inr x))).trans c9 (fun _ _ x => x) (fun i hi x => by omega))
end Go.Proofs.Ytahgaghokpicgaa
