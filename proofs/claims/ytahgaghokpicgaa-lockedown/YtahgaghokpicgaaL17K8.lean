/- An operation told under the lock: by the model alone; a snapshot. -/
import Derived.Test.YtahgaghokpicgaaL13K6
import Derived.Test.YtahgaghokpicgaaL16Nw
namespace Go.Proofs.Ytahgaghokpicgaa
open Go.RowKit Go.Maps
set_option linter.unusedVariables false

set_option maxRecDepth 100000 in
set_option maxHeartbeats 4000000 in
theorem tell_else {o : OpP} {r5 : Bool} {r6 r7 : Int} {kp : Option Addr} {kc : Nat} (k5 : ¬ o.kd = 5) (k6 : ¬ o.kd = 6) {W : World} {s m lk sb N hc lf dn : Nat} (hs : W.heap[s]? = some (.cells (stC lk m sb N hc lf dn) 92 (0, 0))) {G : Nat → Prop} (hG : ∀ k, G k → k < W.heap.size ∧ k ≠ s) {Q : World → World → Ans → Option Addr → Prop}
    (hD : ∀ w, Chg (fun _ => False) W w → Calls Try.prog 19 #[.pointer (some ⟨m, 0, none⟩), .agg #[.int .u8 o.kd, .int .u64 (o.k : Int), .int .u64 (o.v : Int), .int .u64 (o.od : Int), .int .u64 (o.hk : Int), .bool r5, .int .i64 r6, .int .i64 r7, .slice kp o.ks.length kc, .int .u64 (o.lo : Int), .int .u64 (o.hi : Int)], .int .u64 0] w fun e w' => ∃ A p c, e = .returned (.agg #[.int .i64 A.e, .bool A.f, .int .u64 (A.x : Int), .bool A.d, .int .u64 (A.h : Int), .slice p A.l.length c, .int .u64 (A.n : Int)]) ∧ Q w w' A p ∧ Chg G w w') :
    Calls Try.prog 41 #[.pointer (some ⟨s, 0, none⟩), .agg #[.int .u8 o.kd, .int .u64 (o.k : Int), .int .u64 (o.v : Int), .int .u64 (o.od : Int), .int .u64 (o.hk : Int), .bool r5, .int .i64 r6, .int .i64 r7, .slice kp o.ks.length kc, .int .u64 (o.lo : Int), .int .u64 (o.hi : Int)]] W fun e W' => ∃ A p c w w1, e = .returned (.agg #[.int .i64 A.e, .bool A.f, .int .u64 (A.x : Int), .bool A.d, .int .u64 (A.h : Int), .slice p A.l.length c, .int .u64 (A.n : Int)]) ∧ Chg (fun _ => False) W w ∧ W.heap.size + 2 ≤ w.heap.size ∧ Q w w1 A p ∧ Chg G w w1 ∧ Chg (fun i => i = W.heap.size + 1) w1 W' := by
  have q5 : (o.kd == 5) = false := by simpa using k5
  have q6 : (o.kd == 6) = false := by simpa using k6
  obtain ⟨w0, hw0⟩ : ∃ w0, w0 = (W.alloc (.cells #[.int .u8 o.kd, .int .u64 (o.k : Int), .int .u64 (o.v : Int), .int .u64 (o.od : Int), .int .u64 (o.hk : Int), .bool r5, .int .i64 r6, .int .i64 r7, .slice kp o.ks.length kc, .int .u64 (o.lo : Int), .int .u64 (o.hi : Int)] 34)).alloc (.cells #[.int .i64 0, .bool false, .int .u64 0, .bool false, .int .u64 0, .slice none 0 0, .int .u64 0] 38) := ⟨_, rfl⟩
  have C0 : Chg (fun _ => False) W w0 := by rw [hw0]; exact ((Chg.refl _ _).alloc _).alloc _
  have o0 : w0.heap[W.heap.size]? = some (.cells #[.int .u8 o.kd, .int .u64 (o.k : Int), .int .u64 (o.v : Int), .int .u64 (o.od : Int), .int .u64 (o.hk : Int), .bool r5, .int .i64 r6, .int .i64 r7, .slice kp o.ks.length kc, .int .u64 (o.lo : Int), .int .u64 (o.hi : Int)] 34 (0, 0)) := by rw [hw0]; exact alloc_of (heap_alloc_new _ _) _
  have a0 : w0.heap[W.heap.size + 1]? = some (.cells #[.int .i64 0, .bool false, .int .u64 0, .bool false, .int .u64 0, .slice none 0 0, .int .u64 0] 38 (0, 0)) := by
    have e := heap_alloc_new (W.alloc (.cells #[.int .u8 o.kd, .int .u64 (o.k : Int), .int .u64 (o.v : Int), .int .u64 (o.od : Int), .int .u64 (o.hk : Int), .bool r5, .int .i64 r6, .int .i64 r7, .slice kp o.ks.length kc, .int .u64 (o.lo : Int), .int .u64 (o.hi : Int)] 34)) (.cells #[.int .i64 0, .bool false, .int .u64 0, .bool false, .int .u64 0, .slice none 0 0, .int .u64 0] 38)
    rw [World.size_alloc] at e
    rw [hw0]
    exact e
  have HSZ : Hid (w0.heap.size = W.heap.size + 2) := by rw [hw0]; show _ = _; simp
  have s0 := (C0.block s (lt_of hs) (fun x => x)).trans hs
  have ls := lt_of hs
  have HS0 : Hid (w0.drew.heap[s]? = some (.cells (stC lk m sb N hc lf dn) 92 (0, 0)) ∧ w0.drew.heap[W.heap.size]? = some (.cells #[.int .u8 o.kd, .int .u64 (o.k : Int), .int .u64 (o.v : Int), .int .u64 (o.od : Int), .int .u64 (o.hk : Int), .bool r5, .int .i64 r6, .int .i64 r7, .slice kp o.ks.length kc, .int .u64 (o.lo : Int), .int .u64 (o.hi : Int)] 34 (0, 0))) := ⟨s0, o0⟩
  have HE : Hid (∀ (z : World) (A : Ans) (p : Option Addr) (c : Nat), Chg G w0.drew z → ∃ w9, w9 = (((((((z.setCell ⟨W.heap.size + 1, 0, none⟩ (.int .i64 A.e)).setCell ⟨W.heap.size + 1, 1, none⟩ (.bool A.f)).setCell ⟨W.heap.size + 1, 2, none⟩ (.int .u64 (A.x : Int))).setCell ⟨W.heap.size + 1, 3, none⟩ (.bool A.d)).setCell ⟨W.heap.size + 1, 4, none⟩ (.int .u64 (A.h : Int))).setCell ⟨W.heap.size + 1, 5, none⟩ (.slice p A.l.length c)).setCell ⟨W.heap.size + 1, 6, none⟩ (.int .u64 (A.n : Int))) ∧ (z.heap[s]? = some (.cells (stC lk m sb N hc lf dn) 92 (0, 0)) ∧ z.heap[W.heap.size]? = some (.cells #[.int .u8 o.kd, .int .u64 (o.k : Int), .int .u64 (o.v : Int), .int .u64 (o.od : Int), .int .u64 (o.hk : Int), .bool r5, .int .i64 r6, .int .i64 r7, .slice kp o.ks.length kc, .int .u64 (o.lo : Int), .int .u64 (o.hi : Int)] 34 (0, 0))) ∧ (w9.heap[s]? = some (.cells (stC lk m sb N hc lf dn) 92 (0, 0)) ∧ w9.heap[W.heap.size]? = some (.cells #[.int .u8 o.kd, .int .u64 (o.k : Int), .int .u64 (o.v : Int), .int .u64 (o.od : Int), .int .u64 (o.hk : Int), .bool r5, .int .i64 r6, .int .i64 r7, .slice kp o.ks.length kc, .int .u64 (o.lo : Int), .int .u64 (o.hi : Int)] 34 (0, 0))) ∧ z.cell? ⟨W.heap.size + 1, 0, none⟩ = some (.int .i64 0) ∧ z.cell? ⟨W.heap.size + 1, 1, none⟩ = some (.bool false) ∧ z.cell? ⟨W.heap.size + 1, 2, none⟩ = some (.int .u64 0) ∧ z.cell? ⟨W.heap.size + 1, 3, none⟩ = some (.bool false) ∧ z.cell? ⟨W.heap.size + 1, 4, none⟩ = some (.int .u64 0) ∧ z.cell? ⟨W.heap.size + 1, 5, none⟩ = some (.slice none 0 0) ∧ z.cell? ⟨W.heap.size + 1, 6, none⟩ = some (.int .u64 0) ∧ z.frozen? ⟨W.heap.size + 1, 0, none⟩ = false ∧ z.frozen? ⟨W.heap.size + 1, 1, none⟩ = false ∧ z.frozen? ⟨W.heap.size + 1, 2, none⟩ = false ∧ z.frozen? ⟨W.heap.size + 1, 3, none⟩ = false ∧ z.frozen? ⟨W.heap.size + 1, 4, none⟩ = false ∧ z.frozen? ⟨W.heap.size + 1, 5, none⟩ = false ∧ z.frozen? ⟨W.heap.size + 1, 6, none⟩ = false ∧ w9.cell? ⟨W.heap.size + 1, 0, none⟩ = some (.int .i64 A.e) ∧ w9.cell? ⟨W.heap.size + 1, 1, none⟩ = some (.bool A.f) ∧ w9.cell? ⟨W.heap.size + 1, 2, none⟩ = some (.int .u64 (A.x : Int)) ∧ w9.cell? ⟨W.heap.size + 1, 3, none⟩ = some (.bool A.d) ∧ w9.cell? ⟨W.heap.size + 1, 4, none⟩ = some (.int .u64 (A.h : Int)) ∧ w9.cell? ⟨W.heap.size + 1, 5, none⟩ = some (.slice p A.l.length c) ∧ w9.cell? ⟨W.heap.size + 1, 6, none⟩ = some (.int .u64 (A.n : Int)) ∧ Hid (Chg (fun i => i = W.heap.size + 1) z w9)) := by
    intro z A p c cz
    have nG : ∀ k, W.heap.size ≤ k → ¬ G k := fun k hk x => by have := (hG k x).1; omega
    have bz : ∀ {k : Nat} {o : Obj}, w0.heap[k]? = some o → ¬ G k → z.heap[k]? = some o := fun h hn => (cz.block _ (lt_of h) hn).trans h
    have sz := bz s0 (fun x => (hG s x).2 rfl)
    have oz := bz o0 (nG _ (Nat.le_refl _))
    have az := bz a0 (nG _ (Nat.le_succ _))
    obtain ⟨w9, hw9⟩ : ∃ w9, w9 = (((((((z.setCell ⟨W.heap.size + 1, 0, none⟩ (.int .i64 A.e)).setCell ⟨W.heap.size + 1, 1, none⟩ (.bool A.f)).setCell ⟨W.heap.size + 1, 2, none⟩ (.int .u64 (A.x : Int))).setCell ⟨W.heap.size + 1, 3, none⟩ (.bool A.d)).setCell ⟨W.heap.size + 1, 4, none⟩ (.int .u64 (A.h : Int))).setCell ⟨W.heap.size + 1, 5, none⟩ (.slice p A.l.length c)).setCell ⟨W.heap.size + 1, 6, none⟩ (.int .u64 (A.n : Int))) := ⟨_, rfl⟩
    have a9 : w9.heap[W.heap.size + 1]? = some (.cells #[.int .i64 A.e, .bool A.f, .int .u64 (A.x : Int), .bool A.d, .int .u64 (A.h : Int), .slice p A.l.length c, .int .u64 (A.n : Int)] 38 (0, 0)) := by rw [hw9]; exact set_of (set_of (set_of (set_of (set_of (set_of (set_of (az) 0 _) 1 _) 2 _) 3 _) 4 _) 5 _) 6 _
    have s9 : w9.heap[s]? = some (.cells (stC lk m sb N hc lf dn) 92 (0, 0)) := by rw [hw9]; exact other_of (other_of (other_of (other_of (other_of (other_of (other_of (sz) (by omega) _) (by omega) _) (by omega) _) (by omega) _) (by omega) _) (by omega) _) (by omega) _
    have o9 : w9.heap[W.heap.size]? = some (.cells #[.int .u8 o.kd, .int .u64 (o.k : Int), .int .u64 (o.v : Int), .int .u64 (o.od : Int), .int .u64 (o.hk : Int), .bool r5, .int .i64 r6, .int .i64 r7, .slice kp o.ks.length kc, .int .u64 (o.lo : Int), .int .u64 (o.hi : Int)] 34 (0, 0)) := by rw [hw9]; exact other_of (other_of (other_of (other_of (other_of (other_of (other_of (oz) (by omega) _) (by omega) _) (by omega) _) (by omega) _) (by omega) _) (by omega) _) (by omega) _
    exact ⟨w9, hw9, ⟨sz, oz⟩, ⟨s9, o9⟩, cell_of az 0, cell_of az 1, cell_of az 2, cell_of az 3, cell_of az 4, cell_of az 5, cell_of az 6, free_of az 0, free_of az 1, free_of az 2, free_of az 3, free_of az 4, free_of az 5, free_of az 6, cell_of a9 0, cell_of a9 1, cell_of a9 2, cell_of a9 3, cell_of a9 4, cell_of a9 5, cell_of a9 6, by rw [hw9]; exact (((((((Chg.refl (fun i => i = W.heap.size + 1) z).setCell (fun _ => rfl) _).setCell (fun _ => rfl) _).setCell (fun _ => rfl) _).setCell (fun _ => rfl) _).setCell (fun _ => rfl) _).setCell (fun _ => rfl) _).setCell (fun _ => rfl) _⟩
  have HD := keepH (hD w0.drew C0.drew)
  have HC0 := keepH C0.drew
  have k00 : w0.cell? ⟨W.heap.size, 0, none⟩ = some (.int .u8 o.kd) := cell_of o0 0
  clear hs s0 o0 a0 C0 hD hG k5 k6 ls
  go_enter Try.func41, Try.ntmps41
  go_upto_region 1 with fail
  rw [← hw0]
  clear hw0
  go_upto_region 6 with fail
  clear k00
  refine wp_region_held_drew (S := fun w' => w'.heap[s]? = some (.cells (stC lk m sb N hc lf dn) 92 (0, 0)) ∧ w'.heap[W.heap.size]? = some (.cells #[.int .u8 o.kd, .int .u64 (o.k : Int), .int .u64 (o.v : Int), .int .u64 (o.od : Int), .int .u64 (o.hk : Int), .bool r5, .int .i64 r6, .int .i64 r7, .slice kp o.ks.length kc, .int .u64 (o.lo : Int), .int .u64 (o.hi : Int)] 34 (0, 0))) (by kernel_rfl) (HS0.out) ?_
  intro hHeld
  refine wpAnyH_take (i := 0) (v := ?_) rfl (by kernel_rfl) (by kernel_rfl) (by kernel_rfl) (fun _ _ _ h => h) (Or.inl ⟨by rfl, ?_⟩) hHeld ?_
  rotate_left
  · intro w hSw
    (try dsimp only at hSw)
    go_simp
    try with_reducible rfl
  (try simp only [Act.put]); (try simp only [List.setIfInBounds_toArray]); (repeat (first | simp only [List.set_cons_succ] | simp only [List.set_cons_zero]))
  refine wpAnyH_take (i := 1) (v := ?_) rfl (by kernel_rfl) (by kernel_rfl) (by kernel_rfl) (fun _ _ _ h => h) (Or.inl ⟨by rfl, ?_⟩) hHeld ?_
  rotate_left
  · intro w hSw
    (try dsimp only at hSw)
    go_simp
    try with_reducible rfl
  (try simp only [Act.put]); (try simp only [List.setIfInBounds_toArray]); (repeat (first | simp only [List.set_cons_succ] | simp only [List.set_cons_zero]))
  refine wpAnyH_take (i := 2) (v := ?_) rfl (by kernel_rfl) (by kernel_rfl) (by kernel_rfl) (fun _ _ _ h => h) (Or.inl ⟨by rfl, ?_⟩) hHeld ?_
  rotate_left
  · intro w hSw
    (try dsimp only at hSw)
    go_simp
    try with_reducible rfl
  (try simp only [Act.put]); (try simp only [List.setIfInBounds_toArray]); (repeat (first | simp only [List.set_cons_succ] | simp only [List.set_cons_zero]))
  refine wpAnyH_take (i := 3) (v := ?_) rfl (by kernel_rfl) (by kernel_rfl) (by kernel_rfl) (fun _ _ _ h => h) (Or.inl ⟨by rfl, ?_⟩) hHeld ?_
  rotate_left
  · intro w hSw
    (try dsimp only at hSw)
    have y2 := cell_of hSw.1 2
    unfold stC at y2
    clear hSw
    go_simp
    try with_reducible rfl
  (try simp only [Act.put]); (try simp only [List.setIfInBounds_toArray]); (repeat (first | simp only [List.set_cons_succ] | simp only [List.set_cons_zero]))
  refine wpAnyH_take (i := 4) (v := ?_) rfl (by kernel_rfl) (by kernel_rfl) (by kernel_rfl) (fun _ _ _ h => h) (Or.inl ⟨by rfl, ?_⟩) hHeld ?_
  rotate_left
  · intro w hSw
    (try dsimp only at hSw)
    have y0 := cell_of hSw.2 0
    have y1 := cell_of hSw.2 1
    have y2 := cell_of hSw.2 2
    have y3 := cell_of hSw.2 3
    have y4 := cell_of hSw.2 4
    have y5 := cell_of hSw.2 5
    have y6 := cell_of hSw.2 6
    have y7 := cell_of hSw.2 7
    have y8 := cell_of hSw.2 8
    have y9 := cell_of hSw.2 9
    have y10 := cell_of hSw.2 10
    clear hSw
    go_simp
    try with_reducible rfl
  (try simp only [Act.put]); (try simp only [List.setIfInBounds_toArray]); (repeat (first | simp only [List.set_cons_succ] | simp only [List.set_cons_zero]))
  refine wpAnyH_ready (rs := [5]) (by kernel_rfl) (by simp) ?_
  refine AllReadyH.cons rfl (fun KK hKK => ?_) AllReadyH.nil
  go_simp
  go_at_call 19
  refine HD.out.mono ?_
  rintro e z ⟨A, p, c, rfl, hQ, cz⟩
  obtain ⟨w9, hw9, hS1, hS9, g0, g1, g2, g3, g4, g5, g6, f0, f1, f2, f3, f4, f5, f6, e0, e1, e2, e3, e4, e5, e6, HC9⟩ := HE.out z A p c cz
  have HS1 := keepH hS1
  have HS9 := keepH hS9
  have HW9 := keepH hw9
  have HQ := keepH hQ
  have HCZ := keepH cz
  clear hw9 hQ cz hS1 hS9
  try go_wp2_with fail
  refine hKK.out _ _ ?_ (fun hHeld => ?_)
  · exact HS1.out
  clear hKK KK
  (try simp only [Act.put]); (try simp only [List.setIfInBounds_toArray]); (repeat (first | simp only [List.set_cons_succ] | simp only [List.set_cons_zero]))
  refine wpAnyH_ready (rs := [6]) (by kernel_rfl) (by simp) ?_
  refine AllReadyH.cons rfl (fun KK hKK => ?_) AllReadyH.nil
  go_simp
  refine hKK.out _ _ ?_ (fun hHeld => ?_)
  · (rw [← HW9.out]; exact HS9.out)
  clear hKK KK
  (try simp only [Act.put]); (try simp only [List.setIfInBounds_toArray]); (repeat (first | simp only [List.set_cons_succ] | simp only [List.set_cons_zero]))
  refine wpAnyH_done (by kernel_rfl) ?_ _
  go_simp
  rw [← HW9.out]
  go_wp2_with fail
  refine bodyPost_ret (v := .agg #[.int .i64 A.e, .bool A.f, .int .u64 (A.x : Int), .bool A.d, .int .u64 (A.h : Int), .slice p A.l.length c, .int .u64 (A.n : Int)]) (by simp [results, Try.results41, go_sem, e0, e1, e2, e3, e4, e5, e6]) rfl ?_
  exact ⟨A, p, c, w0.drew, z, rfl, HC0.out, Nat.le_of_eq HSZ.out.symm, HQ.out, HCZ.out, HC9.out⟩
end Go.Proofs.Ytahgaghokpicgaa
/- A snapshot told under the lock. -/
namespace Go.Proofs.Ytahgaghokpicgaa
open Go.RowKit Go.Maps
set_option linter.unusedVariables false

set_option maxRecDepth 100000 in
set_option maxHeartbeats 4000000 in
theorem snap_err {o : OpP} {r5 : Bool} {r6 r7 : Int} {kp : Option Addr} {kc : Nat} {er : Int} (he : er ≠ 0) {W : World} {s : Nat} 
    (hT : ∀ w, Chg (fun _ => False) W w → Calls Try.prog 90 #[.pointer (some ⟨s, 3, none⟩)] w fun e w' => e = .returned (.tuple #[.int .u64 0, .int .i64 er]) ∧ Chg (fun _ => False) w w') :
    Calls Try.prog 69 #[.pointer (some ⟨s, 0, none⟩), .agg #[.int .u8 o.kd, .int .u64 (o.k : Int), .int .u64 (o.v : Int), .int .u64 (o.od : Int), .int .u64 (o.hk : Int), .bool r5, .int .i64 r6, .int .i64 r7, .slice kp o.ks.length kc, .int .u64 (o.lo : Int), .int .u64 (o.hi : Int)]] W fun e W' => e = .returned (.agg #[.int .i64 er, .bool false, .int .u64 0, .bool false, .int .u64 0, .slice none 0 0, .int .u64 0]) ∧ Chg (fun _ => False) W W' := by
  have q : (er != 0) = true := by simpa using he
  obtain ⟨w0, hw0⟩ : ∃ w0, w0 = (W.alloc (.cells #[.int .u8 o.kd, .int .u64 (o.k : Int), .int .u64 (o.v : Int), .int .u64 (o.od : Int), .int .u64 (o.hk : Int), .bool r5, .int .i64 r6, .int .i64 r7, .slice kp o.ks.length kc, .int .u64 (o.lo : Int), .int .u64 (o.hi : Int)] 34)).alloc (.cells #[.int .i64 0, .bool false, .int .u64 0, .bool false, .int .u64 0, .slice none 0 0, .int .u64 0] 38) := ⟨_, rfl⟩
  have C0 : Chg (fun _ => False) W w0 := by rw [hw0]; exact ((Chg.refl _ _).alloc _).alloc _
  have o0 : w0.heap[W.heap.size]? = some (.cells #[.int .u8 o.kd, .int .u64 (o.k : Int), .int .u64 (o.v : Int), .int .u64 (o.od : Int), .int .u64 (o.hk : Int), .bool r5, .int .i64 r6, .int .i64 r7, .slice kp o.ks.length kc, .int .u64 (o.lo : Int), .int .u64 (o.hi : Int)] 34 (0, 0)) := by rw [hw0]; exact alloc_of (heap_alloc_new _ _) _
  have a0 : w0.heap[W.heap.size + 1]? = some (.cells #[.int .i64 0, .bool false, .int .u64 0, .bool false, .int .u64 0, .slice none 0 0, .int .u64 0] 38 (0, 0)) := by
    have e := heap_alloc_new (W.alloc (.cells #[.int .u8 o.kd, .int .u64 (o.k : Int), .int .u64 (o.v : Int), .int .u64 (o.od : Int), .int .u64 (o.hk : Int), .bool r5, .int .i64 r6, .int .i64 r7, .slice kp o.ks.length kc, .int .u64 (o.lo : Int), .int .u64 (o.hi : Int)] 34)) (.cells #[.int .i64 0, .bool false, .int .u64 0, .bool false, .int .u64 0, .slice none 0 0, .int .u64 0] 38)
    rw [World.size_alloc] at e
    rw [hw0]
    exact e
  have HSZ : Hid (w0.heap.size = W.heap.size + 2) := by rw [hw0]; show _ = _; simp
  have HT := keepH (hT w0 C0)
  have HE : Hid (∀ (z : World), Chg (fun _ => False) w0 z → ∃ w9, w9 = (((((((z.setCell ⟨W.heap.size + 1, 0, none⟩ (.int .i64 er)).setCell ⟨W.heap.size + 1, 1, none⟩ (.bool false)).setCell ⟨W.heap.size + 1, 2, none⟩ (.int .u64 0)).setCell ⟨W.heap.size + 1, 3, none⟩ (.bool false)).setCell ⟨W.heap.size + 1, 4, none⟩ (.int .u64 0)).setCell ⟨W.heap.size + 1, 5, none⟩ (.slice none 0 0)).setCell ⟨W.heap.size + 1, 6, none⟩ (.int .u64 0)) ∧ z.cell? ⟨W.heap.size + 1, 0, none⟩ = some (.int .i64 0) ∧ z.cell? ⟨W.heap.size + 1, 1, none⟩ = some (.bool false) ∧ z.cell? ⟨W.heap.size + 1, 2, none⟩ = some (.int .u64 0) ∧ z.cell? ⟨W.heap.size + 1, 3, none⟩ = some (.bool false) ∧ z.cell? ⟨W.heap.size + 1, 4, none⟩ = some (.int .u64 0) ∧ z.cell? ⟨W.heap.size + 1, 5, none⟩ = some (.slice none 0 0) ∧ z.cell? ⟨W.heap.size + 1, 6, none⟩ = some (.int .u64 0) ∧ z.frozen? ⟨W.heap.size + 1, 0, none⟩ = false ∧ z.frozen? ⟨W.heap.size + 1, 1, none⟩ = false ∧ z.frozen? ⟨W.heap.size + 1, 2, none⟩ = false ∧ z.frozen? ⟨W.heap.size + 1, 3, none⟩ = false ∧ z.frozen? ⟨W.heap.size + 1, 4, none⟩ = false ∧ z.frozen? ⟨W.heap.size + 1, 5, none⟩ = false ∧ z.frozen? ⟨W.heap.size + 1, 6, none⟩ = false ∧ w9.cell? ⟨W.heap.size + 1, 0, none⟩ = some (.int .i64 er) ∧ w9.cell? ⟨W.heap.size + 1, 1, none⟩ = some (.bool false) ∧ w9.cell? ⟨W.heap.size + 1, 2, none⟩ = some (.int .u64 0) ∧ w9.cell? ⟨W.heap.size + 1, 3, none⟩ = some (.bool false) ∧ w9.cell? ⟨W.heap.size + 1, 4, none⟩ = some (.int .u64 0) ∧ w9.cell? ⟨W.heap.size + 1, 5, none⟩ = some (.slice none 0 0) ∧ w9.cell? ⟨W.heap.size + 1, 6, none⟩ = some (.int .u64 0) ∧ Hid (Chg (fun _ => False) W w9)) := by
    intro z cz
    have az := (cz.block _ (lt_of a0) (fun x => x)).trans a0
    obtain ⟨w9, hw9⟩ : ∃ w9, w9 = (((((((z.setCell ⟨W.heap.size + 1, 0, none⟩ (.int .i64 er)).setCell ⟨W.heap.size + 1, 1, none⟩ (.bool false)).setCell ⟨W.heap.size + 1, 2, none⟩ (.int .u64 0)).setCell ⟨W.heap.size + 1, 3, none⟩ (.bool false)).setCell ⟨W.heap.size + 1, 4, none⟩ (.int .u64 0)).setCell ⟨W.heap.size + 1, 5, none⟩ (.slice none 0 0)).setCell ⟨W.heap.size + 1, 6, none⟩ (.int .u64 0)) := ⟨_, rfl⟩
    have a9 : w9.heap[W.heap.size + 1]? = some (.cells #[.int .i64 er, .bool false, .int .u64 0, .bool false, .int .u64 0, .slice none 0 0, .int .u64 0] 38 (0, 0)) := by rw [hw9]; exact set_of (set_of (set_of (set_of (set_of (set_of (set_of (az) 0 _) 1 _) 2 _) 3 _) 4 _) 5 _) 6 _
    have c9 : Chg (fun i => i = W.heap.size + 1) W w9 := by rw [hw9]; exact ((((((((C0.trans cz (H := fun i => i = W.heap.size + 1) (fun _ _ x => x.elim) (fun _ _ x => x.elim))).setCell (fun _ => rfl) _).setCell (fun _ => rfl) _).setCell (fun _ => rfl) _).setCell (fun _ => rfl) _).setCell (fun _ => rfl) _).setCell (fun _ => rfl) _).setCell (fun _ => rfl) _
    exact ⟨w9, hw9, cell_of az 0, cell_of az 1, cell_of az 2, cell_of az 3, cell_of az 4, cell_of az 5, cell_of az 6, free_of az 0, free_of az 1, free_of az 2, free_of az 3, free_of az 4, free_of az 5, free_of az 6, cell_of a9 0, cell_of a9 1, cell_of a9 2, cell_of a9 3, cell_of a9 4, cell_of a9 5, cell_of a9 6, c9.mono (fun i hi e => by omega)⟩
  clear o0 a0 C0 hT he
  go_enter Try.func69, Try.ntmps69
  go_upto_region 1 with fail
  rw [← hw0]
  clear hw0
  go_wp2_with fail
  refine HT.out.mono ?_
  rintro e z ⟨rfl, cz⟩
  obtain ⟨w9, hw9, g0, g1, g2, g3, g4, g5, g6, f0, f1, f2, f3, f4, f5, f6, e0, e1, e2, e3, e4, e5, e6, HC9⟩ := HE.out z cz
  have HW9 := keepH hw9
  clear hw9 cz
  go_wp2_with fail
  rw [← HW9.out]
  (try simp only [Exit.inBlock, Exit.then])
  refine bodyPost_ret (v := .agg #[.int .i64 er, .bool false, .int .u64 0, .bool false, .int .u64 0, .slice none 0 0, .int .u64 0]) (by simp [results, Try.results69, go_sem, e0, e1, e2, e3, e4, e5, e6]) rfl ?_
  exact ⟨rfl, HC9.out⟩
set_option maxRecDepth 100000 in
set_option maxHeartbeats 4000000 in
theorem snap_go {o : OpP} {r5 : Bool} {r6 r7 : Int} {kp : Option Addr} {kc : Nat} {th : Nat} {W : World} {s m sb : Nat} (hss : s < W.heap.size) (hsb : sb < W.heap.size) {T : World → World → Prop}
    (hT : ∀ w, Chg (fun _ => False) W w → Calls Try.prog 90 #[.pointer (some ⟨s, 3, none⟩)] w fun e w' => e = .returned (.tuple #[.int .u64 (th : Int), .int .i64 0]) ∧ T w w' ∧ Chg (fun k => k = s ∨ k = sb) w w')
    (hTs : ∀ w w', T w w' → ∃ cs : Array Value, w'.heap[s]? = some (.cells cs 92 (0, 0)) ∧ cs[2]? = some (.pointer (some ⟨m, 0, none⟩)))
    {G : Nat → Prop} (hG : ∀ k, G k → k < W.heap.size ∧ k ≠ s) {Q : World → World → Ans → Option Addr → Prop}
    (hD : ∀ w w' w2, Chg (fun _ => False) W w → T w w' → Chg (fun k => k = s ∨ k = sb) w w' → Chg (fun _ => False) w' w2 → Calls Try.prog 19 #[.pointer (some ⟨m, 0, none⟩), .agg #[.int .u8 o.kd, .int .u64 (o.k : Int), .int .u64 (o.v : Int), .int .u64 (o.od : Int), .int .u64 (o.hk : Int), .bool r5, .int .i64 r6, .int .i64 r7, .slice kp o.ks.length kc, .int .u64 (o.lo : Int), .int .u64 (o.hi : Int)], .int .u64 (th : Int)] w2 fun e w' => ∃ A p c, e = .returned (.agg #[.int .i64 A.e, .bool A.f, .int .u64 (A.x : Int), .bool A.d, .int .u64 (A.h : Int), .slice p A.l.length c, .int .u64 (A.n : Int)]) ∧ Q w2 w' A p ∧ Chg G w2 w') :
    Calls Try.prog 69 #[.pointer (some ⟨s, 0, none⟩), .agg #[.int .u8 o.kd, .int .u64 (o.k : Int), .int .u64 (o.v : Int), .int .u64 (o.od : Int), .int .u64 (o.hk : Int), .bool r5, .int .i64 r6, .int .i64 r7, .slice kp o.ks.length kc, .int .u64 (o.lo : Int), .int .u64 (o.hi : Int)]] W fun e W' => ∃ A p c w w' w2 w1, e = .returned (.agg #[.int .i64 A.e, .bool A.f, .int .u64 (A.x : Int), .bool A.d, .int .u64 (A.h : Int), .slice p A.l.length c, .int .u64 (A.n : Int)]) ∧ Chg (fun _ => False) W w ∧ W.heap.size + 2 ≤ w.heap.size ∧ T w w' ∧ Chg (fun k => k = s ∨ k = sb) w w' ∧ Chg (fun _ => False) w' w2 ∧ Q w2 w1 A p ∧ Chg G w2 w1 ∧ Chg (fun i => i = W.heap.size + 1) w1 W' := by
  obtain ⟨w0, hw0⟩ : ∃ w0, w0 = (W.alloc (.cells #[.int .u8 o.kd, .int .u64 (o.k : Int), .int .u64 (o.v : Int), .int .u64 (o.od : Int), .int .u64 (o.hk : Int), .bool r5, .int .i64 r6, .int .i64 r7, .slice kp o.ks.length kc, .int .u64 (o.lo : Int), .int .u64 (o.hi : Int)] 34)).alloc (.cells #[.int .i64 0, .bool false, .int .u64 0, .bool false, .int .u64 0, .slice none 0 0, .int .u64 0] 38) := ⟨_, rfl⟩
  have C0 : Chg (fun _ => False) W w0 := by rw [hw0]; exact ((Chg.refl _ _).alloc _).alloc _
  have o0 : w0.heap[W.heap.size]? = some (.cells #[.int .u8 o.kd, .int .u64 (o.k : Int), .int .u64 (o.v : Int), .int .u64 (o.od : Int), .int .u64 (o.hk : Int), .bool r5, .int .i64 r6, .int .i64 r7, .slice kp o.ks.length kc, .int .u64 (o.lo : Int), .int .u64 (o.hi : Int)] 34 (0, 0)) := by rw [hw0]; exact alloc_of (heap_alloc_new _ _) _
  have a0 : w0.heap[W.heap.size + 1]? = some (.cells #[.int .i64 0, .bool false, .int .u64 0, .bool false, .int .u64 0, .slice none 0 0, .int .u64 0] 38 (0, 0)) := by
    have e := heap_alloc_new (W.alloc (.cells #[.int .u8 o.kd, .int .u64 (o.k : Int), .int .u64 (o.v : Int), .int .u64 (o.od : Int), .int .u64 (o.hk : Int), .bool r5, .int .i64 r6, .int .i64 r7, .slice kp o.ks.length kc, .int .u64 (o.lo : Int), .int .u64 (o.hi : Int)] 34)) (.cells #[.int .i64 0, .bool false, .int .u64 0, .bool false, .int .u64 0, .slice none 0 0, .int .u64 0] 38)
    rw [World.size_alloc] at e
    rw [hw0]
    exact e
  have HSZ : Hid (w0.heap.size = W.heap.size + 2) := by rw [hw0]; show _ = _; simp
  have HT := keepH (hT w0 C0)
  have HTS := keepH hTs
  have HD := keepH hD
  have HC0 := keepH C0
  have HE : Hid (∀ (z0 z : World) (A : Ans) (p : Option Addr) (c : Nat), T w0 z0 → Chg (fun k => k = s ∨ k = sb) w0 z0 → Chg G z0.drew z → ∃ w9, w9 = (((((((z.setCell ⟨W.heap.size + 1, 0, none⟩ (.int .i64 A.e)).setCell ⟨W.heap.size + 1, 1, none⟩ (.bool A.f)).setCell ⟨W.heap.size + 1, 2, none⟩ (.int .u64 (A.x : Int))).setCell ⟨W.heap.size + 1, 3, none⟩ (.bool A.d)).setCell ⟨W.heap.size + 1, 4, none⟩ (.int .u64 (A.h : Int))).setCell ⟨W.heap.size + 1, 5, none⟩ (.slice p A.l.length c)).setCell ⟨W.heap.size + 1, 6, none⟩ (.int .u64 (A.n : Int))) ∧ ((∃ cs : Array Value, z.heap[s]? = some (.cells cs 92 (0, 0)) ∧ cs[2]? = some (.pointer (some ⟨m, 0, none⟩))) ∧ z.heap[W.heap.size]? = some (.cells #[.int .u8 o.kd, .int .u64 (o.k : Int), .int .u64 (o.v : Int), .int .u64 (o.od : Int), .int .u64 (o.hk : Int), .bool r5, .int .i64 r6, .int .i64 r7, .slice kp o.ks.length kc, .int .u64 (o.lo : Int), .int .u64 (o.hi : Int)] 34 (0, 0))) ∧ ((∃ cs : Array Value, w9.heap[s]? = some (.cells cs 92 (0, 0)) ∧ cs[2]? = some (.pointer (some ⟨m, 0, none⟩))) ∧ w9.heap[W.heap.size]? = some (.cells #[.int .u8 o.kd, .int .u64 (o.k : Int), .int .u64 (o.v : Int), .int .u64 (o.od : Int), .int .u64 (o.hk : Int), .bool r5, .int .i64 r6, .int .i64 r7, .slice kp o.ks.length kc, .int .u64 (o.lo : Int), .int .u64 (o.hi : Int)] 34 (0, 0))) ∧ z.cell? ⟨W.heap.size + 1, 0, none⟩ = some (.int .i64 0) ∧ z.cell? ⟨W.heap.size + 1, 1, none⟩ = some (.bool false) ∧ z.cell? ⟨W.heap.size + 1, 2, none⟩ = some (.int .u64 0) ∧ z.cell? ⟨W.heap.size + 1, 3, none⟩ = some (.bool false) ∧ z.cell? ⟨W.heap.size + 1, 4, none⟩ = some (.int .u64 0) ∧ z.cell? ⟨W.heap.size + 1, 5, none⟩ = some (.slice none 0 0) ∧ z.cell? ⟨W.heap.size + 1, 6, none⟩ = some (.int .u64 0) ∧ z.frozen? ⟨W.heap.size + 1, 0, none⟩ = false ∧ z.frozen? ⟨W.heap.size + 1, 1, none⟩ = false ∧ z.frozen? ⟨W.heap.size + 1, 2, none⟩ = false ∧ z.frozen? ⟨W.heap.size + 1, 3, none⟩ = false ∧ z.frozen? ⟨W.heap.size + 1, 4, none⟩ = false ∧ z.frozen? ⟨W.heap.size + 1, 5, none⟩ = false ∧ z.frozen? ⟨W.heap.size + 1, 6, none⟩ = false ∧ w9.cell? ⟨W.heap.size + 1, 0, none⟩ = some (.int .i64 A.e) ∧ w9.cell? ⟨W.heap.size + 1, 1, none⟩ = some (.bool A.f) ∧ w9.cell? ⟨W.heap.size + 1, 2, none⟩ = some (.int .u64 (A.x : Int)) ∧ w9.cell? ⟨W.heap.size + 1, 3, none⟩ = some (.bool A.d) ∧ w9.cell? ⟨W.heap.size + 1, 4, none⟩ = some (.int .u64 (A.h : Int)) ∧ w9.cell? ⟨W.heap.size + 1, 5, none⟩ = some (.slice p A.l.length c) ∧ w9.cell? ⟨W.heap.size + 1, 6, none⟩ = some (.int .u64 (A.n : Int)) ∧ Hid (Chg (fun i => i = W.heap.size + 1) z w9)) := by
    intro z0 z A p c ht c0 cz
    have nG : ∀ k, W.heap.size ≤ k → ¬ G k := fun k hk x => by have := (hG k x).1; omega
    have b0 : ∀ {k : Nat} {o : Obj}, w0.heap[k]? = some o → W.heap.size ≤ k → z.heap[k]? = some o := fun {k o} h hk => (cz.block _ (Nat.lt_of_lt_of_le (lt_of h) c0.size) (nG k hk)).trans ((c0.block _ (lt_of h) (by omega)).trans h)
    have oz := b0 o0 (Nat.le_refl _)
    have az := b0 a0 (Nat.le_succ _)
    obtain ⟨cs, sz0, hcs⟩ := hTs w0 z0 ht
    have sz := (cz.block s (lt_of sz0) (fun x => (hG s x).2 rfl)).trans sz0
    obtain ⟨w9, hw9⟩ : ∃ w9, w9 = (((((((z.setCell ⟨W.heap.size + 1, 0, none⟩ (.int .i64 A.e)).setCell ⟨W.heap.size + 1, 1, none⟩ (.bool A.f)).setCell ⟨W.heap.size + 1, 2, none⟩ (.int .u64 (A.x : Int))).setCell ⟨W.heap.size + 1, 3, none⟩ (.bool A.d)).setCell ⟨W.heap.size + 1, 4, none⟩ (.int .u64 (A.h : Int))).setCell ⟨W.heap.size + 1, 5, none⟩ (.slice p A.l.length c)).setCell ⟨W.heap.size + 1, 6, none⟩ (.int .u64 (A.n : Int))) := ⟨_, rfl⟩
    have a9 : w9.heap[W.heap.size + 1]? = some (.cells #[.int .i64 A.e, .bool A.f, .int .u64 (A.x : Int), .bool A.d, .int .u64 (A.h : Int), .slice p A.l.length c, .int .u64 (A.n : Int)] 38 (0, 0)) := by rw [hw9]; exact set_of (set_of (set_of (set_of (set_of (set_of (set_of (az) 0 _) 1 _) 2 _) 3 _) 4 _) 5 _) 6 _
    have s9 : w9.heap[s]? = some (.cells cs 92 (0, 0)) := by rw [hw9]; exact other_of (other_of (other_of (other_of (other_of (other_of (other_of (sz) (by omega) _) (by omega) _) (by omega) _) (by omega) _) (by omega) _) (by omega) _) (by omega) _
    have o9 : w9.heap[W.heap.size]? = some (.cells #[.int .u8 o.kd, .int .u64 (o.k : Int), .int .u64 (o.v : Int), .int .u64 (o.od : Int), .int .u64 (o.hk : Int), .bool r5, .int .i64 r6, .int .i64 r7, .slice kp o.ks.length kc, .int .u64 (o.lo : Int), .int .u64 (o.hi : Int)] 34 (0, 0)) := by rw [hw9]; exact other_of (other_of (other_of (other_of (other_of (other_of (other_of (oz) (by omega) _) (by omega) _) (by omega) _) (by omega) _) (by omega) _) (by omega) _) (by omega) _
    exact ⟨w9, hw9, ⟨⟨cs, sz, hcs⟩, oz⟩, ⟨⟨cs, s9, hcs⟩, o9⟩, cell_of az 0, cell_of az 1, cell_of az 2, cell_of az 3, cell_of az 4, cell_of az 5, cell_of az 6, free_of az 0, free_of az 1, free_of az 2, free_of az 3, free_of az 4, free_of az 5, free_of az 6, cell_of a9 0, cell_of a9 1, cell_of a9 2, cell_of a9 3, cell_of a9 4, cell_of a9 5, cell_of a9 6, by rw [hw9]; exact (((((((Chg.refl (fun i => i = W.heap.size + 1) z).setCell (fun _ => rfl) _).setCell (fun _ => rfl) _).setCell (fun _ => rfl) _).setCell (fun _ => rfl) _).setCell (fun _ => rfl) _).setCell (fun _ => rfl) _).setCell (fun _ => rfl) _⟩
  have HO0 := keepH o0
  have HB : Hid (s < W.heap.size ∧ sb < W.heap.size) := ⟨hss, hsb⟩
  clear o0 a0 C0 hT hTs hG hD hss hsb
  go_enter Try.func69, Try.ntmps69
  go_upto_region 1 with fail
  rw [← hw0]
  clear hw0
  go_wp2_with fail
  refine HT.out.mono ?_
  rintro e z0 ⟨rfl, ht, c0⟩
  have HS0 : Hid ((∃ cs : Array Value, z0.drew.heap[s]? = some (.cells cs 92 (0, 0)) ∧ cs[2]? = some (.pointer (some ⟨m, 0, none⟩))) ∧ z0.drew.heap[W.heap.size]? = some (.cells #[.int .u8 o.kd, .int .u64 (o.k : Int), .int .u64 (o.v : Int), .int .u64 (o.od : Int), .int .u64 (o.hk : Int), .bool r5, .int .i64 r6, .int .i64 r7, .slice kp o.ks.length kc, .int .u64 (o.lo : Int), .int .u64 (o.hi : Int)] 34 (0, 0))) := ⟨HTS.out w0 z0 ht, (c0.block _ (lt_of HO0.out) (by have := HB.out; omega)).trans HO0.out⟩
  have HDD := keepH (HD.out w0 z0 z0.drew HC0.out ht c0 (Chg.refl (fun _ => False) z0).drew)
  have HTT := keepH ht
  have HCT := keepH c0
  clear ht c0 HT HTS HD HO0
  go_upto_region 4 with fail
  refine wp_region_held_drew (S := fun w' => (∃ cs : Array Value, w'.heap[s]? = some (.cells cs 92 (0, 0)) ∧ cs[2]? = some (.pointer (some ⟨m, 0, none⟩))) ∧ w'.heap[W.heap.size]? = some (.cells #[.int .u8 o.kd, .int .u64 (o.k : Int), .int .u64 (o.v : Int), .int .u64 (o.od : Int), .int .u64 (o.hk : Int), .bool r5, .int .i64 r6, .int .i64 r7, .slice kp o.ks.length kc, .int .u64 (o.lo : Int), .int .u64 (o.hi : Int)] 34 (0, 0))) (by kernel_rfl) (HS0.out) ?_
  intro hHeld
  refine wpAnyH_take (i := 0) (v := ?_) rfl (by kernel_rfl) (by kernel_rfl) (by kernel_rfl) (fun _ _ _ h => h) (Or.inl ⟨by rfl, ?_⟩) hHeld ?_
  rotate_left
  · intro w hSw
    (try dsimp only at hSw)
    go_simp
    try with_reducible rfl
  (try simp only [Act.put]); (try simp only [List.setIfInBounds_toArray]); (repeat (first | simp only [List.set_cons_succ] | simp only [List.set_cons_zero]))
  refine wpAnyH_take (i := 1) (v := ?_) rfl (by kernel_rfl) (by kernel_rfl) (by kernel_rfl) (fun _ _ _ h => h) (Or.inl ⟨by rfl, ?_⟩) hHeld ?_
  rotate_left
  · intro w hSw
    (try dsimp only at hSw)
    go_simp
    try with_reducible rfl
  (try simp only [Act.put]); (try simp only [List.setIfInBounds_toArray]); (repeat (first | simp only [List.set_cons_succ] | simp only [List.set_cons_zero]))
  refine wpAnyH_take (i := 2) (v := ?_) rfl (by kernel_rfl) (by kernel_rfl) (by kernel_rfl) (fun _ _ _ h => h) (Or.inl ⟨by rfl, ?_⟩) hHeld ?_
  rotate_left
  · intro w hSw
    (try dsimp only at hSw)
    go_simp
    try with_reducible rfl
  (try simp only [Act.put]); (try simp only [List.setIfInBounds_toArray]); (repeat (first | simp only [List.set_cons_succ] | simp only [List.set_cons_zero]))
  refine wpAnyH_take (i := 3) (v := ?_) rfl (by kernel_rfl) (by kernel_rfl) (by kernel_rfl) (fun _ _ _ h => h) (Or.inl ⟨by rfl, ?_⟩) hHeld ?_
  rotate_left
  · intro w hSw
    (try dsimp only at hSw)
    obtain ⟨⟨cs, hc1, hc2⟩, _⟩ := hSw
    have y2 := (cell_of hc1 2).trans hc2
    clear hc1 hc2
    go_simp
    try with_reducible rfl
  (try simp only [Act.put]); (try simp only [List.setIfInBounds_toArray]); (repeat (first | simp only [List.set_cons_succ] | simp only [List.set_cons_zero]))
  refine wpAnyH_take (i := 4) (v := ?_) rfl (by kernel_rfl) (by kernel_rfl) (by kernel_rfl) (fun _ _ _ h => h) (Or.inl ⟨by rfl, ?_⟩) hHeld ?_
  rotate_left
  · intro w hSw
    (try dsimp only at hSw)
    have y0 := cell_of hSw.2 0
    have y1 := cell_of hSw.2 1
    have y2 := cell_of hSw.2 2
    have y3 := cell_of hSw.2 3
    have y4 := cell_of hSw.2 4
    have y5 := cell_of hSw.2 5
    have y6 := cell_of hSw.2 6
    have y7 := cell_of hSw.2 7
    have y8 := cell_of hSw.2 8
    have y9 := cell_of hSw.2 9
    have y10 := cell_of hSw.2 10
    clear hSw
    go_simp
    try with_reducible rfl
  (try simp only [Act.put]); (try simp only [List.setIfInBounds_toArray]); (repeat (first | simp only [List.set_cons_succ] | simp only [List.set_cons_zero]))
  refine wpAnyH_take (i := 5) (v := ?_) rfl (by kernel_rfl) (by kernel_rfl) (by kernel_rfl) (fun _ _ _ h => h) (Or.inl ⟨by rfl, ?_⟩) hHeld ?_
  rotate_left
  · intro w hSw
    (try dsimp only at hSw)
    go_simp
    try with_reducible rfl
  (try simp only [Act.put]); (try simp only [List.setIfInBounds_toArray]); (repeat (first | simp only [List.set_cons_succ] | simp only [List.set_cons_zero]))
  refine wpAnyH_ready (rs := [6]) (by kernel_rfl) (by simp) ?_
  refine AllReadyH.cons rfl (fun KK hKK => ?_) AllReadyH.nil
  go_simp
  go_at_call 19
  refine HDD.out.mono ?_
  rintro e z ⟨A, p, c, rfl, hQ, cz⟩
  obtain ⟨w9, hw9, hS1, hS9, g0, g1, g2, g3, g4, g5, g6, f0, f1, f2, f3, f4, f5, f6, e0, e1, e2, e3, e4, e5, e6, HC9⟩ := HE.out z0 z A p c HTT.out HCT.out cz
  have HS1 := keepH hS1
  have HS9 := keepH hS9
  have HW9 := keepH hw9
  have HQ := keepH hQ
  have HCZ := keepH cz
  clear hw9 hQ cz hS1 hS9
  try go_wp2_with fail
  refine hKK.out _ _ ?_ (fun hHeld => ?_)
  · exact HS1.out
  clear hKK KK
  (try simp only [Act.put]); (try simp only [List.setIfInBounds_toArray]); (repeat (first | simp only [List.set_cons_succ] | simp only [List.set_cons_zero]))
  refine wpAnyH_ready (rs := [7]) (by kernel_rfl) (by simp) ?_
  refine AllReadyH.cons rfl (fun KK hKK => ?_) AllReadyH.nil
  go_simp
  refine hKK.out _ _ ?_ (fun hHeld => ?_)
  · (rw [← HW9.out]; exact HS9.out)
  clear hKK KK
  (try simp only [Act.put]); (try simp only [List.setIfInBounds_toArray]); (repeat (first | simp only [List.set_cons_succ] | simp only [List.set_cons_zero]))
  refine wpAnyH_done (by kernel_rfl) ?_ _
  go_simp
  rw [← HW9.out]
  go_wp2_with fail
  refine bodyPost_ret (v := .agg #[.int .i64 A.e, .bool A.f, .int .u64 (A.x : Int), .bool A.d, .int .u64 (A.h : Int), .slice p A.l.length c, .int .u64 (A.n : Int)]) (by simp [results, Try.results69, go_sem, e0, e1, e2, e3, e4, e5, e6]) rfl ?_
  exact ⟨A, p, c, w0, z0, z0.drew, z, rfl, HC0.out, Nat.le_of_eq HSZ.out.symm, HTT.out, HCT.out, (Chg.refl (fun _ => False) z0).drew, HQ.out, HCZ.out, HC9.out⟩
end Go.Proofs.Ytahgaghokpicgaa
