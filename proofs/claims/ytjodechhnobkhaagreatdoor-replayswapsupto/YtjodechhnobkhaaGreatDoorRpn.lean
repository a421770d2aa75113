/- The document's SameAccess and SameTrace, of like accesses. -/
import Derived.Test.YtjodechhnobkhaaGreatDoorRpm
namespace Go.Proofs.YtjodechhnobkhaaGreatDoor
open Go.RowKit Go.Shelf
set_option linter.unusedVariables false

set_option maxRecDepth 100000 in
set_option maxHeartbeats 4000000 in
theorem s_acc (x : Ax) (p q : Option Addr) (c d : Nat) (W : World) (hp : URd W p x.vals) (hq : URd W q x.vals) (hl : x.vals.length ≤ 1048576) :
    Calls Tryz.prog 21 #[.agg (bxA x (.slice p x.vals.length c)), .agg (bxA x (.slice q x.vals.length d))] W fun e W' => e = .returned (.bool true) ∧ Below W.heap.size W W' := by
  obtain ⟨th, kind, addr, a, b, vals, got, ok⟩ := x
  simp only at hp hq hl ⊢
  obtain ⟨n, hn⟩ : ∃ n, n = vals.length := ⟨_, rfl⟩
  rw [← hn] at hl ⊢
  have HN := keepH hn
  clear hn
  obtain ⟨w0, hw0⟩ : ∃ w0, w0 = (W.alloc (.cells #[.int .i64 th, .int .u8 (kind : Int), .int .u64 (addr : Int), .int .u64 (a : Int), .int .u64 (b : Int), .slice p n c, .int .u64 (got : Int), .bool ok] 44)).alloc (.cells #[.int .i64 th, .int .u8 (kind : Int), .int .u64 (addr : Int), .int .u64 (a : Int), .int .u64 (b : Int), .slice q n d, .int .u64 (got : Int), .bool ok] 44) := ⟨_, rfl⟩
  have B0 : Below W.heap.size W w0 := by rw [hw0]; exact (below_alloc _ _).trans ((below_alloc _ _).mono (by simp))
  have B1 : w0.heap[W.heap.size]? = some (.cells #[.int .i64 th, .int .u8 (kind : Int), .int .u64 (addr : Int), .int .u64 (a : Int), .int .u64 (b : Int), .slice p n c, .int .u64 (got : Int), .bool ok] 44 (0, 0)) := by rw [hw0]; exact alloc_of (heap_alloc_new _ _) _
  have B2 : w0.heap[W.heap.size + 1]? = some (.cells #[.int .i64 th, .int .u8 (kind : Int), .int .u64 (addr : Int), .int .u64 (a : Int), .int .u64 (b : Int), .slice q n d, .int .u64 (got : Int), .bool ok] 44 (0, 0)) := by
    rw [hw0]
    have e := heap_alloc_new (W.alloc (.cells #[.int .i64 th, .int .u8 (kind : Int), .int .u64 (addr : Int), .int .u64 (a : Int), .int .u64 (b : Int), .slice p n c, .int .u64 (got : Int), .bool ok] 44)) (.cells #[.int .i64 th, .int .u8 (kind : Int), .int .u64 (addr : Int), .int .u64 (a : Int), .int .u64 (b : Int), .slice q n d, .int .u64 (got : Int), .bool ok] 44)
    rw [World.size_alloc] at e
    exact e
  have a0 : w0.cell? ⟨W.heap.size, 0, none⟩ = some (.int .i64 th) := cell_of B1 0
  have a1 : w0.cell? ⟨W.heap.size, 1, none⟩ = some (.int .u8 (kind : Int)) := cell_of B1 1
  have a2 : w0.cell? ⟨W.heap.size, 2, none⟩ = some (.int .u64 (addr : Int)) := cell_of B1 2
  have a3 : w0.cell? ⟨W.heap.size, 3, none⟩ = some (.int .u64 (a : Int)) := cell_of B1 3
  have a4 : w0.cell? ⟨W.heap.size, 4, none⟩ = some (.int .u64 (b : Int)) := cell_of B1 4
  have a5 : w0.cell? ⟨W.heap.size, 5, none⟩ = some (.slice p n c) := cell_of B1 5
  have a6 : w0.cell? ⟨W.heap.size, 6, none⟩ = some (.int .u64 (got : Int)) := cell_of B1 6
  have a7 : w0.cell? ⟨W.heap.size, 7, none⟩ = some (.bool ok) := cell_of B1 7
  have b0 : w0.cell? ⟨W.heap.size + 1, 0, none⟩ = some (.int .i64 th) := cell_of B2 0
  have b1 : w0.cell? ⟨W.heap.size + 1, 1, none⟩ = some (.int .u8 (kind : Int)) := cell_of B2 1
  have b2 : w0.cell? ⟨W.heap.size + 1, 2, none⟩ = some (.int .u64 (addr : Int)) := cell_of B2 2
  have b3 : w0.cell? ⟨W.heap.size + 1, 3, none⟩ = some (.int .u64 (a : Int)) := cell_of B2 3
  have b4 : w0.cell? ⟨W.heap.size + 1, 4, none⟩ = some (.int .u64 (b : Int)) := cell_of B2 4
  have b5 : w0.cell? ⟨W.heap.size + 1, 5, none⟩ = some (.slice q n d) := cell_of B2 5
  have b6 : w0.cell? ⟨W.heap.size + 1, 6, none⟩ = some (.int .u64 (got : Int)) := cell_of B2 6
  have b7 : w0.cell? ⟨W.heap.size + 1, 7, none⟩ = some (.bool ok) := cell_of B2 7
  have HB0 := keepH B0
  have HP := keepH (hp.on B0)
  have HQ := keepH (hq.on B0)
  have HW0 := keepH hw0
  clear hw0 B1 B2 B0 hp hq
  go_enter Tryz.func21, Tryz.ntmps21
  go_upto_region 1 with fail
  rw [← HW0.out]
  clear HW0
  go_wp2_with fail
  go_loopw [5] (fun s wr => ∃ i : Nat, i ≤ n ∧ s = .int .i64 (i : Int) ∧ Hid (∃ m, wr = w0.drewN m)) (fun s _ => n - (intOf s).toNat)
  case atStart => exact ⟨0, by omega, rfl, keepH ⟨0, rfl⟩⟩
  case round =>
    obtain ⟨i, hi, rfl, HM⟩ := hrel
    obtain ⟨m, hm⟩ := HM.out
    have D : Below w0.heap.size w0 wr := by rw [hm]; exact below_drewN (Below.refl _ _) _
    replace a5 := cell_below a5 D
    replace b5 := cell_below b5 D
    have HD := keepH D
    clear a0 a1 a2 a3 a4 a6 a7 b0 b1 b2 b3 b4 b6 b7 hm D
    by_cases hlt : i < n
    · have t1 : (i : Int) < (n : Int) := by omega
      obtain ⟨x, hx⟩ : ∃ x, vals[i]? = some x := ⟨vals[i]'(by rw [← HN.out]; exact hlt), List.getElem?_eq_getElem _⟩
      obtain ⟨bk, off, rfl, _, c0⟩ := (HP.out.on HD.out).get i x hx
      obtain ⟨bk', off', rfl, _, d0⟩ := (HQ.out.on HD.out).get i x hx
      obtain ⟨z, hz⟩ : ∃ z : Int, z = (x : Int) := ⟨_, rfl⟩
      rw [← hz] at c0 d0
      clear hx hz
      go_wp2_with fail
      go_quiet (fail)
      go_wp2_with fail
      go_roundw
      case rel => exact ⟨i + 1, by omega, by first | rfl | go_num, keepH (by obtain ⟨m, e⟩ := HM.out; exact ⟨m + nq, by rw [e]; simp [World.drewN, Nat.add_assoc]⟩)⟩
      case measure => simp [intOf]; omega
    · have t1 : ¬ (i : Int) < (n : Int) := by omega
      go_wp2_with fail
      go_ret
      exact ⟨by simp, below_chain HB0.out HD.out⟩

set_option maxRecDepth 100000 in
set_option maxHeartbeats 4000000 in
theorem s_trace (p q : Option Addr) (c d : Nat) (xs : List Ax) (W : World) (hp : ARd W p xs) (hq : ARd W q xs) (hl : xs.length ≤ 100000000) (hvl : ∀ x ∈ xs, x.vals.length ≤ 1048576) :
    Calls Tryz.prog 12 #[.slice p xs.length c, .slice q xs.length d] W fun e W' => e = .returned (.bool true) ∧ Below W.heap.size W W' := by
  obtain ⟨n, hn⟩ : ∃ n, n = xs.length := ⟨_, rfl⟩
  rw [← hn] at hl ⊢
  have HN := keepH hn
  have HP := keepH hp
  have HQ := keepH hq
  have HVL := keepH hvl
  clear hn hp hq hvl
  go_enter Tryz.func12, Tryz.ntmps12
  go_wp2_with fail
  go_loopw [5] (fun s wr => ∃ i : Nat, i ≤ n ∧ s = .int .i64 (i : Int) ∧ Hid (Below W.heap.size W wr)) (fun s _ => n - (intOf s).toNat)
  case atStart => exact ⟨0, by omega, rfl, keepH (Below.refl _ _)⟩
  case round =>
    obtain ⟨i, hi, rfl, HB⟩ := hrel
    by_cases hlt : i < n
    · have t1 : (i : Int) < (n : Int) := by omega
      have t0 : (0 : Int) ≤ (i : Int) := by omega
      obtain ⟨x, hx⟩ : ∃ x, xs[i]? = some x := ⟨xs[i]'(by rw [← HN.out]; exact hlt), List.getElem?_eq_getElem _⟩
      obtain ⟨bk, off, vp, vc, rfl, _, a0, a1, a2, a3, a4, a5, a6, a7, hu⟩ := (HP.out.on HB.out).get i x hx
      obtain ⟨bk', off', vp', vc', rfl, _, b0, b1, b2, b3, b4, b5, b6, b7, hu'⟩ := (HQ.out.on HB.out).get i x hx
      have HS : Hid (∀ w', Below wr.heap.size wr w' → Calls Tryz.prog 21 #[.agg (bxA x (.slice vp x.vals.length vc)), .agg (bxA x (.slice vp' x.vals.length vc'))] w' fun e W' => e = .returned (.bool true) ∧ Below w'.heap.size w' W') := keepH (fun w' hb => s_acc x vp vp' vc vc' w' (hu.on hb) (hu'.on hb) (HVL.out x (List.mem_of_getElem? hx)))
      obtain ⟨xth, xk, xad, xa, xb, xvals, xgot, xok⟩ := x
      simp only at HS a0 a1 a2 a3 a4 a5 a6 a7 b0 b1 b2 b3 b4 b5 b6 b7
      obtain ⟨vn, hvn⟩ : ∃ vn, vn = xvals.length := ⟨_, rfl⟩
      rw [← hvn] at HS a5 b5
      clear hx hvn hu hu'
      go_upto_region 6 with fail
      replace a0 := cell_regrown a0
      replace b0 := cell_regrown b0
      replace a1 := cell_regrown a1
      replace b1 := cell_regrown b1
      replace a2 := cell_regrown a2
      replace b2 := cell_regrown b2
      replace a3 := cell_regrown a3
      replace b3 := cell_regrown b3
      replace a4 := cell_regrown a4
      replace b4 := cell_regrown b4
      replace a5 := cell_regrown a5
      replace b5 := cell_regrown b5
      replace a6 := cell_regrown a6
      replace b6 := cell_regrown b6
      replace a7 := cell_regrown a7
      replace b7 := cell_regrown b7
      have G1 := keepH (fun dd os => Calls.regrown_of (w := wr) (d := dd) (os := os) (HS.out _ (below_regrown wr dd os)))
      have HB2 : Hid (∀ dq osq, Below W.heap.size W (Sort.grow (redrawn wr dq) osq)) := keepH (fun dq osq => below_chain HB.out (below_regrown wr dq osq))
      refine wp_region_quiet_below (by kernel_rfl) (by kernel_rfl) ?_
      repeat (go_big_quiet_step (first | exact G1.out _ _))
      refine wpQuiet_nil ?_
      intro _ hw'
      obtain ⟨⟨dq, osq⟩, hw''⟩ := hw'
      subst hw''
      go_wp2_with fail
      go_roundw
      case rel => exact ⟨i + 1, by omega, by first | rfl | go_num, keepH (HB2.out _ _)⟩
      case measure => simp [intOf]; omega
    · have t1 : ¬ (i : Int) < (n : Int) := by omega
      go_wp2_with fail
      go_ret
      exact ⟨by simp, HB.out⟩
end Go.Proofs.YtjodechhnobkhaaGreatDoor
