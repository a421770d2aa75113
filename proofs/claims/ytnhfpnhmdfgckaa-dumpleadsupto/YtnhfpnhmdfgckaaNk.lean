/- Do of any operation. -/
import Derived.Test.YtnhfpnhmdfgckaaNj
namespace Go.Proofs.Ytnhfpnhmdfgckaa
open Go.RowKit Go.Maps
set_option linter.unusedVariables false

theorem tellP_h (mu : Nat) (f : Nat → Option Nat) (pc : Nat → Option (Nat → Option Nat)) (o : OpP) {th : Nat} (hth : th < 18446744073709551616) : (tellP mu f pc o th).h < 18446744073709551616 := by
  unfold tellP
  split
  · exact Nat.zero_lt_succ _
  split
  · exact Nat.zero_lt_succ _
  split
  · split
    · exact Nat.zero_lt_succ _
    · exact hth
  split
  · split <;> exact Nat.zero_lt_succ _
  split
  · exact Nat.zero_lt_succ _
  split
  · split
    · exact Nat.zero_lt_succ _
    · split
      · exact Nat.zero_lt_succ _
      · split <;> exact Nat.zero_lt_succ _
  split <;> exact Nat.zero_lt_succ _
set_option maxRecDepth 100000 in
set_option maxHeartbeats 4000000 in
theorem Do_all {o : OpP} (ho : o.Ok) {r5 : Bool} {r6 r7 : Int} {kp : Option Addr} {kc th : Nat} (hth : th < 18446744073709551616) {W : World} {m nw hd mu : Nat} {f h : Nat → Option Nat} {g : Nat → Nat → Option Nat} {n : Nat} (H : MoAt W m nw hd mu f h g n) (hmu : mu ≤ 1024) (hn : n ≤ 8796093022000) (hks : KeysAt W kp o.ks) {A : Ans} (hA : A = tellP mu f (pcs h g) o th) :
    Calls Try.prog 33 #[.pointer (some ⟨m, 0, none⟩), .agg #[.int .u8 o.kd, .int .u64 (o.k : Int), .int .u64 (o.v : Int), .int .u64 (o.od : Int), .int .u64 (o.hk : Int), .bool r5, .int .i64 r6, .int .i64 r7, .slice kp o.ks.length kc, .int .u64 (o.lo : Int), .int .u64 (o.hi : Int)], .int .u64 (th : Int)] W fun e W' => Told W W' A e ∧ (∃ cl, W.heap.size ≤ cl ∧ MoAt W' m nw hd mu (doF o A f) (doH o A cl h) (setG g cl f) (n + 1)) ∧ Chg (fun i => i = nw ∨ i = hd) W W' := by
  have hAh : A.h < 18446744073709551616 := by rw [hA]; exact tellP_h mu f _ o hth
  obtain ⟨w0, hw0⟩ : ∃ w0, w0 = (W.alloc (.cells #[.int .u8 o.kd, .int .u64 (o.k : Int), .int .u64 (o.v : Int), .int .u64 (o.od : Int), .int .u64 (o.hk : Int), .bool r5, .int .i64 r6, .int .i64 r7, .slice kp o.ks.length kc, .int .u64 (o.lo : Int), .int .u64 (o.hi : Int)] 66)).alloc (.cells #[.int .i64 0, .bool false, .int .u64 0, .bool false, .int .u64 0, .slice none 0 0, .int .u64 0] 59) := ⟨_, rfl⟩
  have C0 : Chg (fun _ => False) W w0 := by rw [hw0]; exact ((Chg.refl _ _).alloc _).alloc _
  have o0 : w0.heap[W.heap.size]? = some (.cells #[.int .u8 o.kd, .int .u64 (o.k : Int), .int .u64 (o.v : Int), .int .u64 (o.od : Int), .int .u64 (o.hk : Int), .bool r5, .int .i64 r6, .int .i64 r7, .slice kp o.ks.length kc, .int .u64 (o.lo : Int), .int .u64 (o.hi : Int)] 66 (0, 0)) := by rw [hw0]; exact alloc_of (heap_alloc_new _ _) _
  have a0 : w0.heap[W.heap.size + 1]? = some (.cells #[.int .i64 0, .bool false, .int .u64 0, .bool false, .int .u64 0, .slice none 0 0, .int .u64 0] 59 (0, 0)) := by
    have e := heap_alloc_new (W.alloc (.cells #[.int .u8 o.kd, .int .u64 (o.k : Int), .int .u64 (o.v : Int), .int .u64 (o.od : Int), .int .u64 (o.hk : Int), .bool r5, .int .i64 r6, .int .i64 r7, .slice kp o.ks.length kc, .int .u64 (o.lo : Int), .int .u64 (o.hi : Int)] 66)) (.cells #[.int .i64 0, .bool false, .int .u64 0, .bool false, .int .u64 0, .slice none 0 0, .int .u64 0] 59)
    rw [World.size_alloc] at e
    rw [hw0]
    exact e
  have HC0 := keepH C0
  have HO0 := keepH o0
  have HA0 := keepH a0
  have HM0 := keepH (H.quiet C0)
  have HBL := keepH H.blk
  have HK0 := keepH (hks.chg C0 (fun _ _ _ x => x))
  have HOK := keepH ho
  have HT := keepH (tells_all ho (r5 := r5) (r6 := r6) (r7 := r7) (kc := kc) hth HM0.out hmu hn HK0.out)
  rw [← hA] at HT
  have HSZ : Hid (w0.heap.size = W.heap.size + 2) := by rw [hw0]; show _ = _; simp
  have HN : Hid (n ≤ 8796093022000 ∧ A.h < 18446744073709551616) := ⟨hn, hAh⟩
  have c0 : w0.cell? ⟨W.heap.size, 0, none⟩ = some (.int .u8 o.kd) := cell_of o0 0
  have c1 : w0.cell? ⟨W.heap.size, 1, none⟩ = some (.int .u64 (o.k : Int)) := cell_of o0 1
  have c2 : w0.cell? ⟨W.heap.size, 2, none⟩ = some (.int .u64 (o.v : Int)) := cell_of o0 2
  have c3 : w0.cell? ⟨W.heap.size, 3, none⟩ = some (.int .u64 (o.od : Int)) := cell_of o0 3
  have c4 : w0.cell? ⟨W.heap.size, 4, none⟩ = some (.int .u64 (o.hk : Int)) := cell_of o0 4
  have c5 : w0.cell? ⟨W.heap.size, 5, none⟩ = some (.bool r5) := cell_of o0 5
  have c6 : w0.cell? ⟨W.heap.size, 6, none⟩ = some (.int .i64 r6) := cell_of o0 6
  have c7 : w0.cell? ⟨W.heap.size, 7, none⟩ = some (.int .i64 r7) := cell_of o0 7
  have c8 : w0.cell? ⟨W.heap.size, 8, none⟩ = some (.slice kp o.ks.length kc) := cell_of o0 8
  have c9 : w0.cell? ⟨W.heap.size, 9, none⟩ = some (.int .u64 (o.lo : Int)) := cell_of o0 9
  have c10 : w0.cell? ⟨W.heap.size, 10, none⟩ = some (.int .u64 (o.hi : Int)) := cell_of o0 10
  clear C0 o0 a0 H hks ho hth hmu hA hAh hn
  go_enter Try.func33, Try.ntmps33
  go_upto_region 1 with fail
  rw [← hw0]
  clear hw0
  go_wp2_with fail
  refine HT.out.mono ?_
  rintro e w1 ⟨⟨p, c, rfl, hP, hPB, hPL⟩, C1⟩
  unfold ansC
  obtain ⟨w2, hw2⟩ : ∃ w2, w2 = w1.alloc (.cells #[.int .i64 A.e, .bool A.f, .int .u64 (A.x : Int), .bool A.d, .int .u64 (A.h : Int), .slice p A.l.length c, .int .u64 (A.n : Int)] 59) := ⟨_, rfl⟩
  have C2 : Chg (fun _ => False) w0 w2 := by rw [hw2]; exact C1.alloc _
  have HT2 : Hid (w2.heap[w1.heap.size]? = some (.cells #[.int .i64 A.e, .bool A.f, .int .u64 (A.x : Int), .bool A.d, .int .u64 (A.h : Int), .slice p A.l.length c, .int .u64 (A.n : Int)] 59 (0, 0))) := by rw [hw2]; exact heap_alloc_new _ _
  have HO2 : Hid (w2.heap[W.heap.size]? = some (.cells #[.int .u8 o.kd, .int .u64 (o.k : Int), .int .u64 (o.v : Int), .int .u64 (o.od : Int), .int .u64 (o.hk : Int), .bool r5, .int .i64 r6, .int .i64 r7, .slice kp o.ks.length kc, .int .u64 (o.lo : Int), .int .u64 (o.hi : Int)] 66 (0, 0))) := (C2.block _ (lt_of HO0.out) (fun x => x)).trans HO0.out
  have HA2 : Hid (w2.heap[W.heap.size + 1]? = some (.cells #[.int .i64 0, .bool false, .int .u64 0, .bool false, .int .u64 0, .slice none 0 0, .int .u64 0] 59 (0, 0))) := (C2.block _ (lt_of HA0.out) (fun x => x)).trans HA0.out
  have HM2 := keepH (HM0.out.quiet C2)
  have HP2 : Hid (PairsAt w2 p A.l ∧ (∀ bk off, p = some ⟨bk, off, none⟩ → w0.heap.size ≤ bk) ∧ A.l.length ≤ 8796093022000) := ⟨hP.chg (by rw [hw2]; exact (Chg.refl _ _).alloc _), hPB, hPL⟩
  have HC2 : Hid (Chg (fun _ => False) W w2) := HC0.out.trans C2 (fun _ _ x => x) (fun _ _ x => x)
  have HZ2 : Hid (w0.heap.size ≤ w1.heap.size) := C1.size
  clear C1 C2 hP hPB hPL c0 c1 c2 c3 c4 c5 c6 c7 c8 c9 c10
  go_upto_region 4 with fail
  rw [← hw2]
  clear hw2
  have c0 : w2.cell? ⟨W.heap.size, 0, none⟩ = some (.int .u8 o.kd) := cell_of HO2.out 0
  have c1 : w2.cell? ⟨W.heap.size, 1, none⟩ = some (.int .u64 (o.k : Int)) := cell_of HO2.out 1
  have c2 : w2.cell? ⟨W.heap.size, 2, none⟩ = some (.int .u64 (o.v : Int)) := cell_of HO2.out 2
  have c3 : w2.cell? ⟨W.heap.size, 3, none⟩ = some (.int .u64 (o.od : Int)) := cell_of HO2.out 3
  have c4 : w2.cell? ⟨W.heap.size, 4, none⟩ = some (.int .u64 (o.hk : Int)) := cell_of HO2.out 4
  have c5 : w2.cell? ⟨W.heap.size, 5, none⟩ = some (.bool r5) := cell_of HO2.out 5
  have c6 : w2.cell? ⟨W.heap.size, 6, none⟩ = some (.int .i64 r6) := cell_of HO2.out 6
  have c7 : w2.cell? ⟨W.heap.size, 7, none⟩ = some (.int .i64 r7) := cell_of HO2.out 7
  have c8 : w2.cell? ⟨W.heap.size, 8, none⟩ = some (.slice kp o.ks.length kc) := cell_of HO2.out 8
  have c9 : w2.cell? ⟨W.heap.size, 9, none⟩ = some (.int .u64 (o.lo : Int)) := cell_of HO2.out 9
  have c10 : w2.cell? ⟨W.heap.size, 10, none⟩ = some (.int .u64 (o.hi : Int)) := cell_of HO2.out 10
  have t0 : w2.cell? ⟨w1.heap.size, 0, none⟩ = some (.int .i64 A.e) := cell_of HT2.out 0
  have t1 : w2.cell? ⟨w1.heap.size, 1, none⟩ = some (.bool A.f) := cell_of HT2.out 1
  have t2 : w2.cell? ⟨w1.heap.size, 2, none⟩ = some (.int .u64 (A.x : Int)) := cell_of HT2.out 2
  have t3 : w2.cell? ⟨w1.heap.size, 3, none⟩ = some (.bool A.d) := cell_of HT2.out 3
  have t4 : w2.cell? ⟨w1.heap.size, 4, none⟩ = some (.int .u64 (A.h : Int)) := cell_of HT2.out 4
  have t5 : w2.cell? ⟨w1.heap.size, 5, none⟩ = some (.slice p A.l.length c) := cell_of HT2.out 5
  have t6 : w2.cell? ⟨w1.heap.size, 6, none⟩ = some (.int .u64 (A.n : Int)) := cell_of HT2.out 6
  have HD := keepH (do_all HOK.out (r5 := r5) (r6 := r6) (r7 := r7) (kp := kp) (kc := kc) (p := p) (c := c) HN.out.2 HM2.out HN.out.1)
  go_wp2_with fail
  refine HD.out.mono ?_
  rintro e w3 ⟨rfl, ⟨cl, hcl, hM3⟩, C3⟩
  have B3 : ¬ (w1.heap.size = nw ∨ w1.heap.size = hd) ∧ ¬ (W.heap.size + 1 = nw ∨ W.heap.size + 1 = hd) := by
    have z1 := HBL.out.2.1
    have z2 := HBL.out.2.2.1
    have z3 := HZ2.out
    have z4 := HSZ.out
    omega
  have HT3 : Hid (w3.heap[w1.heap.size]? = some (.cells #[.int .i64 A.e, .bool A.f, .int .u64 (A.x : Int), .bool A.d, .int .u64 (A.h : Int), .slice p A.l.length c, .int .u64 (A.n : Int)] 59 (0, 0))) := (C3.block _ (lt_of HT2.out) B3.1).trans HT2.out
  have A3 : w3.heap[W.heap.size + 1]? = some (.cells #[.int .i64 0, .bool false, .int .u64 0, .bool false, .int .u64 0, .slice none 0 0, .int .u64 0] 59 (0, 0)) := (C3.block _ (lt_of HA2.out) B3.2).trans HA2.out
  have HC3 : Hid (Chg (fun i => i = nw ∨ i = hd) W w3) := HC2.out.trans C3 (fun _ _ x => x.elim) (fun _ _ x => x)
  have HCL : Hid (W.heap.size ≤ cl) := Nat.le_trans HC2.out.size hcl
  have HCLW : Hid (W.heap.size + 2 ≤ cl) := by have z1 := HSZ.out; have z2 := HZ2.out; have z3 := lt_of HT2.out; show _ ≤ _; omega
  have HM3 := keepH hM3
  have HP3 : Hid (PairsAt w3 p A.l) := HP2.out.1.chgF C3 (fun bk off e => by
    have z1 := HBL.out.2.1
    have z2 := HBL.out.2.2.1
    have z4 := HSZ.out
    have z5 := HP2.out.2.1 bk off e
    omega)
  clear hM3 C3 B3 hcl c0 c1 c2 c3 c4 c5 c6 c7 c8 c9 c10 t0 t1 t2 t3 t4 t5 t6
  obtain ⟨w4, hw4⟩ : ∃ w4, w4 = w3.setCells (W.heap.size + 1) 0 (#[.int .i64 A.e, .bool A.f, .int .u64 (A.x : Int), .bool A.d, .int .u64 (A.h : Int), .slice p A.l.length c, .int .u64 (A.n : Int)] : Array Value).toList := ⟨_, rfl⟩
  have A4 : w4.heap[W.heap.size + 1]? = some (.cells #[.int .i64 A.e, .bool A.f, .int .u64 (A.x : Int), .bool A.d, .int .u64 (A.h : Int), .slice p A.l.length c, .int .u64 (A.n : Int)] 59 (0, 0)) := by
    rw [hw4]
    exact setCells_of 59 (W.heap.size + 1) (#[.int .i64 A.e, .bool A.f, .int .u64 (A.x : Int), .bool A.d, .int .u64 (A.h : Int), .slice p A.l.length c, .int .u64 (A.n : Int)] : Array Value).toList [] (#[.int .i64 0, .bool false, .int .u64 0, .bool false, .int .u64 0, .slice none 0 0, .int .u64 0] : Array Value).toList [] w3 A3 rfl
  have HK4 : Hid (Chg (fun k => k = W.heap.size + 1) w3 w4) := by rw [hw4]; exact setCells_chg (W.heap.size + 1) _ 0 _
  have HTH : Hid (w3.there (W.heap.size + 1) 0 7) := fun j hj => ⟨by rw [cell_of A3]; match j, hj with | 0, _ => rfl | 1, _ => rfl | 2, _ => rfl | 3, _ => rfl | 4, _ => rfl | 5, _ => rfl | 6, _ => rfl, free_of A3 _⟩
  have HW := keepH hw4
  have q0 : w4.cell? ⟨W.heap.size + 1, 0, none⟩ = some (.int .i64 A.e) := cell_of A4 0
  have q1 : w4.cell? ⟨W.heap.size + 1, 1, none⟩ = some (.bool A.f) := cell_of A4 1
  have q2 : w4.cell? ⟨W.heap.size + 1, 2, none⟩ = some (.int .u64 (A.x : Int)) := cell_of A4 2
  have q3 : w4.cell? ⟨W.heap.size + 1, 3, none⟩ = some (.bool A.d) := cell_of A4 3
  have q4 : w4.cell? ⟨W.heap.size + 1, 4, none⟩ = some (.int .u64 (A.h : Int)) := cell_of A4 4
  have q5 : w4.cell? ⟨W.heap.size + 1, 5, none⟩ = some (.slice p A.l.length c) := cell_of A4 5
  have q6 : w4.cell? ⟨W.heap.size + 1, 6, none⟩ = some (.int .u64 (A.n : Int)) := cell_of A4 6
  have t0 : w3.cell? ⟨w1.heap.size, 0, none⟩ = some (.int .i64 A.e) := cell_of HT3.out 0
  have t1 : w3.cell? ⟨w1.heap.size, 1, none⟩ = some (.bool A.f) := cell_of HT3.out 1
  have t2 : w3.cell? ⟨w1.heap.size, 2, none⟩ = some (.int .u64 (A.x : Int)) := cell_of HT3.out 2
  have t3 : w3.cell? ⟨w1.heap.size, 3, none⟩ = some (.bool A.d) := cell_of HT3.out 3
  have t4 : w3.cell? ⟨w1.heap.size, 4, none⟩ = some (.int .u64 (A.h : Int)) := cell_of HT3.out 4
  have t5 : w3.cell? ⟨w1.heap.size, 5, none⟩ = some (.slice p A.l.length c) := cell_of HT3.out 5
  have t6 : w3.cell? ⟨w1.heap.size, 6, none⟩ = some (.int .u64 (A.n : Int)) := cell_of HT3.out 6
  clear hw4 A3 A4
  go_wp2_with (refine wpList_store_mid rfl 59 (.tmp 6) (.tmp 19) rfl (W.heap.size + 1) 0 #[.int .i64 A.e, .bool A.f, .int .u64 (A.x : Int), .bool A.d, .int .u64 (A.h : Int), .slice p A.l.length c, .int .u64 (A.n : Int)] rfl rfl HTH.out (by kernel_rfl) (by kernel_rfl) ?_; rw [← HW.out]; clear HW HTH)
  (try go_wp2_with fail)
  refine bodyPost_ret (v := .agg #[.int .i64 A.e, .bool A.f, .int .u64 (A.x : Int), .bool A.d, .int .u64 (A.h : Int), .slice p A.l.length c, .int .u64 (A.n : Int)]) (by simp [results, Try.results33, go_sem, q0, q1, q2, q3, q4, q5, q6]) rfl ?_
  have z1 := HBL.out
  have z4 := HSZ.out
  have z5 := HC3.out.size
  refine ⟨⟨p, c, rfl, ?_, ?_, HP2.out.2.2⟩, ⟨cl, HCL.out, ?_⟩, HC3.out.trans HK4.out (fun _ _ x => x) (fun i hi e => by omega)⟩
  · exact HP3.out.chgF HK4.out (fun bk off e => by have := HP2.out.2.1 bk off e; omega)
  · intro bk off e
    have := HP2.out.2.1 bk off e
    omega
  · refine HM3.out.chg HK4.out (by omega) (by omega) (by omega) (fun k b hb => ?_)
    have hlt : b < W.heap.size ∨ b = cl := by
      unfold doH at hb
      split at hb
      · by_cases q : k = A.h
        · subst q; rw [updO_same] at hb; injection hb with hb; exact .inr hb.symm
        · rw [updO_other _ _ q] at hb; exact .inl (z1.2.2.2 k b hb)
      · split at hb
        · by_cases q : k = o.hk
          · subst q; rw [updO_same] at hb; cases hb
          · rw [updO_other _ _ q] at hb; exact .inl (z1.2.2.2 k b hb)
        · exact .inl (z1.2.2.2 k b hb)
    have z6 := HCLW.out
    omega
end Go.Proofs.Ytnhfpnhmdfgckaa
