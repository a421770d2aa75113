/- Take's other ways. -/
import Derived.Test.YtahgaghokpicgaaGreatW19Nt
import Derived.Test.YtahgaghokpicgaaGreatW13Npe
namespace Go.Proofs.YtahgaghokpicgaaGreat
open Go.RowKit Go.Maps
set_option linter.unusedVariables false
set_option maxHeartbeats 16000000
set_option maxRecDepth 100000 in
theorem take_no5b {o : OpP} (ho : o.Ok) {r5 : Bool} {r6 r7 : Int} {kp pb : Option Addr} {kc cb : Nat} {B : Ans} (hBh : B.h < 18446744073709551616) {W : World} {m nw hd mu : Nat} {f h : Nat → Option Nat} {g : Nat → Nat → Option Nat} {n : Nat} (H : MoAt W m nw hd mu f h g n) (hmu : mu ≤ 1024) (hn : n ≤ 8796093022000) (hks : KeysAt W kp o.ks) (hB : PairsAt W pb B.l) (hBl : B.l.length ≤ 9223372036854775807) {A : Ans} (hA : A = tellP mu f (pcs h g) o B.h) (hm : mayP o.kd B.e A.e = false) (k5 : o.kd = 5) (h0 : ¬ B.h = 0) (hne : ¬ B = A) :
    Calls Tryz.prog 13 #[.pointer (some ⟨m, 0, none⟩), .agg #[.int .u8 o.kd, .int .u64 o.k, .int .u64 o.v, .int .u64 o.od, .int .u64 o.hk, .bool r5, .int .i64 r6, .int .i64 r7, .slice kp o.ks.length kc, .int .u64 o.lo, .int .u64 o.hi], .agg #[.int .i64 B.e, .bool B.f, .int .u64 B.x, .bool B.d, .int .u64 B.h, .slice pb B.l.length cb, .int .u64 B.n]] W fun e W' => e = .returned (.bool false) ∧ Chg (fun _ => False) W W' := by
 have hAh : A.h < 18446744073709551616 := by rw [hA]; exact tellP_h mu f _ o hBh
 obtain ⟨w0, hw0⟩ : ∃ w0, w0 = (W.alloc (.cells #[.int .u8 o.kd, .int .u64 o.k, .int .u64 o.v, .int .u64 o.od, .int .u64 o.hk, .bool r5, .int .i64 r6, .int .i64 r7, .slice kp o.ks.length kc, .int .u64 o.lo, .int .u64 o.hi] 35)).alloc (.cells #[.int .i64 B.e, .bool B.f, .int .u64 B.x, .bool B.d, .int .u64 B.h, .slice pb B.l.length cb, .int .u64 B.n] 39) := ⟨_, rfl⟩
 have C0 : Chg (fun _ => False) W w0 := by rw [hw0]; exact ((Chg.refl _ _).alloc _).alloc _
 have o0 : w0.heap[W.heap.size]? = some (.cells #[.int .u8 o.kd, .int .u64 o.k, .int .u64 o.v, .int .u64 o.od, .int .u64 o.hk, .bool r5, .int .i64 r6, .int .i64 r7, .slice kp o.ks.length kc, .int .u64 o.lo, .int .u64 o.hi] 35 (0, 0)) := by rw [hw0]; exact alloc_of (heap_alloc_new _ _) _
 have a0 : w0.heap[W.heap.size + 1]? = some (.cells #[.int .i64 B.e, .bool B.f, .int .u64 B.x, .bool B.d, .int .u64 B.h, .slice pb B.l.length cb, .int .u64 B.n] 39 (0, 0)) := by
  rw [hw0]
  exact al2
 have HC0 := keepH C0
 have HO0 := keepH o0
 have HA0 := keepH a0
 have HM0 := keepH (H.quiet C0)
 have HBL := keepH H.blk
 have HK0 := keepH (hks.chg C0 (fun _ _ _ x => x))
 have HPB := keepH (hB.chg C0)
 have HOK := keepH ho
 have HT := keepH (tells_all ho (r5 := r5) (r6 := r6) (r7 := r7) (kc := kc) hBh HM0.out hmu hn HK0.out)
 rw [← hA] at HT
 have HSZ : Hid (w0.heap.size = W.heap.size + 2) := by rw [hw0]; show _ = _; simp
 have HN : Hid (n ≤ 8796093022000 ∧ A.h < 18446744073709551616) := ⟨hn, hAh⟩
 have HMP := keepH hm
 have HNE := keepH hne
 have z5 : (o.kd == 5) = true := by simpa using k5
 have z10 : (o.kd == 10) = false := by simp [k5]
 have zh : ((B.h : Int) == 0) = false := by simp; omega
 clear hm hne k5
 have c0 : w0.cell? ⟨W.heap.size, 0, none⟩ = some (.int .u8 o.kd) := cell_of o0 0
 have c1 : w0.cell? ⟨W.heap.size, 1, none⟩ = some (.int .u64 o.k) := cell_of o0 1
 have c2 : w0.cell? ⟨W.heap.size, 2, none⟩ = some (.int .u64 o.v) := cell_of o0 2
 have c3 : w0.cell? ⟨W.heap.size, 3, none⟩ = some (.int .u64 o.od) := cell_of o0 3
 have c4 : w0.cell? ⟨W.heap.size, 4, none⟩ = some (.int .u64 o.hk) := cell_of o0 4
 have c5 : w0.cell? ⟨W.heap.size, 5, none⟩ = some (.bool r5) := cell_of o0 5
 have c6 : w0.cell? ⟨W.heap.size, 6, none⟩ = some (.int .i64 r6) := cell_of o0 6
 have c7 : w0.cell? ⟨W.heap.size, 7, none⟩ = some (.int .i64 r7) := cell_of o0 7
 have c8 : w0.cell? ⟨W.heap.size, 8, none⟩ = some (.slice kp o.ks.length kc) := cell_of o0 8
 have c9 : w0.cell? ⟨W.heap.size, 9, none⟩ = some (.int .u64 o.lo) := cell_of o0 9
 have c10 : w0.cell? ⟨W.heap.size, 10, none⟩ = some (.int .u64 o.hi) := cell_of o0 10
 have b4 : w0.cell? ⟨W.heap.size + 1, 4, none⟩ = some (.int .u64 B.h) := cell_of a0 4
 clear C0 o0 a0 H hks ho hBh hmu hA hAh hn hB
 go_enter Tryz.func13, Tryz.ntmps13
 go_upto_region 1 with fail
 rw [← hw0]
 clear hw0
 go_wp2_with fail
 refine HT.out.mono ?_
 rintro e w1 ⟨⟨p, c, rfl, hP, hPB, hPL⟩, C1⟩
 unfold ansC
 obtain ⟨w2, hw2⟩ : ∃ w2, w2 = w1.alloc (.cells #[.int .i64 A.e, .bool A.f, .int .u64 A.x, .bool A.d, .int .u64 A.h, .slice p A.l.length c, .int .u64 A.n] 39) := ⟨_, rfl⟩
 have C2 : Chg (fun _ => False) w0 w2 := by rw [hw2]; exact C1.alloc _
 have HT2 : Hid (w2.heap[w1.heap.size]? = some (.cells #[.int .i64 A.e, .bool A.f, .int .u64 A.x, .bool A.d, .int .u64 A.h, .slice p A.l.length c, .int .u64 A.n] 39 (0, 0))) := by rw [hw2]; exact heap_alloc_new _ _
 have HO2 : Hid (w2.heap[W.heap.size]? = some (.cells #[.int .u8 o.kd, .int .u64 o.k, .int .u64 o.v, .int .u64 o.od, .int .u64 o.hk, .bool r5, .int .i64 r6, .int .i64 r7, .slice kp o.ks.length kc, .int .u64 o.lo, .int .u64 o.hi] 35 (0, 0))) := (C2.block _ (lt_of HO0.out) (fun x => x)).trans HO0.out
 have HA2 : Hid (w2.heap[W.heap.size + 1]? = some (.cells #[.int .i64 B.e, .bool B.f, .int .u64 B.x, .bool B.d, .int .u64 B.h, .slice pb B.l.length cb, .int .u64 B.n] 39 (0, 0))) := (C2.block _ (lt_of HA0.out) (fun x => x)).trans HA0.out
 have HM2 := keepH (HM0.out.quiet C2)
 have HPB2 := keepH (HPB.out.chg C2)
 have HP2 : Hid (PairsAt w2 p A.l ∧ A.l.length ≤ 8796093022000) := ⟨hP.at_.chg (by rw [hw2]; exact (Chg.refl _ _).alloc _), hPL⟩
 have HC2 : Hid (Chg (fun _ => False) W w2) := HC0.out.trans C2 (fun _ _ x => x) (fun _ _ x => x)
 have HZ2 : Hid (w0.heap.size ≤ w1.heap.size) := C1.size
 clear C1 C2 hP hPB hPL c0 c1 c2 c3 c4 c5 c6 c7 c8 c9 c10 b4
 go_upto_region 4 with fail
 rw [← hw2]
 clear hw2
 have c0 : w2.cell? ⟨W.heap.size, 0, none⟩ = some (.int .u8 o.kd) := cell_of HO2.out 0
 have c1 : w2.cell? ⟨W.heap.size, 1, none⟩ = some (.int .u64 o.k) := cell_of HO2.out 1
 have c2 : w2.cell? ⟨W.heap.size, 2, none⟩ = some (.int .u64 o.v) := cell_of HO2.out 2
 have c3 : w2.cell? ⟨W.heap.size, 3, none⟩ = some (.int .u64 o.od) := cell_of HO2.out 3
 have c4 : w2.cell? ⟨W.heap.size, 4, none⟩ = some (.int .u64 o.hk) := cell_of HO2.out 4
 have c5 : w2.cell? ⟨W.heap.size, 5, none⟩ = some (.bool r5) := cell_of HO2.out 5
 have c6 : w2.cell? ⟨W.heap.size, 6, none⟩ = some (.int .i64 r6) := cell_of HO2.out 6
 have c7 : w2.cell? ⟨W.heap.size, 7, none⟩ = some (.int .i64 r7) := cell_of HO2.out 7
 have c8 : w2.cell? ⟨W.heap.size, 8, none⟩ = some (.slice kp o.ks.length kc) := cell_of HO2.out 8
 have c9 : w2.cell? ⟨W.heap.size, 9, none⟩ = some (.int .u64 o.lo) := cell_of HO2.out 9
 have c10 : w2.cell? ⟨W.heap.size, 10, none⟩ = some (.int .u64 o.hi) := cell_of HO2.out 10
 have b0 : w2.cell? ⟨W.heap.size + 1, 0, none⟩ = some (.int .i64 B.e) := cell_of HA2.out 0
 have b1 : w2.cell? ⟨W.heap.size + 1, 1, none⟩ = some (.bool B.f) := cell_of HA2.out 1
 have b2 : w2.cell? ⟨W.heap.size + 1, 2, none⟩ = some (.int .u64 B.x) := cell_of HA2.out 2
 have b3 : w2.cell? ⟨W.heap.size + 1, 3, none⟩ = some (.bool B.d) := cell_of HA2.out 3
 have b4 : w2.cell? ⟨W.heap.size + 1, 4, none⟩ = some (.int .u64 B.h) := cell_of HA2.out 4
 have b5 : w2.cell? ⟨W.heap.size + 1, 5, none⟩ = some (.slice pb B.l.length cb) := cell_of HA2.out 5
 have b6 : w2.cell? ⟨W.heap.size + 1, 6, none⟩ = some (.int .u64 B.n) := cell_of HA2.out 6
 have t0 : w2.cell? ⟨w1.heap.size, 0, none⟩ = some (.int .i64 A.e) := cell_of HT2.out 0
 have t1 : w2.cell? ⟨w1.heap.size, 1, none⟩ = some (.bool A.f) := cell_of HT2.out 1
 have t2 : w2.cell? ⟨w1.heap.size, 2, none⟩ = some (.int .u64 A.x) := cell_of HT2.out 2
 have t3 : w2.cell? ⟨w1.heap.size, 3, none⟩ = some (.bool A.d) := cell_of HT2.out 3
 have t4 : w2.cell? ⟨w1.heap.size, 4, none⟩ = some (.int .u64 A.h) := cell_of HT2.out 4
 have t5 : w2.cell? ⟨w1.heap.size, 5, none⟩ = some (.slice p A.l.length c) := cell_of HT2.out 5
 have t6 : w2.cell? ⟨w1.heap.size, 6, none⟩ = some (.int .u64 A.n) := cell_of HT2.out 6
 go_wp2_with fail
 refine (may_g _ _ _ _).mono ?_
 rintro e z ⟨rfl, rfl⟩
 rw [HMP.out]
 have HS := keepH (m_sameL B.e A.e B.f A.f B.d A.d B.x A.x B.h A.h B.n A.n pb p cb c B.l A.l z HPB2.out HP2.out.1 hBl (Nat.le_trans HP2.out.2 (by omega)))
 rw [decide_eq_false HNE.out] at HS
 go_wp2_with fail
 refine HS.out.mono ?_
 rintro e w3 ⟨rfl, C3⟩
 have HC3 : Hid (Chg (fun _ => False) W w3) := HC2.out.trans C3 (fun _ _ x => x) (fun _ _ x => x)
 clear C3
 go_wp2_with fail
 go_ret
 exact ⟨by first | rfl | simp, HC3.out⟩
set_option maxRecDepth 100000 in
theorem take_no10 {o : OpP} (ho : o.Ok) {r5 : Bool} {r6 r7 : Int} {kp pb : Option Addr} {kc cb : Nat} {B : Ans} (hBh : B.h < 18446744073709551616) {W : World} {m nw hd mu : Nat} {f h : Nat → Option Nat} {g : Nat → Nat → Option Nat} {n : Nat} (H : MoAt W m nw hd mu f h g n) (hmu : mu ≤ 1024) (hn : n ≤ 8796093022000) (hks : KeysAt W kp o.ks) (hB : PairsAt W pb B.l) (hBl : B.l.length ≤ 9223372036854775807) {A : Ans} (hA : A = tellP mu f (pcs h g) o B.h) (hm : mayP o.kd B.e A.e = false) (k10 : o.kd = 10) (hne : ¬ B = (⟨A.e, A.f, A.x, A.d, A.h, A.l, B.n⟩ : Ans)) :
    Calls Tryz.prog 13 #[.pointer (some ⟨m, 0, none⟩), .agg #[.int .u8 o.kd, .int .u64 o.k, .int .u64 o.v, .int .u64 o.od, .int .u64 o.hk, .bool r5, .int .i64 r6, .int .i64 r7, .slice kp o.ks.length kc, .int .u64 o.lo, .int .u64 o.hi], .agg #[.int .i64 B.e, .bool B.f, .int .u64 B.x, .bool B.d, .int .u64 B.h, .slice pb B.l.length cb, .int .u64 B.n]] W fun e W' => e = .returned (.bool false) ∧ Chg (fun _ => False) W W' := by
 have hAh : A.h < 18446744073709551616 := by rw [hA]; exact tellP_h mu f _ o hBh
 obtain ⟨w0, hw0⟩ : ∃ w0, w0 = (W.alloc (.cells #[.int .u8 o.kd, .int .u64 o.k, .int .u64 o.v, .int .u64 o.od, .int .u64 o.hk, .bool r5, .int .i64 r6, .int .i64 r7, .slice kp o.ks.length kc, .int .u64 o.lo, .int .u64 o.hi] 35)).alloc (.cells #[.int .i64 B.e, .bool B.f, .int .u64 B.x, .bool B.d, .int .u64 B.h, .slice pb B.l.length cb, .int .u64 B.n] 39) := ⟨_, rfl⟩
 have C0 : Chg (fun _ => False) W w0 := by rw [hw0]; exact ((Chg.refl _ _).alloc _).alloc _
 have o0 : w0.heap[W.heap.size]? = some (.cells #[.int .u8 o.kd, .int .u64 o.k, .int .u64 o.v, .int .u64 o.od, .int .u64 o.hk, .bool r5, .int .i64 r6, .int .i64 r7, .slice kp o.ks.length kc, .int .u64 o.lo, .int .u64 o.hi] 35 (0, 0)) := by rw [hw0]; exact alloc_of (heap_alloc_new _ _) _
 have a0 : w0.heap[W.heap.size + 1]? = some (.cells #[.int .i64 B.e, .bool B.f, .int .u64 B.x, .bool B.d, .int .u64 B.h, .slice pb B.l.length cb, .int .u64 B.n] 39 (0, 0)) := by
  rw [hw0]
  exact al2
 have HC0 := keepH C0
 have HO0 := keepH o0
 have HA0 := keepH a0
 have HM0 := keepH (H.quiet C0)
 have HBL := keepH H.blk
 have HK0 := keepH (hks.chg C0 (fun _ _ _ x => x))
 have HPB := keepH (hB.chg C0)
 have HOK := keepH ho
 have HT := keepH (tells_all ho (r5 := r5) (r6 := r6) (r7 := r7) (kc := kc) hBh HM0.out hmu hn HK0.out)
 rw [← hA] at HT
 have HSZ : Hid (w0.heap.size = W.heap.size + 2) := by rw [hw0]; show _ = _; simp
 have HN : Hid (n ≤ 8796093022000 ∧ A.h < 18446744073709551616) := ⟨hn, hAh⟩
 have HMP := keepH hm
 have HNE := keepH hne
 have HPBK : Hid (∀ bk off, pb = some ⟨bk, off, none⟩ → B.l = [] ∨ bk < W.heap.size) := fun bk off e => by
  rcases hB with h | ⟨b2, o2, e2, h2, -⟩
  ·exact .inl h
  ·rw [e] at e2; injection e2 with e2; injection e2 with e2; subst e2; exact .inr h2
 have HLN : Hid (A.l = []) := by
  show _ = _
  rw [hA]
  unfold tellP
  rw [if_neg (by omega), if_neg (by omega), if_neg (by omega), if_neg (by omega), if_neg (by omega), if_neg (by omega), if_pos k10]
  rfl
 have z5 : (o.kd == 5) = false := by simp [k10]
 have z10 : (o.kd == 10) = true := by simpa using k10
 clear hm hne k10
 have c0 : w0.cell? ⟨W.heap.size, 0, none⟩ = some (.int .u8 o.kd) := cell_of o0 0
 have c1 : w0.cell? ⟨W.heap.size, 1, none⟩ = some (.int .u64 o.k) := cell_of o0 1
 have c2 : w0.cell? ⟨W.heap.size, 2, none⟩ = some (.int .u64 o.v) := cell_of o0 2
 have c3 : w0.cell? ⟨W.heap.size, 3, none⟩ = some (.int .u64 o.od) := cell_of o0 3
 have c4 : w0.cell? ⟨W.heap.size, 4, none⟩ = some (.int .u64 o.hk) := cell_of o0 4
 have c5 : w0.cell? ⟨W.heap.size, 5, none⟩ = some (.bool r5) := cell_of o0 5
 have c6 : w0.cell? ⟨W.heap.size, 6, none⟩ = some (.int .i64 r6) := cell_of o0 6
 have c7 : w0.cell? ⟨W.heap.size, 7, none⟩ = some (.int .i64 r7) := cell_of o0 7
 have c8 : w0.cell? ⟨W.heap.size, 8, none⟩ = some (.slice kp o.ks.length kc) := cell_of o0 8
 have c9 : w0.cell? ⟨W.heap.size, 9, none⟩ = some (.int .u64 o.lo) := cell_of o0 9
 have c10 : w0.cell? ⟨W.heap.size, 10, none⟩ = some (.int .u64 o.hi) := cell_of o0 10
 have b4 : w0.cell? ⟨W.heap.size + 1, 4, none⟩ = some (.int .u64 B.h) := cell_of a0 4
 clear C0 o0 a0 H hks ho hBh hmu hA hAh hn hB
 go_enter Tryz.func13, Tryz.ntmps13
 go_upto_region 1 with fail
 rw [← hw0]
 clear hw0
 go_wp2_with fail
 refine HT.out.mono ?_
 rintro e w1 ⟨⟨p, c, rfl, hP, hPB, hPL⟩, C1⟩
 unfold ansC
 obtain ⟨w2, hw2⟩ : ∃ w2, w2 = w1.alloc (.cells #[.int .i64 A.e, .bool A.f, .int .u64 A.x, .bool A.d, .int .u64 A.h, .slice p A.l.length c, .int .u64 A.n] 39) := ⟨_, rfl⟩
 have C2 : Chg (fun _ => False) w0 w2 := by rw [hw2]; exact C1.alloc _
 have HT2 : Hid (w2.heap[w1.heap.size]? = some (.cells #[.int .i64 A.e, .bool A.f, .int .u64 A.x, .bool A.d, .int .u64 A.h, .slice p A.l.length c, .int .u64 A.n] 39 (0, 0))) := by rw [hw2]; exact heap_alloc_new _ _
 have HO2 : Hid (w2.heap[W.heap.size]? = some (.cells #[.int .u8 o.kd, .int .u64 o.k, .int .u64 o.v, .int .u64 o.od, .int .u64 o.hk, .bool r5, .int .i64 r6, .int .i64 r7, .slice kp o.ks.length kc, .int .u64 o.lo, .int .u64 o.hi] 35 (0, 0))) := (C2.block _ (lt_of HO0.out) (fun x => x)).trans HO0.out
 have HA2 : Hid (w2.heap[W.heap.size + 1]? = some (.cells #[.int .i64 B.e, .bool B.f, .int .u64 B.x, .bool B.d, .int .u64 B.h, .slice pb B.l.length cb, .int .u64 B.n] 39 (0, 0))) := (C2.block _ (lt_of HA0.out) (fun x => x)).trans HA0.out
 have HM2 := keepH (HM0.out.quiet C2)
 have HPB2 := keepH (HPB.out.chg C2)
 have HP2 : Hid (PairsAt w2 p A.l ∧ A.l.length ≤ 8796093022000) := ⟨hP.at_.chg (by rw [hw2]; exact (Chg.refl _ _).alloc _), hPL⟩
 have HC2 : Hid (Chg (fun _ => False) W w2) := HC0.out.trans C2 (fun _ _ x => x) (fun _ _ x => x)
 have HZ2 : Hid (w0.heap.size ≤ w1.heap.size) := C1.size
 clear C1 C2 hP hPB hPL c0 c1 c2 c3 c4 c5 c6 c7 c8 c9 c10 b4
 go_upto_region 4 with fail
 rw [← hw2]
 clear hw2
 have c0 : w2.cell? ⟨W.heap.size, 0, none⟩ = some (.int .u8 o.kd) := cell_of HO2.out 0
 have c1 : w2.cell? ⟨W.heap.size, 1, none⟩ = some (.int .u64 o.k) := cell_of HO2.out 1
 have c2 : w2.cell? ⟨W.heap.size, 2, none⟩ = some (.int .u64 o.v) := cell_of HO2.out 2
 have c3 : w2.cell? ⟨W.heap.size, 3, none⟩ = some (.int .u64 o.od) := cell_of HO2.out 3
 have c4 : w2.cell? ⟨W.heap.size, 4, none⟩ = some (.int .u64 o.hk) := cell_of HO2.out 4
 have c5 : w2.cell? ⟨W.heap.size, 5, none⟩ = some (.bool r5) := cell_of HO2.out 5
 have c6 : w2.cell? ⟨W.heap.size, 6, none⟩ = some (.int .i64 r6) := cell_of HO2.out 6
 have c7 : w2.cell? ⟨W.heap.size, 7, none⟩ = some (.int .i64 r7) := cell_of HO2.out 7
 have c8 : w2.cell? ⟨W.heap.size, 8, none⟩ = some (.slice kp o.ks.length kc) := cell_of HO2.out 8
 have c9 : w2.cell? ⟨W.heap.size, 9, none⟩ = some (.int .u64 o.lo) := cell_of HO2.out 9
 have c10 : w2.cell? ⟨W.heap.size, 10, none⟩ = some (.int .u64 o.hi) := cell_of HO2.out 10
 have b0 : w2.cell? ⟨W.heap.size + 1, 0, none⟩ = some (.int .i64 B.e) := cell_of HA2.out 0
 have b1 : w2.cell? ⟨W.heap.size + 1, 1, none⟩ = some (.bool B.f) := cell_of HA2.out 1
 have b2 : w2.cell? ⟨W.heap.size + 1, 2, none⟩ = some (.int .u64 B.x) := cell_of HA2.out 2
 have b3 : w2.cell? ⟨W.heap.size + 1, 3, none⟩ = some (.bool B.d) := cell_of HA2.out 3
 have b4 : w2.cell? ⟨W.heap.size + 1, 4, none⟩ = some (.int .u64 B.h) := cell_of HA2.out 4
 have b5 : w2.cell? ⟨W.heap.size + 1, 5, none⟩ = some (.slice pb B.l.length cb) := cell_of HA2.out 5
 have b6 : w2.cell? ⟨W.heap.size + 1, 6, none⟩ = some (.int .u64 B.n) := cell_of HA2.out 6
 have t0 : w2.cell? ⟨w1.heap.size, 0, none⟩ = some (.int .i64 A.e) := cell_of HT2.out 0
 have t1 : w2.cell? ⟨w1.heap.size, 1, none⟩ = some (.bool A.f) := cell_of HT2.out 1
 have t2 : w2.cell? ⟨w1.heap.size, 2, none⟩ = some (.int .u64 A.x) := cell_of HT2.out 2
 have t3 : w2.cell? ⟨w1.heap.size, 3, none⟩ = some (.bool A.d) := cell_of HT2.out 3
 have t4 : w2.cell? ⟨w1.heap.size, 4, none⟩ = some (.int .u64 A.h) := cell_of HT2.out 4
 have t5 : w2.cell? ⟨w1.heap.size, 5, none⟩ = some (.slice p A.l.length c) := cell_of HT2.out 5
 have t6 : w2.cell? ⟨w1.heap.size, 6, none⟩ = some (.int .u64 A.n) := cell_of HT2.out 6
 go_wp2_with fail
 refine (may_g _ _ _ _).mono ?_
 rintro e z ⟨rfl, rfl⟩
 rw [HMP.out]
 obtain ⟨z2, hz2⟩ : ∃ z2, z2 = z.setCell ⟨w1.heap.size, 6, none⟩ (.int .u64 B.n) := ⟨_, rfl⟩
 have KZ : Chg (fun i => i = w1.heap.size) z z2 := by rw [hz2]; exact setP _
 have g6 := free_of HT2.out 6
 have TZ : z2.heap[w1.heap.size]? = some (.cells #[.int .i64 A.e, .bool A.f, .int .u64 A.x, .bool A.d, .int .u64 A.h, .slice p A.l.length c, .int .u64 B.n] 39 (0, 0)) := by
  rw [hz2]
  exact bset HT2.out 6 (.int .u64 B.n)
 have ZN : W.heap.size < w1.heap.size ∧ W.heap.size + 1 < w1.heap.size := by have := HSZ.out; have := HZ2.out; omega
 have HOZ : Hid (z2.heap[W.heap.size]? = some (.cells #[.int .u8 o.kd, .int .u64 o.k, .int .u64 o.v, .int .u64 o.od, .int .u64 o.hk, .bool r5, .int .i64 r6, .int .i64 r7, .slice kp o.ks.length kc, .int .u64 o.lo, .int .u64 o.hi] 35 (0, 0))) := (KZ.block _ (lt_of HO2.out) (by omega)).trans HO2.out
 have HAZ : Hid (z2.heap[W.heap.size + 1]? = some (.cells #[.int .i64 B.e, .bool B.f, .int .u64 B.x, .bool B.d, .int .u64 B.h, .slice pb B.l.length cb, .int .u64 B.n] 39 (0, 0))) := (KZ.block _ (lt_of HA2.out) (by omega)).trans HA2.out
 have HMZ : Hid (MoAt z2 m nw hd mu f h g n) := HM2.out.chg KZ (by have := HBL.out.1; omega) (by have := HBL.out.2.1; omega) (by have := HBL.out.2.2.1; omega) (fun k b hb => by have := HBL.out.2.2.2 k b hb; omega)
 have HCZ : Hid (Chg (fun _ => False) W z2) := HC2.out.trans KZ (fun _ _ x => x) (fun i hi e => by omega)
 have HTZ := keepH TZ
 have HLZ : Hid (A.l = []) := HLN.out
 have HPZ : Hid (PairsAt z2 pb B.l) := by
  by_cases h0 : B.l = []
  ·exact .inl h0
  ·exact HPB2.out.chgF KZ (fun bk off e => by have := (HPBK.out bk off e).resolve_left h0; have := ZN; omega)
 go_upto_region 8 with fail
 rw [← hz2]
 clear hz2 KZ g6 TZ ZN c0 c1 c2 c3 c4 c5 c6 c7 c8 c9 c10 b0 b1 b2 b3 b4 b5 b6 t0 t1 t2 t3 t4 t5 t6
 have c0 : z2.cell? ⟨W.heap.size, 0, none⟩ = some (.int .u8 o.kd) := cell_of HOZ.out 0
 have c1 : z2.cell? ⟨W.heap.size, 1, none⟩ = some (.int .u64 o.k) := cell_of HOZ.out 1
 have c2 : z2.cell? ⟨W.heap.size, 2, none⟩ = some (.int .u64 o.v) := cell_of HOZ.out 2
 have c3 : z2.cell? ⟨W.heap.size, 3, none⟩ = some (.int .u64 o.od) := cell_of HOZ.out 3
 have c4 : z2.cell? ⟨W.heap.size, 4, none⟩ = some (.int .u64 o.hk) := cell_of HOZ.out 4
 have c5 : z2.cell? ⟨W.heap.size, 5, none⟩ = some (.bool r5) := cell_of HOZ.out 5
 have c6 : z2.cell? ⟨W.heap.size, 6, none⟩ = some (.int .i64 r6) := cell_of HOZ.out 6
 have c7 : z2.cell? ⟨W.heap.size, 7, none⟩ = some (.int .i64 r7) := cell_of HOZ.out 7
 have c8 : z2.cell? ⟨W.heap.size, 8, none⟩ = some (.slice kp o.ks.length kc) := cell_of HOZ.out 8
 have c9 : z2.cell? ⟨W.heap.size, 9, none⟩ = some (.int .u64 o.lo) := cell_of HOZ.out 9
 have c10 : z2.cell? ⟨W.heap.size, 10, none⟩ = some (.int .u64 o.hi) := cell_of HOZ.out 10
 have b0 : z2.cell? ⟨W.heap.size + 1, 0, none⟩ = some (.int .i64 B.e) := cell_of HAZ.out 0
 have b1 : z2.cell? ⟨W.heap.size + 1, 1, none⟩ = some (.bool B.f) := cell_of HAZ.out 1
 have b2 : z2.cell? ⟨W.heap.size + 1, 2, none⟩ = some (.int .u64 B.x) := cell_of HAZ.out 2
 have b3 : z2.cell? ⟨W.heap.size + 1, 3, none⟩ = some (.bool B.d) := cell_of HAZ.out 3
 have b4 : z2.cell? ⟨W.heap.size + 1, 4, none⟩ = some (.int .u64 B.h) := cell_of HAZ.out 4
 have b5 : z2.cell? ⟨W.heap.size + 1, 5, none⟩ = some (.slice pb B.l.length cb) := cell_of HAZ.out 5
 have b6 : z2.cell? ⟨W.heap.size + 1, 6, none⟩ = some (.int .u64 B.n) := cell_of HAZ.out 6
 have t0 : z2.cell? ⟨w1.heap.size, 0, none⟩ = some (.int .i64 A.e) := cell_of HTZ.out 0
 have t1 : z2.cell? ⟨w1.heap.size, 1, none⟩ = some (.bool A.f) := cell_of HTZ.out 1
 have t2 : z2.cell? ⟨w1.heap.size, 2, none⟩ = some (.int .u64 A.x) := cell_of HTZ.out 2
 have t3 : z2.cell? ⟨w1.heap.size, 3, none⟩ = some (.bool A.d) := cell_of HTZ.out 3
 have t4 : z2.cell? ⟨w1.heap.size, 4, none⟩ = some (.int .u64 A.h) := cell_of HTZ.out 4
 have t5 : z2.cell? ⟨w1.heap.size, 5, none⟩ = some (.slice p A.l.length c) := cell_of HTZ.out 5
 have t6 : z2.cell? ⟨w1.heap.size, 6, none⟩ = some (.int .u64 B.n) := cell_of HTZ.out 6
 have HS := keepH (m_sameL B.e A.e B.f A.f B.d A.d B.x A.x B.h A.h B.n B.n pb p cb c B.l A.l z2 HPZ.out (.inl HLZ.out) hBl (Nat.le_trans HP2.out.2 (by omega)))
 rw [decide_eq_false HNE.out] at HS
 go_wp2_with fail
 refine HS.out.mono ?_
 rintro e w3 ⟨rfl, C3⟩
 have HC3 : Hid (Chg (fun _ => False) W w3) := HCZ.out.trans C3 (fun _ _ x => x) (fun _ _ x => x)
 clear C3
 go_wp2_with fail
 go_ret
 exact ⟨by first | rfl | simp, HC3.out⟩
set_option maxRecDepth 100000 in
theorem take_yes10b {o : OpP} (ho : o.Ok) {r5 : Bool} {r6 r7 : Int} {kp pb : Option Addr} {kc cb : Nat} {B : Ans} (hBh : B.h < 18446744073709551616) {W : World} {m nw hd mu : Nat} {f h : Nat → Option Nat} {g : Nat → Nat → Option Nat} {n : Nat} (H : MoAt W m nw hd mu f h g n) (hmu : mu ≤ 1024) (hn : n ≤ 8796093022000) (hks : KeysAt W kp o.ks) (hB : PairsAt W pb B.l) (hBl : B.l.length ≤ 9223372036854775807) {A : Ans} (hA : A = tellP mu f (pcs h g) o B.h) (hm : mayP o.kd B.e A.e = false) (k10 : o.kd = 10) (heq : B = (⟨A.e, A.f, A.x, A.d, A.h, A.l, B.n⟩ : Ans)) :
    Calls Tryz.prog 13 #[.pointer (some ⟨m, 0, none⟩), .agg #[.int .u8 o.kd, .int .u64 o.k, .int .u64 o.v, .int .u64 o.od, .int .u64 o.hk, .bool r5, .int .i64 r6, .int .i64 r7, .slice kp o.ks.length kc, .int .u64 o.lo, .int .u64 o.hi], .agg #[.int .i64 B.e, .bool B.f, .int .u64 B.x, .bool B.d, .int .u64 B.h, .slice pb B.l.length cb, .int .u64 B.n]] W fun e W' => e = .returned (.bool true) ∧ (∃ cl, W.heap.size ≤ cl ∧ MoAt W' m nw hd mu (doF o (⟨A.e, A.f, A.x, A.d, A.h, A.l, B.n⟩ : Ans) f) (doH o (⟨A.e, A.f, A.x, A.d, A.h, A.l, B.n⟩ : Ans) cl h) (setG g cl f) (n + 1)) ∧ Chg (fun i => i = nw ∨ i = hd) W W' := by
 have hAh : A.h < 18446744073709551616 := by rw [hA]; exact tellP_h mu f _ o hBh
 obtain ⟨w0, hw0⟩ : ∃ w0, w0 = (W.alloc (.cells #[.int .u8 o.kd, .int .u64 o.k, .int .u64 o.v, .int .u64 o.od, .int .u64 o.hk, .bool r5, .int .i64 r6, .int .i64 r7, .slice kp o.ks.length kc, .int .u64 o.lo, .int .u64 o.hi] 35)).alloc (.cells #[.int .i64 B.e, .bool B.f, .int .u64 B.x, .bool B.d, .int .u64 B.h, .slice pb B.l.length cb, .int .u64 B.n] 39) := ⟨_, rfl⟩
 have C0 : Chg (fun _ => False) W w0 := by rw [hw0]; exact ((Chg.refl _ _).alloc _).alloc _
 have o0 : w0.heap[W.heap.size]? = some (.cells #[.int .u8 o.kd, .int .u64 o.k, .int .u64 o.v, .int .u64 o.od, .int .u64 o.hk, .bool r5, .int .i64 r6, .int .i64 r7, .slice kp o.ks.length kc, .int .u64 o.lo, .int .u64 o.hi] 35 (0, 0)) := by rw [hw0]; exact alloc_of (heap_alloc_new _ _) _
 have a0 : w0.heap[W.heap.size + 1]? = some (.cells #[.int .i64 B.e, .bool B.f, .int .u64 B.x, .bool B.d, .int .u64 B.h, .slice pb B.l.length cb, .int .u64 B.n] 39 (0, 0)) := by
  rw [hw0]
  exact al2
 have HC0 := keepH C0
 have HO0 := keepH o0
 have HA0 := keepH a0
 have HM0 := keepH (H.quiet C0)
 have HBL := keepH H.blk
 have HK0 := keepH (hks.chg C0 (fun _ _ _ x => x))
 have HPB := keepH (hB.chg C0)
 have HOK := keepH ho
 have HT := keepH (tells_all ho (r5 := r5) (r6 := r6) (r7 := r7) (kc := kc) hBh HM0.out hmu hn HK0.out)
 rw [← hA] at HT
 have HSZ : Hid (w0.heap.size = W.heap.size + 2) := by rw [hw0]; show _ = _; simp
 have HN : Hid (n ≤ 8796093022000 ∧ A.h < 18446744073709551616) := ⟨hn, hAh⟩
 have HMP := keepH hm
 have HEQ := keepH heq
 have HPBK : Hid (∀ bk off, pb = some ⟨bk, off, none⟩ → B.l = [] ∨ bk < W.heap.size) := fun bk off e => by
  rcases hB with h | ⟨b2, o2, e2, h2, -⟩
  ·exact .inl h
  ·rw [e] at e2; injection e2 with e2; injection e2 with e2; subst e2; exact .inr h2
 have HLN : Hid (A.l = []) := by
  show _ = _
  rw [hA]
  unfold tellP
  rw [if_neg (by omega), if_neg (by omega), if_neg (by omega), if_neg (by omega), if_neg (by omega), if_neg (by omega), if_pos k10]
  rfl
 have z5 : (o.kd == 5) = false := by simp [k10]
 have z10 : (o.kd == 10) = true := by simpa using k10
 clear hm heq k10
 have c0 : w0.cell? ⟨W.heap.size, 0, none⟩ = some (.int .u8 o.kd) := cell_of o0 0
 have c1 : w0.cell? ⟨W.heap.size, 1, none⟩ = some (.int .u64 o.k) := cell_of o0 1
 have c2 : w0.cell? ⟨W.heap.size, 2, none⟩ = some (.int .u64 o.v) := cell_of o0 2
 have c3 : w0.cell? ⟨W.heap.size, 3, none⟩ = some (.int .u64 o.od) := cell_of o0 3
 have c4 : w0.cell? ⟨W.heap.size, 4, none⟩ = some (.int .u64 o.hk) := cell_of o0 4
 have c5 : w0.cell? ⟨W.heap.size, 5, none⟩ = some (.bool r5) := cell_of o0 5
 have c6 : w0.cell? ⟨W.heap.size, 6, none⟩ = some (.int .i64 r6) := cell_of o0 6
 have c7 : w0.cell? ⟨W.heap.size, 7, none⟩ = some (.int .i64 r7) := cell_of o0 7
 have c8 : w0.cell? ⟨W.heap.size, 8, none⟩ = some (.slice kp o.ks.length kc) := cell_of o0 8
 have c9 : w0.cell? ⟨W.heap.size, 9, none⟩ = some (.int .u64 o.lo) := cell_of o0 9
 have c10 : w0.cell? ⟨W.heap.size, 10, none⟩ = some (.int .u64 o.hi) := cell_of o0 10
 have b4 : w0.cell? ⟨W.heap.size + 1, 4, none⟩ = some (.int .u64 B.h) := cell_of a0 4
 clear C0 o0 a0 H hks ho hBh hmu hA hAh hn hB
 go_enter Tryz.func13, Tryz.ntmps13
 go_upto_region 1 with fail
 rw [← hw0]
 clear hw0
 go_wp2_with fail
 refine HT.out.mono ?_
 rintro e w1 ⟨⟨p, c, rfl, hP, hPB, hPL⟩, C1⟩
 unfold ansC
 obtain ⟨w2, hw2⟩ : ∃ w2, w2 = w1.alloc (.cells #[.int .i64 A.e, .bool A.f, .int .u64 A.x, .bool A.d, .int .u64 A.h, .slice p A.l.length c, .int .u64 A.n] 39) := ⟨_, rfl⟩
 have C2 : Chg (fun _ => False) w0 w2 := by rw [hw2]; exact C1.alloc _
 have HT2 : Hid (w2.heap[w1.heap.size]? = some (.cells #[.int .i64 A.e, .bool A.f, .int .u64 A.x, .bool A.d, .int .u64 A.h, .slice p A.l.length c, .int .u64 A.n] 39 (0, 0))) := by rw [hw2]; exact heap_alloc_new _ _
 have HO2 : Hid (w2.heap[W.heap.size]? = some (.cells #[.int .u8 o.kd, .int .u64 o.k, .int .u64 o.v, .int .u64 o.od, .int .u64 o.hk, .bool r5, .int .i64 r6, .int .i64 r7, .slice kp o.ks.length kc, .int .u64 o.lo, .int .u64 o.hi] 35 (0, 0))) := (C2.block _ (lt_of HO0.out) (fun x => x)).trans HO0.out
 have HA2 : Hid (w2.heap[W.heap.size + 1]? = some (.cells #[.int .i64 B.e, .bool B.f, .int .u64 B.x, .bool B.d, .int .u64 B.h, .slice pb B.l.length cb, .int .u64 B.n] 39 (0, 0))) := (C2.block _ (lt_of HA0.out) (fun x => x)).trans HA0.out
 have HM2 := keepH (HM0.out.quiet C2)
 have HPB2 := keepH (HPB.out.chg C2)
 have HP2 : Hid (PairsAt w2 p A.l ∧ A.l.length ≤ 8796093022000) := ⟨hP.at_.chg (by rw [hw2]; exact (Chg.refl _ _).alloc _), hPL⟩
 have HC2 : Hid (Chg (fun _ => False) W w2) := HC0.out.trans C2 (fun _ _ x => x) (fun _ _ x => x)
 have HZ2 : Hid (w0.heap.size ≤ w1.heap.size) := C1.size
 clear C1 C2 hP hPB hPL c0 c1 c2 c3 c4 c5 c6 c7 c8 c9 c10 b4
 go_upto_region 4 with fail
 rw [← hw2]
 clear hw2
 have c0 : w2.cell? ⟨W.heap.size, 0, none⟩ = some (.int .u8 o.kd) := cell_of HO2.out 0
 have c1 : w2.cell? ⟨W.heap.size, 1, none⟩ = some (.int .u64 o.k) := cell_of HO2.out 1
 have c2 : w2.cell? ⟨W.heap.size, 2, none⟩ = some (.int .u64 o.v) := cell_of HO2.out 2
 have c3 : w2.cell? ⟨W.heap.size, 3, none⟩ = some (.int .u64 o.od) := cell_of HO2.out 3
 have c4 : w2.cell? ⟨W.heap.size, 4, none⟩ = some (.int .u64 o.hk) := cell_of HO2.out 4
 have c5 : w2.cell? ⟨W.heap.size, 5, none⟩ = some (.bool r5) := cell_of HO2.out 5
 have c6 : w2.cell? ⟨W.heap.size, 6, none⟩ = some (.int .i64 r6) := cell_of HO2.out 6
 have c7 : w2.cell? ⟨W.heap.size, 7, none⟩ = some (.int .i64 r7) := cell_of HO2.out 7
 have c8 : w2.cell? ⟨W.heap.size, 8, none⟩ = some (.slice kp o.ks.length kc) := cell_of HO2.out 8
 have c9 : w2.cell? ⟨W.heap.size, 9, none⟩ = some (.int .u64 o.lo) := cell_of HO2.out 9
 have c10 : w2.cell? ⟨W.heap.size, 10, none⟩ = some (.int .u64 o.hi) := cell_of HO2.out 10
 have b0 : w2.cell? ⟨W.heap.size + 1, 0, none⟩ = some (.int .i64 B.e) := cell_of HA2.out 0
 have b1 : w2.cell? ⟨W.heap.size + 1, 1, none⟩ = some (.bool B.f) := cell_of HA2.out 1
 have b2 : w2.cell? ⟨W.heap.size + 1, 2, none⟩ = some (.int .u64 B.x) := cell_of HA2.out 2
 have b3 : w2.cell? ⟨W.heap.size + 1, 3, none⟩ = some (.bool B.d) := cell_of HA2.out 3
 have b4 : w2.cell? ⟨W.heap.size + 1, 4, none⟩ = some (.int .u64 B.h) := cell_of HA2.out 4
 have b5 : w2.cell? ⟨W.heap.size + 1, 5, none⟩ = some (.slice pb B.l.length cb) := cell_of HA2.out 5
 have b6 : w2.cell? ⟨W.heap.size + 1, 6, none⟩ = some (.int .u64 B.n) := cell_of HA2.out 6
 have t0 : w2.cell? ⟨w1.heap.size, 0, none⟩ = some (.int .i64 A.e) := cell_of HT2.out 0
 have t1 : w2.cell? ⟨w1.heap.size, 1, none⟩ = some (.bool A.f) := cell_of HT2.out 1
 have t2 : w2.cell? ⟨w1.heap.size, 2, none⟩ = some (.int .u64 A.x) := cell_of HT2.out 2
 have t3 : w2.cell? ⟨w1.heap.size, 3, none⟩ = some (.bool A.d) := cell_of HT2.out 3
 have t4 : w2.cell? ⟨w1.heap.size, 4, none⟩ = some (.int .u64 A.h) := cell_of HT2.out 4
 have t5 : w2.cell? ⟨w1.heap.size, 5, none⟩ = some (.slice p A.l.length c) := cell_of HT2.out 5
 have t6 : w2.cell? ⟨w1.heap.size, 6, none⟩ = some (.int .u64 A.n) := cell_of HT2.out 6
 go_wp2_with fail
 refine (may_g _ _ _ _).mono ?_
 rintro e z ⟨rfl, rfl⟩
 rw [HMP.out]
 obtain ⟨z2, hz2⟩ : ∃ z2, z2 = z.setCell ⟨w1.heap.size, 6, none⟩ (.int .u64 B.n) := ⟨_, rfl⟩
 have KZ : Chg (fun i => i = w1.heap.size) z z2 := by rw [hz2]; exact setP _
 have g6 := free_of HT2.out 6
 have TZ : z2.heap[w1.heap.size]? = some (.cells #[.int .i64 A.e, .bool A.f, .int .u64 A.x, .bool A.d, .int .u64 A.h, .slice p A.l.length c, .int .u64 B.n] 39 (0, 0)) := by
  rw [hz2]
  exact bset HT2.out 6 (.int .u64 B.n)
 have ZN : W.heap.size < w1.heap.size ∧ W.heap.size + 1 < w1.heap.size := by have := HSZ.out; have := HZ2.out; omega
 have HOZ : Hid (z2.heap[W.heap.size]? = some (.cells #[.int .u8 o.kd, .int .u64 o.k, .int .u64 o.v, .int .u64 o.od, .int .u64 o.hk, .bool r5, .int .i64 r6, .int .i64 r7, .slice kp o.ks.length kc, .int .u64 o.lo, .int .u64 o.hi] 35 (0, 0))) := (KZ.block _ (lt_of HO2.out) (by omega)).trans HO2.out
 have HAZ : Hid (z2.heap[W.heap.size + 1]? = some (.cells #[.int .i64 B.e, .bool B.f, .int .u64 B.x, .bool B.d, .int .u64 B.h, .slice pb B.l.length cb, .int .u64 B.n] 39 (0, 0))) := (KZ.block _ (lt_of HA2.out) (by omega)).trans HA2.out
 have HMZ : Hid (MoAt z2 m nw hd mu f h g n) := HM2.out.chg KZ (by have := HBL.out.1; omega) (by have := HBL.out.2.1; omega) (by have := HBL.out.2.2.1; omega) (fun k b hb => by have := HBL.out.2.2.2 k b hb; omega)
 have HCZ : Hid (Chg (fun _ => False) W z2) := HC2.out.trans KZ (fun _ _ x => x) (fun i hi e => by omega)
 have HTZ := keepH TZ
 have HLZ : Hid (A.l = []) := HLN.out
 have HPZ : Hid (PairsAt z2 pb B.l) := by
  by_cases h0 : B.l = []
  ·exact .inl h0
  ·exact HPB2.out.chgF KZ (fun bk off e => by have := (HPBK.out bk off e).resolve_left h0; have := ZN; omega)
 go_upto_region 8 with fail
 rw [← hz2]
 clear hz2 KZ g6 TZ ZN c0 c1 c2 c3 c4 c5 c6 c7 c8 c9 c10 b0 b1 b2 b3 b4 b5 b6 t0 t1 t2 t3 t4 t5 t6
 have c0 : z2.cell? ⟨W.heap.size, 0, none⟩ = some (.int .u8 o.kd) := cell_of HOZ.out 0
 have c1 : z2.cell? ⟨W.heap.size, 1, none⟩ = some (.int .u64 o.k) := cell_of HOZ.out 1
 have c2 : z2.cell? ⟨W.heap.size, 2, none⟩ = some (.int .u64 o.v) := cell_of HOZ.out 2
 have c3 : z2.cell? ⟨W.heap.size, 3, none⟩ = some (.int .u64 o.od) := cell_of HOZ.out 3
 have c4 : z2.cell? ⟨W.heap.size, 4, none⟩ = some (.int .u64 o.hk) := cell_of HOZ.out 4
 have c5 : z2.cell? ⟨W.heap.size, 5, none⟩ = some (.bool r5) := cell_of HOZ.out 5
 have c6 : z2.cell? ⟨W.heap.size, 6, none⟩ = some (.int .i64 r6) := cell_of HOZ.out 6
 have c7 : z2.cell? ⟨W.heap.size, 7, none⟩ = some (.int .i64 r7) := cell_of HOZ.out 7
 have c8 : z2.cell? ⟨W.heap.size, 8, none⟩ = some (.slice kp o.ks.length kc) := cell_of HOZ.out 8
 have c9 : z2.cell? ⟨W.heap.size, 9, none⟩ = some (.int .u64 o.lo) := cell_of HOZ.out 9
 have c10 : z2.cell? ⟨W.heap.size, 10, none⟩ = some (.int .u64 o.hi) := cell_of HOZ.out 10
 have b0 : z2.cell? ⟨W.heap.size + 1, 0, none⟩ = some (.int .i64 B.e) := cell_of HAZ.out 0
 have b1 : z2.cell? ⟨W.heap.size + 1, 1, none⟩ = some (.bool B.f) := cell_of HAZ.out 1
 have b2 : z2.cell? ⟨W.heap.size + 1, 2, none⟩ = some (.int .u64 B.x) := cell_of HAZ.out 2
 have b3 : z2.cell? ⟨W.heap.size + 1, 3, none⟩ = some (.bool B.d) := cell_of HAZ.out 3
 have b4 : z2.cell? ⟨W.heap.size + 1, 4, none⟩ = some (.int .u64 B.h) := cell_of HAZ.out 4
 have b5 : z2.cell? ⟨W.heap.size + 1, 5, none⟩ = some (.slice pb B.l.length cb) := cell_of HAZ.out 5
 have b6 : z2.cell? ⟨W.heap.size + 1, 6, none⟩ = some (.int .u64 B.n) := cell_of HAZ.out 6
 have t0 : z2.cell? ⟨w1.heap.size, 0, none⟩ = some (.int .i64 A.e) := cell_of HTZ.out 0
 have t1 : z2.cell? ⟨w1.heap.size, 1, none⟩ = some (.bool A.f) := cell_of HTZ.out 1
 have t2 : z2.cell? ⟨w1.heap.size, 2, none⟩ = some (.int .u64 A.x) := cell_of HTZ.out 2
 have t3 : z2.cell? ⟨w1.heap.size, 3, none⟩ = some (.bool A.d) := cell_of HTZ.out 3
 have t4 : z2.cell? ⟨w1.heap.size, 4, none⟩ = some (.int .u64 A.h) := cell_of HTZ.out 4
 have t5 : z2.cell? ⟨w1.heap.size, 5, none⟩ = some (.slice p A.l.length c) := cell_of HTZ.out 5
 have t6 : z2.cell? ⟨w1.heap.size, 6, none⟩ = some (.int .u64 B.n) := cell_of HTZ.out 6
 have HS := keepH (m_sameL B.e A.e B.f A.f B.d A.d B.x A.x B.h A.h B.n B.n pb p cb c B.l A.l z2 HPZ.out (.inl HLZ.out) hBl (Nat.le_trans HP2.out.2 (by omega)))
 rw [decide_eq_true HEQ.out] at HS
 go_wp2_with fail
 refine HS.out.mono ?_
 rintro e w3 ⟨rfl, C3⟩
 have HC3 : Hid (Chg (fun _ => False) W w3) := HCZ.out.trans C3 (fun _ _ x => x) (fun _ _ x => x)
 have HO3 : Hid (w3.heap[W.heap.size]? = some (.cells #[.int .u8 o.kd, .int .u64 o.k, .int .u64 o.v, .int .u64 o.od, .int .u64 o.hk, .bool r5, .int .i64 r6, .int .i64 r7, .slice kp o.ks.length kc, .int .u64 o.lo, .int .u64 o.hi] 35 (0, 0))) := (C3.block _ (lt_of HOZ.out) (fun x => x)).trans HOZ.out
 have HT3 : Hid (w3.heap[w1.heap.size]? = some (.cells #[.int .i64 A.e, .bool A.f, .int .u64 A.x, .bool A.d, .int .u64 A.h, .slice p A.l.length c, .int .u64 B.n] 39 (0, 0))) := (C3.block _ (lt_of HTZ.out) (fun x => x)).trans HTZ.out
 have HM3 := keepH (HMZ.out.quiet C3)
 clear C3 c0 c1 c2 c3 c4 c5 c6 c7 c8 c9 c10 b0 b1 b2 b3 b4 b5 b6 t0 t1 t2 t3 t4 t5 t6
 have c0 : w3.cell? ⟨W.heap.size, 0, none⟩ = some (.int .u8 o.kd) := cell_of HO3.out 0
 have c1 : w3.cell? ⟨W.heap.size, 1, none⟩ = some (.int .u64 o.k) := cell_of HO3.out 1
 have c2 : w3.cell? ⟨W.heap.size, 2, none⟩ = some (.int .u64 o.v) := cell_of HO3.out 2
 have c3 : w3.cell? ⟨W.heap.size, 3, none⟩ = some (.int .u64 o.od) := cell_of HO3.out 3
 have c4 : w3.cell? ⟨W.heap.size, 4, none⟩ = some (.int .u64 o.hk) := cell_of HO3.out 4
 have c5 : w3.cell? ⟨W.heap.size, 5, none⟩ = some (.bool r5) := cell_of HO3.out 5
 have c6 : w3.cell? ⟨W.heap.size, 6, none⟩ = some (.int .i64 r6) := cell_of HO3.out 6
 have c7 : w3.cell? ⟨W.heap.size, 7, none⟩ = some (.int .i64 r7) := cell_of HO3.out 7
 have c8 : w3.cell? ⟨W.heap.size, 8, none⟩ = some (.slice kp o.ks.length kc) := cell_of HO3.out 8
 have c9 : w3.cell? ⟨W.heap.size, 9, none⟩ = some (.int .u64 o.lo) := cell_of HO3.out 9
 have c10 : w3.cell? ⟨W.heap.size, 10, none⟩ = some (.int .u64 o.hi) := cell_of HO3.out 10
 have t0 : w3.cell? ⟨w1.heap.size, 0, none⟩ = some (.int .i64 A.e) := cell_of HT3.out 0
 have t1 : w3.cell? ⟨w1.heap.size, 1, none⟩ = some (.bool A.f) := cell_of HT3.out 1
 have t2 : w3.cell? ⟨w1.heap.size, 2, none⟩ = some (.int .u64 A.x) := cell_of HT3.out 2
 have t3 : w3.cell? ⟨w1.heap.size, 3, none⟩ = some (.bool A.d) := cell_of HT3.out 3
 have t4 : w3.cell? ⟨w1.heap.size, 4, none⟩ = some (.int .u64 A.h) := cell_of HT3.out 4
 have t5 : w3.cell? ⟨w1.heap.size, 5, none⟩ = some (.slice p A.l.length c) := cell_of HT3.out 5
 have t6 : w3.cell? ⟨w1.heap.size, 6, none⟩ = some (.int .u64 B.n) := cell_of HT3.out 6
 have HD := keepH (do_all (A := (⟨A.e, A.f, A.x, A.d, A.h, A.l, B.n⟩ : Ans)) HOK.out (r5 := r5) (r6 := r6) (r7 := r7) (kp := kp) (kc := kc) (p := p) (c := c) HN.out.2 HM3.out HN.out.1)
 go_wp2_with fail
 refine HD.out.mono ?_
 rintro e w4 ⟨rfl, ⟨cl, hcl, hM4⟩, C4⟩
 have HC4 : Hid (Chg (fun i => i = nw ∨ i = hd) W w4) := HC3.out.trans C4 (fun _ _ x => x.elim) (fun _ _ x => x)
 have HM4 : Hid (W.heap.size ≤ cl ∧ MoAt w4 m nw hd mu (doF o (⟨A.e, A.f, A.x, A.d, A.h, A.l, B.n⟩ : Ans) f) (doH o (⟨A.e, A.f, A.x, A.d, A.h, A.l, B.n⟩ : Ans) cl h) (setG g cl f) (n + 1)) := ⟨Nat.le_trans HC3.out.size hcl, hM4⟩
 clear C4 hM4 hcl
 go_wp2_with fail
 go_ret
 exact ⟨by first | rfl | simp, ⟨cl, HM4.out.1, HM4.out.2⟩, HC4.out⟩
noncomputable def takeB (mu : Nat) (f : Nat → Option Nat) (pc : Nat → Option (Nat → Option Nat)) (o : OpP) (B : Ans) : Bool :=
 if mayP o.kd B.e (tellP mu f pc o B.h).e = true then decide (B = errA B.e)
 else if o.kd = 5 ∧ B.h = 0 then false
 else if o.kd = 10 then decide (B = ⟨0, false, 0, false, 0, [], B.n⟩)
 else decide (B = tellP mu f pc o B.h)
theorem doF_err {o : OpP} {T : Ans} {f : Nat → Option Nat} (h : (o.kd ≠ 2 ∧ o.kd ≠ 3 ∧ o.kd ≠ 4) ∨ T.e ≠ 0) : doF o T f = f := by
 unfold doF
 rw [if_neg (by omega), if_neg (by omega)]
theorem doP_err {o : OpP} {T : Ans} {f : Nat → Option Nat} {pc : Nat → Option (Nat → Option Nat)} (h : (o.kd ≠ 5 ∧ o.kd ≠ 6) ∨ T.e ≠ 0) : doP o T f pc = pc := by
 funext k
 unfold doP
 rw [if_neg (by omega), if_neg (by omega)]
theorem may_ne {kd be ae : Int} (h : mayP kd be ae = true) : be ≠ 0 := by
 rintro rfl
 unfold mayP at h
 simp at h
theorem take_all {o : OpP} (ho : o.Ok) {r5 : Bool} {r6 r7 : Int} {kp pb : Option Addr} {kc cb : Nat} {B : Ans} (hBh : B.h < 18446744073709551616) {W : World} {m nw hd mu : Nat} {f h : Nat → Option Nat} {g : Nat → Nat → Option Nat} {n : Nat} (H : MoAt W m nw hd mu f h g n) (hmu : mu ≤ 1024) (hn : n ≤ 8796093022000) (hks : KeysAt W kp o.ks) (hB : PairsAt W pb B.l) (hBl : B.l.length ≤ 9223372036854775807) {R : Bool} (hR : R = takeB mu f (pcs h g) o B) :
    Calls Tryz.prog 13 #[.pointer (some ⟨m, 0, none⟩), .agg (opC o r5 r6 r7 kp kc), .agg (ansC B pb cb)] W fun e W' => e = .returned (.bool R) ∧ (∃ h' g', MoAt W' m nw hd mu (if R then doF o B f else f) h' g' (n + 1) ∧ pcs h' g' = if R then doP o B f (pcs h g) else pcs h g) ∧ Chg (fun i => i = nw ∨ i = hd) W W' := by
 obtain ⟨A, hA⟩ : ∃ A, A = tellP mu f (pcs h g) o B.h := ⟨_, rfl⟩
 rw [hR]
 unfold takeB
 rw [← hA]
 have still : ∀ {e : Ending} {W' : World} {b : Bool}, (e = .returned (.bool b) ∧ Chg (fun _ => False) W W') → (b = true → doF o B f = f ∧ doP o B f (pcs h g) = pcs h g) → (e = .returned (.bool b) ∧ (∃ h' g', MoAt W' m nw hd mu (if b then doF o B f else f) h' g' (n + 1) ∧ pcs h' g' = if b then doP o B f (pcs h g) else pcs h g) ∧ Chg (fun i => i = nw ∨ i = hd) W W') := by
  rintro e W' b ⟨h1, hc⟩ hb
  refine ⟨h1, ⟨h, g, ?_, ?_⟩, hc.mono (fun _ _ x => x.elim)⟩
  ·cases b with
   | false => exact (H.quiet hc).mono (Nat.le_succ n)
   | true => rw [if_pos rfl, (hb rfl).1]; exact (H.quiet hc).mono (Nat.le_succ n)
  ·cases b with
   | false => rfl
   | true => rw [if_pos rfl, (hb rfl).2]
 have did : ∀ {e : Ending} {W' : World}, (e = .returned (.bool true) ∧ (∃ cl, W.heap.size ≤ cl ∧ MoAt W' m nw hd mu (doF o B f) (doH o B cl h) (setG g cl f) (n + 1)) ∧ Chg (fun i => i = nw ∨ i = hd) W W') → (e = .returned (.bool true) ∧ (∃ h' g', MoAt W' m nw hd mu (if true then doF o B f else f) h' g' (n + 1) ∧ pcs h' g' = if true then doP o B f (pcs h g) else pcs h g) ∧ Chg (fun i => i = nw ∨ i = hd) W W') := by
  rintro e W' ⟨h1, ⟨cl, hcl, hM⟩, hc⟩
  exact ⟨h1, ⟨_, _, hM, pcs_do o B (fun k b hb => by have := H.blk.2.2.2 k b hb; omega)⟩, hc⟩
 cases hm : mayP o.kd B.e A.e with
 | true =>
  rw [if_pos rfl]
  refine (take_fail (r5 := r5) (r6 := r6) (r7 := r7) (kc := kc) (cb := cb) ho hBh H hmu hn hks hB hBl hA hm rfl).mono ?_
  intro e W' hh
  exact still hh (fun hb => ⟨doF_err (.inr (may_ne hm)), doP_err (.inr (may_ne hm))⟩)
 | false =>
  rw [if_neg (by decide)]
  by_cases k5 : o.kd = 5
  ·by_cases h0 : B.h = 0
   ·rw [if_pos ⟨k5, h0⟩]
    refine (take_no5 (r5 := r5) (r6 := r6) (r7 := r7) (kc := kc) (cb := cb) ho hBh H hmu hn hks hB hBl hA hm k5 h0).mono ?_
    intro e W' hh
    exact still hh (fun hb => by cases hb)
   ·rw [if_neg (fun q => h0 q.2), if_neg (by omega)]
    by_cases q : B = A
    ·rw [decide_eq_true q]
     refine (take_yes5 (r5 := r5) (r6 := r6) (r7 := r7) (kc := kc) (cb := cb) ho hBh H hmu hn hks hB hBl hA hm k5 h0 q).mono ?_
     intro e W' hh
     rw [← q] at hh
     exact did hh
    ·rw [decide_eq_false q]
     refine (take_no5b (r5 := r5) (r6 := r6) (r7 := r7) (kc := kc) (cb := cb) ho hBh H hmu hn hks hB hBl hA hm k5 h0 q).mono ?_
     intro e W' hh
     exact still hh (fun hb => by cases hb)
  ·rw [if_neg (fun q => k5 q.1)]
   by_cases k10 : o.kd = 10
   ·rw [if_pos k10]
    have eA : A = errA 0 := by
     rw [hA]
     unfold tellP
     rw [if_neg (by omega), if_neg (by omega), if_neg (by omega), if_neg (by omega), if_neg (by omega), if_neg (by omega), if_pos k10]
    by_cases q : B = ⟨0, false, 0, false, 0, [], B.n⟩
    ·rw [decide_eq_true q]
     refine (take_yes10b (r5 := r5) (r6 := r6) (r7 := r7) (kc := kc) (cb := cb) ho hBh H hmu hn hks hB hBl hA hm k10 (by rw [eA]; exact q)).mono ?_
     intro e W' hh
     have e2 : (⟨A.e, A.f, A.x, A.d, A.h, A.l, B.n⟩ : Ans) = B := by rw [eA]; exact q.symm
     rw [e2] at hh
     exact did hh
    ·rw [decide_eq_false q]
     refine (take_no10 (r5 := r5) (r6 := r6) (r7 := r7) (kc := kc) (cb := cb) ho hBh H hmu hn hks hB hBl hA hm k10 (by rw [eA]; exact q)).mono ?_
     intro e W' hh
     exact still hh (fun hb => by cases hb)
   ·rw [if_neg k10]
    by_cases q : B = A
    ·rw [decide_eq_true q]
     refine (take_yes (r5 := r5) (r6 := r6) (r7 := r7) (kc := kc) (cb := cb) ho hBh H hmu hn hks hB hBl hA hm k5 k10 q).mono ?_
     intro e W' hh
     rw [← q] at hh
     exact did hh
    ·rw [decide_eq_false q]
     refine (take_noB (r5 := r5) (r6 := r6) (r7 := r7) (kc := kc) (cb := cb) ho hBh H hmu hn hks hB hBl hA hm k5 k10 q).mono ?_
     intro e W' hh
     exact still hh (fun hb => by cases hb)
end Go.Proofs.YtahgaghokpicgaaGreat
