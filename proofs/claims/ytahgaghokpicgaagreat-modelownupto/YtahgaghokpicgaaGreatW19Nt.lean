/- Take of any operation and any answer. -/
import Derived.Test.YtahgaghokpicgaaGreatW17Nk
import Derived.Test.YtahgaghokpicgaaGreatW18Nu
namespace Go.Proofs.YtahgaghokpicgaaGreat
open Go.RowKit Go.Maps
set_option linter.unusedVariables false
set_option maxHeartbeats 16000000
def mayP (kd be ae : Int) : Bool :=
 if be = 30 then decide (kd = 2 ∨ kd = 3 ∨ kd = 4) else if be = 32 ∨ be = 31 then decide (kd = 5) else if be = 34 then decide (¬ kd = 6 ∧ ae = 33) else false
set_option maxRecDepth 100000 in
theorem may_g (kd be ae : Int) (W : World) : Calls Tryz.prog 41 #[.int .u8 kd, .int .i64 be, .int .i64 ae] W fun e W' => e = .returned (.bool (mayP kd be ae)) ∧ W' = W := by
 unfold mayP
 by_cases b30 : be = 30
 ·rw [if_pos b30]
  have z0 : (be == 30) = true := by simpa using b30
  clear b30
  by_cases k2 : kd = 2
  ·subst k2
   go_enter Tryz.func41, Tryz.ntmps41
   go_wp2_with fail
   go_ret
   exact ⟨by simp, rfl⟩
  by_cases k3 : kd = 3
  ·subst k3
   go_enter Tryz.func41, Tryz.ntmps41
   go_wp2_with fail
   go_ret
   exact ⟨by simp, rfl⟩
  have z2 : (kd == 2) = false := by simpa using k2
  have z3 : (kd == 3) = false := by simpa using k3
  by_cases k4 : kd = 4
  ·subst k4
   go_enter Tryz.func41, Tryz.ntmps41
   go_wp2_with fail
   go_ret
   exact ⟨by simp, rfl⟩
  ·have z4 : (kd == 4) = false := by simpa using k4
   have e : decide (kd = 2 ∨ kd = 3 ∨ kd = 4) = false := by simp [k2, k3, k4]
   rw [e]
   clear e
   go_enter Tryz.func41, Tryz.ntmps41
   go_wp2_with fail
   go_ret
   exact ⟨by simp, rfl⟩
 ·rw [if_neg b30]
  have z0 : (be == 30) = false := by simpa using b30
  by_cases b32 : be = 32
  ·rw [if_pos (.inl b32)]
   have z1 : (be == 32) = true := by simpa using b32
   clear b30 b32
   by_cases k5 : kd = 5
   ·subst k5
    go_enter Tryz.func41, Tryz.ntmps41
    go_wp2_with fail
    go_ret
    exact ⟨by simp, rfl⟩
   ·have z5 : (kd == 5) = false := by simpa using k5
    rw [decide_eq_false k5]
    go_enter Tryz.func41, Tryz.ntmps41
    go_wp2_with fail
    go_ret
    exact ⟨by simp, rfl⟩
  have z1 : (be == 32) = false := by simpa using b32
  by_cases b31 : be = 31
  ·rw [if_pos (.inr b31)]
   have z2 : (be == 31) = true := by simpa using b31
   clear b30 b31 b32
   by_cases k5 : kd = 5
   ·subst k5
    go_enter Tryz.func41, Tryz.ntmps41
    go_wp2_with fail
    go_ret
    exact ⟨by simp, rfl⟩
   ·have z5 : (kd == 5) = false := by simpa using k5
    rw [decide_eq_false k5]
    go_enter Tryz.func41, Tryz.ntmps41
    go_wp2_with fail
    go_ret
    exact ⟨by simp, rfl⟩
  have z2 : (be == 31) = false := by simpa using b31
  rw [if_neg (by simp [b32, b31])]
  by_cases b34 : be = 34
  ·rw [if_pos b34]
   have z3 : (be == 34) = true := by simpa using b34
   clear b30 b31 b32 b34
   by_cases k6 : kd = 6
   ·subst k6
    go_enter Tryz.func41, Tryz.ntmps41
    go_wp2_with fail
    go_ret
    exact ⟨by simp, rfl⟩
   ·have z6 : (kd != 6) = true := by simpa using k6
    by_cases a33 : ae = 33
    ·have z7 : (ae == 33) = true := by simpa using a33
     rw [decide_eq_true ⟨k6, a33⟩]
     clear a33
     go_enter Tryz.func41, Tryz.ntmps41
     go_wp2_with fail
     go_ret
     exact ⟨by simp, rfl⟩
    ·have z7 : (ae == 33) = false := by simpa using a33
     rw [decide_eq_false (fun x => a33 x.2)]
     go_enter Tryz.func41, Tryz.ntmps41
     go_wp2_with fail
     go_ret
     exact ⟨by simp, rfl⟩
  ·have z3 : (be == 34) = false := by simpa using b34
   rw [if_neg b34]
   go_enter Tryz.func41, Tryz.ntmps41
   go_wp2_with fail
   go_ret
   exact ⟨by simp, rfl⟩
set_option maxRecDepth 100000 in
theorem take_fail {o : OpP} (ho : o.Ok) {r5 : Bool} {r6 r7 : Int} {kp pb : Option Addr} {kc cb : Nat} {B : Ans} (hBh : B.h < 18446744073709551616) {W : World} {m nw hd mu : Nat} {f h : Nat → Option Nat} {g : Nat → Nat → Option Nat} {n : Nat} (H : MoAt W m nw hd mu f h g n) (hmu : mu ≤ 1024) (hn : n ≤ 8796093022000) (hks : KeysAt W kp o.ks) (hB : PairsAt W pb B.l) (hBl : B.l.length ≤ 9223372036854775807) {A : Ans} (hA : A = tellP mu f (pcs h g) o B.h) (hm : mayP o.kd B.e A.e = true) {bb : Bool} (hbb : bb = decide (B = (⟨B.e, false, 0, false, 0, [], 0⟩ : Ans))) :
    Calls Tryz.prog 13 #[.pointer (some ⟨m, 0, none⟩), .agg #[.int .u8 o.kd, .int .u64 o.k, .int .u64 o.v, .int .u64 o.od, .int .u64 o.hk, .bool r5, .int .i64 r6, .int .i64 r7, .slice kp o.ks.length kc, .int .u64 o.lo, .int .u64 o.hi], .agg #[.int .i64 B.e, .bool B.f, .int .u64 B.x, .bool B.d, .int .u64 B.h, .slice pb B.l.length cb, .int .u64 B.n]] W fun e W' => e = .returned (.bool bb) ∧ Chg (fun _ => False) W W' := by
 have hAh : A.h < 18446744073709551616 := by rw [hA]; exact tellP_h mu f _ o hBh
 obtain ⟨w0, hw0⟩ : ∃ w0, w0 = (W.alloc (.cells #[.int .u8 o.kd, .int .u64 o.k, .int .u64 o.v, .int .u64 o.od, .int .u64 o.hk, .bool r5, .int .i64 r6, .int .i64 r7, .slice kp o.ks.length kc, .int .u64 o.lo, .int .u64 o.hi] 35)).alloc (.cells #[.int .i64 B.e, .bool B.f, .int .u64 B.x, .bool B.d, .int .u64 B.h, .slice pb B.l.length cb, .int .u64 B.n] 39) := ⟨_, rfl⟩
 have C0 : Chg (fun _ => False) W w0 := by rw [hw0]; exact ((Chg.refl _ _).alloc _).alloc _
 have o0 : w0.heap[W.heap.size]? = some (.cells #[.int .u8 o.kd, .int .u64 o.k, .int .u64 o.v, .int .u64 o.od, .int .u64 o.hk, .bool r5, .int .i64 r6, .int .i64 r7, .slice kp o.ks.length kc, .int .u64 o.lo, .int .u64 o.hi] 35 (0, 0)) := by rw [hw0]; exact alloc_of (heap_alloc_new _ _) _
 have a0 : w0.heap[W.heap.size + 1]? = some (.cells #[.int .i64 B.e, .bool B.f, .int .u64 B.x, .bool B.d, .int .u64 B.h, .slice pb B.l.length cb, .int .u64 B.n] 39 (0, 0)) := by
  rw [hw0]
  exact al2
 have HC0 := keepH C0
 have HO0 := keepH o0
 have HA0 := keepH a0
 have HM0 := keepH (H.quiet C0)
 have HBL := keepH H.blk
 have HK0 := keepH (hks.chg C0 (fun _ _ _ x => x))
 have HPB := keepH (hB.chg C0)
 have HOK := keepH ho
 have HT := keepH (tells_all ho (r5 := r5) (r6 := r6) (r7 := r7) (kc := kc) hBh HM0.out hmu hn HK0.out)
 rw [← hA] at HT
 have HSZ : Hid (w0.heap.size = W.heap.size + 2) := by rw [hw0]; show _ = _; simp
 have HN : Hid (n ≤ 8796093022000 ∧ A.h < 18446744073709551616) := ⟨hn, hAh⟩
 have HMP := keepH hm
 have HBB := keepH hbb
 clear hm hbb
 have c0 : w0.cell? ⟨W.heap.size, 0, none⟩ = some (.int .u8 o.kd) := cell_of o0 0
 have c1 : w0.cell? ⟨W.heap.size, 1, none⟩ = some (.int .u64 o.k) := cell_of o0 1
 have c2 : w0.cell? ⟨W.heap.size, 2, none⟩ = some (.int .u64 o.v) := cell_of o0 2
 have c3 : w0.cell? ⟨W.heap.size, 3, none⟩ = some (.int .u64 o.od) := cell_of o0 3
 have c4 : w0.cell? ⟨W.heap.size, 4, none⟩ = some (.int .u64 o.hk) := cell_of o0 4
 have c5 : w0.cell? ⟨W.heap.size, 5, none⟩ = some (.bool r5) := cell_of o0 5
 have c6 : w0.cell? ⟨W.heap.size, 6, none⟩ = some (.int .i64 r6) := cell_of o0 6
 have c7 : w0.cell? ⟨W.heap.size, 7, none⟩ = some (.int .i64 r7) := cell_of o0 7
 have c8 : w0.cell? ⟨W.heap.size, 8, none⟩ = some (.slice kp o.ks.length kc) := cell_of o0 8
 have c9 : w0.cell? ⟨W.heap.size, 9, none⟩ = some (.int .u64 o.lo) := cell_of o0 9
 have c10 : w0.cell? ⟨W.heap.size, 10, none⟩ = some (.int .u64 o.hi) := cell_of o0 10
 have b4 : w0.cell? ⟨W.heap.size + 1, 4, none⟩ = some (.int .u64 B.h) := cell_of a0 4
 clear C0 o0 a0 H hks ho hBh hmu hA hAh hn hB
 go_enter Tryz.func13, Tryz.ntmps13
 go_upto_region 1 with fail
 rw [← hw0]
 clear hw0
 go_wp2_with fail
 refine HT.out.mono ?_
 rintro e w1 ⟨⟨p, c, rfl, hP, hPB, hPL⟩, C1⟩
 unfold ansC
 obtain ⟨w2, hw2⟩ : ∃ w2, w2 = w1.alloc (.cells #[.int .i64 A.e, .bool A.f, .int .u64 A.x, .bool A.d, .int .u64 A.h, .slice p A.l.length c, .int .u64 A.n] 39) := ⟨_, rfl⟩
 have C2 : Chg (fun _ => False) w0 w2 := by rw [hw2]; exact C1.alloc _
 have HT2 : Hid (w2.heap[w1.heap.size]? = some (.cells #[.int .i64 A.e, .bool A.f, .int .u64 A.x, .bool A.d, .int .u64 A.h, .slice p A.l.length c, .int .u64 A.n] 39 (0, 0))) := by rw [hw2]; exact heap_alloc_new _ _
 have HO2 : Hid (w2.heap[W.heap.size]? = some (.cells #[.int .u8 o.kd, .int .u64 o.k, .int .u64 o.v, .int .u64 o.od, .int .u64 o.hk, .bool r5, .int .i64 r6, .int .i64 r7, .slice kp o.ks.length kc, .int .u64 o.lo, .int .u64 o.hi] 35 (0, 0))) := (C2.block _ (lt_of HO0.out) (fun x => x)).trans HO0.out
 have HA2 : Hid (w2.heap[W.heap.size + 1]? = some (.cells #[.int .i64 B.e, .bool B.f, .int .u64 B.x, .bool B.d, .int .u64 B.h, .slice pb B.l.length cb, .int .u64 B.n] 39 (0, 0))) := (C2.block _ (lt_of HA0.out) (fun x => x)).trans HA0.out
 have HM2 := keepH (HM0.out.quiet C2)
 have HPB2 := keepH (HPB.out.chg C2)
 have HP2 : Hid (PairsAt w2 p A.l ∧ A.l.length ≤ 8796093022000) := ⟨hP.at_.chg (by rw [hw2]; exact (Chg.refl _ _).alloc _), hPL⟩
 have HC2 : Hid (Chg (fun _ => False) W w2) := HC0.out.trans C2 (fun _ _ x => x) (fun _ _ x => x)
 have HZ2 : Hid (w0.heap.size ≤ w1.heap.size) := C1.size
 clear C1 C2 hP hPB hPL c0 c1 c2 c3 c4 c5 c6 c7 c8 c9 c10 b4
 go_upto_region 4 with fail
 rw [← hw2]
 clear hw2
 have c0 : w2.cell? ⟨W.heap.size, 0, none⟩ = some (.int .u8 o.kd) := cell_of HO2.out 0
 have c1 : w2.cell? ⟨W.heap.size, 1, none⟩ = some (.int .u64 o.k) := cell_of HO2.out 1
 have c2 : w2.cell? ⟨W.heap.size, 2, none⟩ = some (.int .u64 o.v) := cell_of HO2.out 2
 have c3 : w2.cell? ⟨W.heap.size, 3, none⟩ = some (.int .u64 o.od) := cell_of HO2.out 3
 have c4 : w2.cell? ⟨W.heap.size, 4, none⟩ = some (.int .u64 o.hk) := cell_of HO2.out 4
 have c5 : w2.cell? ⟨W.heap.size, 5, none⟩ = some (.bool r5) := cell_of HO2.out 5
 have c6 : w2.cell? ⟨W.heap.size, 6, none⟩ = some (.int .i64 r6) := cell_of HO2.out 6
 have c7 : w2.cell? ⟨W.heap.size, 7, none⟩ = some (.int .i64 r7) := cell_of HO2.out 7
 have c8 : w2.cell? ⟨W.heap.size, 8, none⟩ = some (.slice kp o.ks.length kc) := cell_of HO2.out 8
 have c9 : w2.cell? ⟨W.heap.size, 9, none⟩ = some (.int .u64 o.lo) := cell_of HO2.out 9
 have c10 : w2.cell? ⟨W.heap.size, 10, none⟩ = some (.int .u64 o.hi) := cell_of HO2.out 10
 have b0 : w2.cell? ⟨W.heap.size + 1, 0, none⟩ = some (.int .i64 B.e) := cell_of HA2.out 0
 have b1 : w2.cell? ⟨W.heap.size + 1, 1, none⟩ = some (.bool B.f) := cell_of HA2.out 1
 have b2 : w2.cell? ⟨W.heap.size + 1, 2, none⟩ = some (.int .u64 B.x) := cell_of HA2.out 2
 have b3 : w2.cell? ⟨W.heap.size + 1, 3, none⟩ = some (.bool B.d) := cell_of HA2.out 3
 have b4 : w2.cell? ⟨W.heap.size + 1, 4, none⟩ = some (.int .u64 B.h) := cell_of HA2.out 4
 have b5 : w2.cell? ⟨W.heap.size + 1, 5, none⟩ = some (.slice pb B.l.length cb) := cell_of HA2.out 5
 have b6 : w2.cell? ⟨W.heap.size + 1, 6, none⟩ = some (.int .u64 B.n) := cell_of HA2.out 6
 have t0 : w2.cell? ⟨w1.heap.size, 0, none⟩ = some (.int .i64 A.e) := cell_of HT2.out 0
 have t1 : w2.cell? ⟨w1.heap.size, 1, none⟩ = some (.bool A.f) := cell_of HT2.out 1
 have t2 : w2.cell? ⟨w1.heap.size, 2, none⟩ = some (.int .u64 A.x) := cell_of HT2.out 2
 have t3 : w2.cell? ⟨w1.heap.size, 3, none⟩ = some (.bool A.d) := cell_of HT2.out 3
 have t4 : w2.cell? ⟨w1.heap.size, 4, none⟩ = some (.int .u64 A.h) := cell_of HT2.out 4
 have t5 : w2.cell? ⟨w1.heap.size, 5, none⟩ = some (.slice p A.l.length c) := cell_of HT2.out 5
 have t6 : w2.cell? ⟨w1.heap.size, 6, none⟩ = some (.int .u64 A.n) := cell_of HT2.out 6
 go_wp2_with fail
 refine (may_g _ _ _ _).mono ?_
 rintro e z ⟨rfl, rfl⟩
 rw [HMP.out]
 have HS := keepH (m_sameL B.e B.e B.f false B.d false B.x 0 B.h 0 B.n 0 pb none cb 0 B.l [] z HPB2.out (.inl rfl) hBl (by simp))
 rw [show decide ((⟨B.e, B.f, B.x, B.d, B.h, B.l, B.n⟩ : Ans) = ⟨B.e, false, 0, false, 0, [], 0⟩) = bb from HBB.out.symm] at HS
 go_wp2_with fail
 refine HS.out.mono ?_
 rintro e w3 ⟨rfl, C3⟩
 have HC3 : Hid (Chg (fun _ => False) W w3) := HC2.out.trans C3 (fun _ _ x => x) (fun _ _ x => x)
 clear C3
 go_wp2_with fail
 go_ret
 exact ⟨by first | rfl | simp, HC3.out⟩
set_option maxRecDepth 100000 in
theorem take_no5 {o : OpP} (ho : o.Ok) {r5 : Bool} {r6 r7 : Int} {kp pb : Option Addr} {kc cb : Nat} {B : Ans} (hBh : B.h < 18446744073709551616) {W : World} {m nw hd mu : Nat} {f h : Nat → Option Nat} {g : Nat → Nat → Option Nat} {n : Nat} (H : MoAt W m nw hd mu f h g n) (hmu : mu ≤ 1024) (hn : n ≤ 8796093022000) (hks : KeysAt W kp o.ks) (hB : PairsAt W pb B.l) (hBl : B.l.length ≤ 9223372036854775807) {A : Ans} (hA : A = tellP mu f (pcs h g) o B.h) (hm : mayP o.kd B.e A.e = false) (k5 : o.kd = 5) (h0 : B.h = 0) :
    Calls Tryz.prog 13 #[.pointer (some ⟨m, 0, none⟩), .agg #[.int .u8 o.kd, .int .u64 o.k, .int .u64 o.v, .int .u64 o.od, .int .u64 o.hk, .bool r5, .int .i64 r6, .int .i64 r7, .slice kp o.ks.length kc, .int .u64 o.lo, .int .u64 o.hi], .agg #[.int .i64 B.e, .bool B.f, .int .u64 B.x, .bool B.d, .int .u64 B.h, .slice pb B.l.length cb, .int .u64 B.n]] W fun e W' => e = .returned (.bool false) ∧ Chg (fun _ => False) W W' := by
 have hAh : A.h < 18446744073709551616 := by rw [hA]; exact tellP_h mu f _ o hBh
 obtain ⟨w0, hw0⟩ : ∃ w0, w0 = (W.alloc (.cells #[.int .u8 o.kd, .int .u64 o.k, .int .u64 o.v, .int .u64 o.od, .int .u64 o.hk, .bool r5, .int .i64 r6, .int .i64 r7, .slice kp o.ks.length kc, .int .u64 o.lo, .int .u64 o.hi] 35)).alloc (.cells #[.int .i64 B.e, .bool B.f, .int .u64 B.x, .bool B.d, .int .u64 B.h, .slice pb B.l.length cb, .int .u64 B.n] 39) := ⟨_, rfl⟩
 have C0 : Chg (fun _ => False) W w0 := by rw [hw0]; exact ((Chg.refl _ _).alloc _).alloc _
 have o0 : w0.heap[W.heap.size]? = some (.cells #[.int .u8 o.kd, .int .u64 o.k, .int .u64 o.v, .int .u64 o.od, .int .u64 o.hk, .bool r5, .int .i64 r6, .int .i64 r7, .slice kp o.ks.length kc, .int .u64 o.lo, .int .u64 o.hi] 35 (0, 0)) := by rw [hw0]; exact alloc_of (heap_alloc_new _ _) _
 have a0 : w0.heap[W.heap.size + 1]? = some (.cells #[.int .i64 B.e, .bool B.f, .int .u64 B.x, .bool B.d, .int .u64 B.h, .slice pb B.l.length cb, .int .u64 B.n] 39 (0, 0)) := by
  rw [hw0]
  exact al2
 have HC0 := keepH C0
 have HO0 := keepH o0
 have HA0 := keepH a0
 have HM0 := keepH (H.quiet C0)
 have HBL := keepH H.blk
 have HK0 := keepH (hks.chg C0 (fun _ _ _ x => x))
 have HPB := keepH (hB.chg C0)
 have HOK := keepH ho
 have HT := keepH (tells_all ho (r5 := r5) (r6 := r6) (r7 := r7) (kc := kc) hBh HM0.out hmu hn HK0.out)
 rw [← hA] at HT
 have HSZ : Hid (w0.heap.size = W.heap.size + 2) := by rw [hw0]; show _ = _; simp
 have HN : Hid (n ≤ 8796093022000 ∧ A.h < 18446744073709551616) := ⟨hn, hAh⟩
 have HMP := keepH hm
 have z5 : (o.kd == 5) = true := by simpa using k5
 have z10 : (o.kd == 10) = false := by simp [k5]
 have zh : ((B.h : Int) == 0) = true := by simp [h0]
 clear hm k5 h0
 have c0 : w0.cell? ⟨W.heap.size, 0, none⟩ = some (.int .u8 o.kd) := cell_of o0 0
 have c1 : w0.cell? ⟨W.heap.size, 1, none⟩ = some (.int .u64 o.k) := cell_of o0 1
 have c2 : w0.cell? ⟨W.heap.size, 2, none⟩ = some (.int .u64 o.v) := cell_of o0 2
 have c3 : w0.cell? ⟨W.heap.size, 3, none⟩ = some (.int .u64 o.od) := cell_of o0 3
 have c4 : w0.cell? ⟨W.heap.size, 4, none⟩ = some (.int .u64 o.hk) := cell_of o0 4
 have c5 : w0.cell? ⟨W.heap.size, 5, none⟩ = some (.bool r5) := cell_of o0 5
 have c6 : w0.cell? ⟨W.heap.size, 6, none⟩ = some (.int .i64 r6) := cell_of o0 6
 have c7 : w0.cell? ⟨W.heap.size, 7, none⟩ = some (.int .i64 r7) := cell_of o0 7
 have c8 : w0.cell? ⟨W.heap.size, 8, none⟩ = some (.slice kp o.ks.length kc) := cell_of o0 8
 have c9 : w0.cell? ⟨W.heap.size, 9, none⟩ = some (.int .u64 o.lo) := cell_of o0 9
 have c10 : w0.cell? ⟨W.heap.size, 10, none⟩ = some (.int .u64 o.hi) := cell_of o0 10
 have b4 : w0.cell? ⟨W.heap.size + 1, 4, none⟩ = some (.int .u64 B.h) := cell_of a0 4
 clear C0 o0 a0 H hks ho hBh hmu hA hAh hn hB
 go_enter Tryz.func13, Tryz.ntmps13
 go_upto_region 1 with fail
 rw [← hw0]
 clear hw0
 go_wp2_with fail
 refine HT.out.mono ?_
 rintro e w1 ⟨⟨p, c, rfl, hP, hPB, hPL⟩, C1⟩
 unfold ansC
 obtain ⟨w2, hw2⟩ : ∃ w2, w2 = w1.alloc (.cells #[.int .i64 A.e, .bool A.f, .int .u64 A.x, .bool A.d, .int .u64 A.h, .slice p A.l.length c, .int .u64 A.n] 39) := ⟨_, rfl⟩
 have C2 : Chg (fun _ => False) w0 w2 := by rw [hw2]; exact C1.alloc _
 have HT2 : Hid (w2.heap[w1.heap.size]? = some (.cells #[.int .i64 A.e, .bool A.f, .int .u64 A.x, .bool A.d, .int .u64 A.h, .slice p A.l.length c, .int .u64 A.n] 39 (0, 0))) := by rw [hw2]; exact heap_alloc_new _ _
 have HO2 : Hid (w2.heap[W.heap.size]? = some (.cells #[.int .u8 o.kd, .int .u64 o.k, .int .u64 o.v, .int .u64 o.od, .int .u64 o.hk, .bool r5, .int .i64 r6, .int .i64 r7, .slice kp o.ks.length kc, .int .u64 o.lo, .int .u64 o.hi] 35 (0, 0))) := (C2.block _ (lt_of HO0.out) (fun x => x)).trans HO0.out
 have HA2 : Hid (w2.heap[W.heap.size + 1]? = some (.cells #[.int .i64 B.e, .bool B.f, .int .u64 B.x, .bool B.d, .int .u64 B.h, .slice pb B.l.length cb, .int .u64 B.n] 39 (0, 0))) := (C2.block _ (lt_of HA0.out) (fun x => x)).trans HA0.out
 have HM2 := keepH (HM0.out.quiet C2)
 have HPB2 := keepH (HPB.out.chg C2)
 have HP2 : Hid (PairsAt w2 p A.l ∧ A.l.length ≤ 8796093022000) := ⟨hP.at_.chg (by rw [hw2]; exact (Chg.refl _ _).alloc _), hPL⟩
 have HC2 : Hid (Chg (fun _ => False) W w2) := HC0.out.trans C2 (fun _ _ x => x) (fun _ _ x => x)
 have HZ2 : Hid (w0.heap.size ≤ w1.heap.size) := C1.size
 clear C1 C2 hP hPB hPL c0 c1 c2 c3 c4 c5 c6 c7 c8 c9 c10 b4
 go_upto_region 4 with fail
 rw [← hw2]
 clear hw2
 have c0 : w2.cell? ⟨W.heap.size, 0, none⟩ = some (.int .u8 o.kd) := cell_of HO2.out 0
 have c1 : w2.cell? ⟨W.heap.size, 1, none⟩ = some (.int .u64 o.k) := cell_of HO2.out 1
 have c2 : w2.cell? ⟨W.heap.size, 2, none⟩ = some (.int .u64 o.v) := cell_of HO2.out 2
 have c3 : w2.cell? ⟨W.heap.size, 3, none⟩ = some (.int .u64 o.od) := cell_of HO2.out 3
 have c4 : w2.cell? ⟨W.heap.size, 4, none⟩ = some (.int .u64 o.hk) := cell_of HO2.out 4
 have c5 : w2.cell? ⟨W.heap.size, 5, none⟩ = some (.bool r5) := cell_of HO2.out 5
 have c6 : w2.cell? ⟨W.heap.size, 6, none⟩ = some (.int .i64 r6) := cell_of HO2.out 6
 have c7 : w2.cell? ⟨W.heap.size, 7, none⟩ = some (.int .i64 r7) := cell_of HO2.out 7
 have c8 : w2.cell? ⟨W.heap.size, 8, none⟩ = some (.slice kp o.ks.length kc) := cell_of HO2.out 8
 have c9 : w2.cell? ⟨W.heap.size, 9, none⟩ = some (.int .u64 o.lo) := cell_of HO2.out 9
 have c10 : w2.cell? ⟨W.heap.size, 10, none⟩ = some (.int .u64 o.hi) := cell_of HO2.out 10
 have b0 : w2.cell? ⟨W.heap.size + 1, 0, none⟩ = some (.int .i64 B.e) := cell_of HA2.out 0
 have b1 : w2.cell? ⟨W.heap.size + 1, 1, none⟩ = some (.bool B.f) := cell_of HA2.out 1
 have b2 : w2.cell? ⟨W.heap.size + 1, 2, none⟩ = some (.int .u64 B.x) := cell_of HA2.out 2
 have b3 : w2.cell? ⟨W.heap.size + 1, 3, none⟩ = some (.bool B.d) := cell_of HA2.out 3
 have b4 : w2.cell? ⟨W.heap.size + 1, 4, none⟩ = some (.int .u64 B.h) := cell_of HA2.out 4
 have b5 : w2.cell? ⟨W.heap.size + 1, 5, none⟩ = some (.slice pb B.l.length cb) := cell_of HA2.out 5
 have b6 : w2.cell? ⟨W.heap.size + 1, 6, none⟩ = some (.int .u64 B.n) := cell_of HA2.out 6
 have t0 : w2.cell? ⟨w1.heap.size, 0, none⟩ = some (.int .i64 A.e) := cell_of HT2.out 0
 have t1 : w2.cell? ⟨w1.heap.size, 1, none⟩ = some (.bool A.f) := cell_of HT2.out 1
 have t2 : w2.cell? ⟨w1.heap.size, 2, none⟩ = some (.int .u64 A.x) := cell_of HT2.out 2
 have t3 : w2.cell? ⟨w1.heap.size, 3, none⟩ = some (.bool A.d) := cell_of HT2.out 3
 have t4 : w2.cell? ⟨w1.heap.size, 4, none⟩ = some (.int .u64 A.h) := cell_of HT2.out 4
 have t5 : w2.cell? ⟨w1.heap.size, 5, none⟩ = some (.slice p A.l.length c) := cell_of HT2.out 5
 have t6 : w2.cell? ⟨w1.heap.size, 6, none⟩ = some (.int .u64 A.n) := cell_of HT2.out 6
 go_wp2_with fail
 refine (may_g _ _ _ _).mono ?_
 rintro e z ⟨rfl, rfl⟩
 rw [HMP.out]
 go_wp2_with fail
 go_ret
 exact ⟨by first | rfl | simp, HC2.out⟩
set_option maxRecDepth 100000 in
theorem take_noB {o : OpP} (ho : o.Ok) {r5 : Bool} {r6 r7 : Int} {kp pb : Option Addr} {kc cb : Nat} {B : Ans} (hBh : B.h < 18446744073709551616) {W : World} {m nw hd mu : Nat} {f h : Nat → Option Nat} {g : Nat → Nat → Option Nat} {n : Nat} (H : MoAt W m nw hd mu f h g n) (hmu : mu ≤ 1024) (hn : n ≤ 8796093022000) (hks : KeysAt W kp o.ks) (hB : PairsAt W pb B.l) (hBl : B.l.length ≤ 9223372036854775807) {A : Ans} (hA : A = tellP mu f (pcs h g) o B.h) (hm : mayP o.kd B.e A.e = false) (k5 : ¬ o.kd = 5) (k10 : ¬ o.kd = 10) (hne : ¬ B = A) :
    Calls Tryz.prog 13 #[.pointer (some ⟨m, 0, none⟩), .agg #[.int .u8 o.kd, .int .u64 o.k, .int .u64 o.v, .int .u64 o.od, .int .u64 o.hk, .bool r5, .int .i64 r6, .int .i64 r7, .slice kp o.ks.length kc, .int .u64 o.lo, .int .u64 o.hi], .agg #[.int .i64 B.e, .bool B.f, .int .u64 B.x, .bool B.d, .int .u64 B.h, .slice pb B.l.length cb, .int .u64 B.n]] W fun e W' => e = .returned (.bool false) ∧ Chg (fun _ => False) W W' := by
 have hAh : A.h < 18446744073709551616 := by rw [hA]; exact tellP_h mu f _ o hBh
 obtain ⟨w0, hw0⟩ : ∃ w0, w0 = (W.alloc (.cells #[.int .u8 o.kd, .int .u64 o.k, .int .u64 o.v, .int .u64 o.od, .int .u64 o.hk, .bool r5, .int .i64 r6, .int .i64 r7, .slice kp o.ks.length kc, .int .u64 o.lo, .int .u64 o.hi] 35)).alloc (.cells #[.int .i64 B.e, .bool B.f, .int .u64 B.x, .bool B.d, .int .u64 B.h, .slice pb B.l.length cb, .int .u64 B.n] 39) := ⟨_, rfl⟩
 have C0 : Chg (fun _ => False) W w0 := by rw [hw0]; exact ((Chg.refl _ _).alloc _).alloc _
 have o0 : w0.heap[W.heap.size]? = some (.cells #[.int .u8 o.kd, .int .u64 o.k, .int .u64 o.v, .int .u64 o.od, .int .u64 o.hk, .bool r5, .int .i64 r6, .int .i64 r7, .slice kp o.ks.length kc, .int .u64 o.lo, .int .u64 o.hi] 35 (0, 0)) := by rw [hw0]; exact alloc_of (heap_alloc_new _ _) _
 have a0 : w0.heap[W.heap.size + 1]? = some (.cells #[.int .i64 B.e, .bool B.f, .int .u64 B.x, .bool B.d, .int .u64 B.h, .slice pb B.l.length cb, .int .u64 B.n] 39 (0, 0)) := by
  rw [hw0]
  exact al2
 have HC0 := keepH C0
 have HO0 := keepH o0
 have HA0 := keepH a0
 have HM0 := keepH (H.quiet C0)
 have HBL := keepH H.blk
 have HK0 := keepH (hks.chg C0 (fun _ _ _ x => x))
 have HPB := keepH (hB.chg C0)
 have HOK := keepH ho
 have HT := keepH (tells_all ho (r5 := r5) (r6 := r6) (r7 := r7) (kc := kc) hBh HM0.out hmu hn HK0.out)
 rw [← hA] at HT
 have HSZ : Hid (w0.heap.size = W.heap.size + 2) := by rw [hw0]; show _ = _; simp
 have HN : Hid (n ≤ 8796093022000 ∧ A.h < 18446744073709551616) := ⟨hn, hAh⟩
 have HMP := keepH hm
 have HNE := keepH hne
 have z10 : (o.kd == 10) = false := by simpa using k10
 have z5 : (o.kd == 5) = false := by simpa using k5
 clear hm hne
 have c0 : w0.cell? ⟨W.heap.size, 0, none⟩ = some (.int .u8 o.kd) := cell_of o0 0
 have c1 : w0.cell? ⟨W.heap.size, 1, none⟩ = some (.int .u64 o.k) := cell_of o0 1
 have c2 : w0.cell? ⟨W.heap.size, 2, none⟩ = some (.int .u64 o.v) := cell_of o0 2
 have c3 : w0.cell? ⟨W.heap.size, 3, none⟩ = some (.int .u64 o.od) := cell_of o0 3
 have c4 : w0.cell? ⟨W.heap.size, 4, none⟩ = some (.int .u64 o.hk) := cell_of o0 4
 have c5 : w0.cell? ⟨W.heap.size, 5, none⟩ = some (.bool r5) := cell_of o0 5
 have c6 : w0.cell? ⟨W.heap.size, 6, none⟩ = some (.int .i64 r6) := cell_of o0 6
 have c7 : w0.cell? ⟨W.heap.size, 7, none⟩ = some (.int .i64 r7) := cell_of o0 7
 have c8 : w0.cell? ⟨W.heap.size, 8, none⟩ = some (.slice kp o.ks.length kc) := cell_of o0 8
 have c9 : w0.cell? ⟨W.heap.size, 9, none⟩ = some (.int .u64 o.lo) := cell_of o0 9
 have c10 : w0.cell? ⟨W.heap.size, 10, none⟩ = some (.int .u64 o.hi) := cell_of o0 10
 have b4 : w0.cell? ⟨W.heap.size + 1, 4, none⟩ = some (.int .u64 B.h) := cell_of a0 4
 clear C0 o0 a0 H hks ho hBh hmu hA hAh hn hB
 go_enter Tryz.func13, Tryz.ntmps13
 go_upto_region 1 with fail
 rw [← hw0]
 clear hw0
 go_wp2_with fail
 refine HT.out.mono ?_
 rintro e w1 ⟨⟨p, c, rfl, hP, hPB, hPL⟩, C1⟩
 unfold ansC
 obtain ⟨w2, hw2⟩ : ∃ w2, w2 = w1.alloc (.cells #[.int .i64 A.e, .bool A.f, .int .u64 A.x, .bool A.d, .int .u64 A.h, .slice p A.l.length c, .int .u64 A.n] 39) := ⟨_, rfl⟩
 have C2 : Chg (fun _ => False) w0 w2 := by rw [hw2]; exact C1.alloc _
 have HT2 : Hid (w2.heap[w1.heap.size]? = some (.cells #[.int .i64 A.e, .bool A.f, .int .u64 A.x, .bool A.d, .int .u64 A.h, .slice p A.l.length c, .int .u64 A.n] 39 (0, 0))) := by rw [hw2]; exact heap_alloc_new _ _
 have HO2 : Hid (w2.heap[W.heap.size]? = some (.cells #[.int .u8 o.kd, .int .u64 o.k, .int .u64 o.v, .int .u64 o.od, .int .u64 o.hk, .bool r5, .int .i64 r6, .int .i64 r7, .slice kp o.ks.length kc, .int .u64 o.lo, .int .u64 o.hi] 35 (0, 0))) := (C2.block _ (lt_of HO0.out) (fun x => x)).trans HO0.out
 have HA2 : Hid (w2.heap[W.heap.size + 1]? = some (.cells #[.int .i64 B.e, .bool B.f, .int .u64 B.x, .bool B.d, .int .u64 B.h, .slice pb B.l.length cb, .int .u64 B.n] 39 (0, 0))) := (C2.block _ (lt_of HA0.out) (fun x => x)).trans HA0.out
 have HM2 := keepH (HM0.out.quiet C2)
 have HPB2 := keepH (HPB.out.chg C2)
 have HP2 : Hid (PairsAt w2 p A.l ∧ A.l.length ≤ 8796093022000) := ⟨hP.at_.chg (by rw [hw2]; exact (Chg.refl _ _).alloc _), hPL⟩
 have HC2 : Hid (Chg (fun _ => False) W w2) := HC0.out.trans C2 (fun _ _ x => x) (fun _ _ x => x)
 have HZ2 : Hid (w0.heap.size ≤ w1.heap.size) := C1.size
 clear C1 C2 hP hPB hPL c0 c1 c2 c3 c4 c5 c6 c7 c8 c9 c10 b4
 go_upto_region 4 with fail
 rw [← hw2]
 clear hw2
 have c0 : w2.cell? ⟨W.heap.size, 0, none⟩ = some (.int .u8 o.kd) := cell_of HO2.out 0
 have c1 : w2.cell? ⟨W.heap.size, 1, none⟩ = some (.int .u64 o.k) := cell_of HO2.out 1
 have c2 : w2.cell? ⟨W.heap.size, 2, none⟩ = some (.int .u64 o.v) := cell_of HO2.out 2
 have c3 : w2.cell? ⟨W.heap.size, 3, none⟩ = some (.int .u64 o.od) := cell_of HO2.out 3
 have c4 : w2.cell? ⟨W.heap.size, 4, none⟩ = some (.int .u64 o.hk) := cell_of HO2.out 4
 have c5 : w2.cell? ⟨W.heap.size, 5, none⟩ = some (.bool r5) := cell_of HO2.out 5
 have c6 : w2.cell? ⟨W.heap.size, 6, none⟩ = some (.int .i64 r6) := cell_of HO2.out 6
 have c7 : w2.cell? ⟨W.heap.size, 7, none⟩ = some (.int .i64 r7) := cell_of HO2.out 7
 have c8 : w2.cell? ⟨W.heap.size, 8, none⟩ = some (.slice kp o.ks.length kc) := cell_of HO2.out 8
 have c9 : w2.cell? ⟨W.heap.size, 9, none⟩ = some (.int .u64 o.lo) := cell_of HO2.out 9
 have c10 : w2.cell? ⟨W.heap.size, 10, none⟩ = some (.int .u64 o.hi) := cell_of HO2.out 10
 have b0 : w2.cell? ⟨W.heap.size + 1, 0, none⟩ = some (.int .i64 B.e) := cell_of HA2.out 0
 have b1 : w2.cell? ⟨W.heap.size + 1, 1, none⟩ = some (.bool B.f) := cell_of HA2.out 1
 have b2 : w2.cell? ⟨W.heap.size + 1, 2, none⟩ = some (.int .u64 B.x) := cell_of HA2.out 2
 have b3 : w2.cell? ⟨W.heap.size + 1, 3, none⟩ = some (.bool B.d) := cell_of HA2.out 3
 have b4 : w2.cell? ⟨W.heap.size + 1, 4, none⟩ = some (.int .u64 B.h) := cell_of HA2.out 4
 have b5 : w2.cell? ⟨W.heap.size + 1, 5, none⟩ = some (.slice pb B.l.length cb) := cell_of HA2.out 5
 have b6 : w2.cell? ⟨W.heap.size + 1, 6, none⟩ = some (.int .u64 B.n) := cell_of HA2.out 6
 have t0 : w2.cell? ⟨w1.heap.size, 0, none⟩ = some (.int .i64 A.e) := cell_of HT2.out 0
 have t1 : w2.cell? ⟨w1.heap.size, 1, none⟩ = some (.bool A.f) := cell_of HT2.out 1
 have t2 : w2.cell? ⟨w1.heap.size, 2, none⟩ = some (.int .u64 A.x) := cell_of HT2.out 2
 have t3 : w2.cell? ⟨w1.heap.size, 3, none⟩ = some (.bool A.d) := cell_of HT2.out 3
 have t4 : w2.cell? ⟨w1.heap.size, 4, none⟩ = some (.int .u64 A.h) := cell_of HT2.out 4
 have t5 : w2.cell? ⟨w1.heap.size, 5, none⟩ = some (.slice p A.l.length c) := cell_of HT2.out 5
 have t6 : w2.cell? ⟨w1.heap.size, 6, none⟩ = some (.int .u64 A.n) := cell_of HT2.out 6
 go_wp2_with fail
 refine (may_g _ _ _ _).mono ?_
 rintro e z ⟨rfl, rfl⟩
 rw [HMP.out]
 have HS := keepH (m_sameL B.e A.e B.f A.f B.d A.d B.x A.x B.h A.h B.n A.n pb p cb c B.l A.l z HPB2.out HP2.out.1 hBl (Nat.le_trans HP2.out.2 (by omega)))
 rw [decide_eq_false HNE.out] at HS
 go_wp2_with fail
 refine HS.out.mono ?_
 rintro e w3 ⟨rfl, C3⟩
 have HC3 : Hid (Chg (fun _ => False) W w3) := HC2.out.trans C3 (fun _ _ x => x) (fun _ _ x => x)
 clear C3
 go_wp2_with fail
 go_ret
 exact ⟨by first | rfl | simp, HC3.out⟩
set_option maxRecDepth 100000 in
theorem take_yes {o : OpP} (ho : o.Ok) {r5 : Bool} {r6 r7 : Int} {kp pb : Option Addr} {kc cb : Nat} {B : Ans} (hBh : B.h < 18446744073709551616) {W : World} {m nw hd mu : Nat} {f h : Nat → Option Nat} {g : Nat → Nat → Option Nat} {n : Nat} (H : MoAt W m nw hd mu f h g n) (hmu : mu ≤ 1024) (hn : n ≤ 8796093022000) (hks : KeysAt W kp o.ks) (hB : PairsAt W pb B.l) (hBl : B.l.length ≤ 9223372036854775807) {A : Ans} (hA : A = tellP mu f (pcs h g) o B.h) (hm : mayP o.kd B.e A.e = false) (k5 : ¬ o.kd = 5) (k10 : ¬ o.kd = 10) (heq : B = A) :
    Calls Tryz.prog 13 #[.pointer (some ⟨m, 0, none⟩), .agg #[.int .u8 o.kd, .int .u64 o.k, .int .u64 o.v, .int .u64 o.od, .int .u64 o.hk, .bool r5, .int .i64 r6, .int .i64 r7, .slice kp o.ks.length kc, .int .u64 o.lo, .int .u64 o.hi], .agg #[.int .i64 B.e, .bool B.f, .int .u64 B.x, .bool B.d, .int .u64 B.h, .slice pb B.l.length cb, .int .u64 B.n]] W fun e W' => e = .returned (.bool true) ∧ (∃ cl, W.heap.size ≤ cl ∧ MoAt W' m nw hd mu (doF o A f) (doH o A cl h) (setG g cl f) (n + 1)) ∧ Chg (fun i => i = nw ∨ i = hd) W W' := by
 have hAh : A.h < 18446744073709551616 := by rw [hA]; exact tellP_h mu f _ o hBh
 obtain ⟨w0, hw0⟩ : ∃ w0, w0 = (W.alloc (.cells #[.int .u8 o.kd, .int .u64 o.k, .int .u64 o.v, .int .u64 o.od, .int .u64 o.hk, .bool r5, .int .i64 r6, .int .i64 r7, .slice kp o.ks.length kc, .int .u64 o.lo, .int .u64 o.hi] 35)).alloc (.cells #[.int .i64 B.e, .bool B.f, .int .u64 B.x, .bool B.d, .int .u64 B.h, .slice pb B.l.length cb, .int .u64 B.n] 39) := ⟨_, rfl⟩
 have C0 : Chg (fun _ => False) W w0 := by rw [hw0]; exact ((Chg.refl _ _).alloc _).alloc _
 have o0 : w0.heap[W.heap.size]? = some (.cells #[.int .u8 o.kd, .int .u64 o.k, .int .u64 o.v, .int .u64 o.od, .int .u64 o.hk, .bool r5, .int .i64 r6, .int .i64 r7, .slice kp o.ks.length kc, .int .u64 o.lo, .int .u64 o.hi] 35 (0, 0)) := by rw [hw0]; exact alloc_of (heap_alloc_new _ _) _
 have a0 : w0.heap[W.heap.size + 1]? = some (.cells #[.int .i64 B.e, .bool B.f, .int .u64 B.x, .bool B.d, .int .u64 B.h, .slice pb B.l.length cb, .int .u64 B.n] 39 (0, 0)) := by
  rw [hw0]
  exact al2
 have HC0 := keepH C0
 have HO0 := keepH o0
 have HA0 := keepH a0
 have HM0 := keepH (H.quiet C0)
 have HBL := keepH H.blk
 have HK0 := keepH (hks.chg C0 (fun _ _ _ x => x))
 have HPB := keepH (hB.chg C0)
 have HOK := keepH ho
 have HT := keepH (tells_all ho (r5 := r5) (r6 := r6) (r7 := r7) (kc := kc) hBh HM0.out hmu hn HK0.out)
 rw [← hA] at HT
 have HSZ : Hid (w0.heap.size = W.heap.size + 2) := by rw [hw0]; show _ = _; simp
 have HN : Hid (n ≤ 8796093022000 ∧ A.h < 18446744073709551616) := ⟨hn, hAh⟩
 have HMP := keepH hm
 have HEQ := keepH heq
 have z10 : (o.kd == 10) = false := by simpa using k10
 have z5 : (o.kd == 5) = false := by simpa using k5
 clear hm heq
 have c0 : w0.cell? ⟨W.heap.size, 0, none⟩ = some (.int .u8 o.kd) := cell_of o0 0
 have c1 : w0.cell? ⟨W.heap.size, 1, none⟩ = some (.int .u64 o.k) := cell_of o0 1
 have c2 : w0.cell? ⟨W.heap.size, 2, none⟩ = some (.int .u64 o.v) := cell_of o0 2
 have c3 : w0.cell? ⟨W.heap.size, 3, none⟩ = some (.int .u64 o.od) := cell_of o0 3
 have c4 : w0.cell? ⟨W.heap.size, 4, none⟩ = some (.int .u64 o.hk) := cell_of o0 4
 have c5 : w0.cell? ⟨W.heap.size, 5, none⟩ = some (.bool r5) := cell_of o0 5
 have c6 : w0.cell? ⟨W.heap.size, 6, none⟩ = some (.int .i64 r6) := cell_of o0 6
 have c7 : w0.cell? ⟨W.heap.size, 7, none⟩ = some (.int .i64 r7) := cell_of o0 7
 have c8 : w0.cell? ⟨W.heap.size, 8, none⟩ = some (.slice kp o.ks.length kc) := cell_of o0 8
 have c9 : w0.cell? ⟨W.heap.size, 9, none⟩ = some (.int .u64 o.lo) := cell_of o0 9
 have c10 : w0.cell? ⟨W.heap.size, 10, none⟩ = some (.int .u64 o.hi) := cell_of o0 10
 have b4 : w0.cell? ⟨W.heap.size + 1, 4, none⟩ = some (.int .u64 B.h) := cell_of a0 4
 clear C0 o0 a0 H hks ho hBh hmu hA hAh hn hB
 go_enter Tryz.func13, Tryz.ntmps13
 go_upto_region 1 with fail
 rw [← hw0]
 clear hw0
 go_wp2_with fail
 refine HT.out.mono ?_
 rintro e w1 ⟨⟨p, c, rfl, hP, hPB, hPL⟩, C1⟩
 unfold ansC
 obtain ⟨w2, hw2⟩ : ∃ w2, w2 = w1.alloc (.cells #[.int .i64 A.e, .bool A.f, .int .u64 A.x, .bool A.d, .int .u64 A.h, .slice p A.l.length c, .int .u64 A.n] 39) := ⟨_, rfl⟩
 have C2 : Chg (fun _ => False) w0 w2 := by rw [hw2]; exact C1.alloc _
 have HT2 : Hid (w2.heap[w1.heap.size]? = some (.cells #[.int .i64 A.e, .bool A.f, .int .u64 A.x, .bool A.d, .int .u64 A.h, .slice p A.l.length c, .int .u64 A.n] 39 (0, 0))) := by rw [hw2]; exact heap_alloc_new _ _
 have HO2 : Hid (w2.heap[W.heap.size]? = some (.cells #[.int .u8 o.kd, .int .u64 o.k, .int .u64 o.v, .int .u64 o.od, .int .u64 o.hk, .bool r5, .int .i64 r6, .int .i64 r7, .slice kp o.ks.length kc, .int .u64 o.lo, .int .u64 o.hi] 35 (0, 0))) := (C2.block _ (lt_of HO0.out) (fun x => x)).trans HO0.out
 have HA2 : Hid (w2.heap[W.heap.size + 1]? = some (.cells #[.int .i64 B.e, .bool B.f, .int .u64 B.x, .bool B.d, .int .u64 B.h, .slice pb B.l.length cb, .int .u64 B.n] 39 (0, 0))) := (C2.block _ (lt_of HA0.out) (fun x => x)).trans HA0.out
 have HM2 := keepH (HM0.out.quiet C2)
 have HPB2 := keepH (HPB.out.chg C2)
 have HP2 : Hid (PairsAt w2 p A.l ∧ A.l.length ≤ 8796093022000) := ⟨hP.at_.chg (by rw [hw2]; exact (Chg.refl _ _).alloc _), hPL⟩
 have HC2 : Hid (Chg (fun _ => False) W w2) := HC0.out.trans C2 (fun _ _ x => x) (fun _ _ x => x)
 have HZ2 : Hid (w0.heap.size ≤ w1.heap.size) := C1.size
 clear C1 C2 hP hPB hPL c0 c1 c2 c3 c4 c5 c6 c7 c8 c9 c10 b4
 go_upto_region 4 with fail
 rw [← hw2]
 clear hw2
 have c0 : w2.cell? ⟨W.heap.size, 0, none⟩ = some (.int .u8 o.kd) := cell_of HO2.out 0
 have c1 : w2.cell? ⟨W.heap.size, 1, none⟩ = some (.int .u64 o.k) := cell_of HO2.out 1
 have c2 : w2.cell? ⟨W.heap.size, 2, none⟩ = some (.int .u64 o.v) := cell_of HO2.out 2
 have c3 : w2.cell? ⟨W.heap.size, 3, none⟩ = some (.int .u64 o.od) := cell_of HO2.out 3
 have c4 : w2.cell? ⟨W.heap.size, 4, none⟩ = some (.int .u64 o.hk) := cell_of HO2.out 4
 have c5 : w2.cell? ⟨W.heap.size, 5, none⟩ = some (.bool r5) := cell_of HO2.out 5
 have c6 : w2.cell? ⟨W.heap.size, 6, none⟩ = some (.int .i64 r6) := cell_of HO2.out 6
 have c7 : w2.cell? ⟨W.heap.size, 7, none⟩ = some (.int .i64 r7) := cell_of HO2.out 7
 have c8 : w2.cell? ⟨W.heap.size, 8, none⟩ = some (.slice kp o.ks.length kc) := cell_of HO2.out 8
 have c9 : w2.cell? ⟨W.heap.size, 9, none⟩ = some (.int .u64 o.lo) := cell_of HO2.out 9
 have c10 : w2.cell? ⟨W.heap.size, 10, none⟩ = some (.int .u64 o.hi) := cell_of HO2.out 10
 have b0 : w2.cell? ⟨W.heap.size + 1, 0, none⟩ = some (.int .i64 B.e) := cell_of HA2.out 0
 have b1 : w2.cell? ⟨W.heap.size + 1, 1, none⟩ = some (.bool B.f) := cell_of HA2.out 1
 have b2 : w2.cell? ⟨W.heap.size + 1, 2, none⟩ = some (.int .u64 B.x) := cell_of HA2.out 2
 have b3 : w2.cell? ⟨W.heap.size + 1, 3, none⟩ = some (.bool B.d) := cell_of HA2.out 3
 have b4 : w2.cell? ⟨W.heap.size + 1, 4, none⟩ = some (.int .u64 B.h) := cell_of HA2.out 4
 have b5 : w2.cell? ⟨W.heap.size + 1, 5, none⟩ = some (.slice pb B.l.length cb) := cell_of HA2.out 5
 have b6 : w2.cell? ⟨W.heap.size + 1, 6, none⟩ = some (.int .u64 B.n) := cell_of HA2.out 6
 have t0 : w2.cell? ⟨w1.heap.size, 0, none⟩ = some (.int .i64 A.e) := cell_of HT2.out 0
 have t1 : w2.cell? ⟨w1.heap.size, 1, none⟩ = some (.bool A.f) := cell_of HT2.out 1
 have t2 : w2.cell? ⟨w1.heap.size, 2, none⟩ = some (.int .u64 A.x) := cell_of HT2.out 2
 have t3 : w2.cell? ⟨w1.heap.size, 3, none⟩ = some (.bool A.d) := cell_of HT2.out 3
 have t4 : w2.cell? ⟨w1.heap.size, 4, none⟩ = some (.int .u64 A.h) := cell_of HT2.out 4
 have t5 : w2.cell? ⟨w1.heap.size, 5, none⟩ = some (.slice p A.l.length c) := cell_of HT2.out 5
 have t6 : w2.cell? ⟨w1.heap.size, 6, none⟩ = some (.int .u64 A.n) := cell_of HT2.out 6
 go_wp2_with fail
 refine (may_g _ _ _ _).mono ?_
 rintro e z ⟨rfl, rfl⟩
 rw [HMP.out]
 have HS := keepH (m_sameL B.e A.e B.f A.f B.d A.d B.x A.x B.h A.h B.n A.n pb p cb c B.l A.l z HPB2.out HP2.out.1 hBl (Nat.le_trans HP2.out.2 (by omega)))
 rw [decide_eq_true HEQ.out] at HS
 go_wp2_with fail
 refine HS.out.mono ?_
 rintro e w3 ⟨rfl, C3⟩
 have HC3 : Hid (Chg (fun _ => False) W w3) := HC2.out.trans C3 (fun _ _ x => x) (fun _ _ x => x)
 have HO3 : Hid (w3.heap[W.heap.size]? = some (.cells #[.int .u8 o.kd, .int .u64 o.k, .int .u64 o.v, .int .u64 o.od, .int .u64 o.hk, .bool r5, .int .i64 r6, .int .i64 r7, .slice kp o.ks.length kc, .int .u64 o.lo, .int .u64 o.hi] 35 (0, 0))) := (C3.block _ (lt_of HO2.out) (fun x => x)).trans HO2.out
 have HT3 : Hid (w3.heap[w1.heap.size]? = some (.cells #[.int .i64 A.e, .bool A.f, .int .u64 A.x, .bool A.d, .int .u64 A.h, .slice p A.l.length c, .int .u64 A.n] 39 (0, 0))) := (C3.block _ (lt_of HT2.out) (fun x => x)).trans HT2.out
 have HM3 := keepH (HM2.out.quiet C3)
 clear C3 c0 c1 c2 c3 c4 c5 c6 c7 c8 c9 c10 b0 b1 b2 b3 b4 b5 b6 t0 t1 t2 t3 t4 t5 t6
 have c0 : w3.cell? ⟨W.heap.size, 0, none⟩ = some (.int .u8 o.kd) := cell_of HO3.out 0
 have c1 : w3.cell? ⟨W.heap.size, 1, none⟩ = some (.int .u64 o.k) := cell_of HO3.out 1
 have c2 : w3.cell? ⟨W.heap.size, 2, none⟩ = some (.int .u64 o.v) := cell_of HO3.out 2
 have c3 : w3.cell? ⟨W.heap.size, 3, none⟩ = some (.int .u64 o.od) := cell_of HO3.out 3
 have c4 : w3.cell? ⟨W.heap.size, 4, none⟩ = some (.int .u64 o.hk) := cell_of HO3.out 4
 have c5 : w3.cell? ⟨W.heap.size, 5, none⟩ = some (.bool r5) := cell_of HO3.out 5
 have c6 : w3.cell? ⟨W.heap.size, 6, none⟩ = some (.int .i64 r6) := cell_of HO3.out 6
 have c7 : w3.cell? ⟨W.heap.size, 7, none⟩ = some (.int .i64 r7) := cell_of HO3.out 7
 have c8 : w3.cell? ⟨W.heap.size, 8, none⟩ = some (.slice kp o.ks.length kc) := cell_of HO3.out 8
 have c9 : w3.cell? ⟨W.heap.size, 9, none⟩ = some (.int .u64 o.lo) := cell_of HO3.out 9
 have c10 : w3.cell? ⟨W.heap.size, 10, none⟩ = some (.int .u64 o.hi) := cell_of HO3.out 10
 have t0 : w3.cell? ⟨w1.heap.size, 0, none⟩ = some (.int .i64 A.e) := cell_of HT3.out 0
 have t1 : w3.cell? ⟨w1.heap.size, 1, none⟩ = some (.bool A.f) := cell_of HT3.out 1
 have t2 : w3.cell? ⟨w1.heap.size, 2, none⟩ = some (.int .u64 A.x) := cell_of HT3.out 2
 have t3 : w3.cell? ⟨w1.heap.size, 3, none⟩ = some (.bool A.d) := cell_of HT3.out 3
 have t4 : w3.cell? ⟨w1.heap.size, 4, none⟩ = some (.int .u64 A.h) := cell_of HT3.out 4
 have t5 : w3.cell? ⟨w1.heap.size, 5, none⟩ = some (.slice p A.l.length c) := cell_of HT3.out 5
 have t6 : w3.cell? ⟨w1.heap.size, 6, none⟩ = some (.int .u64 A.n) := cell_of HT3.out 6
 have HD := keepH (do_all HOK.out (r5 := r5) (r6 := r6) (r7 := r7) (kp := kp) (kc := kc) (p := p) (c := c) HN.out.2 HM3.out HN.out.1)
 go_wp2_with fail
 refine HD.out.mono ?_
 rintro e w4 ⟨rfl, ⟨cl, hcl, hM4⟩, C4⟩
 have HC4 : Hid (Chg (fun i => i = nw ∨ i = hd) W w4) := HC3.out.trans C4 (fun _ _ x => x.elim) (fun _ _ x => x)
 have HM4 : Hid (W.heap.size ≤ cl ∧ MoAt w4 m nw hd mu (doF o A f) (doH o A cl h) (setG g cl f) (n + 1)) := ⟨Nat.le_trans HC3.out.size hcl, hM4⟩
 clear C4 hM4 hcl
 go_wp2_with fail
 go_ret
 exact ⟨by first | rfl | simp, ⟨cl, HM4.out.1, HM4.out.2⟩, HC4.out⟩
set_option maxRecDepth 100000 in
theorem take_yes5 {o : OpP} (ho : o.Ok) {r5 : Bool} {r6 r7 : Int} {kp pb : Option Addr} {kc cb : Nat} {B : Ans} (hBh : B.h < 18446744073709551616) {W : World} {m nw hd mu : Nat} {f h : Nat → Option Nat} {g : Nat → Nat → Option Nat} {n : Nat} (H : MoAt W m nw hd mu f h g n) (hmu : mu ≤ 1024) (hn : n ≤ 8796093022000) (hks : KeysAt W kp o.ks) (hB : PairsAt W pb B.l) (hBl : B.l.length ≤ 9223372036854775807) {A : Ans} (hA : A = tellP mu f (pcs h g) o B.h) (hm : mayP o.kd B.e A.e = false) (k5 : o.kd = 5) (h0 : ¬ B.h = 0) (heq : B = A) :
    Calls Tryz.prog 13 #[.pointer (some ⟨m, 0, none⟩), .agg #[.int .u8 o.kd, .int .u64 o.k, .int .u64 o.v, .int .u64 o.od, .int .u64 o.hk, .bool r5, .int .i64 r6, .int .i64 r7, .slice kp o.ks.length kc, .int .u64 o.lo, .int .u64 o.hi], .agg #[.int .i64 B.e, .bool B.f, .int .u64 B.x, .bool B.d, .int .u64 B.h, .slice pb B.l.length cb, .int .u64 B.n]] W fun e W' => e = .returned (.bool true) ∧ (∃ cl, W.heap.size ≤ cl ∧ MoAt W' m nw hd mu (doF o A f) (doH o A cl h) (setG g cl f) (n + 1)) ∧ Chg (fun i => i = nw ∨ i = hd) W W' := by
 have hAh : A.h < 18446744073709551616 := by rw [hA]; exact tellP_h mu f _ o hBh
 obtain ⟨w0, hw0⟩ : ∃ w0, w0 = (W.alloc (.cells #[.int .u8 o.kd, .int .u64 o.k, .int .u64 o.v, .int .u64 o.od, .int .u64 o.hk, .bool r5, .int .i64 r6, .int .i64 r7, .slice kp o.ks.length kc, .int .u64 o.lo, .int .u64 o.hi] 35)).alloc (.cells #[.int .i64 B.e, .bool B.f, .int .u64 B.x, .bool B.d, .int .u64 B.h, .slice pb B.l.length cb, .int .u64 B.n] 39) := ⟨_, rfl⟩
 have C0 : Chg (fun _ => False) W w0 := by rw [hw0]; exact ((Chg.refl _ _).alloc _).alloc _
 have o0 : w0.heap[W.heap.size]? = some (.cells #[.int .u8 o.kd, .int .u64 o.k, .int .u64 o.v, .int .u64 o.od, .int .u64 o.hk, .bool r5, .int .i64 r6, .int .i64 r7, .slice kp o.ks.length kc, .int .u64 o.lo, .int .u64 o.hi] 35 (0, 0)) := by rw [hw0]; exact alloc_of (heap_alloc_new _ _) _
 have a0 : w0.heap[W.heap.size + 1]? = some (.cells #[.int .i64 B.e, .bool B.f, .int .u64 B.x, .bool B.d, .int .u64 B.h, .slice pb B.l.length cb, .int .u64 B.n] 39 (0, 0)) := by
  rw [hw0]
  exact al2
 have HC0 := keepH C0
 have HO0 := keepH o0
 have HA0 := keepH a0
 have HM0 := keepH (H.quiet C0)
 have HBL := keepH H.blk
 have HK0 := keepH (hks.chg C0 (fun _ _ _ x => x))
 have HPB := keepH (hB.chg C0)
 have HOK := keepH ho
 have HT := keepH (tells_all ho (r5 := r5) (r6 := r6) (r7 := r7) (kc := kc) hBh HM0.out hmu hn HK0.out)
 rw [← hA] at HT
 have HSZ : Hid (w0.heap.size = W.heap.size + 2) := by rw [hw0]; show _ = _; simp
 have HN : Hid (n ≤ 8796093022000 ∧ A.h < 18446744073709551616) := ⟨hn, hAh⟩
 have HMP := keepH hm
 have HEQ := keepH heq
 have z5 : (o.kd == 5) = true := by simpa using k5
 have z10 : (o.kd == 10) = false := by simp [k5]
 have zh : ((B.h : Int) == 0) = false := by simp; omega
 clear hm heq k5
 have c0 : w0.cell? ⟨W.heap.size, 0, none⟩ = some (.int .u8 o.kd) := cell_of o0 0
 have c1 : w0.cell? ⟨W.heap.size, 1, none⟩ = some (.int .u64 o.k) := cell_of o0 1
 have c2 : w0.cell? ⟨W.heap.size, 2, none⟩ = some (.int .u64 o.v) := cell_of o0 2
 have c3 : w0.cell? ⟨W.heap.size, 3, none⟩ = some (.int .u64 o.od) := cell_of o0 3
 have c4 : w0.cell? ⟨W.heap.size, 4, none⟩ = some (.int .u64 o.hk) := cell_of o0 4
 have c5 : w0.cell? ⟨W.heap.size, 5, none⟩ = some (.bool r5) := cell_of o0 5
 have c6 : w0.cell? ⟨W.heap.size, 6, none⟩ = some (.int .i64 r6) := cell_of o0 6
 have c7 : w0.cell? ⟨W.heap.size, 7, none⟩ = some (.int .i64 r7) := cell_of o0 7
 have c8 : w0.cell? ⟨W.heap.size, 8, none⟩ = some (.slice kp o.ks.length kc) := cell_of o0 8
 have c9 : w0.cell? ⟨W.heap.size, 9, none⟩ = some (.int .u64 o.lo) := cell_of o0 9
 have c10 : w0.cell? ⟨W.heap.size, 10, none⟩ = some (.int .u64 o.hi) := cell_of o0 10
 have b4 : w0.cell? ⟨W.heap.size + 1, 4, none⟩ = some (.int .u64 B.h) := cell_of a0 4
 clear C0 o0 a0 H hks ho hBh hmu hA hAh hn hB
 go_enter Tryz.func13, Tryz.ntmps13
 go_upto_region 1 with fail
 rw [← hw0]
 clear hw0
 go_wp2_with fail
 refine HT.out.mono ?_
 rintro e w1 ⟨⟨p, c, rfl, hP, hPB, hPL⟩, C1⟩
 unfold ansC
 obtain ⟨w2, hw2⟩ : ∃ w2, w2 = w1.alloc (.cells #[.int .i64 A.e, .bool A.f, .int .u64 A.x, .bool A.d, .int .u64 A.h, .slice p A.l.length c, .int .u64 A.n] 39) := ⟨_, rfl⟩
 have C2 : Chg (fun _ => False) w0 w2 := by rw [hw2]; exact C1.alloc _
 have HT2 : Hid (w2.heap[w1.heap.size]? = some (.cells #[.int .i64 A.e, .bool A.f, .int .u64 A.x, .bool A.d, .int .u64 A.h, .slice p A.l.length c, .int .u64 A.n] 39 (0, 0))) := by rw [hw2]; exact heap_alloc_new _ _
 have HO2 : Hid (w2.heap[W.heap.size]? = some (.cells #[.int .u8 o.kd, .int .u64 o.k, .int .u64 o.v, .int .u64 o.od, .int .u64 o.hk, .bool r5, .int .i64 r6, .int .i64 r7, .slice kp o.ks.length kc, .int .u64 o.lo, .int .u64 o.hi] 35 (0, 0))) := (C2.block _ (lt_of HO0.out) (fun x => x)).trans HO0.out
 have HA2 : Hid (w2.heap[W.heap.size + 1]? = some (.cells #[.int .i64 B.e, .bool B.f, .int .u64 B.x, .bool B.d, .int .u64 B.h, .slice pb B.l.length cb, .int .u64 B.n] 39 (0, 0))) := (C2.block _ (lt_of HA0.out) (fun x => x)).trans HA0.out
 have HM2 := keepH (HM0.out.quiet C2)
 have HPB2 := keepH (HPB.out.chg C2)
 have HP2 : Hid (PairsAt w2 p A.l ∧ A.l.length ≤ 8796093022000) := ⟨hP.at_.chg (by rw [hw2]; exact (Chg.refl _ _).alloc _), hPL⟩
 have HC2 : Hid (Chg (fun _ => False) W w2) := HC0.out.trans C2 (fun _ _ x => x) (fun _ _ x => x)
 have HZ2 : Hid (w0.heap.size ≤ w1.heap.size) := C1.size
 clear C1 C2 hP hPB hPL c0 c1 c2 c3 c4 c5 c6 c7 c8 c9 c10 b4
 go_upto_region 4 with fail
 rw [← hw2]
 clear hw2
 have c0 : w2.cell? ⟨W.heap.size, 0, none⟩ = some (.int .u8 o.kd) := cell_of HO2.out 0
 have c1 : w2.cell? ⟨W.heap.size, 1, none⟩ = some (.int .u64 o.k) := cell_of HO2.out 1
 have c2 : w2.cell? ⟨W.heap.size, 2, none⟩ = some (.int .u64 o.v) := cell_of HO2.out 2
 have c3 : w2.cell? ⟨W.heap.size, 3, none⟩ = some (.int .u64 o.od) := cell_of HO2.out 3
 have c4 : w2.cell? ⟨W.heap.size, 4, none⟩ = some (.int .u64 o.hk) := cell_of HO2.out 4
 have c5 : w2.cell? ⟨W.heap.size, 5, none⟩ = some (.bool r5) := cell_of HO2.out 5
 have c6 : w2.cell? ⟨W.heap.size, 6, none⟩ = some (.int .i64 r6) := cell_of HO2.out 6
 have c7 : w2.cell? ⟨W.heap.size, 7, none⟩ = some (.int .i64 r7) := cell_of HO2.out 7
 have c8 : w2.cell? ⟨W.heap.size, 8, none⟩ = some (.slice kp o.ks.length kc) := cell_of HO2.out 8
 have c9 : w2.cell? ⟨W.heap.size, 9, none⟩ = some (.int .u64 o.lo) := cell_of HO2.out 9
 have c10 : w2.cell? ⟨W.heap.size, 10, none⟩ = some (.int .u64 o.hi) := cell_of HO2.out 10
 have b0 : w2.cell? ⟨W.heap.size + 1, 0, none⟩ = some (.int .i64 B.e) := cell_of HA2.out 0
 have b1 : w2.cell? ⟨W.heap.size + 1, 1, none⟩ = some (.bool B.f) := cell_of HA2.out 1
 have b2 : w2.cell? ⟨W.heap.size + 1, 2, none⟩ = some (.int .u64 B.x) := cell_of HA2.out 2
 have b3 : w2.cell? ⟨W.heap.size + 1, 3, none⟩ = some (.bool B.d) := cell_of HA2.out 3
 have b4 : w2.cell? ⟨W.heap.size + 1, 4, none⟩ = some (.int .u64 B.h) := cell_of HA2.out 4
 have b5 : w2.cell? ⟨W.heap.size + 1, 5, none⟩ = some (.slice pb B.l.length cb) := cell_of HA2.out 5
 have b6 : w2.cell? ⟨W.heap.size + 1, 6, none⟩ = some (.int .u64 B.n) := cell_of HA2.out 6
 have t0 : w2.cell? ⟨w1.heap.size, 0, none⟩ = some (.int .i64 A.e) := cell_of HT2.out 0
 have t1 : w2.cell? ⟨w1.heap.size, 1, none⟩ = some (.bool A.f) := cell_of HT2.out 1
 have t2 : w2.cell? ⟨w1.heap.size, 2, none⟩ = some (.int .u64 A.x) := cell_of HT2.out 2
 have t3 : w2.cell? ⟨w1.heap.size, 3, none⟩ = some (.bool A.d) := cell_of HT2.out 3
 have t4 : w2.cell? ⟨w1.heap.size, 4, none⟩ = some (.int .u64 A.h) := cell_of HT2.out 4
 have t5 : w2.cell? ⟨w1.heap.size, 5, none⟩ = some (.slice p A.l.length c) := cell_of HT2.out 5
 have t6 : w2.cell? ⟨w1.heap.size, 6, none⟩ = some (.int .u64 A.n) := cell_of HT2.out 6
 go_wp2_with fail
 refine (may_g _ _ _ _).mono ?_
 rintro e z ⟨rfl, rfl⟩
 rw [HMP.out]
 have HS := keepH (m_sameL B.e A.e B.f A.f B.d A.d B.x A.x B.h A.h B.n A.n pb p cb c B.l A.l z HPB2.out HP2.out.1 hBl (Nat.le_trans HP2.out.2 (by omega)))
 rw [decide_eq_true HEQ.out] at HS
 go_wp2_with fail
 refine HS.out.mono ?_
 rintro e w3 ⟨rfl, C3⟩
 have HC3 : Hid (Chg (fun _ => False) W w3) := HC2.out.trans C3 (fun _ _ x => x) (fun _ _ x => x)
 have HO3 : Hid (w3.heap[W.heap.size]? = some (.cells #[.int .u8 o.kd, .int .u64 o.k, .int .u64 o.v, .int .u64 o.od, .int .u64 o.hk, .bool r5, .int .i64 r6, .int .i64 r7, .slice kp o.ks.length kc, .int .u64 o.lo, .int .u64 o.hi] 35 (0, 0))) := (C3.block _ (lt_of HO2.out) (fun x => x)).trans HO2.out
 have HT3 : Hid (w3.heap[w1.heap.size]? = some (.cells #[.int .i64 A.e, .bool A.f, .int .u64 A.x, .bool A.d, .int .u64 A.h, .slice p A.l.length c, .int .u64 A.n] 39 (0, 0))) := (C3.block _ (lt_of HT2.out) (fun x => x)).trans HT2.out
 have HM3 := keepH (HM2.out.quiet C3)
 clear C3 c0 c1 c2 c3 c4 c5 c6 c7 c8 c9 c10 b0 b1 b2 b3 b4 b5 b6 t0 t1 t2 t3 t4 t5 t6
 have c0 : w3.cell? ⟨W.heap.size, 0, none⟩ = some (.int .u8 o.kd) := cell_of HO3.out 0
 have c1 : w3.cell? ⟨W.heap.size, 1, none⟩ = some (.int .u64 o.k) := cell_of HO3.out 1
 have c2 : w3.cell? ⟨W.heap.size, 2, none⟩ = some (.int .u64 o.v) := cell_of HO3.out 2
 have c3 : w3.cell? ⟨W.heap.size, 3, none⟩ = some (.int .u64 o.od) := cell_of HO3.out 3
 have c4 : w3.cell? ⟨W.heap.size, 4, none⟩ = some (.int .u64 o.hk) := cell_of HO3.out 4
 have c5 : w3.cell? ⟨W.heap.size, 5, none⟩ = some (.bool r5) := cell_of HO3.out 5
 have c6 : w3.cell? ⟨W.heap.size, 6, none⟩ = some (.int .i64 r6) := cell_of HO3.out 6
 have c7 : w3.cell? ⟨W.heap.size, 7, none⟩ = some (.int .i64 r7) := cell_of HO3.out 7
 have c8 : w3.cell? ⟨W.heap.size, 8, none⟩ = some (.slice kp o.ks.length kc) := cell_of HO3.out 8
 have c9 : w3.cell? ⟨W.heap.size, 9, none⟩ = some (.int .u64 o.lo) := cell_of HO3.out 9
 have c10 : w3.cell? ⟨W.heap.size, 10, none⟩ = some (.int .u64 o.hi) := cell_of HO3.out 10
 have t0 : w3.cell? ⟨w1.heap.size, 0, none⟩ = some (.int .i64 A.e) := cell_of HT3.out 0
 have t1 : w3.cell? ⟨w1.heap.size, 1, none⟩ = some (.bool A.f) := cell_of HT3.out 1
 have t2 : w3.cell? ⟨w1.heap.size, 2, none⟩ = some (.int .u64 A.x) := cell_of HT3.out 2
 have t3 : w3.cell? ⟨w1.heap.size, 3, none⟩ = some (.bool A.d) := cell_of HT3.out 3
 have t4 : w3.cell? ⟨w1.heap.size, 4, none⟩ = some (.int .u64 A.h) := cell_of HT3.out 4
 have t5 : w3.cell? ⟨w1.heap.size, 5, none⟩ = some (.slice p A.l.length c) := cell_of HT3.out 5
 have t6 : w3.cell? ⟨w1.heap.size, 6, none⟩ = some (.int .u64 A.n) := cell_of HT3.out 6
 have HD := keepH (do_all HOK.out (r5 := r5) (r6 := r6) (r7 := r7) (kp := kp) (kc := kc) (p := p) (c := c) HN.out.2 HM3.out HN.out.1)
 go_wp2_with fail
 refine HD.out.mono ?_
 rintro e w4 ⟨rfl, ⟨cl, hcl, hM4⟩, C4⟩
 have HC4 : Hid (Chg (fun i => i = nw ∨ i = hd) W w4) := HC3.out.trans C4 (fun _ _ x => x.elim) (fun _ _ x => x)
 have HM4 : Hid (W.heap.size ≤ cl ∧ MoAt w4 m nw hd mu (doF o A f) (doH o A cl h) (setG g cl f) (n + 1)) := ⟨Nat.le_trans HC3.out.size hcl, hM4⟩
 clear C4 hM4 hcl
 go_wp2_with fail
 go_ret
 exact ⟨by first | rfl | simp, ⟨cl, HM4.out.1, HM4.out.2⟩, HC4.out⟩
end Go.Proofs.YtahgaghokpicgaaGreat
