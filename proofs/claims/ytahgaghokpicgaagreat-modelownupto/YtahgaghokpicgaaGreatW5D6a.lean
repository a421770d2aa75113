/- The model's do: what an operation that tells this leaves. -/
import Derived.Test.YtahgaghokpicgaaGreatW4Pi
namespace Go.Proofs.YtahgaghokpicgaaGreat
open Go.RowKit Go.Maps
set_option linter.unusedVariables false
set_option maxHeartbeats 16000000
theorem MoAt.put {W W' : World} {m nw hd mu : Nat} {f h : Nat → Option Nat} {g : Nat → Nat → Option Nat} {n : Nat} (H : MoAt W m nw hd mu f h g n) {f' : Nat → Option Nat} {n' : Nat} (hn : n ≤ n') (h1 : MapAt W' nw n' f') (c : Chg (fun i => i = nw) W W') : MoAt W' m nw hd mu f' h g n' :=
 ⟨(c.block m (lt_of H.md) H.mn).trans H.md, h1, MapR.mono (MapR.chg H.held c (Ne.symm H.nh)) hn, fun k b hb => MapR.mono (MapR.chg (H.pic k b hb) c (H.ap k b hb).1) hn, H.mn, H.mh, H.nh, H.ap⟩
def setG (g : Nat → Nat → Option Nat) (b : Nat) (f : Nat → Option Nat) : Nat → Nat → Option Nat := fun i => if i = b then f else g i
theorem setG_same (g : Nat → Nat → Option Nat) (b : Nat) (f : Nat → Option Nat) : setG g b f b = f := if_pos rfl
theorem setG_other (g : Nat → Nat → Option Nat) {b i : Nat} (f : Nat → Option Nat) (h : i ≠ b) : setG g b f i = g i := if_neg h
theorem MoAt.fresh {W : World} {m nw hd mu : Nat} {f h : Nat → Option Nat} {g : Nat → Nat → Option Nat} {n : Nat} (H : MoAt W m nw hd mu f h g n) {cl : Nat} (hc : ∀ k b, h k = some b → b ≠ cl) (f' : Nat → Option Nat) : MoAt W m nw hd mu f h (setG g cl f') n :=
 ⟨H.md, H.now, H.held, fun k b hb => by rw [setG_other _ _ (hc k b hb)]; exact H.pic k b hb, H.mn, H.mh, H.nh, H.ap⟩
theorem MoAt.drop {W W' : World} {m nw hd mu : Nat} {f h : Nat → Option Nat} {g : Nat → Nat → Option Nat} {n : Nat} (H : MoAt W m nw hd mu f h g n) {x n' : Nat} (hn : n ≤ n') (h1 : HeldAt W' hd n' (updO h x none)) (c : Chg (fun i => i = hd) W W') : MoAt W' m nw hd mu f (updO h x none) g n' := by
 have e : ∀ k b, updO h x none k = some b → h k = some b := fun k b hb => by
  by_cases q : k = x
  ·subst q; rw [updO_same] at hb; cases hb
  ·rwa [updO_other _ _ q] at hb
 exact ⟨(c.block m (lt_of H.md) H.mh).trans H.md, MapR.mono (MapR.chg H.now c H.nh) hn, h1, fun k b hb => MapR.mono (MapR.chg (H.pic k b (e k b hb)) c (H.ap k b (e k b hb)).2.1) hn, H.mn, H.mh, H.nh, fun k b hb => H.ap k b (e k b hb)⟩
theorem MoAt.snap {W W' : World} {m nw hd mu : Nat} {f h : Nat → Option Nat} {g : Nat → Nat → Option Nat} {n : Nat} (H : MoAt W m nw hd mu f h g n) {x cl n' : Nat} (hn : n ≤ n') (h1 : HeldAt W' hd n' (updO h x (some cl))) (hc : MapAt W cl n f) (hcl : cl ≠ m ∧ cl ≠ nw ∧ cl ≠ hd ∧ ∀ k b, h k = some b → b ≠ cl) (c : Chg (fun i => i = hd) W W') : MoAt W' m nw hd mu f (updO h x (some cl)) (setG g cl f) n' := by
 have e : ∀ k b, updO h x (some cl) k = some b → b = cl ∨ (b ≠ cl ∧ h k = some b) := fun k b hb => by
  by_cases q : k = x
  ·subst q; rw [updO_same] at hb; injection hb with hb; exact .inl hb.symm
  ·rw [updO_other _ _ q] at hb; exact .inr ⟨hcl.2.2.2 k b hb, hb⟩
 refine ⟨(c.block m (lt_of H.md) H.mh).trans H.md, MapR.mono (MapR.chg H.now c H.nh) hn, h1, fun k b hb => ?_, H.mn, H.mh, H.nh, fun k b hb => ?_⟩
 ·rcases e k b hb with q | ⟨q, q2⟩
  ·rw [q, setG_same]; exact MapR.mono (MapR.chg hc c hcl.2.2.1) hn
  ·rw [setG_other _ _ q]; exact MapR.mono (MapR.chg (H.pic k b q2) c (H.ap k b q2).2.1) hn
 ·rcases e k b hb with q | ⟨q, q2⟩
  ·rw [q]; exact ⟨hcl.2.1, hcl.2.2.1, hcl.1⟩
  ·exact H.ap k b q2
set_option maxRecDepth 100000 in
theorem do_err {k v od hk lo hi va co : Nat} {r5 fo : Bool} {r6 r7 : Int} {ks ps : Value} {th : Nat} {dn : Bool} {kd er : Int} {W : World} {m nw hd mu : Nat} {f h : Nat → Option Nat} {g : Nat → Nat → Option Nat} {n : Nat} (H : MoAt W m nw hd mu f h g n) (he : er ≠ 0) :
    Calls Tryz.prog 43 #[.pointer (some ⟨m, 0, none⟩), .agg #[.int .u8 kd, .int .u64 k, .int .u64 v, .int .u64 od, .int .u64 hk, .bool r5, .int .i64 r6, .int .i64 r7, ks, .int .u64 lo, .int .u64 hi], .agg #[.int .i64 er, .bool fo, .int .u64 va, .bool dn, .int .u64 th, ps, .int .u64 co]] W fun e W' => e = .returned (.tuple #[]) ∧ Chg (fun _ => False) W W' := by
 obtain ⟨w0, hw0⟩ : ∃ w0, w0 = (W.alloc (.cells #[.int .u8 kd, .int .u64 k, .int .u64 v, .int .u64 od, .int .u64 hk, .bool r5, .int .i64 r6, .int .i64 r7, ks, .int .u64 lo, .int .u64 hi] 35)).alloc (.cells #[.int .i64 er, .bool fo, .int .u64 va, .bool dn, .int .u64 th, ps, .int .u64 co] 39) := ⟨_, rfl⟩
 have C0 : Chg (fun _ => False) W w0 := by rw [hw0]; exact ((Chg.refl _ _).alloc _).alloc _
 have o0 : w0.heap[W.heap.size]? = some (.cells #[.int .u8 kd, .int .u64 k, .int .u64 v, .int .u64 od, .int .u64 hk, .bool r5, .int .i64 r6, .int .i64 r7, ks, .int .u64 lo, .int .u64 hi] 35 (0, 0)) := by rw [hw0]; exact alloc_of (heap_alloc_new _ _) _
 have a0 : w0.heap[W.heap.size + 1]? = some (.cells #[.int .i64 er, .bool fo, .int .u64 va, .bool dn, .int .u64 th, ps, .int .u64 co] 39 (0, 0)) := by
  rw [hw0]
  exact al2
 have HM0 := keepH (H.quiet C0)
 have HBL := keepH H.blk
 have k0 : w0.cell? ⟨W.heap.size, 0, none⟩ = some (.int .u8 kd) := cell_of o0 0
 have e0 : w0.cell? ⟨W.heap.size + 1, 0, none⟩ = some (.int .i64 er) := cell_of a0 0
 have e3 : w0.cell? ⟨W.heap.size + 1, 3, none⟩ = some (.bool dn) := cell_of a0 3
 have e4 : w0.cell? ⟨W.heap.size + 1, 4, none⟩ = some (.int .u64 th) := cell_of a0 4
 have q0 : (er != 0) = true := by simpa using he
 have HC0 := keepH C0
 clear H C0 o0 a0 HM0 HBL
 go_enter Tryz.func43, Tryz.ntmps43
 go_upto_region 1 with fail
 rw [← hw0]
 clear hw0
 go_wp2_with fail
 (try (go_quiet (fail); go_wp2_with fail))
 (try simp only [Exit.inBlock, Exit.then])
 refine bodyPost_ret (results_none rfl _ _ _) rfl ?_
 exact ⟨rfl, HC0.out⟩
set_option maxRecDepth 100000 in
theorem do_swapF {k v od hk lo hi va co : Nat} {r5 fo : Bool} {r6 r7 : Int} {ks ps : Value} {th : Nat} {W : World} {m nw hd mu : Nat} {f h : Nat → Option Nat} {g : Nat → Nat → Option Nat} {n : Nat} (H : MoAt W m nw hd mu f h g n)  :
    Calls Tryz.prog 43 #[.pointer (some ⟨m, 0, none⟩), .agg #[.int .u8 4, .int .u64 k, .int .u64 v, .int .u64 od, .int .u64 hk, .bool r5, .int .i64 r6, .int .i64 r7, ks, .int .u64 lo, .int .u64 hi], .agg #[.int .i64 0, .bool fo, .int .u64 va, .bool false, .int .u64 th, ps, .int .u64 co]] W fun e W' => e = .returned (.tuple #[]) ∧ Chg (fun _ => False) W W' := by
 obtain ⟨w0, hw0⟩ : ∃ w0, w0 = (W.alloc (.cells #[.int .u8 4, .int .u64 k, .int .u64 v, .int .u64 od, .int .u64 hk, .bool r5, .int .i64 r6, .int .i64 r7, ks, .int .u64 lo, .int .u64 hi] 35)).alloc (.cells #[.int .i64 0, .bool fo, .int .u64 va, .bool false, .int .u64 th, ps, .int .u64 co] 39) := ⟨_, rfl⟩
 have C0 : Chg (fun _ => False) W w0 := by rw [hw0]; exact ((Chg.refl _ _).alloc _).alloc _
 have o0 : w0.heap[W.heap.size]? = some (.cells #[.int .u8 4, .int .u64 k, .int .u64 v, .int .u64 od, .int .u64 hk, .bool r5, .int .i64 r6, .int .i64 r7, ks, .int .u64 lo, .int .u64 hi] 35 (0, 0)) := by rw [hw0]; exact alloc_of (heap_alloc_new _ _) _
 have a0 : w0.heap[W.heap.size + 1]? = some (.cells #[.int .i64 0, .bool fo, .int .u64 va, .bool false, .int .u64 th, ps, .int .u64 co] 39 (0, 0)) := by
  rw [hw0]
  exact al2
 have HM0 := keepH (H.quiet C0)
 have HBL := keepH H.blk
 have k0 : w0.cell? ⟨W.heap.size, 0, none⟩ = some (.int .u8 4) := cell_of o0 0
 have e0 : w0.cell? ⟨W.heap.size + 1, 0, none⟩ = some (.int .i64 0) := cell_of a0 0
 have e3 : w0.cell? ⟨W.heap.size + 1, 3, none⟩ = some (.bool false) := cell_of a0 3
 have e4 : w0.cell? ⟨W.heap.size + 1, 4, none⟩ = some (.int .u64 th) := cell_of a0 4
 have HC0 := keepH C0
 clear H C0 o0 a0 HM0 HBL
 go_enter Tryz.func43, Tryz.ntmps43
 go_upto_region 1 with fail
 rw [← hw0]
 clear hw0
 go_wp2_with fail
 (try (go_quiet (fail); go_wp2_with fail))
 go_end0
 exact ⟨rfl, HC0.out⟩
set_option maxRecDepth 100000 in
theorem do_snap0 {k v od hk lo hi va co : Nat} {r5 fo : Bool} {r6 r7 : Int} {ks ps : Value} {dn : Bool} {W : World} {m nw hd mu : Nat} {f h : Nat → Option Nat} {g : Nat → Nat → Option Nat} {n : Nat} (H : MoAt W m nw hd mu f h g n)  :
    Calls Tryz.prog 43 #[.pointer (some ⟨m, 0, none⟩), .agg #[.int .u8 5, .int .u64 k, .int .u64 v, .int .u64 od, .int .u64 hk, .bool r5, .int .i64 r6, .int .i64 r7, ks, .int .u64 lo, .int .u64 hi], .agg #[.int .i64 0, .bool fo, .int .u64 va, .bool dn, .int .u64 0, ps, .int .u64 co]] W fun e W' => e = .returned (.tuple #[]) ∧ Chg (fun _ => False) W W' := by
 obtain ⟨w0, hw0⟩ : ∃ w0, w0 = (W.alloc (.cells #[.int .u8 5, .int .u64 k, .int .u64 v, .int .u64 od, .int .u64 hk, .bool r5, .int .i64 r6, .int .i64 r7, ks, .int .u64 lo, .int .u64 hi] 35)).alloc (.cells #[.int .i64 0, .bool fo, .int .u64 va, .bool dn, .int .u64 0, ps, .int .u64 co] 39) := ⟨_, rfl⟩
 have C0 : Chg (fun _ => False) W w0 := by rw [hw0]; exact ((Chg.refl _ _).alloc _).alloc _
 have o0 : w0.heap[W.heap.size]? = some (.cells #[.int .u8 5, .int .u64 k, .int .u64 v, .int .u64 od, .int .u64 hk, .bool r5, .int .i64 r6, .int .i64 r7, ks, .int .u64 lo, .int .u64 hi] 35 (0, 0)) := by rw [hw0]; exact alloc_of (heap_alloc_new _ _) _
 have a0 : w0.heap[W.heap.size + 1]? = some (.cells #[.int .i64 0, .bool fo, .int .u64 va, .bool dn, .int .u64 0, ps, .int .u64 co] 39 (0, 0)) := by
  rw [hw0]
  exact al2
 have HM0 := keepH (H.quiet C0)
 have HBL := keepH H.blk
 have k0 : w0.cell? ⟨W.heap.size, 0, none⟩ = some (.int .u8 5) := cell_of o0 0
 have e0 : w0.cell? ⟨W.heap.size + 1, 0, none⟩ = some (.int .i64 0) := cell_of a0 0
 have e3 : w0.cell? ⟨W.heap.size + 1, 3, none⟩ = some (.bool dn) := cell_of a0 3
 have e4 : w0.cell? ⟨W.heap.size + 1, 4, none⟩ = some (.int .u64 0) := cell_of a0 4
 have HC0 := keepH C0
 clear H C0 o0 a0 HM0 HBL
 go_enter Tryz.func43, Tryz.ntmps43
 go_upto_region 1 with fail
 rw [← hw0]
 clear hw0
 go_wp2_with fail
 (try (go_quiet (fail); go_wp2_with fail))
 go_end0
 exact ⟨rfl, HC0.out⟩
set_option maxRecDepth 100000 in
theorem do_else {k v od hk lo hi va co : Nat} {r5 fo : Bool} {r6 r7 : Int} {ks ps : Value} {th : Nat} {dn : Bool} {kd : Int} {W : World} {m nw hd mu : Nat} {f h : Nat → Option Nat} {g : Nat → Nat → Option Nat} {n : Nat} (H : MoAt W m nw hd mu f h g n) (n2 : ¬ kd = 2) (n3 : ¬ kd = 3) (n4 : ¬ kd = 4) (n5 : ¬ kd = 5) (n6 : ¬ kd = 6) :
    Calls Tryz.prog 43 #[.pointer (some ⟨m, 0, none⟩), .agg #[.int .u8 kd, .int .u64 k, .int .u64 v, .int .u64 od, .int .u64 hk, .bool r5, .int .i64 r6, .int .i64 r7, ks, .int .u64 lo, .int .u64 hi], .agg #[.int .i64 0, .bool fo, .int .u64 va, .bool dn, .int .u64 th, ps, .int .u64 co]] W fun e W' => e = .returned (.tuple #[]) ∧ Chg (fun _ => False) W W' := by
 obtain ⟨w0, hw0⟩ : ∃ w0, w0 = (W.alloc (.cells #[.int .u8 kd, .int .u64 k, .int .u64 v, .int .u64 od, .int .u64 hk, .bool r5, .int .i64 r6, .int .i64 r7, ks, .int .u64 lo, .int .u64 hi] 35)).alloc (.cells #[.int .i64 0, .bool fo, .int .u64 va, .bool dn, .int .u64 th, ps, .int .u64 co] 39) := ⟨_, rfl⟩
 have C0 : Chg (fun _ => False) W w0 := by rw [hw0]; exact ((Chg.refl _ _).alloc _).alloc _
 have o0 : w0.heap[W.heap.size]? = some (.cells #[.int .u8 kd, .int .u64 k, .int .u64 v, .int .u64 od, .int .u64 hk, .bool r5, .int .i64 r6, .int .i64 r7, ks, .int .u64 lo, .int .u64 hi] 35 (0, 0)) := by rw [hw0]; exact alloc_of (heap_alloc_new _ _) _
 have a0 : w0.heap[W.heap.size + 1]? = some (.cells #[.int .i64 0, .bool fo, .int .u64 va, .bool dn, .int .u64 th, ps, .int .u64 co] 39 (0, 0)) := by
  rw [hw0]
  exact al2
 have HM0 := keepH (H.quiet C0)
 have HBL := keepH H.blk
 have k0 : w0.cell? ⟨W.heap.size, 0, none⟩ = some (.int .u8 kd) := cell_of o0 0
 have e0 : w0.cell? ⟨W.heap.size + 1, 0, none⟩ = some (.int .i64 0) := cell_of a0 0
 have e3 : w0.cell? ⟨W.heap.size + 1, 3, none⟩ = some (.bool dn) := cell_of a0 3
 have e4 : w0.cell? ⟨W.heap.size + 1, 4, none⟩ = some (.int .u64 th) := cell_of a0 4
 have z2 : (kd == 2) = false := by simpa using n2
 have z3 : (kd == 3) = false := by simpa using n3
 have z4 : (kd == 4) = false := by simpa using n4
 have z5 : (kd == 5) = false := by simpa using n5
 have z6 : (kd == 6) = false := by simpa using n6
 have HC0 := keepH C0
 clear H C0 o0 a0 HM0 HBL
 go_enter Tryz.func43, Tryz.ntmps43
 go_upto_region 1 with fail
 rw [← hw0]
 clear hw0
 go_wp2_with fail
 (try (go_quiet (fail); go_wp2_with fail))
 go_end0
 exact ⟨rfl, HC0.out⟩
set_option maxRecDepth 100000 in
theorem do_putG {k v od hk lo hi va co : Nat} {r5 fo : Bool} {r6 r7 : Int} {ks ps : Value} {th : Nat} {dn : Bool} {W : World} {m nw hd mu : Nat} {f h : Nat → Option Nat} {g : Nat → Nat → Option Nat} {n : Nat} (H : MoAt W m nw hd mu f h g n) (hn : n < maxLen) (hk64 : k < 18446744073709551616) (hv64 : v < 18446744073709551616) :
    Calls Tryz.prog 43 #[.pointer (some ⟨m, 0, none⟩), .agg #[.int .u8 2, .int .u64 k, .int .u64 v, .int .u64 od, .int .u64 hk, .bool r5, .int .i64 r6, .int .i64 r7, ks, .int .u64 lo, .int .u64 hi], .agg #[.int .i64 0, .bool fo, .int .u64 va, .bool dn, .int .u64 th, ps, .int .u64 co]] W fun e W' => e = .returned (.tuple #[]) ∧ MoAt W' m nw hd mu (updO f k (some v)) h g (n + 1) ∧ Chg (fun i => i = nw) W W' := by
 obtain ⟨w0, hw0⟩ : ∃ w0, w0 = (W.alloc (.cells #[.int .u8 2, .int .u64 k, .int .u64 v, .int .u64 od, .int .u64 hk, .bool r5, .int .i64 r6, .int .i64 r7, ks, .int .u64 lo, .int .u64 hi] 35)).alloc (.cells #[.int .i64 0, .bool fo, .int .u64 va, .bool dn, .int .u64 th, ps, .int .u64 co] 39) := ⟨_, rfl⟩
 have C0 : Chg (fun _ => False) W w0 := by rw [hw0]; exact ((Chg.refl _ _).alloc _).alloc _
 have o0 : w0.heap[W.heap.size]? = some (.cells #[.int .u8 2, .int .u64 k, .int .u64 v, .int .u64 od, .int .u64 hk, .bool r5, .int .i64 r6, .int .i64 r7, ks, .int .u64 lo, .int .u64 hi] 35 (0, 0)) := by rw [hw0]; exact alloc_of (heap_alloc_new _ _) _
 have a0 : w0.heap[W.heap.size + 1]? = some (.cells #[.int .i64 0, .bool fo, .int .u64 va, .bool dn, .int .u64 th, ps, .int .u64 co] 39 (0, 0)) := by
  rw [hw0]
  exact al2
 have HM0 := keepH (H.quiet C0)
 have HBL := keepH H.blk
 have k0 : w0.cell? ⟨W.heap.size, 0, none⟩ = some (.int .u8 2) := cell_of o0 0
 have e0 : w0.cell? ⟨W.heap.size + 1, 0, none⟩ = some (.int .i64 0) := cell_of a0 0
 have e3 : w0.cell? ⟨W.heap.size + 1, 3, none⟩ = some (.bool dn) := cell_of a0 3
 have e4 : w0.cell? ⟨W.heap.size + 1, 4, none⟩ = some (.int .u64 th) := cell_of a0 4
 have HS0 : Hid (w0.cell? ⟨m, 1, none⟩ = some (.map (some nw)) ∧ w0.cell? ⟨W.heap.size, 1, none⟩ = some (.int .u64 k) ∧ w0.cell? ⟨W.heap.size, 2, none⟩ = some (.int .u64 v)) := ⟨cell_of HM0.out.md 1, cell_of o0 1, cell_of o0 2⟩
 obtain ⟨w1, hu, N1, K1⟩ := MapAt.put (W := w0.drew) (MapR.chg (F := fun _ => False) HM0.out.now (Chg.refl _ _).drew (fun x => x)) hn hk64 hv64
 have C0d := C0.drew
 have HC1 : Hid (Chg (fun i => i = nw) W w1) := C0d.trans K1 (fun _ _ x => x.elim) (fun _ _ x => x)
 have HM1 : Hid (MoAt w1 m nw hd mu (updO f k (some v)) h g (n + 1)) := (H.quiet C0d).put (Nat.le_succ n) N1 K1
 have o1 : w1.heap[W.heap.size]? = some (.cells #[.int .u8 2, .int .u64 k, .int .u64 v, .int .u64 od, .int .u64 hk, .bool r5, .int .i64 r6, .int .i64 r7, ks, .int .u64 lo, .int .u64 hi] 35 (0, 0)) := (K1.block W.heap.size (lt_of o0) (by have := HBL.out.2.1; omega)).trans o0
 have hS6 : w1.cell? ⟨m, 1, none⟩ = some (.map (some nw)) ∧ w1.cell? ⟨W.heap.size, 1, none⟩ = some (.int .u64 k) ∧ w1.cell? ⟨W.heap.size, 2, none⟩ = some (.int .u64 v) := ⟨cell_of HM1.out.md 1, cell_of o1 1, cell_of o1 2⟩
 clear H C0 C0d o0 a0 HM0 HBL N1 K1 o1
 go_enter Tryz.func43, Tryz.ntmps43
 go_upto_region 1 with fail
 rw [← hw0]
 clear hw0
 go_upto_region 9 with fail
 go_region_held3 (fun w' => w'.cell? ⟨m, 1, none⟩ = some (.map (some nw)) ∧ w'.cell? ⟨W.heap.size, 1, none⟩ = some (.int .u64 k) ∧ w'.cell? ⟨W.heap.size, 2, none⟩ = some (.int .u64 v)) (first | exact HS0.out | exact hS6) (fail)
 all_goals (
  (try go_wp2_with fail)
  go_end0
  exact ⟨rfl, HM1.out, HC1.out⟩)
set_option maxRecDepth 100000 in
theorem do_swapT {k v od hk lo hi va co : Nat} {r5 fo : Bool} {r6 r7 : Int} {ks ps : Value} {th : Nat} {W : World} {m nw hd mu : Nat} {f h : Nat → Option Nat} {g : Nat → Nat → Option Nat} {n : Nat} (H : MoAt W m nw hd mu f h g n) (hn : n < maxLen) (hk64 : k < 18446744073709551616) (hv64 : v < 18446744073709551616) :
    Calls Tryz.prog 43 #[.pointer (some ⟨m, 0, none⟩), .agg #[.int .u8 4, .int .u64 k, .int .u64 v, .int .u64 od, .int .u64 hk, .bool r5, .int .i64 r6, .int .i64 r7, ks, .int .u64 lo, .int .u64 hi], .agg #[.int .i64 0, .bool fo, .int .u64 va, .bool true, .int .u64 th, ps, .int .u64 co]] W fun e W' => e = .returned (.tuple #[]) ∧ MoAt W' m nw hd mu (updO f k (some v)) h g (n + 1) ∧ Chg (fun i => i = nw) W W' := by
 obtain ⟨w0, hw0⟩ : ∃ w0, w0 = (W.alloc (.cells #[.int .u8 4, .int .u64 k, .int .u64 v, .int .u64 od, .int .u64 hk, .bool r5, .int .i64 r6, .int .i64 r7, ks, .int .u64 lo, .int .u64 hi] 35)).alloc (.cells #[.int .i64 0, .bool fo, .int .u64 va, .bool true, .int .u64 th, ps, .int .u64 co] 39) := ⟨_, rfl⟩
 have C0 : Chg (fun _ => False) W w0 := by rw [hw0]; exact ((Chg.refl _ _).alloc _).alloc _
 have o0 : w0.heap[W.heap.size]? = some (.cells #[.int .u8 4, .int .u64 k, .int .u64 v, .int .u64 od, .int .u64 hk, .bool r5, .int .i64 r6, .int .i64 r7, ks, .int .u64 lo, .int .u64 hi] 35 (0, 0)) := by rw [hw0]; exact alloc_of (heap_alloc_new _ _) _
 have a0 : w0.heap[W.heap.size + 1]? = some (.cells #[.int .i64 0, .bool fo, .int .u64 va, .bool true, .int .u64 th, ps, .int .u64 co] 39 (0, 0)) := by
  rw [hw0]
  exact al2
 have HM0 := keepH (H.quiet C0)
 have HBL := keepH H.blk
 have k0 : w0.cell? ⟨W.heap.size, 0, none⟩ = some (.int .u8 4) := cell_of o0 0
 have e0 : w0.cell? ⟨W.heap.size + 1, 0, none⟩ = some (.int .i64 0) := cell_of a0 0
 have e3 : w0.cell? ⟨W.heap.size + 1, 3, none⟩ = some (.bool true) := cell_of a0 3
 have e4 : w0.cell? ⟨W.heap.size + 1, 4, none⟩ = some (.int .u64 th) := cell_of a0 4
 have HS0 : Hid (w0.cell? ⟨m, 1, none⟩ = some (.map (some nw)) ∧ w0.cell? ⟨W.heap.size, 1, none⟩ = some (.int .u64 k) ∧ w0.cell? ⟨W.heap.size, 2, none⟩ = some (.int .u64 v)) := ⟨cell_of HM0.out.md 1, cell_of o0 1, cell_of o0 2⟩
 obtain ⟨w1, hu, N1, K1⟩ := MapAt.put (W := w0.drew) (MapR.chg (F := fun _ => False) HM0.out.now (Chg.refl _ _).drew (fun x => x)) hn hk64 hv64
 have C0d := C0.drew
 have HC1 : Hid (Chg (fun i => i = nw) W w1) := C0d.trans K1 (fun _ _ x => x.elim) (fun _ _ x => x)
 have HM1 : Hid (MoAt w1 m nw hd mu (updO f k (some v)) h g (n + 1)) := (H.quiet C0d).put (Nat.le_succ n) N1 K1
 have o1 : w1.heap[W.heap.size]? = some (.cells #[.int .u8 4, .int .u64 k, .int .u64 v, .int .u64 od, .int .u64 hk, .bool r5, .int .i64 r6, .int .i64 r7, ks, .int .u64 lo, .int .u64 hi] 35 (0, 0)) := (K1.block W.heap.size (lt_of o0) (by have := HBL.out.2.1; omega)).trans o0
 have hS6 : w1.cell? ⟨m, 1, none⟩ = some (.map (some nw)) ∧ w1.cell? ⟨W.heap.size, 1, none⟩ = some (.int .u64 k) ∧ w1.cell? ⟨W.heap.size, 2, none⟩ = some (.int .u64 v) := ⟨cell_of HM1.out.md 1, cell_of o1 1, cell_of o1 2⟩
 clear H C0 C0d o0 a0 HM0 HBL N1 K1 o1
 go_enter Tryz.func43, Tryz.ntmps43
 go_upto_region 1 with fail
 rw [← hw0]
 clear hw0
 go_upto_region 9 with fail
 go_region_held3 (fun w' => w'.cell? ⟨m, 1, none⟩ = some (.map (some nw)) ∧ w'.cell? ⟨W.heap.size, 1, none⟩ = some (.int .u64 k) ∧ w'.cell? ⟨W.heap.size, 2, none⟩ = some (.int .u64 v)) (first | exact HS0.out | exact hS6) (fail)
 all_goals (
  (try go_wp2_with fail)
  go_end0
  exact ⟨rfl, HM1.out, HC1.out⟩)
set_option maxRecDepth 100000 in
theorem do_delG {k v od hk lo hi va co : Nat} {r5 fo : Bool} {r6 r7 : Int} {ks ps : Value} {th : Nat} {dn : Bool} {W : World} {m nw hd mu : Nat} {f h : Nat → Option Nat} {g : Nat → Nat → Option Nat} {n : Nat} (H : MoAt W m nw hd mu f h g n) (hk64 : k < 18446744073709551616) :
    Calls Tryz.prog 43 #[.pointer (some ⟨m, 0, none⟩), .agg #[.int .u8 3, .int .u64 k, .int .u64 v, .int .u64 od, .int .u64 hk, .bool r5, .int .i64 r6, .int .i64 r7, ks, .int .u64 lo, .int .u64 hi], .agg #[.int .i64 0, .bool fo, .int .u64 va, .bool dn, .int .u64 th, ps, .int .u64 co]] W fun e W' => e = .returned (.tuple #[]) ∧ MoAt W' m nw hd mu (updO f k none) h g n ∧ Chg (fun i => i = nw) W W' := by
 obtain ⟨w0, hw0⟩ : ∃ w0, w0 = (W.alloc (.cells #[.int .u8 3, .int .u64 k, .int .u64 v, .int .u64 od, .int .u64 hk, .bool r5, .int .i64 r6, .int .i64 r7, ks, .int .u64 lo, .int .u64 hi] 35)).alloc (.cells #[.int .i64 0, .bool fo, .int .u64 va, .bool dn, .int .u64 th, ps, .int .u64 co] 39) := ⟨_, rfl⟩
 have C0 : Chg (fun _ => False) W w0 := by rw [hw0]; exact ((Chg.refl _ _).alloc _).alloc _
 have o0 : w0.heap[W.heap.size]? = some (.cells #[.int .u8 3, .int .u64 k, .int .u64 v, .int .u64 od, .int .u64 hk, .bool r5, .int .i64 r6, .int .i64 r7, ks, .int .u64 lo, .int .u64 hi] 35 (0, 0)) := by rw [hw0]; exact alloc_of (heap_alloc_new _ _) _
 have a0 : w0.heap[W.heap.size + 1]? = some (.cells #[.int .i64 0, .bool fo, .int .u64 va, .bool dn, .int .u64 th, ps, .int .u64 co] 39 (0, 0)) := by
  rw [hw0]
  exact al2
 have HM0 := keepH (H.quiet C0)
 have HBL := keepH H.blk
 have k0 : w0.cell? ⟨W.heap.size, 0, none⟩ = some (.int .u8 3) := cell_of o0 0
 have e0 : w0.cell? ⟨W.heap.size + 1, 0, none⟩ = some (.int .i64 0) := cell_of a0 0
 have e3 : w0.cell? ⟨W.heap.size + 1, 3, none⟩ = some (.bool dn) := cell_of a0 3
 have e4 : w0.cell? ⟨W.heap.size + 1, 4, none⟩ = some (.int .u64 th) := cell_of a0 4
 have HS0 : Hid (w0.cell? ⟨m, 1, none⟩ = some (.map (some nw)) ∧ w0.cell? ⟨W.heap.size, 1, none⟩ = some (.int .u64 k)) := ⟨cell_of HM0.out.md 1, cell_of o0 1⟩
 obtain ⟨w1, hu, N1, K1⟩ := MapR.delR (W := w0.drew) (MapR.chg (F := fun _ => False) HM0.out.now (Chg.refl _ _).drew (fun x => x)) Tryz.underlying97 hk64 0
 have C0d := C0.drew
 have HC1 : Hid (Chg (fun i => i = nw) W w1) := C0d.trans K1 (fun _ _ x => x.elim) (fun _ _ x => x)
 have HM1 : Hid (MoAt w1 m nw hd mu (updO f k none) h g n) := (H.quiet C0d).put (Nat.le_refl n) N1 K1
 have o1 : w1.heap[W.heap.size]? = some (.cells #[.int .u8 3, .int .u64 k, .int .u64 v, .int .u64 od, .int .u64 hk, .bool r5, .int .i64 r6, .int .i64 r7, ks, .int .u64 lo, .int .u64 hi] 35 (0, 0)) := (K1.block W.heap.size (lt_of o0) (by have := HBL.out.2.1; have := HBL.out.2.2.1; omega)).trans o0
 have hS6 : w1.cell? ⟨m, 1, none⟩ = some (.map (some nw)) ∧ w1.cell? ⟨W.heap.size, 1, none⟩ = some (.int .u64 k) := ⟨cell_of HM1.out.md 1, cell_of o1 1⟩
 clear H C0 C0d o0 a0 HM0 HBL N1 K1 o1
 go_enter Tryz.func43, Tryz.ntmps43
 go_upto_region 1 with fail
 rw [← hw0]
 clear hw0
 go_upto_region 10 with fail
 go_region_held3 (fun w' => w'.cell? ⟨m, 1, none⟩ = some (.map (some nw)) ∧ w'.cell? ⟨W.heap.size, 1, none⟩ = some (.int .u64 k)) (first | exact HS0.out | exact hS6) (fail)
 all_goals (
  (try go_wp2_with fail)
  go_end0
  exact ⟨rfl, HM1.out, HC1.out⟩)
set_option maxRecDepth 100000 in
theorem do_relG {k v od hk lo hi va co : Nat} {r5 fo : Bool} {r6 r7 : Int} {ks ps : Value} {th : Nat} {dn : Bool} {W : World} {m nw hd mu : Nat} {f h : Nat → Option Nat} {g : Nat → Nat → Option Nat} {n : Nat} (H : MoAt W m nw hd mu f h g n) (hk64 : hk < 18446744073709551616) :
    Calls Tryz.prog 43 #[.pointer (some ⟨m, 0, none⟩), .agg #[.int .u8 6, .int .u64 k, .int .u64 v, .int .u64 od, .int .u64 hk, .bool r5, .int .i64 r6, .int .i64 r7, ks, .int .u64 lo, .int .u64 hi], .agg #[.int .i64 0, .bool fo, .int .u64 va, .bool dn, .int .u64 th, ps, .int .u64 co]] W fun e W' => e = .returned (.tuple #[]) ∧ MoAt W' m nw hd mu f (updO h hk none) g n ∧ Chg (fun i => i = hd) W W' := by
 obtain ⟨w0, hw0⟩ : ∃ w0, w0 = (W.alloc (.cells #[.int .u8 6, .int .u64 k, .int .u64 v, .int .u64 od, .int .u64 hk, .bool r5, .int .i64 r6, .int .i64 r7, ks, .int .u64 lo, .int .u64 hi] 35)).alloc (.cells #[.int .i64 0, .bool fo, .int .u64 va, .bool dn, .int .u64 th, ps, .int .u64 co] 39) := ⟨_, rfl⟩
 have C0 : Chg (fun _ => False) W w0 := by rw [hw0]; exact ((Chg.refl _ _).alloc _).alloc _
 have o0 : w0.heap[W.heap.size]? = some (.cells #[.int .u8 6, .int .u64 k, .int .u64 v, .int .u64 od, .int .u64 hk, .bool r5, .int .i64 r6, .int .i64 r7, ks, .int .u64 lo, .int .u64 hi] 35 (0, 0)) := by rw [hw0]; exact alloc_of (heap_alloc_new _ _) _
 have a0 : w0.heap[W.heap.size + 1]? = some (.cells #[.int .i64 0, .bool fo, .int .u64 va, .bool dn, .int .u64 th, ps, .int .u64 co] 39 (0, 0)) := by
  rw [hw0]
  exact al2
 have HM0 := keepH (H.quiet C0)
 have HBL := keepH H.blk
 have k0 : w0.cell? ⟨W.heap.size, 0, none⟩ = some (.int .u8 6) := cell_of o0 0
 have e0 : w0.cell? ⟨W.heap.size + 1, 0, none⟩ = some (.int .i64 0) := cell_of a0 0
 have e3 : w0.cell? ⟨W.heap.size + 1, 3, none⟩ = some (.bool dn) := cell_of a0 3
 have e4 : w0.cell? ⟨W.heap.size + 1, 4, none⟩ = some (.int .u64 th) := cell_of a0 4
 have HS0 : Hid (w0.cell? ⟨m, 2, none⟩ = some (.map (some hd)) ∧ w0.cell? ⟨W.heap.size, 4, none⟩ = some (.int .u64 hk)) := ⟨cell_of HM0.out.md 2, cell_of o0 4⟩
 obtain ⟨w1, hu, N1, K1⟩ := MapR.delR (W := w0.drew) (MapR.chg (F := fun _ => False) HM0.out.held (Chg.refl _ _).drew (fun x => x)) Tryz.underlying98 hk64 0
 have C0d := C0.drew
 have HC1 : Hid (Chg (fun i => i = hd) W w1) := C0d.trans K1 (fun _ _ x => x.elim) (fun _ _ x => x)
 have HM1 : Hid (MoAt w1 m nw hd mu f (updO h hk none) g n) := (H.quiet C0d).drop (Nat.le_refl n) N1 K1
 have o1 : w1.heap[W.heap.size]? = some (.cells #[.int .u8 6, .int .u64 k, .int .u64 v, .int .u64 od, .int .u64 hk, .bool r5, .int .i64 r6, .int .i64 r7, ks, .int .u64 lo, .int .u64 hi] 35 (0, 0)) := (K1.block W.heap.size (lt_of o0) (by have := HBL.out.2.1; have := HBL.out.2.2.1; omega)).trans o0
 have hS6 : w1.cell? ⟨m, 2, none⟩ = some (.map (some hd)) ∧ w1.cell? ⟨W.heap.size, 4, none⟩ = some (.int .u64 hk) := ⟨cell_of HM1.out.md 2, cell_of o1 4⟩
 clear H C0 C0d o0 a0 HM0 HBL N1 K1 o1
 go_enter Tryz.func43, Tryz.ntmps43
 go_upto_region 1 with fail
 rw [← hw0]
 clear hw0
 go_upto_region 13 with fail
 go_region_held3 (fun w' => w'.cell? ⟨m, 2, none⟩ = some (.map (some hd)) ∧ w'.cell? ⟨W.heap.size, 4, none⟩ = some (.int .u64 hk)) (first | exact HS0.out | exact hS6) (fail)
 all_goals (
  (try go_wp2_with fail)
  go_end0
  exact ⟨rfl, HM1.out, HC1.out⟩)
set_option maxRecDepth 100000 in
theorem do_snapG {k v od hk lo hi va co : Nat} {r5 fo : Bool} {r6 r7 : Int} {ks ps : Value} {th : Nat} {dn : Bool} {W : World} {m nw hd mu : Nat} {f h : Nat → Option Nat} {g : Nat → Nat → Option Nat} {n : Nat} (H : MoAt W m nw hd mu f h g n) (hn : n ≤ 8796093022000) (ht64 : th < 18446744073709551616) (ht0 : th ≠ 0) :
    Calls Tryz.prog 43 #[.pointer (some ⟨m, 0, none⟩), .agg #[.int .u8 5, .int .u64 k, .int .u64 v, .int .u64 od, .int .u64 hk, .bool r5, .int .i64 r6, .int .i64 r7, ks, .int .u64 lo, .int .u64 hi], .agg #[.int .i64 0, .bool fo, .int .u64 va, .bool dn, .int .u64 th, ps, .int .u64 co]] W fun e W' => e = .returned (.tuple #[]) ∧ ∃ cl, W.heap.size ≤ cl ∧ MoAt W' m nw hd mu f (updO h th (some cl)) (setG g cl f) (n + 1) ∧ Chg (fun i => i = hd) W W' := by
 obtain ⟨w0, hw0⟩ : ∃ w0, w0 = (W.alloc (.cells #[.int .u8 5, .int .u64 k, .int .u64 v, .int .u64 od, .int .u64 hk, .bool r5, .int .i64 r6, .int .i64 r7, ks, .int .u64 lo, .int .u64 hi] 35)).alloc (.cells #[.int .i64 0, .bool fo, .int .u64 va, .bool dn, .int .u64 th, ps, .int .u64 co] 39) := ⟨_, rfl⟩
 have C0 : Chg (fun _ => False) W w0 := by rw [hw0]; exact ((Chg.refl _ _).alloc _).alloc _
 have o0 : w0.heap[W.heap.size]? = some (.cells #[.int .u8 5, .int .u64 k, .int .u64 v, .int .u64 od, .int .u64 hk, .bool r5, .int .i64 r6, .int .i64 r7, ks, .int .u64 lo, .int .u64 hi] 35 (0, 0)) := by rw [hw0]; exact alloc_of (heap_alloc_new _ _) _
 have a0 : w0.heap[W.heap.size + 1]? = some (.cells #[.int .i64 0, .bool fo, .int .u64 va, .bool dn, .int .u64 th, ps, .int .u64 co] 39 (0, 0)) := by
  rw [hw0]
  exact al2
 have HM0 := keepH (H.quiet C0)
 have HBL := keepH H.blk
 have k0 : w0.cell? ⟨W.heap.size, 0, none⟩ = some (.int .u8 5) := cell_of o0 0
 have e0 : w0.cell? ⟨W.heap.size + 1, 0, none⟩ = some (.int .i64 0) := cell_of a0 0
 have e3 : w0.cell? ⟨W.heap.size + 1, 3, none⟩ = some (.bool dn) := cell_of a0 3
 have e4 : w0.cell? ⟨W.heap.size + 1, 4, none⟩ = some (.int .u64 th) := cell_of a0 4
 have q0 : ((th : Int) != 0) = true := by simp; omega
 have q1 : ¬ (th : Int) = 0 := by omega
 have HS0 : Hid (w0.cell? ⟨m, 2, none⟩ = some (.map (some hd)) ∧ w0.cell? ⟨W.heap.size + 1, 4, none⟩ = some (.int .u64 th) ∧ w0.cell? ⟨m, 1, none⟩ = some (.map (some nw))) := ⟨cell_of HM0.out.md 2, cell_of a0 4, cell_of HM0.out.md 1⟩
 have HCL := keepH (c_pict (W := w0.drew) (MapR.chg (F := fun _ => False) HM0.out.now (Chg.refl (fun _ => False) w0).drew (fun x => x)) hn)
 have HSE : Hid (∀ z, MapAt z w0.heap.size n f → Chg (fun _ => False) w0.drew z → ∃ w2, (Instr.mapUpdate 98 (.map (some hd)) (.int .u64 th) (.map (some w0.heap.size))).run Tryz.prog z = .ok () w2 ∧ (z.cell? ⟨m, 2, none⟩ = some (.map (some hd)) ∧ z.cell? ⟨W.heap.size + 1, 4, none⟩ = some (.int .u64 th) ∧ z.cell? ⟨m, 1, none⟩ = some (.map (some nw))) ∧ (w2.cell? ⟨m, 2, none⟩ = some (.map (some hd)) ∧ w2.cell? ⟨W.heap.size + 1, 4, none⟩ = some (.int .u64 th) ∧ w2.cell? ⟨m, 1, none⟩ = some (.map (some nw))) ∧ Hid (MoAt w2 m nw hd mu f (updO h th (some w0.heap.size)) (setG g w0.heap.size f) (n + 1) ∧ Chg (fun i => i = hd) W w2)) := by
  intro w1 L1 C1d
  have C1 : Chg (fun _ => False) w0 w1 := ((Chg.refl (fun _ => False) w0).drew).trans C1d (fun _ _ x => x) (fun _ _ x => x)
  have M1 := HM0.out.quiet C1
  have a1 : w1.heap[W.heap.size + 1]? = some (.cells #[.int .i64 0, .bool fo, .int .u64 va, .bool dn, .int .u64 th, ps, .int .u64 co] 39 (0, 0)) := (C1.block _ (lt_of a0) (fun x => x)).trans a0
  obtain ⟨w2, hu, N2, K2⟩ := HeldAt.put M1.held (by unfold maxLen; omega) ht64 w0.heap.size
  have B0 := HM0.out.blk
  have M2 := M1.snap (Nat.le_succ n) N2 L1 ⟨by omega, by omega, by omega, fun k b hb => by have := B0.2.2.2 k b hb; omega⟩ K2
  have a2 : w2.heap[W.heap.size + 1]? = some (.cells #[.int .i64 0, .bool fo, .int .u64 va, .bool dn, .int .u64 th, ps, .int .u64 co] 39 (0, 0)) := (K2.block _ (lt_of a1) (by have := HBL.out.2.2.1; omega)).trans a1
  exact ⟨w2, hu, ⟨cell_of M1.md 2, cell_of a1 4, cell_of M1.md 1⟩, ⟨cell_of M2.md 2, cell_of a2 4, cell_of M2.md 1⟩, M2, (C0.trans C1 (H := fun _ => False) (fun _ _ x => x) (fun _ _ x => x)).trans K2 (fun _ _ x => x.elim) (fun _ _ x => x)⟩
 have HZ : Hid (W.heap.size ≤ w0.heap.size) := C0.size
 clear H C0 o0 a0 HM0 HBL
 go_enter Tryz.func43, Tryz.ntmps43
 go_upto_region 1 with fail
 rw [← hw0]
 clear hw0
 go_upto_region 12 with fail
 go_region_held3 (fun w' => w'.cell? ⟨m, 2, none⟩ = some (.map (some hd)) ∧ w'.cell? ⟨W.heap.size + 1, 4, none⟩ = some (.int .u64 th) ∧ w'.cell? ⟨m, 1, none⟩ = some (.map (some nw))) (first | exact HS0.out | exact hS5 | exact hS6)
  (first | (go_at_call 86; refine HCL.out.mono ?_; rintro e z ⟨rfl, L1, C1⟩; obtain ⟨w2, hu, hS5, hS6, HE⟩ := HSE.out z L1 C1; clear L1 C1))
 all_goals (
  (try go_wp2_with fail)
  go_end0
  exact ⟨rfl, w0.heap.size, HZ.out, HE.out.1, HE.out.2⟩)
theorem meas {i n : Nat} (h : i < n) : n - natOf (.int .i64 ((i : Int) + 1)) < n - natOf (.int .i64 i) := by
 have e1 : natOf (.int .i64 ((i : Int) + 1)) = i + 1 := by show ((i : Int) + 1).toNat = i + 1; omega
 have e2 : natOf (.int .i64 i) = i := by show ((i : Int)).toNat = i; omega
 rw [e1, e2]
 omega
def lookL (l : List (Nat × Nat)) (key : Nat) : Option Nat := (l.find? (fun x => x.1 == key)).map Prod.snd
theorem Lists.look {f : Nat → Option Nat} {l : List (Nat × Nat)} (h : Lists f 0 18446744073709551615 l) (key : Nat) (hk : key < 18446744073709551616) : lookL l key = f key := by
 unfold lookL
 cases hf : l.find? (fun x => x.1 == key) with
 | none =>
  rw [List.find?_eq_none] at hf
  cases hv : f key with
  | none => rfl
  | some v =>
   have := hf (key, v) ((h.2 key v).2 ⟨hv, Nat.zero_le _, by omega⟩)
   simp at this
 | some x =>
  obtain ⟨k, v⟩ := x
  have h1 := List.find?_some hf
  have h2 := List.mem_of_find?_eq_some hf
  simp at h1
  subst h1
  exact ((h.2 k v).1 h2).1.symm
set_option maxRecDepth 100000 in
theorem r_find {p : Option Addr} {l : List (Nat × Nat)} {W : World} (hP : PairsAt W p l) (hl : l.length ≤ 8796093022000) (c key : Nat) :
    Calls Tryz.prog 48 #[.slice p l.length c, .int .u64 key] W fun e W' => e = .returned (.tuple #[.int .u64 (((lookL l key).getD 0 : Nat) : Int), .bool (lookL l key).isSome]) ∧ W' = W := by
 have HP := keepH hP
 obtain ⟨r, hr⟩ : ∃ r, r = lookL l key := ⟨_, rfl⟩
 rw [← hr]
 have HR := keepH hr
 clear hP hr
 go_enter Tryz.func48, Tryz.ntmps48
 go_wp2_with fail
 go_loopw [6] (fun q wr => ∃ i : Nat, i ≤ l.length ∧ q = .int .i64 i ∧ wr = W ∧ Hid (∀ j x, j < i → l[j]? = some x → x.1 ≠ key)) (fun q _ => l.length - natOf q)
 case atStart => exact ⟨0, Nat.zero_le _, rfl, rfl, fun j x h => absurd h (by omega)⟩
 case round =>
  obtain ⟨i, hil, rfl, rfl, HX⟩ := hrel
  by_cases hlt : i < l.length
  ·have q1 : (i : Int) < (l.length : Int) := by omega
   obtain ⟨⟨k, v⟩, hk⟩ : ∃ x, l[i]? = some x := ⟨l[i], List.getElem?_eq_getElem hlt⟩
   obtain ⟨bk, off, rfl, hbk, hcs⟩ := HP.out.resolve_left (by intro e; subst e; simp at hk)
   obtain ⟨hk64, hv64, c0, c1⟩ := hcs i k v hk
   by_cases e : k = key
   ·have qq : ((k : Int) == (key : Int)) = true := by simp; omega
    have HF : Hid (r = some v) := by
     show _ = _
     rw [HR.out]
     unfold lookL
     have : l.find? (fun x => x.1 == key) = some (k, v) := by
      rw [List.find?_eq_some_iff_getElem]
      obtain ⟨h1, h2⟩ := List.getElem?_eq_some_iff.1 hk
      refine ⟨by simp [e], i, h1, h2, fun j hj => ?_⟩
      have := HX.out j _ hj (List.getElem?_eq_getElem (by omega))
      simp [this]
     rw [this]
     rfl
    clear hk hcs e
    go_wp2_with fail
    (try simp only [Exit.inBlock, Exit.then])
    go_ret2
    rw [HF.out]
    exact ⟨by simp, rfl⟩
   ·have qq : ((k : Int) == (key : Int)) = false := by simp; omega
    have HY : Hid (∀ j x, j < i + 1 → l[j]? = some x → x.1 ≠ key) := fun j x hj hx => by
     by_cases q : j = i
     ·subst q; rw [hk] at hx; injection hx with hx; subst hx; exact e
     ·exact HX.out j x (by omega) hx
    clear hk hcs e
    go_wp2_with fail
    go_roundw
    case rel => exact ⟨i + 1, by omega, by first | rfl | go_num, by first | rfl | trivial, HY.out⟩
    case measure => exact meas hlt
  ·have q1 : ¬ (i : Int) < (l.length : Int) := by omega
   have HF : Hid (r = none) := by
    show _ = _
    rw [HR.out]
    unfold lookL
    have : l.find? (fun x => x.1 == key) = none := by
     rw [List.find?_eq_none]
     intro x hx
     obtain ⟨j, hj⟩ := List.mem_iff_getElem?.1 hx
     have := HX.out j x (by have := (List.getElem?_eq_some_iff.1 hj).1; omega) hj
     simpa using this
    rw [this]
    rfl
   go_wp2_with fail
   go_ret2
   rw [HF.out]
   exact ⟨by simp, rfl⟩
set_option maxRecDepth 100000 in
theorem r_without {p : Option Addr} {l : List (Nat × Nat)} {W : World} (hP : PairsAt W p l) (hl : l.length ≤ 8796093022000) (c : Nat) (key : Nat) :
    Calls Tryz.prog 50 #[.slice p l.length c, .int .u64 key] W fun e W' => (∃ v, e = .returned v ∧ PRow W' W.heap.size v (l.filter (fun x => x.1 != key))) ∧ Chg (fun _ => False) W W' := by
 obtain ⟨i0, hi, hz0, hz1, hz2⟩ := info_parts infoPair
 have HP := keepH hP
 clear hP
 go_enter Tryz.func50, Tryz.ntmps50
 go_wp2_with fail
 go_loopw [5, 6] (fun s q wr => ∃ i : Nat, i ≤ l.length ∧ q = .int .i64 i ∧ Hid (PRow wr W.heap.size s ((l.take i).filter (fun x => x.1 != key)) ∧ Chg (fun _ => False) W wr)) (fun _ q _ => l.length - natOf q)
 case atStart => exact ⟨0, Nat.zero_le _, rfl, PRow.nil _ _, Chg.refl _ _⟩
 case round =>
  obtain ⟨i, hil, rfl, HX⟩ := hrel
  by_cases hlt : i < l.length
  ·have q1 : (i : Int) < (l.length : Int) := by omega
   obtain ⟨⟨k, v⟩, hk⟩ : ∃ x, l[i]? = some x := ⟨l[i], List.getElem?_eq_getElem hlt⟩
   obtain ⟨bk, off, rfl, hbk, hcs⟩ := HP.out.resolve_left (by intro e; subst e; simp at hk)
   obtain ⟨hk64, hv64, hc0, hc1⟩ := hcs i k v hk
   have c0 := cell_chg HX.out.2 hc0 (fun x => x)
   have c1 := cell_chg HX.out.2 hc1 (fun x => x)
   have HT : Hid ((l.take (i + 1)).filter (fun x => x.1 != key) = (l.take i).filter (fun x => x.1 != key) ++ [(k, v)].filter (fun x => x.1 != key)) := by
    show _ = _
    rw [List.take_add_one, hk, List.filter_append]
    rfl
   have HB : Hid (((l.take i).filter (fun x => x.1 != key)).length < 8796093022000 ∧ k < 18446744073709551616 ∧ v < 18446744073709551616) := by
    have h1 := List.length_filter_le (fun x => x.1 != key) (l.take i)
    rw [List.length_take] at h1
    exact ⟨by omega, hk64, hv64⟩
   clear hk hcs hc0 hc1
   by_cases ek : k ≠ key
   rotate_left
   ·have qq : ((k : Int) != (key : Int)) = false := by simp; omega
    have qq2 : (k : Int) = (key : Int) := by omega
    have HEK := keepH ek
    clear qq2
    have HF : Hid ([(k, v)].filter (fun x => x.1 != key) = []) := by show _ = _; simp; omega
    go_wp2_with fail
    go_roundw
    case rel => exact ⟨i + 1, by omega, by first | rfl | go_num, by rw [HT.out, HF.out, List.append_nil]; exact HX.out.1, HX.out.2⟩
    case measure => exact meas hlt
   have qq : ((k : Int) != (key : Int)) = true := by simp; omega
   have qq2 : ¬ (k : Int) = (key : Int) := by omega
   have HF : Hid ([(k, v)].filter (fun x => x.1 != key) = [(k, v)]) := by show _ = _; simp; omega
   go_wp2_with (first | (at_builtin; go_loud (refine wpList_append_own_at _ rfl _ _ 37 rfl W.heap.size 86 i0 (.agg #[.int .u64 0, .int .u64 0]) 2 16 Tryz.underlying37 hi hz0 hz1 hz2 rfl (by decide) _ _ _ rfl (HX.out.1.1.kept (World.grownBy_alloc _ _ none) (by cases Value.ownBlock _ <;> simp)) ⟨_, 0, none⟩ 1 1 [.int .u64 k, .int .u64 v] rfl rfl (cells_new _ _ rfl _ _) (by intro u hu; simp at hu; rcases hu with rfl | rfl <;> rfl) (by unfold maxLen; have := HB.out.1; omega) (by have := HB.out.1; omega) (Nat.le_trans HX.out.2.size (by simp)) ?_); intro v' w3 r1 r2 r3 r4; have R1 := keepH r1; have R2 := keepH r2; have R4 := keepH r4; clear r1 r2 r3 r4))
   go_roundw
   case rel =>
    refine ⟨i + 1, by omega, by first | rfl | go_num, ?_, ?_⟩
    ·rw [HT.out, HF.out]
     exact PRow.add HX.out.1.2 HB.out.2.1 HB.out.2.2 R1.out
    ·exact (HX.out.2.alloc _).trans (grown_chg (F := fun j => W.heap.size ≤ j) R2.out (fun j e => (HX.out.1.lt j e).1)) (fun _ _ x => x) (fun j hj e => by omega)
   case measure => exact meas hlt
  ·have q1 : ¬ (i : Int) < (l.length : Int) := by omega
   obtain rfl : i = l.length := by omega
   go_wp2_with fail
   go_ret
   rw [List.take_length] at HX
   exact ⟨⟨_, rfl, HX.out.1⟩, HX.out.2⟩
set_option maxRecDepth 100000 in
theorem r_within {p : Option Addr} {l : List (Nat × Nat)} {W : World} (hP : PairsAt W p l) (hl : l.length ≤ 8796093022000) (c : Nat) (lo hi2 : Nat) :
    Calls Tryz.prog 88 #[.slice p l.length c, .int .u64 lo, .int .u64 hi2] W fun e W' => (∃ v, e = .returned v ∧ PRow W' W.heap.size v (l.filter (fun x => decide (lo ≤ x.1) && decide (x.1 ≤ hi2)))) ∧ Chg (fun _ => False) W W' := by
 obtain ⟨i0, hi, hz0, hz1, hz2⟩ := info_parts infoPair
 have HP := keepH hP
 clear hP
 go_enter Tryz.func88, Tryz.ntmps88
 go_wp2_with fail
 go_loopw [7, 8] (fun s q wr => ∃ i : Nat, i ≤ l.length ∧ q = .int .i64 i ∧ Hid (PRow wr W.heap.size s ((l.take i).filter (fun x => decide (lo ≤ x.1) && decide (x.1 ≤ hi2))) ∧ Chg (fun _ => False) W wr)) (fun _ q _ => l.length - natOf q)
 case atStart => exact ⟨0, Nat.zero_le _, rfl, PRow.nil _ _, Chg.refl _ _⟩
 case round =>
  obtain ⟨i, hil, rfl, HX⟩ := hrel
  by_cases hlt : i < l.length
  ·have q1 : (i : Int) < (l.length : Int) := by omega
   obtain ⟨⟨k, v⟩, hk⟩ : ∃ x, l[i]? = some x := ⟨l[i], List.getElem?_eq_getElem hlt⟩
   obtain ⟨bk, off, rfl, hbk, hcs⟩ := HP.out.resolve_left (by intro e; subst e; simp at hk)
   obtain ⟨hk64, hv64, hc0, hc1⟩ := hcs i k v hk
   have c0 := cell_chg HX.out.2 hc0 (fun x => x)
   have c1 := cell_chg HX.out.2 hc1 (fun x => x)
   have HT : Hid ((l.take (i + 1)).filter (fun x => decide (lo ≤ x.1) && decide (x.1 ≤ hi2)) = (l.take i).filter (fun x => decide (lo ≤ x.1) && decide (x.1 ≤ hi2)) ++ [(k, v)].filter (fun x => decide (lo ≤ x.1) && decide (x.1 ≤ hi2))) := by
    show _ = _
    rw [List.take_add_one, hk, List.filter_append]
    rfl
   have HB : Hid (((l.take i).filter (fun x => decide (lo ≤ x.1) && decide (x.1 ≤ hi2))).length < 8796093022000 ∧ k < 18446744073709551616 ∧ v < 18446744073709551616) := by
    have h1 := List.length_filter_le (fun x => decide (lo ≤ x.1) && decide (x.1 ≤ hi2)) (l.take i)
    rw [List.length_take] at h1
    exact ⟨by omega, hk64, hv64⟩
   clear hk hcs hc0 hc1
   by_cases e1 : lo ≤ k
   rotate_left
   ·have qq : ¬ (lo : Int) ≤ (k : Int) := by omega
    have qd : decide (lo ≤ k) = false := by simp; omega
    have HF : Hid ([(k, v)].filter (fun x => decide (lo ≤ x.1) && decide (x.1 ≤ hi2)) = []) := by show _ = _; simp; omega
    go_wp2_with fail
    go_roundw
    case rel => exact ⟨i + 1, by omega, by first | rfl | go_num, by rw [HT.out, HF.out, List.append_nil]; exact HX.out.1, HX.out.2⟩
    case measure => exact meas hlt
   have qq : (lo : Int) ≤ (k : Int) := by omega
   by_cases e2 : k ≤ hi2
   rotate_left
   ·have qr : ¬ (k : Int) ≤ (hi2 : Int) := by omega
    have qe : decide (k ≤ hi2) = false := by simp; omega
    have HF : Hid ([(k, v)].filter (fun x => decide (lo ≤ x.1) && decide (x.1 ≤ hi2)) = []) := by show _ = _; simp; omega
    go_wp2_with fail
    go_roundw
    case rel => exact ⟨i + 1, by omega, by first | rfl | go_num, by rw [HT.out, HF.out, List.append_nil]; exact HX.out.1, HX.out.2⟩
    case measure => exact meas hlt
   have qr : (k : Int) ≤ (hi2 : Int) := by omega
   have HF : Hid ([(k, v)].filter (fun x => decide (lo ≤ x.1) && decide (x.1 ≤ hi2)) = [(k, v)]) := by show _ = _; simp; omega
   go_wp2_with (first | (at_builtin; go_loud (refine wpList_append_own_at _ rfl _ _ 37 rfl W.heap.size 86 i0 (.agg #[.int .u64 0, .int .u64 0]) 2 16 Tryz.underlying37 hi hz0 hz1 hz2 rfl (by decide) _ _ _ rfl (HX.out.1.1.kept (World.grownBy_alloc _ _ none) (by cases Value.ownBlock _ <;> simp)) ⟨_, 0, none⟩ 1 1 [.int .u64 k, .int .u64 v] rfl rfl (cells_new _ _ rfl _ _) (by intro u hu; simp at hu; rcases hu with rfl | rfl <;> rfl) (by unfold maxLen; have := HB.out.1; omega) (by have := HB.out.1; omega) (Nat.le_trans HX.out.2.size (by simp)) ?_); intro v' w3 r1 r2 r3 r4; have R1 := keepH r1; have R2 := keepH r2; have R4 := keepH r4; clear r1 r2 r3 r4))
   go_roundw
   case rel =>
    refine ⟨i + 1, by omega, by first | rfl | go_num, ?_, ?_⟩
    ·rw [HT.out, HF.out]
     exact PRow.add HX.out.1.2 HB.out.2.1 HB.out.2.2 R1.out
    ·exact (HX.out.2.alloc _).trans (grown_chg (F := fun j => W.heap.size ≤ j) R2.out (fun j e => (HX.out.1.lt j e).1)) (fun _ _ x => x) (fun j hj e => by omega)
   case measure => exact meas hlt
  ·have q1 : ¬ (i : Int) < (l.length : Int) := by omega
   obtain rfl : i = l.length := by omega
   go_wp2_with fail
   go_ret
   rw [List.take_length] at HX
   exact ⟨⟨_, rfl, HX.out.1⟩, HX.out.2⟩
end Go.Proofs.YtahgaghokpicgaaGreat
