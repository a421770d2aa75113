/- The model's do: what an operation that tells this leaves. -/
import Derived.Test.YtnhfpnhmdfgckaaNd0
import Derived.Test.YtnhfpnhmdfgckaaPi
namespace Go.Proofs.Ytnhfpnhmdfgckaa
open Go.RowKit Go.Maps
set_option linter.unusedVariables false

theorem MoAt.put {W W' : World} {m nw hd mu : Nat} {f h : Nat → Option Nat} {g : Nat → Nat → Option Nat} {n : Nat} (H : MoAt W m nw hd mu f h g n) {f' : Nat → Option Nat} {n' : Nat} (hn : n ≤ n') (h1 : MapAt W' nw n' f') (c : Chg (fun i => i = nw) W W') : MoAt W' m nw hd mu f' h g n' :=
  ⟨(c.block m (lt_of H.md) H.mn).trans H.md, h1, MapR.mono (MapR.chg H.held c (Ne.symm H.nh)) hn, fun k b hb => MapR.mono (MapR.chg (H.pic k b hb) c (H.ap k b hb).1) hn, H.mn, H.mh, H.nh, H.ap⟩
def setG (g : Nat → Nat → Option Nat) (b : Nat) (f : Nat → Option Nat) : Nat → Nat → Option Nat := fun i => if i = b then f else g i
theorem setG_same (g : Nat → Nat → Option Nat) (b : Nat) (f : Nat → Option Nat) : setG g b f b = f := if_pos rfl
theorem setG_other (g : Nat → Nat → Option Nat) {b i : Nat} (f : Nat → Option Nat) (h : i ≠ b) : setG g b f i = g i := if_neg h
theorem MoAt.fresh {W : World} {m nw hd mu : Nat} {f h : Nat → Option Nat} {g : Nat → Nat → Option Nat} {n : Nat} (H : MoAt W m nw hd mu f h g n) {cl : Nat} (hc : ∀ k b, h k = some b → b ≠ cl) (f' : Nat → Option Nat) : MoAt W m nw hd mu f h (setG g cl f') n :=
  ⟨H.md, H.now, H.held, fun k b hb => by rw [setG_other _ _ (hc k b hb)]; exact H.pic k b hb, H.mn, H.mh, H.nh, H.ap⟩
theorem MoAt.drop {W W' : World} {m nw hd mu : Nat} {f h : Nat → Option Nat} {g : Nat → Nat → Option Nat} {n : Nat} (H : MoAt W m nw hd mu f h g n) {x n' : Nat} (hn : n ≤ n') (h1 : HeldAt W' hd n' (updO h x none)) (c : Chg (fun i => i = hd) W W') : MoAt W' m nw hd mu f (updO h x none) g n' := by
  have e : ∀ k b, updO h x none k = some b → h k = some b := fun k b hb => by
    by_cases q : k = x
    · subst q; rw [updO_same] at hb; cases hb
    · rwa [updO_other _ _ q] at hb
  exact ⟨(c.block m (lt_of H.md) H.mh).trans H.md, MapR.mono (MapR.chg H.now c H.nh) hn, h1, fun k b hb => MapR.mono (MapR.chg (H.pic k b (e k b hb)) c (H.ap k b (e k b hb)).2.1) hn, H.mn, H.mh, H.nh, fun k b hb => H.ap k b (e k b hb)⟩
theorem MoAt.snap {W W' : World} {m nw hd mu : Nat} {f h : Nat → Option Nat} {g : Nat → Nat → Option Nat} {n : Nat} (H : MoAt W m nw hd mu f h g n) {x cl n' : Nat} (hn : n ≤ n') (h1 : HeldAt W' hd n' (updO h x (some cl))) (hc : MapAt W cl n f) (hcl : cl ≠ m ∧ cl ≠ nw ∧ cl ≠ hd ∧ ∀ k b, h k = some b → b ≠ cl) (c : Chg (fun i => i = hd) W W') : MoAt W' m nw hd mu f (updO h x (some cl)) (setG g cl f) n' := by
  have e : ∀ k b, updO h x (some cl) k = some b → b = cl ∨ (b ≠ cl ∧ h k = some b) := fun k b hb => by
    by_cases q : k = x
    · subst q; rw [updO_same] at hb; injection hb with hb; exact .inl hb.symm
    · rw [updO_other _ _ q] at hb; exact .inr ⟨hcl.2.2.2 k b hb, hb⟩
  refine ⟨(c.block m (lt_of H.md) H.mh).trans H.md, MapR.mono (MapR.chg H.now c H.nh) hn, h1, fun k b hb => ?_, H.mn, H.mh, H.nh, fun k b hb => ?_⟩
  · rcases e k b hb with q | ⟨q, q2⟩
    · rw [q, setG_same]; exact MapR.mono (MapR.chg hc c hcl.2.2.1) hn
    · rw [setG_other _ _ q]; exact MapR.mono (MapR.chg (H.pic k b q2) c (H.ap k b q2).2.1) hn
  · rcases e k b hb with q | ⟨q, q2⟩
    · rw [q]; exact ⟨hcl.2.1, hcl.2.2.1, hcl.1⟩
    · exact H.ap k b q2
set_option maxRecDepth 100000 in
set_option maxHeartbeats 4000000 in
theorem do_err {k v od hk lo hi va co : Nat} {r5 fo : Bool} {r6 r7 : Int} {ks ps : Value} {th : Nat} {dn : Bool} {kd er : Int} {W : World} {m nw hd mu : Nat} {f h : Nat → Option Nat} {g : Nat → Nat → Option Nat} {n : Nat} (H : MoAt W m nw hd mu f h g n) (he : er ≠ 0) :
    Calls Try.prog 58 #[.pointer (some ⟨m, 0, none⟩), .agg #[.int .u8 kd, .int .u64 (k : Int), .int .u64 (v : Int), .int .u64 (od : Int), .int .u64 (hk : Int), .bool r5, .int .i64 r6, .int .i64 r7, ks, .int .u64 (lo : Int), .int .u64 (hi : Int)], .agg #[.int .i64 er, .bool fo, .int .u64 (va : Int), .bool dn, .int .u64 (th : Int), ps, .int .u64 (co : Int)]] W fun e W' => e = .returned (.tuple #[]) ∧ Chg (fun _ => False) W W' := by
  obtain ⟨w0, hw0⟩ : ∃ w0, w0 = (W.alloc (.cells #[.int .u8 kd, .int .u64 (k : Int), .int .u64 (v : Int), .int .u64 (od : Int), .int .u64 (hk : Int), .bool r5, .int .i64 r6, .int .i64 r7, ks, .int .u64 (lo : Int), .int .u64 (hi : Int)] 66)).alloc (.cells #[.int .i64 er, .bool fo, .int .u64 (va : Int), .bool dn, .int .u64 (th : Int), ps, .int .u64 (co : Int)] 59) := ⟨_, rfl⟩
  have C0 : Chg (fun _ => False) W w0 := by rw [hw0]; exact ((Chg.refl _ _).alloc _).alloc _
  have o0 : w0.heap[W.heap.size]? = some (.cells #[.int .u8 kd, .int .u64 (k : Int), .int .u64 (v : Int), .int .u64 (od : Int), .int .u64 (hk : Int), .bool r5, .int .i64 r6, .int .i64 r7, ks, .int .u64 (lo : Int), .int .u64 (hi : Int)] 66 (0, 0)) := by rw [hw0]; exact alloc_of (heap_alloc_new _ _) _
  have a0 : w0.heap[W.heap.size + 1]? = some (.cells #[.int .i64 er, .bool fo, .int .u64 (va : Int), .bool dn, .int .u64 (th : Int), ps, .int .u64 (co : Int)] 59 (0, 0)) := by
    have e := heap_alloc_new (W.alloc (.cells #[.int .u8 kd, .int .u64 (k : Int), .int .u64 (v : Int), .int .u64 (od : Int), .int .u64 (hk : Int), .bool r5, .int .i64 r6, .int .i64 r7, ks, .int .u64 (lo : Int), .int .u64 (hi : Int)] 66)) (.cells #[.int .i64 er, .bool fo, .int .u64 (va : Int), .bool dn, .int .u64 (th : Int), ps, .int .u64 (co : Int)] 59)
    rw [World.size_alloc] at e
    rw [hw0]
    exact e
  have HM0 := keepH (H.quiet C0)
  have HBL := keepH H.blk
  have k0 : w0.cell? ⟨W.heap.size, 0, none⟩ = some (.int .u8 kd) := cell_of o0 0
  have e0 : w0.cell? ⟨W.heap.size + 1, 0, none⟩ = some (.int .i64 er) := cell_of a0 0
  have e3 : w0.cell? ⟨W.heap.size + 1, 3, none⟩ = some (.bool dn) := cell_of a0 3
  have e4 : w0.cell? ⟨W.heap.size + 1, 4, none⟩ = some (.int .u64 (th : Int)) := cell_of a0 4
  have q0 : (er != 0) = true := by simpa using he
  have HC0 := keepH C0
  clear H C0 o0 a0 HM0 HBL
  go_enter Try.func58, Try.ntmps58
  go_upto_region 1 with fail
  rw [← hw0]
  clear hw0
  go_wp2_with fail
  (try (go_quiet (fail); go_wp2_with fail))
  (try simp only [Exit.inBlock, Exit.then])
  refine bodyPost_ret (results_none rfl _ _ _) rfl ?_
  exact ⟨rfl, HC0.out⟩
set_option maxRecDepth 100000 in
set_option maxHeartbeats 4000000 in
theorem do_swapF {k v od hk lo hi va co : Nat} {r5 fo : Bool} {r6 r7 : Int} {ks ps : Value} {th : Nat} {W : World} {m nw hd mu : Nat} {f h : Nat → Option Nat} {g : Nat → Nat → Option Nat} {n : Nat} (H : MoAt W m nw hd mu f h g n)  :
    Calls Try.prog 58 #[.pointer (some ⟨m, 0, none⟩), .agg #[.int .u8 4, .int .u64 (k : Int), .int .u64 (v : Int), .int .u64 (od : Int), .int .u64 (hk : Int), .bool r5, .int .i64 r6, .int .i64 r7, ks, .int .u64 (lo : Int), .int .u64 (hi : Int)], .agg #[.int .i64 0, .bool fo, .int .u64 (va : Int), .bool false, .int .u64 (th : Int), ps, .int .u64 (co : Int)]] W fun e W' => e = .returned (.tuple #[]) ∧ Chg (fun _ => False) W W' := by
  obtain ⟨w0, hw0⟩ : ∃ w0, w0 = (W.alloc (.cells #[.int .u8 4, .int .u64 (k : Int), .int .u64 (v : Int), .int .u64 (od : Int), .int .u64 (hk : Int), .bool r5, .int .i64 r6, .int .i64 r7, ks, .int .u64 (lo : Int), .int .u64 (hi : Int)] 66)).alloc (.cells #[.int .i64 0, .bool fo, .int .u64 (va : Int), .bool false, .int .u64 (th : Int), ps, .int .u64 (co : Int)] 59) := ⟨_, rfl⟩
  have C0 : Chg (fun _ => False) W w0 := by rw [hw0]; exact ((Chg.refl _ _).alloc _).alloc _
  have o0 : w0.heap[W.heap.size]? = some (.cells #[.int .u8 4, .int .u64 (k : Int), .int .u64 (v : Int), .int .u64 (od : Int), .int .u64 (hk : Int), .bool r5, .int .i64 r6, .int .i64 r7, ks, .int .u64 (lo : Int), .int .u64 (hi : Int)] 66 (0, 0)) := by rw [hw0]; exact alloc_of (heap_alloc_new _ _) _
  have a0 : w0.heap[W.heap.size + 1]? = some (.cells #[.int .i64 0, .bool fo, .int .u64 (va : Int), .bool false, .int .u64 (th : Int), ps, .int .u64 (co : Int)] 59 (0, 0)) := by
    have e := heap_alloc_new (W.alloc (.cells #[.int .u8 4, .int .u64 (k : Int), .int .u64 (v : Int), .int .u64 (od : Int), .int .u64 (hk : Int), .bool r5, .int .i64 r6, .int .i64 r7, ks, .int .u64 (lo : Int), .int .u64 (hi : Int)] 66)) (.cells #[.int .i64 0, .bool fo, .int .u64 (va : Int), .bool false, .int .u64 (th : Int), ps, .int .u64 (co : Int)] 59)
    rw [World.size_alloc] at e
    rw [hw0]
    exact e
  have HM0 := keepH (H.quiet C0)
  have HBL := keepH H.blk
  have k0 : w0.cell? ⟨W.heap.size, 0, none⟩ = some (.int .u8 4) := cell_of o0 0
  have e0 : w0.cell? ⟨W.heap.size + 1, 0, none⟩ = some (.int .i64 0) := cell_of a0 0
  have e3 : w0.cell? ⟨W.heap.size + 1, 3, none⟩ = some (.bool false) := cell_of a0 3
  have e4 : w0.cell? ⟨W.heap.size + 1, 4, none⟩ = some (.int .u64 (th : Int)) := cell_of a0 4
  have HC0 := keepH C0
  clear H C0 o0 a0 HM0 HBL
  go_enter Try.func58, Try.ntmps58
  go_upto_region 1 with fail
  rw [← hw0]
  clear hw0
  go_wp2_with fail
  (try (go_quiet (fail); go_wp2_with fail))
  go_end0
  exact ⟨rfl, HC0.out⟩
set_option maxRecDepth 100000 in
set_option maxHeartbeats 4000000 in
theorem do_snap0 {k v od hk lo hi va co : Nat} {r5 fo : Bool} {r6 r7 : Int} {ks ps : Value} {dn : Bool} {W : World} {m nw hd mu : Nat} {f h : Nat → Option Nat} {g : Nat → Nat → Option Nat} {n : Nat} (H : MoAt W m nw hd mu f h g n)  :
    Calls Try.prog 58 #[.pointer (some ⟨m, 0, none⟩), .agg #[.int .u8 5, .int .u64 (k : Int), .int .u64 (v : Int), .int .u64 (od : Int), .int .u64 (hk : Int), .bool r5, .int .i64 r6, .int .i64 r7, ks, .int .u64 (lo : Int), .int .u64 (hi : Int)], .agg #[.int .i64 0, .bool fo, .int .u64 (va : Int), .bool dn, .int .u64 0, ps, .int .u64 (co : Int)]] W fun e W' => e = .returned (.tuple #[]) ∧ Chg (fun _ => False) W W' := by
  obtain ⟨w0, hw0⟩ : ∃ w0, w0 = (W.alloc (.cells #[.int .u8 5, .int .u64 (k : Int), .int .u64 (v : Int), .int .u64 (od : Int), .int .u64 (hk : Int), .bool r5, .int .i64 r6, .int .i64 r7, ks, .int .u64 (lo : Int), .int .u64 (hi : Int)] 66)).alloc (.cells #[.int .i64 0, .bool fo, .int .u64 (va : Int), .bool dn, .int .u64 0, ps, .int .u64 (co : Int)] 59) := ⟨_, rfl⟩
  have C0 : Chg (fun _ => False) W w0 := by rw [hw0]; exact ((Chg.refl _ _).alloc _).alloc _
  have o0 : w0.heap[W.heap.size]? = some (.cells #[.int .u8 5, .int .u64 (k : Int), .int .u64 (v : Int), .int .u64 (od : Int), .int .u64 (hk : Int), .bool r5, .int .i64 r6, .int .i64 r7, ks, .int .u64 (lo : Int), .int .u64 (hi : Int)] 66 (0, 0)) := by rw [hw0]; exact alloc_of (heap_alloc_new _ _) _
  have a0 : w0.heap[W.heap.size + 1]? = some (.cells #[.int .i64 0, .bool fo, .int .u64 (va : Int), .bool dn, .int .u64 0, ps, .int .u64 (co : Int)] 59 (0, 0)) := by
    have e := heap_alloc_new (W.alloc (.cells #[.int .u8 5, .int .u64 (k : Int), .int .u64 (v : Int), .int .u64 (od : Int), .int .u64 (hk : Int), .bool r5, .int .i64 r6, .int .i64 r7, ks, .int .u64 (lo : Int), .int .u64 (hi : Int)] 66)) (.cells #[.int .i64 0, .bool fo, .int .u64 (va : Int), .bool dn, .int .u64 0, ps, .int .u64 (co : Int)] 59)
    rw [World.size_alloc] at e
    rw [hw0]
    exact e
  have HM0 := keepH (H.quiet C0)
  have HBL := keepH H.blk
  have k0 : w0.cell? ⟨W.heap.size, 0, none⟩ = some (.int .u8 5) := cell_of o0 0
  have e0 : w0.cell? ⟨W.heap.size + 1, 0, none⟩ = some (.int .i64 0) := cell_of a0 0
  have e3 : w0.cell? ⟨W.heap.size + 1, 3, none⟩ = some (.bool dn) := cell_of a0 3
  have e4 : w0.cell? ⟨W.heap.size + 1, 4, none⟩ = some (.int .u64 0) := cell_of a0 4
  have HC0 := keepH C0
  clear H C0 o0 a0 HM0 HBL
  go_enter Try.func58, Try.ntmps58
  go_upto_region 1 with fail
  rw [← hw0]
  clear hw0
  go_wp2_with fail
  (try (go_quiet (fail); go_wp2_with fail))
  go_end0
  exact ⟨rfl, HC0.out⟩
set_option maxRecDepth 100000 in
set_option maxHeartbeats 4000000 in
theorem do_else {k v od hk lo hi va co : Nat} {r5 fo : Bool} {r6 r7 : Int} {ks ps : Value} {th : Nat} {dn : Bool} {kd : Int} {W : World} {m nw hd mu : Nat} {f h : Nat → Option Nat} {g : Nat → Nat → Option Nat} {n : Nat} (H : MoAt W m nw hd mu f h g n) (n2 : ¬ kd = 2) (n3 : ¬ kd = 3) (n4 : ¬ kd = 4) (n5 : ¬ kd = 5) (n6 : ¬ kd = 6) :
    Calls Try.prog 58 #[.pointer (some ⟨m, 0, none⟩), .agg #[.int .u8 kd, .int .u64 (k : Int), .int .u64 (v : Int), .int .u64 (od : Int), .int .u64 (hk : Int), .bool r5, .int .i64 r6, .int .i64 r7, ks, .int .u64 (lo : Int), .int .u64 (hi : Int)], .agg #[.int .i64 0, .bool fo, .int .u64 (va : Int), .bool dn, .int .u64 (th : Int), ps, .int .u64 (co : Int)]] W fun e W' => e = .returned (.tuple #[]) ∧ Chg (fun _ => False) W W' := by
  obtain ⟨w0, hw0⟩ : ∃ w0, w0 = (W.alloc (.cells #[.int .u8 kd, .int .u64 (k : Int), .int .u64 (v : Int), .int .u64 (od : Int), .int .u64 (hk : Int), .bool r5, .int .i64 r6, .int .i64 r7, ks, .int .u64 (lo : Int), .int .u64 (hi : Int)] 66)).alloc (.cells #[.int .i64 0, .bool fo, .int .u64 (va : Int), .bool dn, .int .u64 (th : Int), ps, .int .u64 (co : Int)] 59) := ⟨_, rfl⟩
  have C0 : Chg (fun _ => False) W w0 := by rw [hw0]; exact ((Chg.refl _ _).alloc _).alloc _
  have o0 : w0.heap[W.heap.size]? = some (.cells #[.int .u8 kd, .int .u64 (k : Int), .int .u64 (v : Int), .int .u64 (od : Int), .int .u64 (hk : Int), .bool r5, .int .i64 r6, .int .i64 r7, ks, .int .u64 (lo : Int), .int .u64 (hi : Int)] 66 (0, 0)) := by rw [hw0]; exact alloc_of (heap_alloc_new _ _) _
  have a0 : w0.heap[W.heap.size + 1]? = some (.cells #[.int .i64 0, .bool fo, .int .u64 (va : Int), .bool dn, .int .u64 (th : Int), ps, .int .u64 (co : Int)] 59 (0, 0)) := by
    have e := heap_alloc_new (W.alloc (.cells #[.int .u8 kd, .int .u64 (k : Int), .int .u64 (v : Int), .int .u64 (od : Int), .int .u64 (hk : Int), .bool r5, .int .i64 r6, .int .i64 r7, ks, .int .u64 (lo : Int), .int .u64 (hi : Int)] 66)) (.cells #[.int .i64 0, .bool fo, .int .u64 (va : Int), .bool dn, .int .u64 (th : Int), ps, .int .u64 (co : Int)] 59)
    rw [World.size_alloc] at e
    rw [hw0]
    exact e
  have HM0 := keepH (H.quiet C0)
  have HBL := keepH H.blk
  have k0 : w0.cell? ⟨W.heap.size, 0, none⟩ = some (.int .u8 kd) := cell_of o0 0
  have e0 : w0.cell? ⟨W.heap.size + 1, 0, none⟩ = some (.int .i64 0) := cell_of a0 0
  have e3 : w0.cell? ⟨W.heap.size + 1, 3, none⟩ = some (.bool dn) := cell_of a0 3
  have e4 : w0.cell? ⟨W.heap.size + 1, 4, none⟩ = some (.int .u64 (th : Int)) := cell_of a0 4
  have z2 : (kd == 2) = false := by simpa using n2
  have z3 : (kd == 3) = false := by simpa using n3
  have z4 : (kd == 4) = false := by simpa using n4
  have z5 : (kd == 5) = false := by simpa using n5
  have z6 : (kd == 6) = false := by simpa using n6
  have HC0 := keepH C0
  clear H C0 o0 a0 HM0 HBL
  go_enter Try.func58, Try.ntmps58
  go_upto_region 1 with fail
  rw [← hw0]
  clear hw0
  go_wp2_with fail
  (try (go_quiet (fail); go_wp2_with fail))
  go_end0
  exact ⟨rfl, HC0.out⟩
set_option maxRecDepth 100000 in
set_option maxHeartbeats 4000000 in
theorem do_putG {k v od hk lo hi va co : Nat} {r5 fo : Bool} {r6 r7 : Int} {ks ps : Value} {th : Nat} {dn : Bool} {W : World} {m nw hd mu : Nat} {f h : Nat → Option Nat} {g : Nat → Nat → Option Nat} {n : Nat} (H : MoAt W m nw hd mu f h g n) (hn : n < maxLen) (hk64 : k < 18446744073709551616) (hv64 : v < 18446744073709551616) :
    Calls Try.prog 58 #[.pointer (some ⟨m, 0, none⟩), .agg #[.int .u8 2, .int .u64 (k : Int), .int .u64 (v : Int), .int .u64 (od : Int), .int .u64 (hk : Int), .bool r5, .int .i64 r6, .int .i64 r7, ks, .int .u64 (lo : Int), .int .u64 (hi : Int)], .agg #[.int .i64 0, .bool fo, .int .u64 (va : Int), .bool dn, .int .u64 (th : Int), ps, .int .u64 (co : Int)]] W fun e W' => e = .returned (.tuple #[]) ∧ MoAt W' m nw hd mu (updO f k (some v)) h g (n + 1) ∧ Chg (fun i => i = nw) W W' := by
  obtain ⟨w0, hw0⟩ : ∃ w0, w0 = (W.alloc (.cells #[.int .u8 2, .int .u64 (k : Int), .int .u64 (v : Int), .int .u64 (od : Int), .int .u64 (hk : Int), .bool r5, .int .i64 r6, .int .i64 r7, ks, .int .u64 (lo : Int), .int .u64 (hi : Int)] 66)).alloc (.cells #[.int .i64 0, .bool fo, .int .u64 (va : Int), .bool dn, .int .u64 (th : Int), ps, .int .u64 (co : Int)] 59) := ⟨_, rfl⟩
  have C0 : Chg (fun _ => False) W w0 := by rw [hw0]; exact ((Chg.refl _ _).alloc _).alloc _
  have o0 : w0.heap[W.heap.size]? = some (.cells #[.int .u8 2, .int .u64 (k : Int), .int .u64 (v : Int), .int .u64 (od : Int), .int .u64 (hk : Int), .bool r5, .int .i64 r6, .int .i64 r7, ks, .int .u64 (lo : Int), .int .u64 (hi : Int)] 66 (0, 0)) := by rw [hw0]; exact alloc_of (heap_alloc_new _ _) _
  have a0 : w0.heap[W.heap.size + 1]? = some (.cells #[.int .i64 0, .bool fo, .int .u64 (va : Int), .bool dn, .int .u64 (th : Int), ps, .int .u64 (co : Int)] 59 (0, 0)) := by
    have e := heap_alloc_new (W.alloc (.cells #[.int .u8 2, .int .u64 (k : Int), .int .u64 (v : Int), .int .u64 (od : Int), .int .u64 (hk : Int), .bool r5, .int .i64 r6, .int .i64 r7, ks, .int .u64 (lo : Int), .int .u64 (hi : Int)] 66)) (.cells #[.int .i64 0, .bool fo, .int .u64 (va : Int), .bool dn, .int .u64 (th : Int), ps, .int .u64 (co : Int)] 59)
    rw [World.size_alloc] at e
    rw [hw0]
    exact e
  have HM0 := keepH (H.quiet C0)
  have HBL := keepH H.blk
  have k0 : w0.cell? ⟨W.heap.size, 0, none⟩ = some (.int .u8 2) := cell_of o0 0
  have e0 : w0.cell? ⟨W.heap.size + 1, 0, none⟩ = some (.int .i64 0) := cell_of a0 0
  have e3 : w0.cell? ⟨W.heap.size + 1, 3, none⟩ = some (.bool dn) := cell_of a0 3
  have e4 : w0.cell? ⟨W.heap.size + 1, 4, none⟩ = some (.int .u64 (th : Int)) := cell_of a0 4
  have HS0 : Hid (w0.cell? ⟨m, 1, none⟩ = some (.map (some nw)) ∧ w0.cell? ⟨W.heap.size, 1, none⟩ = some (.int .u64 (k : Int)) ∧ w0.cell? ⟨W.heap.size, 2, none⟩ = some (.int .u64 (v : Int))) := ⟨cell_of HM0.out.md 1, cell_of o0 1, cell_of o0 2⟩
  obtain ⟨w1, hu, N1, K1⟩ := MapAt.put (W := w0.drew) (MapR.chg (F := fun _ => False) HM0.out.now (Chg.refl _ _).drew (fun x => x)) hn hk64 hv64
  have C0d := C0.drew
  have HC1 : Hid (Chg (fun i => i = nw) W w1) := C0d.trans K1 (fun _ _ x => x.elim) (fun _ _ x => x)
  have HM1 : Hid (MoAt w1 m nw hd mu (updO f k (some v)) h g (n + 1)) := (H.quiet C0d).put (Nat.le_succ n) N1 K1
  have o1 : w1.heap[W.heap.size]? = some (.cells #[.int .u8 2, .int .u64 (k : Int), .int .u64 (v : Int), .int .u64 (od : Int), .int .u64 (hk : Int), .bool r5, .int .i64 r6, .int .i64 r7, ks, .int .u64 (lo : Int), .int .u64 (hi : Int)] 66 (0, 0)) := (K1.block W.heap.size (lt_of o0) (by have := HBL.out.2.1; omega)).trans o0
  have hS6 : w1.cell? ⟨m, 1, none⟩ = some (.map (some nw)) ∧ w1.cell? ⟨W.heap.size, 1, none⟩ = some (.int .u64 (k : Int)) ∧ w1.cell? ⟨W.heap.size, 2, none⟩ = some (.int .u64 (v : Int)) := ⟨cell_of HM1.out.md 1, cell_of o1 1, cell_of o1 2⟩
  clear H C0 C0d o0 a0 HM0 HBL N1 K1 o1
  go_enter Try.func58, Try.ntmps58
  go_upto_region 1 with fail
  rw [← hw0]
  clear hw0
  go_upto_region 9 with fail
  go_region_held3 (fun w' => w'.cell? ⟨m, 1, none⟩ = some (.map (some nw)) ∧ w'.cell? ⟨W.heap.size, 1, none⟩ = some (.int .u64 (k : Int)) ∧ w'.cell? ⟨W.heap.size, 2, none⟩ = some (.int .u64 (v : Int))) (first | exact HS0.out | exact hS6) (fail)
  all_goals (
    (try go_wp2_with fail)
    go_end0
    exact ⟨rfl, HM1.out, HC1.out⟩)
set_option maxRecDepth 100000 in
set_option maxHeartbeats 4000000 in
theorem do_swapT {k v od hk lo hi va co : Nat} {r5 fo : Bool} {r6 r7 : Int} {ks ps : Value} {th : Nat} {W : World} {m nw hd mu : Nat} {f h : Nat → Option Nat} {g : Nat → Nat → Option Nat} {n : Nat} (H : MoAt W m nw hd mu f h g n) (hn : n < maxLen) (hk64 : k < 18446744073709551616) (hv64 : v < 18446744073709551616) :
    Calls Try.prog 58 #[.pointer (some ⟨m, 0, none⟩), .agg #[.int .u8 4, .int .u64 (k : Int), .int .u64 (v : Int), .int .u64 (od : Int), .int .u64 (hk : Int), .bool r5, .int .i64 r6, .int .i64 r7, ks, .int .u64 (lo : Int), .int .u64 (hi : Int)], .agg #[.int .i64 0, .bool fo, .int .u64 (va : Int), .bool true, .int .u64 (th : Int), ps, .int .u64 (co : Int)]] W fun e W' => e = .returned (.tuple #[]) ∧ MoAt W' m nw hd mu (updO f k (some v)) h g (n + 1) ∧ Chg (fun i => i = nw) W W' := by
  obtain ⟨w0, hw0⟩ : ∃ w0, w0 = (W.alloc (.cells #[.int .u8 4, .int .u64 (k : Int), .int .u64 (v : Int), .int .u64 (od : Int), .int .u64 (hk : Int), .bool r5, .int .i64 r6, .int .i64 r7, ks, .int .u64 (lo : Int), .int .u64 (hi : Int)] 66)).alloc (.cells #[.int .i64 0, .bool fo, .int .u64 (va : Int), .bool true, .int .u64 (th : Int), ps, .int .u64 (co : Int)] 59) := ⟨_, rfl⟩
  have C0 : Chg (fun _ => False) W w0 := by rw [hw0]; exact ((Chg.refl _ _).alloc _).alloc _
  have o0 : w0.heap[W.heap.size]? = some (.cells #[.int .u8 4, .int .u64 (k : Int), .int .u64 (v : Int), .int .u64 (od : Int), .int .u64 (hk : Int), .bool r5, .int .i64 r6, .int .i64 r7, ks, .int .u64 (lo : Int), .int .u64 (hi : Int)] 66 (0, 0)) := by rw [hw0]; exact alloc_of (heap_alloc_new _ _) _
  have a0 : w0.heap[W.heap.size + 1]? = some (.cells #[.int .i64 0, .bool fo, .int .u64 (va : Int), .bool true, .int .u64 (th : Int), ps, .int .u64 (co : Int)] 59 (0, 0)) := by
    have e := heap_alloc_new (W.alloc (.cells #[.int .u8 4, .int .u64 (k : Int), .int .u64 (v : Int), .int .u64 (od : Int), .int .u64 (hk : Int), .bool r5, .int .i64 r6, .int .i64 r7, ks, .int .u64 (lo : Int), .int .u64 (hi : Int)] 66)) (.cells #[.int .i64 0, .bool fo, .int .u64 (va : Int), .bool true, .int .u64 (th : Int), ps, .int .u64 (co : Int)] 59)
    rw [World.size_alloc] at e
    rw [hw0]
    exact e
  have HM0 := keepH (H.quiet C0)
  have HBL := keepH H.blk
  have k0 : w0.cell? ⟨W.heap.size, 0, none⟩ = some (.int .u8 4) := cell_of o0 0
  have e0 : w0.cell? ⟨W.heap.size + 1, 0, none⟩ = some (.int .i64 0) := cell_of a0 0
  have e3 : w0.cell? ⟨W.heap.size + 1, 3, none⟩ = some (.bool true) := cell_of a0 3
  have e4 : w0.cell? ⟨W.heap.size + 1, 4, none⟩ = some (.int .u64 (th : Int)) := cell_of a0 4
  have HS0 : Hid (w0.cell? ⟨m, 1, none⟩ = some (.map (some nw)) ∧ w0.cell? ⟨W.heap.size, 1, none⟩ = some (.int .u64 (k : Int)) ∧ w0.cell? ⟨W.heap.size, 2, none⟩ = some (.int .u64 (v : Int))) := ⟨cell_of HM0.out.md 1, cell_of o0 1, cell_of o0 2⟩
  obtain ⟨w1, hu, N1, K1⟩ := MapAt.put (W := w0.drew) (MapR.chg (F := fun _ => False) HM0.out.now (Chg.refl _ _).drew (fun x => x)) hn hk64 hv64
  have C0d := C0.drew
  have HC1 : Hid (Chg (fun i => i = nw) W w1) := C0d.trans K1 (fun _ _ x => x.elim) (fun _ _ x => x)
  have HM1 : Hid (MoAt w1 m nw hd mu (updO f k (some v)) h g (n + 1)) := (H.quiet C0d).put (Nat.le_succ n) N1 K1
  have o1 : w1.heap[W.heap.size]? = some (.cells #[.int .u8 4, .int .u64 (k : Int), .int .u64 (v : Int), .int .u64 (od : Int), .int .u64 (hk : Int), .bool r5, .int .i64 r6, .int .i64 r7, ks, .int .u64 (lo : Int), .int .u64 (hi : Int)] 66 (0, 0)) := (K1.block W.heap.size (lt_of o0) (by have := HBL.out.2.1; omega)).trans o0
  have hS6 : w1.cell? ⟨m, 1, none⟩ = some (.map (some nw)) ∧ w1.cell? ⟨W.heap.size, 1, none⟩ = some (.int .u64 (k : Int)) ∧ w1.cell? ⟨W.heap.size, 2, none⟩ = some (.int .u64 (v : Int)) := ⟨cell_of HM1.out.md 1, cell_of o1 1, cell_of o1 2⟩
  clear H C0 C0d o0 a0 HM0 HBL N1 K1 o1
  go_enter Try.func58, Try.ntmps58
  go_upto_region 1 with fail
  rw [← hw0]
  clear hw0
  go_upto_region 9 with fail
  go_region_held3 (fun w' => w'.cell? ⟨m, 1, none⟩ = some (.map (some nw)) ∧ w'.cell? ⟨W.heap.size, 1, none⟩ = some (.int .u64 (k : Int)) ∧ w'.cell? ⟨W.heap.size, 2, none⟩ = some (.int .u64 (v : Int))) (first | exact HS0.out | exact hS6) (fail)
  all_goals (
    (try go_wp2_with fail)
    go_end0
    exact ⟨rfl, HM1.out, HC1.out⟩)
set_option maxRecDepth 100000 in
set_option maxHeartbeats 4000000 in
theorem do_delG {k v od hk lo hi va co : Nat} {r5 fo : Bool} {r6 r7 : Int} {ks ps : Value} {th : Nat} {dn : Bool} {W : World} {m nw hd mu : Nat} {f h : Nat → Option Nat} {g : Nat → Nat → Option Nat} {n : Nat} (H : MoAt W m nw hd mu f h g n) (hk64 : k < 18446744073709551616) :
    Calls Try.prog 58 #[.pointer (some ⟨m, 0, none⟩), .agg #[.int .u8 3, .int .u64 (k : Int), .int .u64 (v : Int), .int .u64 (od : Int), .int .u64 (hk : Int), .bool r5, .int .i64 r6, .int .i64 r7, ks, .int .u64 (lo : Int), .int .u64 (hi : Int)], .agg #[.int .i64 0, .bool fo, .int .u64 (va : Int), .bool dn, .int .u64 (th : Int), ps, .int .u64 (co : Int)]] W fun e W' => e = .returned (.tuple #[]) ∧ MoAt W' m nw hd mu (updO f k none) h g n ∧ Chg (fun i => i = nw) W W' := by
  obtain ⟨w0, hw0⟩ : ∃ w0, w0 = (W.alloc (.cells #[.int .u8 3, .int .u64 (k : Int), .int .u64 (v : Int), .int .u64 (od : Int), .int .u64 (hk : Int), .bool r5, .int .i64 r6, .int .i64 r7, ks, .int .u64 (lo : Int), .int .u64 (hi : Int)] 66)).alloc (.cells #[.int .i64 0, .bool fo, .int .u64 (va : Int), .bool dn, .int .u64 (th : Int), ps, .int .u64 (co : Int)] 59) := ⟨_, rfl⟩
  have C0 : Chg (fun _ => False) W w0 := by rw [hw0]; exact ((Chg.refl _ _).alloc _).alloc _
  have o0 : w0.heap[W.heap.size]? = some (.cells #[.int .u8 3, .int .u64 (k : Int), .int .u64 (v : Int), .int .u64 (od : Int), .int .u64 (hk : Int), .bool r5, .int .i64 r6, .int .i64 r7, ks, .int .u64 (lo : Int), .int .u64 (hi : Int)] 66 (0, 0)) := by rw [hw0]; exact alloc_of (heap_alloc_new _ _) _
  have a0 : w0.heap[W.heap.size + 1]? = some (.cells #[.int .i64 0, .bool fo, .int .u64 (va : Int), .bool dn, .int .u64 (th : Int), ps, .int .u64 (co : Int)] 59 (0, 0)) := by
    have e := heap_alloc_new (W.alloc (.cells #[.int .u8 3, .int .u64 (k : Int), .int .u64 (v : Int), .int .u64 (od : Int), .int .u64 (hk : Int), .bool r5, .int .i64 r6, .int .i64 r7, ks, .int .u64 (lo : Int), .int .u64 (hi : Int)] 66)) (.cells #[.int .i64 0, .bool fo, .int .u64 (va : Int), .bool dn, .int .u64 (th : Int), ps, .int .u64 (co : Int)] 59)
    rw [World.size_alloc] at e
    rw [hw0]
    exact e
  have HM0 := keepH (H.quiet C0)
  have HBL := keepH H.blk
  have k0 : w0.cell? ⟨W.heap.size, 0, none⟩ = some (.int .u8 3) := cell_of o0 0
  have e0 : w0.cell? ⟨W.heap.size + 1, 0, none⟩ = some (.int .i64 0) := cell_of a0 0
  have e3 : w0.cell? ⟨W.heap.size + 1, 3, none⟩ = some (.bool dn) := cell_of a0 3
  have e4 : w0.cell? ⟨W.heap.size + 1, 4, none⟩ = some (.int .u64 (th : Int)) := cell_of a0 4
  have HS0 : Hid (w0.cell? ⟨m, 1, none⟩ = some (.map (some nw)) ∧ w0.cell? ⟨W.heap.size, 1, none⟩ = some (.int .u64 (k : Int))) := ⟨cell_of HM0.out.md 1, cell_of o0 1⟩
  obtain ⟨w1, hu, N1, K1⟩ := MapR.delR (W := w0.drew) (MapR.chg (F := fun _ => False) HM0.out.now (Chg.refl _ _).drew (fun x => x)) Try.underlying105 hk64 0
  have C0d := C0.drew
  have HC1 : Hid (Chg (fun i => i = nw) W w1) := C0d.trans K1 (fun _ _ x => x.elim) (fun _ _ x => x)
  have HM1 : Hid (MoAt w1 m nw hd mu (updO f k none) h g n) := (H.quiet C0d).put (Nat.le_refl n) N1 K1
  have o1 : w1.heap[W.heap.size]? = some (.cells #[.int .u8 3, .int .u64 (k : Int), .int .u64 (v : Int), .int .u64 (od : Int), .int .u64 (hk : Int), .bool r5, .int .i64 r6, .int .i64 r7, ks, .int .u64 (lo : Int), .int .u64 (hi : Int)] 66 (0, 0)) := (K1.block W.heap.size (lt_of o0) (by have := HBL.out.2.1; have := HBL.out.2.2.1; omega)).trans o0
  have hS6 : w1.cell? ⟨m, 1, none⟩ = some (.map (some nw)) ∧ w1.cell? ⟨W.heap.size, 1, none⟩ = some (.int .u64 (k : Int)) := ⟨cell_of HM1.out.md 1, cell_of o1 1⟩
  clear H C0 C0d o0 a0 HM0 HBL N1 K1 o1
  go_enter Try.func58, Try.ntmps58
  go_upto_region 1 with fail
  rw [← hw0]
  clear hw0
  go_upto_region 10 with fail
  go_region_held3 (fun w' => w'.cell? ⟨m, 1, none⟩ = some (.map (some nw)) ∧ w'.cell? ⟨W.heap.size, 1, none⟩ = some (.int .u64 (k : Int))) (first | exact HS0.out | exact hS6) (fail)
  all_goals (
    (try go_wp2_with fail)
    go_end0
    exact ⟨rfl, HM1.out, HC1.out⟩)
set_option maxRecDepth 100000 in
set_option maxHeartbeats 4000000 in
theorem do_relG {k v od hk lo hi va co : Nat} {r5 fo : Bool} {r6 r7 : Int} {ks ps : Value} {th : Nat} {dn : Bool} {W : World} {m nw hd mu : Nat} {f h : Nat → Option Nat} {g : Nat → Nat → Option Nat} {n : Nat} (H : MoAt W m nw hd mu f h g n) (hk64 : hk < 18446744073709551616) :
    Calls Try.prog 58 #[.pointer (some ⟨m, 0, none⟩), .agg #[.int .u8 6, .int .u64 (k : Int), .int .u64 (v : Int), .int .u64 (od : Int), .int .u64 (hk : Int), .bool r5, .int .i64 r6, .int .i64 r7, ks, .int .u64 (lo : Int), .int .u64 (hi : Int)], .agg #[.int .i64 0, .bool fo, .int .u64 (va : Int), .bool dn, .int .u64 (th : Int), ps, .int .u64 (co : Int)]] W fun e W' => e = .returned (.tuple #[]) ∧ MoAt W' m nw hd mu f (updO h hk none) g n ∧ Chg (fun i => i = hd) W W' := by
  obtain ⟨w0, hw0⟩ : ∃ w0, w0 = (W.alloc (.cells #[.int .u8 6, .int .u64 (k : Int), .int .u64 (v : Int), .int .u64 (od : Int), .int .u64 (hk : Int), .bool r5, .int .i64 r6, .int .i64 r7, ks, .int .u64 (lo : Int), .int .u64 (hi : Int)] 66)).alloc (.cells #[.int .i64 0, .bool fo, .int .u64 (va : Int), .bool dn, .int .u64 (th : Int), ps, .int .u64 (co : Int)] 59) := ⟨_, rfl⟩
  have C0 : Chg (fun _ => False) W w0 := by rw [hw0]; exact ((Chg.refl _ _).alloc _).alloc _
  have o0 : w0.heap[W.heap.size]? = some (.cells #[.int .u8 6, .int .u64 (k : Int), .int .u64 (v : Int), .int .u64 (od : Int), .int .u64 (hk : Int), .bool r5, .int .i64 r6, .int .i64 r7, ks, .int .u64 (lo : Int), .int .u64 (hi : Int)] 66 (0, 0)) := by rw [hw0]; exact alloc_of (heap_alloc_new _ _) _
  have a0 : w0.heap[W.heap.size + 1]? = some (.cells #[.int .i64 0, .bool fo, .int .u64 (va : Int), .bool dn, .int .u64 (th : Int), ps, .int .u64 (co : Int)] 59 (0, 0)) := by
    have e := heap_alloc_new (W.alloc (.cells #[.int .u8 6, .int .u64 (k : Int), .int .u64 (v : Int), .int .u64 (od : Int), .int .u64 (hk : Int), .bool r5, .int .i64 r6, .int .i64 r7, ks, .int .u64 (lo : Int), .int .u64 (hi : Int)] 66)) (.cells #[.int .i64 0, .bool fo, .int .u64 (va : Int), .bool dn, .int .u64 (th : Int), ps, .int .u64 (co : Int)] 59)
    rw [World.size_alloc] at e
    rw [hw0]
    exact e
  have HM0 := keepH (H.quiet C0)
  have HBL := keepH H.blk
  have k0 : w0.cell? ⟨W.heap.size, 0, none⟩ = some (.int .u8 6) := cell_of o0 0
  have e0 : w0.cell? ⟨W.heap.size + 1, 0, none⟩ = some (.int .i64 0) := cell_of a0 0
  have e3 : w0.cell? ⟨W.heap.size + 1, 3, none⟩ = some (.bool dn) := cell_of a0 3
  have e4 : w0.cell? ⟨W.heap.size + 1, 4, none⟩ = some (.int .u64 (th : Int)) := cell_of a0 4
  have HS0 : Hid (w0.cell? ⟨m, 2, none⟩ = some (.map (some hd)) ∧ w0.cell? ⟨W.heap.size, 4, none⟩ = some (.int .u64 (hk : Int))) := ⟨cell_of HM0.out.md 2, cell_of o0 4⟩
  obtain ⟨w1, hu, N1, K1⟩ := MapR.delR (W := w0.drew) (MapR.chg (F := fun _ => False) HM0.out.held (Chg.refl _ _).drew (fun x => x)) Try.underlying106 hk64 0
  have C0d := C0.drew
  have HC1 : Hid (Chg (fun i => i = hd) W w1) := C0d.trans K1 (fun _ _ x => x.elim) (fun _ _ x => x)
  have HM1 : Hid (MoAt w1 m nw hd mu f (updO h hk none) g n) := (H.quiet C0d).drop (Nat.le_refl n) N1 K1
  have o1 : w1.heap[W.heap.size]? = some (.cells #[.int .u8 6, .int .u64 (k : Int), .int .u64 (v : Int), .int .u64 (od : Int), .int .u64 (hk : Int), .bool r5, .int .i64 r6, .int .i64 r7, ks, .int .u64 (lo : Int), .int .u64 (hi : Int)] 66 (0, 0)) := (K1.block W.heap.size (lt_of o0) (by have := HBL.out.2.1; have := HBL.out.2.2.1; omega)).trans o0
  have hS6 : w1.cell? ⟨m, 2, none⟩ = some (.map (some hd)) ∧ w1.cell? ⟨W.heap.size, 4, none⟩ = some (.int .u64 (hk : Int)) := ⟨cell_of HM1.out.md 2, cell_of o1 4⟩
  clear H C0 C0d o0 a0 HM0 HBL N1 K1 o1
  go_enter Try.func58, Try.ntmps58
  go_upto_region 1 with fail
  rw [← hw0]
  clear hw0
  go_upto_region 13 with fail
  go_region_held3 (fun w' => w'.cell? ⟨m, 2, none⟩ = some (.map (some hd)) ∧ w'.cell? ⟨W.heap.size, 4, none⟩ = some (.int .u64 (hk : Int))) (first | exact HS0.out | exact hS6) (fail)
  all_goals (
    (try go_wp2_with fail)
    go_end0
    exact ⟨rfl, HM1.out, HC1.out⟩)
set_option maxRecDepth 100000 in
set_option maxHeartbeats 4000000 in
theorem do_snapG {k v od hk lo hi va co : Nat} {r5 fo : Bool} {r6 r7 : Int} {ks ps : Value} {th : Nat} {dn : Bool} {W : World} {m nw hd mu : Nat} {f h : Nat → Option Nat} {g : Nat → Nat → Option Nat} {n : Nat} (H : MoAt W m nw hd mu f h g n) (hn : n ≤ 8796093022000) (ht64 : th < 18446744073709551616) (ht0 : th ≠ 0) :
    Calls Try.prog 58 #[.pointer (some ⟨m, 0, none⟩), .agg #[.int .u8 5, .int .u64 (k : Int), .int .u64 (v : Int), .int .u64 (od : Int), .int .u64 (hk : Int), .bool r5, .int .i64 r6, .int .i64 r7, ks, .int .u64 (lo : Int), .int .u64 (hi : Int)], .agg #[.int .i64 0, .bool fo, .int .u64 (va : Int), .bool dn, .int .u64 (th : Int), ps, .int .u64 (co : Int)]] W fun e W' => e = .returned (.tuple #[]) ∧ ∃ cl, W.heap.size ≤ cl ∧ MoAt W' m nw hd mu f (updO h th (some cl)) (setG g cl f) (n + 1) ∧ Chg (fun i => i = hd) W W' := by
  obtain ⟨w0, hw0⟩ : ∃ w0, w0 = (W.alloc (.cells #[.int .u8 5, .int .u64 (k : Int), .int .u64 (v : Int), .int .u64 (od : Int), .int .u64 (hk : Int), .bool r5, .int .i64 r6, .int .i64 r7, ks, .int .u64 (lo : Int), .int .u64 (hi : Int)] 66)).alloc (.cells #[.int .i64 0, .bool fo, .int .u64 (va : Int), .bool dn, .int .u64 (th : Int), ps, .int .u64 (co : Int)] 59) := ⟨_, rfl⟩
  have C0 : Chg (fun _ => False) W w0 := by rw [hw0]; exact ((Chg.refl _ _).alloc _).alloc _
  have o0 : w0.heap[W.heap.size]? = some (.cells #[.int .u8 5, .int .u64 (k : Int), .int .u64 (v : Int), .int .u64 (od : Int), .int .u64 (hk : Int), .bool r5, .int .i64 r6, .int .i64 r7, ks, .int .u64 (lo : Int), .int .u64 (hi : Int)] 66 (0, 0)) := by rw [hw0]; exact alloc_of (heap_alloc_new _ _) _
  have a0 : w0.heap[W.heap.size + 1]? = some (.cells #[.int .i64 0, .bool fo, .int .u64 (va : Int), .bool dn, .int .u64 (th : Int), ps, .int .u64 (co : Int)] 59 (0, 0)) := by
    have e := heap_alloc_new (W.alloc (.cells #[.int .u8 5, .int .u64 (k : Int), .int .u64 (v : Int), .int .u64 (od : Int), .int .u64 (hk : Int), .bool r5, .int .i64 r6, .int .i64 r7, ks, .int .u64 (lo : Int), .int .u64 (hi : Int)] 66)) (.cells #[.int .i64 0, .bool fo, .int .u64 (va : Int), .bool dn, .int .u64 (th : Int), ps, .int .u64 (co : Int)] 59)
    rw [World.size_alloc] at e
    rw [hw0]
    exact e
  have HM0 := keepH (H.quiet C0)
  have HBL := keepH H.blk
  have k0 : w0.cell? ⟨W.heap.size, 0, none⟩ = some (.int .u8 5) := cell_of o0 0
  have e0 : w0.cell? ⟨W.heap.size + 1, 0, none⟩ = some (.int .i64 0) := cell_of a0 0
  have e3 : w0.cell? ⟨W.heap.size + 1, 3, none⟩ = some (.bool dn) := cell_of a0 3
  have e4 : w0.cell? ⟨W.heap.size + 1, 4, none⟩ = some (.int .u64 (th : Int)) := cell_of a0 4
  have q0 : ((th : Int) != 0) = true := by simp; omega
  have q1 : ¬ (th : Int) = 0 := by omega
  have HS0 : Hid (w0.cell? ⟨m, 2, none⟩ = some (.map (some hd)) ∧ w0.cell? ⟨W.heap.size + 1, 4, none⟩ = some (.int .u64 (th : Int)) ∧ w0.cell? ⟨m, 1, none⟩ = some (.map (some nw))) := ⟨cell_of HM0.out.md 2, cell_of a0 4, cell_of HM0.out.md 1⟩
  have HCL := keepH (c_pict (W := w0.drew) (MapR.chg (F := fun _ => False) HM0.out.now (Chg.refl (fun _ => False) w0).drew (fun x => x)) hn)
  have HSE : Hid (∀ z, MapAt z w0.heap.size n f → Chg (fun _ => False) w0.drew z → ∃ w2, (Instr.mapUpdate 106 (.map (some hd)) (.int .u64 (th : Int)) (.map (some w0.heap.size))).run Try.prog z = .ok () w2 ∧ (z.cell? ⟨m, 2, none⟩ = some (.map (some hd)) ∧ z.cell? ⟨W.heap.size + 1, 4, none⟩ = some (.int .u64 (th : Int)) ∧ z.cell? ⟨m, 1, none⟩ = some (.map (some nw))) ∧ (w2.cell? ⟨m, 2, none⟩ = some (.map (some hd)) ∧ w2.cell? ⟨W.heap.size + 1, 4, none⟩ = some (.int .u64 (th : Int)) ∧ w2.cell? ⟨m, 1, none⟩ = some (.map (some nw))) ∧ Hid (MoAt w2 m nw hd mu f (updO h th (some w0.heap.size)) (setG g w0.heap.size f) (n + 1) ∧ Chg (fun i => i = hd) W w2)) := by
    intro w1 L1 C1d
    have C1 : Chg (fun _ => False) w0 w1 := ((Chg.refl (fun _ => False) w0).drew).trans C1d (fun _ _ x => x) (fun _ _ x => x)
    have M1 := HM0.out.quiet C1
    have a1 : w1.heap[W.heap.size + 1]? = some (.cells #[.int .i64 0, .bool fo, .int .u64 (va : Int), .bool dn, .int .u64 (th : Int), ps, .int .u64 (co : Int)] 59 (0, 0)) := (C1.block _ (lt_of a0) (fun x => x)).trans a0
    obtain ⟨w2, hu, N2, K2⟩ := HeldAt.put M1.held (by unfold maxLen; omega) ht64 w0.heap.size
    have B0 := HM0.out.blk
    have M2 := M1.snap (Nat.le_succ n) N2 L1 ⟨by omega, by omega, by omega, fun k b hb => by have := B0.2.2.2 k b hb; omega⟩ K2
    have a2 : w2.heap[W.heap.size + 1]? = some (.cells #[.int .i64 0, .bool fo, .int .u64 (va : Int), .bool dn, .int .u64 (th : Int), ps, .int .u64 (co : Int)] 59 (0, 0)) := (K2.block _ (lt_of a1) (by have := HBL.out.2.2.1; omega)).trans a1
    exact ⟨w2, hu, ⟨cell_of M1.md 2, cell_of a1 4, cell_of M1.md 1⟩, ⟨cell_of M2.md 2, cell_of a2 4, cell_of M2.md 1⟩, M2, (C0.trans C1 (H := fun _ => False) (fun _ _ x => x) (fun _ _ x => x)).trans K2 (fun _ _ x => x.elim) (fun _ _ x => x)⟩
  have HZ : Hid (W.heap.size ≤ w0.heap.size) := C0.size
  clear H C0 o0 a0 HM0 HBL
  go_enter Try.func58, Try.ntmps58
  go_upto_region 1 with fail
  rw [← hw0]
  clear hw0
  go_upto_region 12 with fail
  go_region_held3 (fun w' => w'.cell? ⟨m, 2, none⟩ = some (.map (some hd)) ∧ w'.cell? ⟨W.heap.size + 1, 4, none⟩ = some (.int .u64 (th : Int)) ∧ w'.cell? ⟨m, 1, none⟩ = some (.map (some nw))) (first | exact HS0.out | exact hS5 | exact hS6)
    (first | (go_at_call 70; refine HCL.out.mono ?_; rintro e z ⟨rfl, L1, C1⟩; obtain ⟨w2, hu, hS5, hS6, HE⟩ := HSE.out z L1 C1; clear L1 C1))
  all_goals (
    (try go_wp2_with fail)
    go_end0
    exact ⟨rfl, w0.heap.size, HZ.out, HE.out.1, HE.out.2⟩)
end Go.Proofs.Ytnhfpnhmdfgckaa
