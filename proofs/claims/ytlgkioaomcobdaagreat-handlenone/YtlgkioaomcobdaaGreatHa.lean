/- Whether a handle holds: what Open and Close have inside them. -/
import Derived.Test.YtlgkioaomcobdaaGreatAk
namespace Go.Proofs.YtlgkioaomcobdaaGreat
open Go.RowKit Go.Shelf
set_option linter.unusedVariables false

theorem uh_T (h slot gen : Nat) (hh : h < 18446744073709551616) (hE : unE h = 0) (hS : unS h = slot) (hG : unG h = gen) (W : World) : Calls Tryz.prog 45 #[.int .u64 (h : Int)] W fun e W' => e = .returned (.tuple #[.int .i64 (slot : Int), .int .u64 (gen : Int), .int .i64 0]) ∧ W' = W := by
  refine (unhandle_any h W (by omega) (by omega)).mono ?_
  rintro e W' ⟨rfl, rfl⟩
  exact ⟨by rw [hE, hS, hG], rfl⟩
theorem unE_33 {h : Int} (hE : unE h ≠ 0) : unE h = 33 ∧ unS h = 0 ∧ unG h = 0 := by
  unfold unE unS unG at *
  repeat' split at *
  all_goals simp_all
theorem un_bd (h : Nat) (hh : h < 18446744073709551616) (hE : unE h = 0) : 0 ≤ unS h ∧ unS h < 256 ∧ 0 ≤ unG h ∧ unG h < 1048576 := by
  unfold unE at hE
  unfold unS unG
  repeat' split at *
  all_goals omega
theorem uh_F (h : Nat) (hh : h < 18446744073709551616) (hE : unE h ≠ 0) (W : World) : Calls Tryz.prog 45 #[.int .u64 (h : Int)] W fun e W' => e = .returned (.tuple #[.int .i64 0, .int .u64 0, .int .i64 33]) ∧ W' = W := by
  refine (unhandle_any h W (by omega) (by omega)).mono ?_
  rintro e W' ⟨rfl, rfl⟩
  obtain ⟨e1, e2, e3⟩ := unE_33 hE
  exact ⟨by rw [e1, e2, e3], rfl⟩
set_option maxRecDepth 100000 in
theorem na_T (cam fst mst h slot gen : Nat) (cnt miss : Int) (hh : h < 18446744073709551616) (hE : unE h = 0) (hS : unS h = slot) (hG : unG h = gen) (hs : slot < 256) (hc : (slot : Int) < cnt) (W : World) :
    Calls Tryz.prog 29 #[.agg #[.int .u64 (cam : Int), .int .u64 (fst : Int), .int .i64 cnt, .int .u64 (mst : Int)], .int .u64 (h : Int), .int .i64 miss] W fun e W' => e = .returned (.agg #[.bool true, .int .u64 (sumN fst slot : Int), .int .u64 (gen : Int), .int .i64 miss, .bool false, .int .u64 0, .int .i64 0]) ∧ Chg (fun _ => False) W W' := by
  have w1 := wrap_u slot (by omega)
  have w2 := wrap_sum fst slot
  have t1 : ¬ cnt ≤ (slot : Int) := by omega
  have HU := keepH (fun W => uh_T h slot gen hh hE hS hG W)
  clear hE hS hG hc
  go_enter Tryz.func29, Tryz.ntmps29
  go_wp2_with fail
  refine (HU.out _).mono ?_
  rintro e w ⟨rfl, rfl⟩
  go_wp2_with fail
  exact bodyPost_ret (v := .agg #[.bool true, .int .u64 (sumN fst slot : Int), .int .u64 (gen : Int), .int .i64 miss, .bool false, .int .u64 0, .int .i64 0]) (by simp [results, Tryz.results29, go_sem]) rfl ⟨rfl, ((Chg.refl _ _).alloc _).alloc _⟩
set_option maxRecDepth 100000 in
theorem na_G (cam fst mst h slot gen : Nat) (cnt miss : Int) (hh : h < 18446744073709551616) (hE : unE h = 0) (hS : unS h = slot) (hG : unG h = gen) (hs : slot < 256) (hc : cnt ≤ (slot : Int)) (W : World) :
    Calls Tryz.prog 29 #[.agg #[.int .u64 (cam : Int), .int .u64 (fst : Int), .int .i64 cnt, .int .u64 (mst : Int)], .int .u64 (h : Int), .int .i64 miss] W fun e W' => e = .returned (.agg #[.bool false, .int .u64 0, .int .u64 0, .int .i64 miss, .bool false, .int .u64 0, .int .i64 0]) ∧ Chg (fun _ => False) W W' := by
  have HU := keepH (fun W => uh_T h slot gen hh hE hS hG W)
  clear hE hS hG
  go_enter Tryz.func29, Tryz.ntmps29
  go_wp2_with fail
  refine (HU.out _).mono ?_
  rintro e w ⟨rfl, rfl⟩
  go_wp2_with fail
  exact bodyPost_ret (v := .agg #[.bool false, .int .u64 0, .int .u64 0, .int .i64 miss, .bool false, .int .u64 0, .int .i64 0]) (by simp [results, Tryz.results29, go_sem]) rfl ⟨rfl, ((Chg.refl _ _).alloc _).alloc _⟩
set_option maxRecDepth 100000 in
theorem na_F (cam fst mst h : Nat) (cnt miss : Int) (hh : h < 18446744073709551616) (hE : unE h ≠ 0) (W : World) :
    Calls Tryz.prog 29 #[.agg #[.int .u64 (cam : Int), .int .u64 (fst : Int), .int .i64 cnt, .int .u64 (mst : Int)], .int .u64 (h : Int), .int .i64 miss] W fun e W' => e = .returned (.agg #[.bool false, .int .u64 0, .int .u64 0, .int .i64 miss, .bool false, .int .u64 0, .int .i64 0]) ∧ Chg (fun _ => False) W W' := by
  have HU := keepH (fun W => uh_F h hh hE W)
  clear hE
  go_enter Tryz.func29, Tryz.ntmps29
  go_wp2_with fail
  refine (HU.out _).mono ?_
  rintro e w ⟨rfl, rfl⟩
  go_wp2_with fail
  exact bodyPost_ret (v := .agg #[.bool false, .int .u64 0, .int .u64 0, .int .i64 miss, .bool false, .int .u64 0, .int .i64 0]) (by simp [results, Tryz.results29, go_sem]) rfl ⟨rfl, ((Chg.refl _ _).alloc _).alloc _⟩
/-- What an asker knows of a handle. -/
theorem na_any (cam fst mst h : Nat) (cnt : Int) (hh : h < 18446744073709551616) : ∃ (kn : Bool) (a g : Nat), kn = decide (unE h = 0 ∧ unS h < cnt) ∧ a < 18446744073709551616 ∧ g < 18446744073709551616 ∧ ∀ (miss : Int) (W : World),
    Calls Tryz.prog 29 #[.agg #[.int .u64 (cam : Int), .int .u64 (fst : Int), .int .i64 cnt, .int .u64 (mst : Int)], .int .u64 (h : Int), .int .i64 miss] W fun e W' => e = .returned (.agg #[.bool kn, .int .u64 (a : Int), .int .u64 (g : Int), .int .i64 miss, .bool false, .int .u64 0, .int .i64 0]) ∧ Chg (fun _ => False) W W' := by
  by_cases hE : unE h = 0
  · obtain ⟨b1, b2, b3, b4⟩ := un_bd h hh hE
    by_cases hc : unS h < cnt
    · exact ⟨true, sumN fst (unS h).toNat, (unG h).toNat, by simp [hE, hc], sumN_lt _ _, by omega, fun miss W => na_T cam fst mst h (unS h).toNat (unG h).toNat cnt miss hh hE (by omega) (by omega) (by omega) (by omega) W⟩
    · exact ⟨false, 0, 0, by simp [hc], by omega, by omega, fun miss W => na_G cam fst mst h (unS h).toNat (unG h).toNat cnt miss hh hE (by omega) (by omega) (by omega) (by omega) W⟩
  · exact ⟨false, 0, 0, by simp [hE], by omega, by omega, fun miss W => na_F cam fst mst h cnt miss hh hE W⟩

def askL (kn : Bool) (cell gen : Nat) (miss : Int) (dn : Bool) (st : Nat) (err : Int) (rest : List Value) : List Value := .bool kn :: .int .u64 (cell : Int) :: .int .u64 (gen : Int) :: .int .i64 miss :: .bool dn :: .int .u64 (st : Int) :: .int .i64 err :: rest

set_option maxRecDepth 100000 in
theorem op_new (cam fst mst h a g : Nat) (cnt : Int) (kn : Bool) (hA : ∀ W, Calls Tryz.prog 29 #[.agg #[.int .u64 (cam : Int), .int .u64 (fst : Int), .int .i64 cnt, .int .u64 (mst : Int)], .int .u64 (h : Int), .int .i64 33] W fun e W' => e = .returned (.agg #[.bool kn, .int .u64 (a : Int), .int .u64 (g : Int), .int .i64 33, .bool false, .int .u64 0, .int .i64 0]) ∧ Chg (fun _ => False) W W') (W : World) :
    Calls Tryz.prog 14 #[.agg #[.int .u64 (cam : Int), .int .u64 (fst : Int), .int .i64 cnt, .int .u64 (mst : Int)], .int .u64 (h : Int)] W fun e W' => ∃ p, e = .returned (.pointer (some ⟨p, 0, none⟩)) ∧ Blk W' p 69 (askL kn a g 33 false 0 0 []) ∧ Chg (fun _ => False) W W' ∧ W.heap.size ≤ p := by
  have HA := keepH hA
  clear hA
  go_enter Tryz.func14, Tryz.ntmps14
  go_wp2_with fail
  refine (HA.out _).mono ?_
  rintro e w1 ⟨rfl, C1⟩
  have HC : Hid (Chg (fun _ => False) W w1) := ((Chg.refl _ W).alloc (.cells #[.int .u64 (cam : Int), .int .u64 (fst : Int), .int .i64 cnt, .int .u64 (mst : Int)] 24)).f C1
  clear C1
  go_wp2_with fail
  go_ret
  exact ⟨w1.heap.size, by simp, heap_alloc_new _ (.cells #[.bool kn, .int .u64 (a : Int), .int .u64 (g : Int), .int .i64 33, .bool false, .int .u64 0, .int .i64 0] 69), HC.out.f ((Chg.refl _ _).alloc _), HC.out.size⟩

set_option maxRecDepth 100000 in
theorem cl_new (cam fst mst h a g : Nat) (cnt : Int) (kn : Bool) (stamp : Nat) (hA : ∀ W, Calls Tryz.prog 29 #[.agg #[.int .u64 (cam : Int), .int .u64 (fst : Int), .int .i64 cnt, .int .u64 (mst : Int)], .int .u64 (h : Int), .int .i64 34] W fun e W' => e = .returned (.agg #[.bool kn, .int .u64 (a : Int), .int .u64 (g : Int), .int .i64 34, .bool false, .int .u64 0, .int .i64 0]) ∧ Chg (fun _ => False) W W') (W : World) :
    Calls Tryz.prog 15 #[.agg #[.int .u64 (cam : Int), .int .u64 (fst : Int), .int .i64 cnt, .int .u64 (mst : Int)], .int .u64 (h : Int), .int .u64 (stamp : Int)] W fun e W' => ∃ p, e = .returned (.pointer (some ⟨p, 0, none⟩)) ∧ Blk W' p 71 (askL kn a g 34 false 0 0 [.int .u64 (stamp : Int)]) ∧ Chg (fun _ => False) W W' ∧ W.heap.size ≤ p := by
  have HA := keepH hA
  clear hA
  go_enter Tryz.func15, Tryz.ntmps15
  go_wp2_with fail
  refine (HA.out _).mono ?_
  rintro e w1 ⟨rfl, C1⟩
  have HC : Hid (Chg (fun _ => False) W w1) := ((Chg.refl _ W).alloc (.cells #[.int .u64 (cam : Int), .int .u64 (fst : Int), .int .i64 cnt, .int .u64 (mst : Int)] 24)).f C1
  clear C1
  go_wp2_with fail
  go_ret
  exact ⟨w1.heap.size, by simp, heap_alloc_new _ (.cells #[.bool kn, .int .u64 (a : Int), .int .u64 (g : Int), .int .i64 34, .bool false, .int .u64 0, .int .i64 0, .int .u64 (stamp : Int)] 71), HC.out.f ((Chg.refl _ _).alloc _), HC.out.size⟩

set_option maxRecDepth 100000 in
theorem ask_F {W : World} {p cell gen st : Nat} {miss err : Int} {t : TypeId} {rest : List Value} (hp : Blk W p t (askL false cell gen miss false st err rest)) (V : Value) :
    Calls Tryz.prog 25 #[.pointer (some ⟨p, 0, none⟩), V] W fun e W' => e = .returned (.tuple #[]) ∧ Blk W' p t (askL false cell gen miss true st miss rest) ∧ Chg (fun k => k = p) W W' := by
  have c4 : W.cell? ⟨p, 4, none⟩ = some (.bool false) := hp.cell 4
  have f4 := hp.free 4
  have P1 := hp.set 4 (.bool true)
  obtain ⟨w1, hw1⟩ : ∃ w1, w1 = W.setCell ⟨p, 4, none⟩ (.bool true) := ⟨_, rfl⟩
  have C1 : Chg (fun k => k = p) W w1 := by rw [hw1]; exact setP _
  rw [← hw1] at P1
  have d3 : w1.cell? ⟨p, 3, none⟩ = some (.int .i64 miss) := P1.cell 3
  have d6 : w1.cell? ⟨p, 6, none⟩ = some (.int .i64 err) := P1.cell 6
  have f6 := P1.free 6
  have P2 := P1.set 6 (.int .i64 miss)
  obtain ⟨w2, hw2⟩ : ∃ w2, w2 = w1.setCell ⟨p, 6, none⟩ (.int .i64 miss) := ⟨_, rfl⟩
  have HC2 : Hid (Chg (fun k => k = p) W w2) := by rw [hw2]; exact C1.p (setP _)
  rw [← hw2] at P2
  have e0 : w2.cell? ⟨p, 0, none⟩ = some (.bool false) := P2.cell 0
  have HP2 := keepH P2
  clear hp P1 P2 C1
  go_enter Tryz.func25, Tryz.ntmps25
  go_upto_region 2 with fail
  rw [← hw1]
  clear hw1
  go_upto_region 3 with fail
  rw [← hw2]
  clear hw2 c4 f4 d3 d6 f6
  go_wp2_with fail
  exact bodyPost_ret (results_none rfl _ _ _) rfl ⟨rfl, HP2.out, HC2.out⟩

set_option maxRecDepth 100000 in
set_option maxHeartbeats 2000000 in
theorem ask_ok {W : World} {p cell gen st : Nat} {miss err : Int} {t : TypeId} {rest : List Value} (hp : Blk W p t (askL true cell gen miss false st err rest)) (V : Value) (x : Nat) (hx : x < 18446744073709551616) (hk : x % 4 = 3) (hg : x / 4 % 1048576 = gen) (R : World → Prop)
    (hL : ∀ w, Chg (fun k => k = p) W w → Blk w p t (askL true cell gen miss true st miss rest) → Calls Tryz.prog 40 #[V, .int .u64 (cell : Int)] w fun e w' => e = .returned (.int .u64 (x : Int)) ∧ R w' ∧ Blk w' p t (askL true cell gen miss true st miss rest)) :
    Calls Tryz.prog 25 #[.pointer (some ⟨p, 0, none⟩), V] W fun e W' => e = .returned (.tuple #[]) ∧ Blk W' p t (askL true cell gen miss true (x / 4194304) 0 rest) ∧ ∃ w1, R w1 ∧ Chg (fun k => k = p) w1 W' := by
  have HL := keepH hL
  clear hL
  have c4 : W.cell? ⟨p, 4, none⟩ = some (.bool false) := hp.cell 4
  have f4 := hp.free 4
  have P1 := hp.set 4 (.bool true)
  obtain ⟨w1, hw1⟩ : ∃ w1, w1 = W.setCell ⟨p, 4, none⟩ (.bool true) := ⟨_, rfl⟩
  have C1 : Chg (fun k => k = p) W w1 := by rw [hw1]; exact setP _
  rw [← hw1] at P1
  have d3 : w1.cell? ⟨p, 3, none⟩ = some (.int .i64 miss) := P1.cell 3
  have d6 : w1.cell? ⟨p, 6, none⟩ = some (.int .i64 err) := P1.cell 6
  have f6 := P1.free 6
  have P2 := P1.set 6 (.int .i64 miss)
  obtain ⟨w2, hw2⟩ : ∃ w2, w2 = w1.setCell ⟨p, 6, none⟩ (.int .i64 miss) := ⟨_, rfl⟩
  have HC2 : Hid (Chg (fun k => k = p) W w2) := by rw [hw2]; exact C1.p (setP _)
  rw [← hw2] at P2
  have e0 : w2.cell? ⟨p, 0, none⟩ = some (.bool true) := P2.cell 0
  have HP2 := keepH P2
  clear hp P1 P2 C1
  go_enter Tryz.func25, Tryz.ntmps25
  go_upto_region 2 with fail
  rw [← hw1]
  clear hw1
  go_upto_region 3 with fail
  rw [← hw2]
  clear hw2 c4 f4 d3 d6 f6
  have e1 : w2.cell? ⟨p, 1, none⟩ = some (.int .u64 (cell : Int)) := HP2.out.cell 1
  go_wp2_with fail
  refine (HL.out w2 HC2.out HP2.out).mono ?_
  rintro e w3 ⟨rfl, hR, P3⟩
  have HR := keepH hR
  have HP3 := keepH P3
  clear hR P3 HL HP2 HC2 e0 e1
  obtain ⟨kk, hkk⟩ : ∃ kk, kk = x % 4 := ⟨_, rfl⟩
  obtain ⟨gg, hgg⟩ : ∃ gg, gg = x / 4 % 1048576 := ⟨_, rfl⟩
  obtain ⟨ss, hss⟩ : ∃ ss, ss = x / 4194304 := ⟨_, rfl⟩
  go_wp2_with fail
  refine (w_unpack x kk gg ss hx hkk hgg hss _).mono ?_
  rintro e w5 ⟨rfl, C5⟩
  have HKG : Hid (kk = x % 4 ∧ gg = x / 4 % 1048576 ∧ ss = x / 4194304) := ⟨hkk, hgg, hss⟩
  have HP5 := keepH (HP3.out.chg C5 (fun x => x))
  have HC5 : Hid (Chg (fun k => k = p) w3 w5) := C5.mono (fun _ _ x => x.elim)
  clear hkk hgg hss C5 HP3
  have HZ : Hid (p < w5.heap.size) := lt_of HP5.out
  obtain ⟨w6, hw6⟩ : ∃ w6, w6 = w5.alloc (.cells #[.int .u8 (kk : Int), .int .u64 (gg : Int), .int .u64 (ss : Int)] 46) := ⟨_, rfl⟩
  have B6 : w6.heap[w5.heap.size]? = some (.cells #[.int .u8 (kk : Int), .int .u64 (gg : Int), .int .u64 (ss : Int)] 46 (0, 0)) := by rw [hw6]; exact heap_alloc_new _ _
  have C56 : Chg (fun _ => False) w5 w6 := by rw [hw6]; exact (Chg.refl _ _).alloc _
  go_upto_region 5 with fail
  rw [← hw6]
  clear hw6
  obtain ⟨sb, hsb⟩ : ∃ sb, sb = w5.heap.size := ⟨_, rfl⟩
  rw [← hsb] at B6 HZ ⊢
  clear hsb
  have HP6 := keepH (HP5.out.chg C56 (fun x => x))
  have HC6 := keepH (HC5.out.pf C56)
  have HB6 := keepH B6
  have b0 : w6.cell? ⟨sb, 0, none⟩ = some (.int .u8 (kk : Int)) := cell_of B6 0
  have b1 : w6.cell? ⟨sb, 1, none⟩ = some (.int .u64 (gg : Int)) := cell_of B6 1
  have b2 : w6.cell? ⟨sb, 2, none⟩ = some (.int .u64 (ss : Int)) := cell_of B6 2
  have d2 : w6.cell? ⟨p, 2, none⟩ = some (.int .u64 (gen : Int)) := HP6.out.cell 2
  have se : ((ss : Int) == (ss : Int)) = true := by simp
  clear B6 C56 HP5 HC5

  have k3 : ((kk : Int) == 3) = true := by have := HKG.out; simp; omega
  have g3 : ((gg : Int) == (gen : Int)) = true := by have := HKG.out; simp; omega
  clear hk hg
  go_quiet (fail)
  obtain ⟨w7, hw7⟩ : ∃ w7, w7 = w6.drewN nq := ⟨_, rfl⟩
  have C7 : Chg (fun _ => False) w6 w7 := by rw [hw7]; exact (Goes.drewN w6 (fun _ => False) nq).chg
  rw [← hw7]
  have HP7 := keepH (HP6.out.chg C7 (fun x => x))
  have HC7 := keepH (HC6.out.pf C7)
  have HB7 := keepH ((C7.block _ (lt_of HB6.out) (fun x => x)).trans HB6.out)
  clear hw7 C7 HP6 HC6 HB6 b0 b1 b2 d2
  have j2 : w7.cell? ⟨sb, 2, none⟩ = some (.int .u64 (ss : Int)) := cell_of HB7.out 2
  have i5 : w7.cell? ⟨p, 5, none⟩ = some (.int .u64 (st : Int)) := HP7.out.cell 5
  have v5 := HP7.out.free 5
  have P8 := HP7.out.set 5 (.int .u64 (ss : Int))
  have i6 : (w7.setCell ⟨p, 5, none⟩ (.int .u64 (ss : Int))).cell? ⟨p, 6, none⟩ = some (.int .i64 miss) := P8.cell 6
  have i6' : w7.cell? ⟨p, 6, none⟩ = some (.int .i64 miss) := HP7.out.cell 6
  have v6 := P8.free 6
  have HP9 := keepH (P8.set 6 (.int .i64 0))
  clear P8
  go_wp2_with fail
  go_end0
  refine ⟨rfl, ?_, w3, HR.out, HC7.out.p ((setP _).p (setP _))⟩
  rw [← HKG.out.2.2]
  exact HP9.out

set_option maxRecDepth 100000 in
set_option maxHeartbeats 2000000 in
theorem ask_no {W : World} {p cell gen st : Nat} {miss err : Int} {t : TypeId} {rest : List Value} (hp : Blk W p t (askL true cell gen miss false st err rest)) (V : Value) (x : Nat) (hx : x < 18446744073709551616) (hn : ¬ (x % 4 = 3 ∧ x / 4 % 1048576 = gen)) (R : World → Prop)
    (hL : ∀ w, Chg (fun k => k = p) W w → Blk w p t (askL true cell gen miss true st miss rest) → Calls Tryz.prog 40 #[V, .int .u64 (cell : Int)] w fun e w' => e = .returned (.int .u64 (x : Int)) ∧ R w' ∧ Blk w' p t (askL true cell gen miss true st miss rest)) :
    Calls Tryz.prog 25 #[.pointer (some ⟨p, 0, none⟩), V] W fun e W' => e = .returned (.tuple #[]) ∧ Blk W' p t (askL true cell gen miss true st miss rest) ∧ ∃ w1, R w1 ∧ Chg (fun k => k = p) w1 W' := by
  have HL := keepH hL
  clear hL
  have c4 : W.cell? ⟨p, 4, none⟩ = some (.bool false) := hp.cell 4
  have f4 := hp.free 4
  have P1 := hp.set 4 (.bool true)
  obtain ⟨w1, hw1⟩ : ∃ w1, w1 = W.setCell ⟨p, 4, none⟩ (.bool true) := ⟨_, rfl⟩
  have C1 : Chg (fun k => k = p) W w1 := by rw [hw1]; exact setP _
  rw [← hw1] at P1
  have d3 : w1.cell? ⟨p, 3, none⟩ = some (.int .i64 miss) := P1.cell 3
  have d6 : w1.cell? ⟨p, 6, none⟩ = some (.int .i64 err) := P1.cell 6
  have f6 := P1.free 6
  have P2 := P1.set 6 (.int .i64 miss)
  obtain ⟨w2, hw2⟩ : ∃ w2, w2 = w1.setCell ⟨p, 6, none⟩ (.int .i64 miss) := ⟨_, rfl⟩
  have HC2 : Hid (Chg (fun k => k = p) W w2) := by rw [hw2]; exact C1.p (setP _)
  rw [← hw2] at P2
  have e0 : w2.cell? ⟨p, 0, none⟩ = some (.bool true) := P2.cell 0
  have HP2 := keepH P2
  clear hp P1 P2 C1
  go_enter Tryz.func25, Tryz.ntmps25
  go_upto_region 2 with fail
  rw [← hw1]
  clear hw1
  go_upto_region 3 with fail
  rw [← hw2]
  clear hw2 c4 f4 d3 d6 f6
  have e1 : w2.cell? ⟨p, 1, none⟩ = some (.int .u64 (cell : Int)) := HP2.out.cell 1
  go_wp2_with fail
  refine (HL.out w2 HC2.out HP2.out).mono ?_
  rintro e w3 ⟨rfl, hR, P3⟩
  have HR := keepH hR
  have HP3 := keepH P3
  clear hR P3 HL HP2 HC2 e0 e1
  obtain ⟨kk, hkk⟩ : ∃ kk, kk = x % 4 := ⟨_, rfl⟩
  obtain ⟨gg, hgg⟩ : ∃ gg, gg = x / 4 % 1048576 := ⟨_, rfl⟩
  obtain ⟨ss, hss⟩ : ∃ ss, ss = x / 4194304 := ⟨_, rfl⟩
  go_wp2_with fail
  refine (w_unpack x kk gg ss hx hkk hgg hss _).mono ?_
  rintro e w5 ⟨rfl, C5⟩
  have HKG : Hid (kk = x % 4 ∧ gg = x / 4 % 1048576 ∧ ss = x / 4194304) := ⟨hkk, hgg, hss⟩
  have HP5 := keepH (HP3.out.chg C5 (fun x => x))
  have HC5 : Hid (Chg (fun k => k = p) w3 w5) := C5.mono (fun _ _ x => x.elim)
  clear hkk hgg hss C5 HP3
  have HZ : Hid (p < w5.heap.size) := lt_of HP5.out
  obtain ⟨w6, hw6⟩ : ∃ w6, w6 = w5.alloc (.cells #[.int .u8 (kk : Int), .int .u64 (gg : Int), .int .u64 (ss : Int)] 46) := ⟨_, rfl⟩
  have B6 : w6.heap[w5.heap.size]? = some (.cells #[.int .u8 (kk : Int), .int .u64 (gg : Int), .int .u64 (ss : Int)] 46 (0, 0)) := by rw [hw6]; exact heap_alloc_new _ _
  have C56 : Chg (fun _ => False) w5 w6 := by rw [hw6]; exact (Chg.refl _ _).alloc _
  go_upto_region 5 with fail
  rw [← hw6]
  clear hw6
  obtain ⟨sb, hsb⟩ : ∃ sb, sb = w5.heap.size := ⟨_, rfl⟩
  rw [← hsb] at B6 HZ ⊢
  clear hsb
  have HP6 := keepH (HP5.out.chg C56 (fun x => x))
  have HC6 := keepH (HC5.out.pf C56)
  have HB6 := keepH B6
  have b0 : w6.cell? ⟨sb, 0, none⟩ = some (.int .u8 (kk : Int)) := cell_of B6 0
  have b1 : w6.cell? ⟨sb, 1, none⟩ = some (.int .u64 (gg : Int)) := cell_of B6 1
  have b2 : w6.cell? ⟨sb, 2, none⟩ = some (.int .u64 (ss : Int)) := cell_of B6 2
  have d2 : w6.cell? ⟨p, 2, none⟩ = some (.int .u64 (gen : Int)) := HP6.out.cell 2
  have se : ((ss : Int) == (ss : Int)) = true := by simp
  clear B6 C56 HP5 HC5

  have HN := keepH hn
  clear hn
  by_cases hk : kk = 3
  · have k3 : ((kk : Int) == 3) = true := by simp; omega
    have g3 : ((gg : Int) == (gen : Int)) = false := beq_eq_false_iff_ne.2 (by have := HKG.out; have := HN.out; omega)
    clear hk
    go_quiet (fail)
    obtain ⟨w7, hw7⟩ : ∃ w7, w7 = w6.drewN nq := ⟨_, rfl⟩
    have C7 : Chg (fun _ => False) w6 w7 := by rw [hw7]; exact (Goes.drewN w6 (fun _ => False) nq).chg
    rw [← hw7]
    have HP7 := keepH (HP6.out.chg C7 (fun x => x))
    have HC7 := keepH (HC6.out.pf C7)
    have HB7 := keepH ((C7.block _ (lt_of HB6.out) (fun x => x)).trans HB6.out)
    clear hw7 C7 HP6 HC6 HB6 b0 b1 b2 d2
    go_wp2_with fail
    go_end0
    exact ⟨rfl, HP7.out, w3, HR.out, HC7.out⟩
  · have k3 : ((kk : Int) == 3) = false := beq_eq_false_iff_ne.2 (by omega)
    clear hk
    go_quiet (fail)
    obtain ⟨w7, hw7⟩ : ∃ w7, w7 = w6.drewN nq := ⟨_, rfl⟩
    have C7 : Chg (fun _ => False) w6 w7 := by rw [hw7]; exact (Goes.drewN w6 (fun _ => False) nq).chg
    rw [← hw7]
    have HP7 := keepH (HP6.out.chg C7 (fun x => x))
    have HC7 := keepH (HC6.out.pf C7)
    have HB7 := keepH ((C7.block _ (lt_of HB6.out) (fun x => x)).trans HB6.out)
    clear hw7 C7 HP6 HC6 HB6 b0 b1 b2 d2
    go_wp2_with fail
    go_end0
    exact ⟨rfl, HP7.out, w3, HR.out, HC7.out⟩

set_option maxRecDepth 100000 in
theorem op_step (p : Nat) (V : Value) (R : World → Prop) (W : World) (hA : Calls Tryz.prog 25 #[.pointer (some ⟨p, 0, none⟩), V] W fun e W' => e = .returned (.tuple #[]) ∧ R W') :
    Calls Tryz.prog 7 #[.pointer (some ⟨p, 0, none⟩), V] W fun e W' => e = .returned (.bool true) ∧ R W' := by
  have HA := keepH hA
  clear hA
  go_enter Tryz.func7, Tryz.ntmps7
  go_wp2_with fail
  refine HA.out.mono ?_
  rintro e w1 ⟨rfl, hR⟩
  have HR := keepH hR
  clear hR
  go_wp2_with fail
  go_ret
  exact ⟨by simp, HR.out⟩

set_option maxRecDepth 100000 in
theorem cl_stepS {p cell gen st op : Nat} {kn dn : Bool} {miss err : Int} (V : Value) (R : World → Prop) (hs : st = op) (W : World) (hA : Calls Tryz.prog 25 #[.pointer (some ⟨p, 0, none⟩), V] W fun e W' => e = .returned (.tuple #[]) ∧ Blk W' p 71 (askL kn cell gen miss dn st err [.int .u64 (op : Int)]) ∧ R W') :
    Calls Tryz.prog 8 #[.pointer (some ⟨p, 0, none⟩), V] W fun e W' => e = .returned (.bool true) ∧ Blk W' p 71 (askL kn cell gen miss dn st err [.int .u64 (op : Int)]) ∧ ∃ w1, R w1 ∧ Chg (fun k => k = p) w1 W' := by
  have n1 : ((st : Int) != (op : Int)) = false := by simp; omega
  have n2 : ((st : Int) == (op : Int)) = !false := by simp; omega
  have HA := keepH hA
  clear hA hs
  go_enter Tryz.func8, Tryz.ntmps8
  go_wp2_with fail
  refine HA.out.mono ?_
  rintro e w1 ⟨rfl, P1, hR⟩
  have HR := keepH hR
  have HP1 := keepH P1
  have d5 : w1.cell? ⟨p, 5, none⟩ = some (.int .u64 (st : Int)) := P1.cell 5
  have d7 : w1.cell? ⟨p, 7, none⟩ = some (.int .u64 (op : Int)) := P1.cell 7
  clear hR P1
  go_upto_region 4 with fail
  go_quiet (fail)
  obtain ⟨w2, hw2⟩ : ∃ w2, w2 = w1.drewN nq := ⟨_, rfl⟩
  have C2 : Chg (fun _ => False) w1 w2 := by rw [hw2]; exact (Goes.drewN w1 (fun _ => False) nq).chg
  rw [← hw2]
  have HP2 := keepH (HP1.out.chg C2 (fun x => x))
  have HC2 : Hid (Chg (fun k => k = p) w1 w2) := C2.mono (fun _ _ x => x.elim)
  clear hw2 C2 HP1 d5 d7
  go_wp2_with fail
  go_ret
  exact ⟨by simp, HP2.out, w1, HR.out, HC2.out⟩

set_option maxRecDepth 100000 in
theorem cl_stepN {p cell gen st op : Nat} {kn dn : Bool} {miss err : Int} (V : Value) (R : World → Prop) (hs : st ≠ op) (W : World) (hA : Calls Tryz.prog 25 #[.pointer (some ⟨p, 0, none⟩), V] W fun e W' => e = .returned (.tuple #[]) ∧ Blk W' p 71 (askL kn cell gen miss dn st err [.int .u64 (op : Int)]) ∧ R W') :
    Calls Tryz.prog 8 #[.pointer (some ⟨p, 0, none⟩), V] W fun e W' => e = .returned (.bool true) ∧ Blk W' p 71 (askL kn cell gen miss dn st miss [.int .u64 (op : Int)]) ∧ ∃ w1, R w1 ∧ Chg (fun k => k = p) w1 W' := by
  have n1 : ((st : Int) != (op : Int)) = true := by simp; omega
  have n2 : ((st : Int) == (op : Int)) = !true := by simp; omega
  have HA := keepH hA
  clear hA hs
  go_enter Tryz.func8, Tryz.ntmps8
  go_wp2_with fail
  refine HA.out.mono ?_
  rintro e w1 ⟨rfl, P1, hR⟩
  have HR := keepH hR
  have HP1 := keepH P1
  have d5 : w1.cell? ⟨p, 5, none⟩ = some (.int .u64 (st : Int)) := P1.cell 5
  have d7 : w1.cell? ⟨p, 7, none⟩ = some (.int .u64 (op : Int)) := P1.cell 7
  clear hR P1
  go_upto_region 4 with fail
  go_quiet (fail)
  obtain ⟨w2, hw2⟩ : ∃ w2, w2 = w1.drewN nq := ⟨_, rfl⟩
  have C2 : Chg (fun _ => False) w1 w2 := by rw [hw2]; exact (Goes.drewN w1 (fun _ => False) nq).chg
  rw [← hw2]
  have HP2 := keepH (HP1.out.chg C2 (fun x => x))
  have HC2 : Hid (Chg (fun k => k = p) w1 w2) := C2.mono (fun _ _ x => x.elim)
  clear hw2 C2 HP1 d5 d7
  have i3 : w2.cell? ⟨p, 3, none⟩ = some (.int .i64 miss) := HP2.out.cell 3
  have i6 : w2.cell? ⟨p, 6, none⟩ = some (.int .i64 err) := HP2.out.cell 6
  have v6 := HP2.out.free 6
  go_wp2_with fail
  go_ret
  exact ⟨by simp, HP2.out.set 6 _, w1, HR.out, HC2.out.p (setP _)⟩

set_option maxRecDepth 100000 in
theorem op_stamp {W : World} {p cell gen st : Nat} {kn dn : Bool} {miss err : Int} {rest : List Value} (hp : Blk W p 69 (askL kn cell gen miss dn st err rest)) : Calls Tryz.prog 9 #[.pointer (some ⟨p, 0, none⟩)] W fun e W' => e = .returned (.int .u64 (st : Int)) ∧ W' = W := by
  have c : W.cell? ⟨p, 5, none⟩ = some (.int .u64 (st : Int)) := hp.cell 5
  go_enter Tryz.func9, Tryz.ntmps9
  go_wp2_with fail
  go_ret
  exact ⟨by simp, rfl⟩

set_option maxRecDepth 100000 in
theorem op_errno {W : World} {p cell gen st : Nat} {kn dn : Bool} {miss err : Int} {rest : List Value} (hp : Blk W p 69 (askL kn cell gen miss dn st err rest)) : Calls Tryz.prog 10 #[.pointer (some ⟨p, 0, none⟩)] W fun e W' => e = .returned (.int .i64 err) ∧ W' = W := by
  have c : W.cell? ⟨p, 6, none⟩ = some (.int .i64 err) := hp.cell 6
  go_enter Tryz.func10, Tryz.ntmps10
  go_wp2_with fail
  go_ret
  exact ⟨by simp, rfl⟩

set_option maxRecDepth 100000 in
theorem cl_errno {W : World} {p cell gen st : Nat} {kn dn : Bool} {miss err : Int} {rest : List Value} (hp : Blk W p 71 (askL kn cell gen miss dn st err rest)) : Calls Tryz.prog 11 #[.pointer (some ⟨p, 0, none⟩)] W fun e W' => e = .returned (.int .i64 err) ∧ W' = W := by
  have c : W.cell? ⟨p, 6, none⟩ = some (.int .i64 err) := hp.cell 6
  go_enter Tryz.func11, Tryz.ntmps11
  go_wp2_with fail
  go_ret
  exact ⟨by simp, rfl⟩

set_option maxRecDepth 100000 in
theorem nil_opStep (V : Value) (W : World) : Calls Tryz.prog 7 #[.pointer none, V] W fun e W' => e = .returned (.bool true) ∧ W' = W := by
  go_enter Tryz.func7, Tryz.ntmps7
  go_wp2_with fail
  go_ret
  exact ⟨by simp, rfl⟩

set_option maxRecDepth 100000 in
theorem nil_clStep (V : Value) (W : World) : Calls Tryz.prog 8 #[.pointer none, V] W fun e W' => e = .returned (.bool true) ∧ W' = W := by
  go_enter Tryz.func8, Tryz.ntmps8
  go_wp2_with fail
  go_ret
  exact ⟨by simp, rfl⟩

set_option maxRecDepth 100000 in
theorem nil_opStamp (V : Value) (W : World) : Calls Tryz.prog 9 #[.pointer none] W fun e W' => e = .returned (.int .u64 0) ∧ W' = W := by
  go_enter Tryz.func9, Tryz.ntmps9
  go_wp2_with fail
  go_ret
  exact ⟨by simp, rfl⟩

set_option maxRecDepth 100000 in
theorem nil_opErrno (V : Value) (W : World) : Calls Tryz.prog 10 #[.pointer none] W fun e W' => e = .returned (.int .i64 1) ∧ W' = W := by
  go_enter Tryz.func10, Tryz.ntmps10
  go_wp2_with fail
  go_ret
  exact ⟨by simp, rfl⟩

set_option maxRecDepth 100000 in
theorem nil_clErrno (V : Value) (W : World) : Calls Tryz.prog 11 #[.pointer none] W fun e W' => e = .returned (.int .i64 1) ∧ W' = W := by
  go_enter Tryz.func11, Tryz.ntmps11
  go_wp2_with fail
  go_ret
  exact ⟨by simp, rfl⟩

end Go.Proofs.YtlgkioaomcobdaaGreat
