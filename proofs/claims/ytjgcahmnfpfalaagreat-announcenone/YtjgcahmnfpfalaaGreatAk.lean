/- What must be whatever is asked (layer 13); nil ones; a Release of no handle. -/
import Derived.Test.YtjgcahmnfpfalaaGreatAj
namespace Go.Proofs.YtjgcahmnfpfalaaGreat
open Go.RowKit Go.Shelf
set_option linter.unusedVariables false

set_option maxRecDepth 100000 in
theorem sn_handle {W : World} {p cam fst mst pos slot seen gen h st : Nat} {cnt err : Int} {nw tk : Value} (hp : Blk W p 67 (snL cam fst cnt mst pos slot seen gen nw tk h st err)) : Calls Tryz.prog 10 #[.pointer (some ⟨p, 0, none⟩)] W fun e W' => e = .returned (.int .u64 (h : Int)) ∧ W' = W := by
  have c : W.cell? ⟨p, 10, none⟩ = some (.int .u64 (h : Int)) := hp.cell 10
  go_enter Tryz.func10, Tryz.ntmps10
  go_wp2_with fail
  go_ret
  exact ⟨by simp, rfl⟩
set_option maxRecDepth 100000 in
theorem sn_stamp {W : World} {p cam fst mst pos slot seen gen h st : Nat} {cnt err : Int} {nw tk : Value} (hp : Blk W p 67 (snL cam fst cnt mst pos slot seen gen nw tk h st err)) : Calls Tryz.prog 11 #[.pointer (some ⟨p, 0, none⟩)] W fun e W' => e = .returned (.int .u64 (st : Int)) ∧ W' = W := by
  have c : W.cell? ⟨p, 11, none⟩ = some (.int .u64 (st : Int)) := hp.cell 11
  go_enter Tryz.func11, Tryz.ntmps11
  go_wp2_with fail
  go_ret
  exact ⟨by simp, rfl⟩
set_option maxRecDepth 100000 in
theorem nil_snHandle (W : World) : Calls Tryz.prog 10 #[.pointer none] W fun e W' => e = .returned (.int .u64 0) ∧ W' = W := by
  go_enter Tryz.func10, Tryz.ntmps10
  go_wp2_with fail
  go_ret
  exact ⟨by simp, rfl⟩
set_option maxRecDepth 100000 in
theorem nil_snStamp (W : World) : Calls Tryz.prog 11 #[.pointer none] W fun e W' => e = .returned (.int .u64 0) ∧ W' = W := by
  go_enter Tryz.func11, Tryz.ntmps11
  go_wp2_with fail
  go_ret
  exact ⟨by simp, rfl⟩
set_option maxRecDepth 100000 in
theorem nil_snErrno (W : World) : Calls Tryz.prog 12 #[.pointer none] W fun e W' => e = .returned (.int .i64 1) ∧ W' = W := by
  go_enter Tryz.func12, Tryz.ntmps12
  go_wp2_with fail
  go_ret
  exact ⟨by simp, rfl⟩
set_option maxRecDepth 100000 in
theorem nil_rlErrno (W : World) : Calls Tryz.prog 13 #[.pointer none] W fun e W' => e = .returned (.int .i64 1) ∧ W' = W := by
  go_enter Tryz.func13, Tryz.ntmps13
  go_wp2_with fail
  go_ret
  exact ⟨by simp, rfl⟩
set_option maxRecDepth 100000 in
theorem nil_snStep (V : Value) (W : World) : Calls Tryz.prog 7 #[.pointer none, V] W fun e W' => e = .returned (.bool true) ∧ W' = W := by
  go_enter Tryz.func7, Tryz.ntmps7
  go_wp2_with fail
  go_ret
  exact ⟨by simp, rfl⟩
set_option maxRecDepth 100000 in
theorem nil_rlStep (V : Value) (W : World) : Calls Tryz.prog 8 #[.pointer none, V] W fun e W' => e = .returned (.bool true) ∧ W' = W := by
  go_enter Tryz.func8, Tryz.ntmps8
  go_wp2_with fail
  go_ret
  exact ⟨by simp, rfl⟩
set_option maxRecDepth 100000 in
theorem nil_scStep (V : Value) (W : World) : Calls Tryz.prog 9 #[.pointer none, V] W fun e W' => e = .returned (.bool true) ∧ W' = W := by
  go_enter Tryz.func9, Tryz.ntmps9
  go_wp2_with fail
  go_ret
  exact ⟨by simp, rfl⟩
set_option maxRecDepth 100000 in
theorem nil_scNeed (W : World) : Calls Tryz.prog 15 #[.pointer none] W fun e W' => e = .returned (.agg #[.int .u64 0, .slice none 0 0]) ∧ Chg (fun _ => False) W W' := by
  go_enter Tryz.func15, Tryz.ntmps15
  go_wp2_with fail
  exact bodyPost_ret (v := .agg #[.int .u64 0, .slice none 0 0]) (by simp [results, Tryz.results15, go_sem]) rfl ⟨rfl, (Chg.refl _ _).alloc _⟩
set_option maxRecDepth 100000 in
theorem same_need0 (W : World) : Calls Tryz.prog 14 #[.agg #[.int .u64 0, .slice none 0 0], .agg #[.int .u64 0, .slice none 0 0]] W fun e W' => e = .returned (.bool true) ∧ Chg (fun _ => False) W W' := by
  have HC : Hid (Chg (fun _ => False) W ((W.alloc (.cells #[.int .u64 0, .slice none 0 0] 39)).alloc (.cells #[.int .u64 0, .slice none 0 0] 39))) := ((Chg.refl _ _).alloc _).alloc _
  go_enter Tryz.func14, Tryz.ntmps14
  go_wp2_with fail
  go_loopw [5] (fun s wr => s = .int .i64 0 ∧ wr = (W.alloc (.cells #[.int .u64 0, .slice none 0 0] 39)).alloc (.cells #[.int .u64 0, .slice none 0 0] 39)) (fun _ _ => 0)
  case atStart => exact ⟨rfl, rfl⟩
  case round =>
    obtain ⟨rfl, rfl⟩ := hrel
    go_wp2_with fail
    go_ret
    exact ⟨by simp, HC.out⟩
set_option maxRecDepth 100000 in
theorem make_nil13 (a b : Nat) (c : Int) (W : World) : Calls Tryz.prog 4 #[.pointer none, .int .u64 (a : Int), .int .i64 c, .int .u64 (b : Int)] W fun e W' => e = .returned (.tuple #[.agg #[.int .u64 0, .int .u64 0, .int .i64 0, .int .u64 0], .int .i64 1]) ∧ Chg (fun _ => False) W W' := by
  go_enter Tryz.func4, Tryz.ntmps4
  go_wp2_with fail
  exact bodyPost_ret (v := .tuple #[.agg #[.int .u64 0, .int .u64 0, .int .i64 0, .int .u64 0], .int .i64 1]) (by simp [results, Tryz.results4, go_sem]) rfl ⟨rfl, (Chg.refl _ _).alloc _⟩
set_option maxRecDepth 100000 in
theorem slots_nil (a b c : Nat) (n : Int) (W : World) : Calls Tryz.prog 16 #[.pointer none, .agg #[.int .u64 (a : Int), .int .u64 (b : Int), .int .i64 n, .int .u64 (c : Int)]] W fun e W' => e = .returned (.slice none 0 0) ∧ Chg (fun _ => False) W W' := by
  go_enter Tryz.func16, Tryz.ntmps16
  go_wp2_with fail
  go_ret
  exact ⟨by simp, (Chg.refl _ _).alloc _⟩
theorem unhandle_0 (W : World) : Calls Tryz.prog 18 #[.int .u64 0] W fun e W' => e = .returned (.tuple #[.int .i64 0, .int .u64 0, .int .i64 33]) ∧ W' = W := by
  refine (unhandle_any 0 W (by omega) (by omega)).mono ?_
  rintro e W' ⟨rfl, rfl⟩
  exact ⟨by simp [unS, unG, unE], rfl⟩
def rlL (cell gen pos seen : Nat) (err : Int) : List Value := [.int .u64 (cell : Int), .int .u64 (gen : Int), .int .u8 (pos : Int), .int .u64 (seen : Int), .int .i64 err]
set_option maxRecDepth 100000 in
theorem rl_new0 (a b c : Nat) (n : Int) (W : World) : Calls Tryz.prog 5 #[.agg #[.int .u64 (a : Int), .int .u64 (b : Int), .int .i64 n, .int .u64 (c : Int)], .int .u64 0] W fun e W' => ∃ p, e = .returned (.pointer (some ⟨p, 0, none⟩)) ∧ Blk W' p 50 (rlL 0 0 0 0 0) ∧ Chg (fun _ => False) W W' ∧ W.heap.size ≤ p := by
  go_enter Tryz.func5, Tryz.ntmps5
  go_wp2_with fail
  refine (unhandle_0 _).mono ?_
  rintro e w1 ⟨rfl, rfl⟩
  go_wp2_with fail
  go_ret
  refine ⟨W.heap.size + 1, by simp, ?_, ((Chg.refl _ _).alloc _).alloc _, by omega⟩
  have e := heap_alloc_new (W.alloc (.cells #[.int .u64 (a : Int), .int .u64 (b : Int), .int .i64 n, .int .u64 (c : Int)] 24)) (.cells #[.int .u64 0, .int .u64 0, .int .u8 0, .int .u64 0, .int .i64 0] 50)
  rw [World.size_alloc] at e
  exact e
set_option maxRecDepth 100000 in
theorem rl_end {W : World} {p cell gen pos seen : Nat} {e0 : Int} (hp : Blk W p 50 (rlL cell gen pos seen e0)) (err : Int) :
    Calls Tryz.prog 66 #[.pointer (some ⟨p, 0, none⟩), .int .i64 err] W fun e W' => e = .returned (.tuple #[]) ∧ Blk W' p 50 (rlL cell gen 3 seen err) ∧ Chg (fun k => k = p) W W' := by
  have c4 : W.cell? ⟨p, 4, none⟩ = some (.int .i64 e0) := hp.cell 4
  have f4 := hp.free 4
  have P1 := hp.set 4 (.int .i64 err)
  have c2 : (W.setCell ⟨p, 4, none⟩ (.int .i64 err)).cell? ⟨p, 2, none⟩ = some (.int .u8 (pos : Int)) := P1.cell 2
  have c2' : W.cell? ⟨p, 2, none⟩ = some (.int .u8 (pos : Int)) := hp.cell 2
  have f2 := P1.free 2
  have HP := keepH (P1.set 2 (.int .u8 3))
  clear hp P1
  go_enter Tryz.func66, Tryz.ntmps66
  go_wp2_with fail
  go_end0
  exact ⟨rfl, HP.out, (setP _).p (setP _)⟩
set_option maxRecDepth 100000 in
theorem rl_refuse {W : World} {p cell gen pos seen : Nat} {e0 : Int} (hp : Blk W p 50 (rlL cell gen pos seen e0)) (V : Value) :
    Calls Tryz.prog 45 #[.pointer (some ⟨p, 0, none⟩), V] W fun e W' => e = .returned (.tuple #[]) ∧ Blk W' p 50 (rlL cell gen 3 seen 33) ∧ Chg (fun k => k = p) W W' := by
  have HE := keepH (rl_end hp 33)
  clear hp
  go_enter Tryz.func45, Tryz.ntmps45
  go_wp2_with fail
  refine HE.out.mono ?_
  rintro e w1 ⟨rfl, P1, C1⟩
  have HP := keepH P1
  have HC := keepH C1
  clear P1 C1
  go_wp2_with fail
  go_end0
  exact ⟨rfl, HP.out, HC.out⟩
set_option maxRecDepth 100000 in
theorem rl_steps (W : World) : Calls Tryz.prog 27 #[] W fun e W' => e = .returned (.agg #[.func (.func 45) #[] #[], .func (.func 46) #[] #[], .func (.func 47) #[] #[]]) ∧ Chg (fun _ => False) W W' := by
  go_enter Tryz.func27, Tryz.ntmps27
  go_wp2_with fail
  exact bodyPost_ret (v := .agg #[.func (.func 45) #[] #[], .func (.func 46) #[] #[], .func (.func 47) #[] #[]]) (by simp [results, Tryz.results27, go_sem]) rfl ⟨rfl, (Chg.refl _ _).alloc _⟩
theorem ix_rlRefuse (w : World) : (Instr.index 74 (.agg #[.func (.func 45) #[] #[], .func (.func 46) #[] #[], .func (.func 47) #[] #[]]) (.int .u8 0)).run Tryz.prog w = .ok (.func (.func 45) #[] #[]) w := by kernel_rfl
set_option maxRecDepth 100000 in
set_option maxHeartbeats 2000000 in
theorem step_rlRefuse {W : World} {p cell gen seen : Nat} {e0 : Int} (hp : Blk W p 50 (rlL cell gen 0 seen e0)) (V : Value) :
    Calls Tryz.prog 8 #[.pointer (some ⟨p, 0, none⟩), V] W fun e W' => e = .returned (.bool true) ∧ Blk W' p 50 (rlL cell gen 3 seen 33) ∧ Chg (fun k => k = p) W W' := by
  have c4 : W.cell? ⟨p, 2, none⟩ = some (.int .u8 0) := hp.cell 2
  have hix := ix_rlRefuse
  have HC : Hid (Chg (fun _ => False) W W.drew) := (Chg.refl (fun _ => False) W).drew
  have HP := keepH hp
  clear hp
  go_enter Tryz.func8, Tryz.ntmps8
  go_upto_region 3 with fail
  go_region_with (first | (go_at_call 27; refine (rl_steps _).mono ?_; rintro e w2 ⟨rfl, C2⟩; replace HC : Hid (Chg (fun _ => False) W w2) := HC.out.f C2; have hS5 : w2.cell? ⟨p, 2, none⟩ = some (.int .u8 0) := (HP.out.chg HC.out (fun x => x)).cell 2; clear C2) | (refine (rl_refuse (HP.out.chg (show Chg (fun _ => False) W _ by first | exact HC.out | exact HC.out.drew) (fun x => x)) V).mono ?_; rintro e w3 ⟨rfl, P3, C3⟩; have HP3 := keepH P3; have d4 : w3.cell? ⟨p, 2, none⟩ = some (.int .u8 3) := P3.cell 2; have HC3 := keepH (HC.out.fp C3); clear P3 C3))
  all_goals (
    clear c4
    go_wp2_with fail
    go_ret
    exact ⟨by simp, HP3.out, HC3.out⟩)
set_option maxRecDepth 100000 in
theorem rl_errno {W : World} {p cell gen pos seen : Nat} {e0 : Int} (hp : Blk W p 50 (rlL cell gen pos seen e0)) : Calls Tryz.prog 13 #[.pointer (some ⟨p, 0, none⟩)] W fun e W' => e = .returned (.int .i64 e0) ∧ W' = W := by
  have c : W.cell? ⟨p, 4, none⟩ = some (.int .i64 e0) := hp.cell 4
  go_enter Tryz.func13, Tryz.ntmps13
  go_wp2_with fail
  go_ret
  exact ⟨by simp, rfl⟩
end Go.Proofs.YtjgcahmnfpfalaaGreat
