/- The camera's procs that are nil, and on a nil view. -/
import Derived.Test.YtinhcphhdehmhaaCamA
import Derived.Test.YtinhcphhdehmhaaNils
namespace Go.Proofs.Ytinhcphhdehmhaa
open Go.RowKit Go.Shelf

set_option maxRecDepth 100000 in
theorem nil_nstep (v : Value) (W : World) : Calls Try.prog 17 #[.pointer none, v] W fun e W' => e = .returned (.bool true) ∧ W' = W := by
  go_enter Try.func17, Try.ntmps17
  go_wp2_with fail
  go_ret
  exact ⟨by simp, rfl⟩
set_option maxRecDepth 100000 in
theorem nil_tstep (v : Value) (W : World) : Calls Try.prog 18 #[.pointer none, v] W fun e W' => e = .returned (.bool true) ∧ W' = W := by
  go_enter Try.func18, Try.ntmps18
  go_wp2_with fail
  go_ret
  exact ⟨by simp, rfl⟩
set_option maxRecDepth 100000 in
theorem nil_nstamp (W : World) : Calls Try.prog 13 #[.pointer none] W fun e W' => e = .returned (.int .u64 0) ∧ W' = W := by
  go_enter Try.func13, Try.ntmps13
  go_wp2_with fail
  go_ret
  exact ⟨by simp, rfl⟩
set_option maxRecDepth 100000 in
theorem nil_tstamp (W : World) : Calls Try.prog 14 #[.pointer none] W fun e W' => e = .returned (.int .u64 0) ∧ W' = W := by
  go_enter Try.func14, Try.ntmps14
  go_wp2_with fail
  go_ret
  exact ⟨by simp, rfl⟩
set_option maxRecDepth 100000 in
theorem nil_terrno (W : World) : Calls Try.prog 12 #[.pointer none] W fun e W' => e = .returned (.int .i64 1) ∧ W' = W := by
  go_enter Try.func12, Try.ntmps12
  go_wp2_with fail
  go_ret
  exact ⟨by simp, rfl⟩
set_option maxRecDepth 100000 in
theorem nil_tmoved (W : World) : Calls Try.prog 10 #[.pointer none] W fun e W' => e = .returned (.bool false) ∧ W' = W := by
  go_enter Try.func10, Try.ntmps10
  go_wp2_with fail
  go_ret
  exact ⟨by simp, rfl⟩

set_option maxRecDepth 100000 in
theorem n_stepnil (p cell st : Nat) (W : World) (hp : IsNow W p cell 0 st) : Calls Try.prog 17 #[.pointer (some ⟨p, 0, none⟩), .pointer none] W fun e W' => e = .returned (.bool true) ∧ IsNow W' p cell 2 0 ∧ Chg (fun k => k = p) W W' := by
  have c0 : W.cell? ⟨p, 0, none⟩ = some (.int .u64 (cell : Int)) := cell_of hp 0
  have c1 : W.cell? ⟨p, 1, none⟩ = some (.int .u8 0) := cell_of hp 1
  have c2 : W.cell? ⟨p, 2, none⟩ = some (.int .u64 (st : Int)) := cell_of hp 2
  have f2 := free_of hp 2
  have P2 := keepH (set_of hp 2 (.int .u64 0))
  have f1 := free_of P2.out 1
  have HP := keepH hp
  clear hp
  go_enter Try.func17, Try.ntmps17
  go_wp2_with fail
  refine (nil_vload (cell : Int) _).mono ?_
  rintro e w1 ⟨rfl, rfl⟩
  go_wp2_with fail
  go_ret
  refine ⟨by simp, set_of P2.out 1 _, ?_⟩
  exact Chg.setCell (F := fun k => k = p) (p := ⟨p, 1, none⟩) (Chg.setCell (F := fun k => k = p) (p := ⟨p, 2, none⟩) (Chg.refl _ _) (fun _ => rfl) _) (fun _ => rfl) _

set_option maxRecDepth 100000 in
theorem t_load_nil (p cell mx st : Nat) (W : World) (hp : IsTake W p cell mx 0 st 0 false) : Calls Try.prog 18 #[.pointer (some ⟨p, 0, none⟩), .pointer none] W fun e W' => e = .returned (.bool (decide (mx = 0))) ∧ IsTake W' p cell mx (if mx = 0 then 2 else 1) 0 (if mx = 0 then 31 else 0) false ∧ Chg (fun k => k = p) W W' := by
  have c0 : W.cell? ⟨p, 0, none⟩ = some (.int .u64 (cell : Int)) := cell_of hp 0
  have c2 : W.cell? ⟨p, 2, none⟩ = some (.int .u8 0) := cell_of hp 2
  have c3 : W.cell? ⟨p, 3, none⟩ = some (.int .u64 (st : Int)) := cell_of hp 3
  have f3 := free_of hp 3
  have P2 := keepH (set_of hp 3 (.int .u64 0))
  have f2 := free_of P2.out 2
  have P3 := keepH (set_of P2.out 2 (.int .u8 1))
  obtain ⟨w3, hw3⟩ : ∃ w3, w3 = (W.setCell ⟨p, 3, none⟩ (.int .u64 0)).setCell ⟨p, 2, none⟩ (.int .u8 1) := ⟨_, rfl⟩
  have HC : Hid (Chg (fun k => k = p) W w3) := by rw [hw3]; exact Chg.setCell (F := fun k => k = p) (p := ⟨p, 2, none⟩) (Chg.setCell (F := fun k => k = p) (p := ⟨p, 3, none⟩) (Chg.refl _ _) (fun _ => rfl) _) (fun _ => rfl) _
  rw [← hw3] at P3
  have r3 : w3.cell? ⟨p, 3, none⟩ = some (.int .u64 0) := cell_of P3.out 3
  have r1 : w3.cell? ⟨p, 1, none⟩ = some (.int .u64 (mx : Int)) := cell_of P3.out 1
  have r2 : w3.cell? ⟨p, 2, none⟩ = some (.int .u8 1) := cell_of P3.out 2
  clear hp
  go_enter Try.func18, Try.ntmps18
  go_wp2_with fail
  refine (nil_vload (cell : Int) _).mono ?_
  rintro e w1 ⟨rfl, rfl⟩
  go_upto_region 7 with fail
  rw [← hw3]
  clear hw3 f3 f2 P2 c0 c2 c3
  by_cases hm : mx = 0
  · subst hm
    go_quiet (fail)
    obtain ⟨w4, hw4⟩ : ∃ w4, w4 = w3.drewN nq := ⟨_, rfl⟩
    have C4 : Chg (fun _ => False) w3 w4 := by rw [hw4]; exact (Goes.drewN w3 (fun _ => False) nq).chg
    rw [← hw4]
    have HC4 : Hid (Chg (fun k => k = p) _ w4) := HC.out.trans C4 (fun _ _ x => x) (fun _ _ x => x.elim)
    have Q3 := keepH ((C4.block p (lt_of P3.out) (fun x => x)).trans P3.out)
    have g4 := (cell_of Q3.out 4).trans rfl
    have g2 := (cell_of Q3.out 2).trans rfl
    have k4 := free_of Q3.out 4
    have Q4 := keepH (set_of Q3.out 4 (.int .i64 31))
    have k2 := free_of Q4.out 2
    have g5 := (cell_of Q4.out 2).trans rfl
    clear hw4 C4 r3 r1 r2
    go_wp2_with fail
    go_ret
    refine ⟨by simp, set_of Q4.out 2 _, ?_⟩
    exact Chg.setCell (F := fun k => k = p) (p := ⟨p, 2, none⟩) (Chg.setCell (F := fun k => k = p) (p := ⟨p, 4, none⟩) HC4.out (fun _ => rfl) _) (fun _ => rfl) _
  · have t1 : ¬ (mx : Int) ≤ 0 := by omega
    have t2 : decide ((mx : Int) ≤ 0) = false := decide_eq_false t1
    have t3 : decide (mx = 0) = false := decide_eq_false hm
    go_quiet (fail)
    go_wp2_with fail
    go_ret
    refine ⟨by simp, P3.out, HC.out.trans (Goes.drewN w3 (fun _ => False) _).chg (fun _ _ x => x) (fun _ _ x => x.elim)⟩

set_option maxRecDepth 100000 in
set_option maxHeartbeats 4000000 in
theorem t_cas_nil (p cell mx st : Nat) (W : World) (hp : IsTake W p cell mx 1 st 0 false) (hs : st + 1 < 18446744073709551616) : Calls Try.prog 18 #[.pointer (some ⟨p, 0, none⟩), .pointer none] W fun e W' => e = .returned (.bool true) ∧ IsTake W' p cell mx 2 st 0 false ∧ Chg (fun k => k = p) W W' := by
  have c0 : W.cell? ⟨p, 0, none⟩ = some (.int .u64 (cell : Int)) := cell_of hp 0
  have c2 : W.cell? ⟨p, 2, none⟩ = some (.int .u8 1) := cell_of hp 2
  have c3 : W.cell? ⟨p, 3, none⟩ = some (.int .u64 (st : Int)) := cell_of hp 3
  have c5 : W.cell? ⟨p, 5, none⟩ = some (.bool false) := cell_of hp 5
  have f5 := free_of hp 5
  have wk : IntKind.u64.wrap ((st : Int) + 1) = ((st + 1 : Nat) : Int) := by rw [IntKind.wrap_u64]; omega
  have HP := keepH hp
  clear hp
  go_enter Try.func18, Try.ntmps18
  go_upto_region 11 with fail
  go_cut [57] from 42 to 59 (fun s57 wz => s57 = .bool false ∧ Hid (IsTake wz p cell mx 1 st 0 false ∧ Chg (fun k => k = p) W wz))
  case first =>
    go_region_with (go_at_call 33; refine (nil_vcas (cell : Int) (st : Int) ((st : Int) + 1) W.drew).mono ?_; rintro e w1 ⟨rfl, rfl⟩)
    all_goals (try go_wp2_with fail)
    all_goals go_meet
    all_goals (exact ⟨by first | rfl | trivial, set_of (W := W.drew) HP.out 5 _, Chg.setCell (F := fun k => k = p) (p := ⟨p, 5, none⟩) (Chg.refl (fun k => k = p) W).drew (fun _ => rfl) _⟩)
  case rest =>
    obtain ⟨wz, hwz⟩ : ∃ wz, wz = wc := ⟨_, rfl⟩
    rw [← hwz] at hcut ⊢
    clear hwz
    obtain ⟨rfl, HC⟩ := hcut
    obtain ⟨P2, G1⟩ := HC.out
    have HP2 := keepH P2
    have HG1 := keepH G1
    have d2 := (cell_of P2 2).trans rfl
    have f2 := free_of P2 2
    clear G1 P2 HC c0 c2 c3 c5 f5
    go_wp2_with fail
    go_ret
    exact ⟨by simp, set_of HP2.out 2 _, Chg.setCell (F := fun k => k = p) (p := ⟨p, 2, none⟩) HG1.out (fun _ => rfl) _⟩
end Go.Proofs.Ytinhcphhdehmhaa
