/- The document's Cut: its steps. -/
import Derived.Deep.RegionHeld3
import Derived.Test.YtciohnfbjaglbaaRa
namespace Go.Proofs.Ytciohnfbjaglbaa
open Go.RowKit Go.Shelf
set_option linter.unusedVariables false

set_option maxRecDepth 100000 in
set_option maxHeartbeats 2000000 in
theorem rc_0 (p F : Nat) (sv mv : Value) (th : Int) (obj x sx y y0 nx cnt head Cnt Hd : Nat) (W : World) (h : IsRC W p F sv ⟨0, obj, x, sx, y, y0, nx, cnt, head, Cnt, Hd⟩) (v : Nat) (R : World → Prop) (hL : Calls Try.prog 38 #[mv, .int .i64 th, .int .u64 (obj : Int)] W fun e w => e = .returned (.int .u64 (v : Int)) ∧ R w) (hK : ∀ w, R w → IsRC w p F sv ⟨0, obj, x, sx, y, y0, nx, cnt, head, Cnt, Hd⟩) :
    Calls Try.prog 16 #[.pointer (some ⟨p, 0, none⟩), mv, .int .i64 th] W fun e W' => e = .returned (.bool (decide (v = 0))) ∧ IsRC W' p F sv (if v = 0 then RCut.fin ⟨1, obj, v, sx, y, y0, nx, cnt, head, Cnt, Hd⟩ else ⟨1, obj, v, sx, y, y0, nx, cnt, head, Cnt, Hd⟩) ∧ ∃ w, R w ∧ Chg (fun k => k = p) w W' := by
  by_cases h0 : v = 0
  · have e0 : ((v : Int) == 0) = true := by simp [h0]
    rw [if_pos h0, decide_eq_true h0]
    clear h0
    have c1 : W.cell? ⟨p, 1, none⟩ = some (.int .u64 (obj : Int)) := cell_of h 1
    have c0 : W.cell? ⟨p, 0, none⟩ = some (.int .i64 0) := cell_of h 0
    have HL := keepH hL
    have HK := keepH hK
    clear hL hK h
    go_enter Try.func16, Try.ntmps16
    go_wp2_with fail
    refine HL.out.mono ?_
    rintro e w ⟨rfl, hR⟩
    have HP := keepH (HK.out w hR)
    have HR := keepH hR
    clear hR HK HL
    have d4 : w.cell? ⟨p, 4, none⟩ = some (.int .u64 (x : Int)) := cell_of HP.out 4
    have d0 : w.cell? ⟨p, 0, none⟩ = some (.int .i64 0) := cell_of HP.out 0
    have f4 := free_of HP.out 4
    have f0 := free_of HP.out 0
    have H1 : Hid (IsRC (w.setCell ⟨p, 4, none⟩ (.int .u64 (v : Int))) p F sv ⟨0, obj, v, sx, y, y0, nx, cnt, head, Cnt, Hd⟩) := set_of HP.out 4 _
    have H2 : Hid (IsRC ((w.setCell ⟨p, 4, none⟩ (.int .u64 (v : Int))).setCell ⟨p, 0, none⟩ (.int .i64 1)) p F sv ⟨1, obj, v, sx, y, y0, nx, cnt, head, Cnt, Hd⟩) := set_of H1.out 0 _
    have q4 : ((w.setCell ⟨p, 4, none⟩ (.int .u64 (v : Int))).setCell ⟨p, 0, none⟩ (.int .i64 1)).cell? ⟨p, 4, none⟩ = some (.int .u64 (v : Int)) := cell_of H2.out 4
    have r4 : (w.setCell ⟨p, 4, none⟩ (.int .u64 (v : Int))).cell? ⟨p, 4, none⟩ = some (.int .u64 (v : Int)) := cell_of H1.out 4
    have q0 : ((w.setCell ⟨p, 4, none⟩ (.int .u64 (v : Int))).setCell ⟨p, 0, none⟩ (.int .i64 1)).cell? ⟨p, 0, none⟩ = some (.int .i64 1) := cell_of H2.out 0
    go_wp2_with fail
    refine (rc_end p F sv ⟨1, obj, v, sx, y, y0, nx, cnt, head, Cnt, Hd⟩ _ H2.out).mono ?_
    rintro e w3 ⟨rfl, h3, c3⟩
    have H33 := keepH h3
    have C33 := keepH c3
    have z0 : w3.cell? ⟨p, 0, none⟩ = some (.int .i64 9) := cell_of h3 0
    clear h3 c3
    go_wp2_with fail
    go_ret
    exact ⟨by simp, H33.out, w, HR.out, ((setP _).put _).then_ C33.out⟩
  · have e0 : ((v : Int) == 0) = false := beq_eq_false_iff_ne.2 (by omega)
    rw [if_neg h0, decide_eq_false h0]
    clear h0
    have c1 : W.cell? ⟨p, 1, none⟩ = some (.int .u64 (obj : Int)) := cell_of h 1
    have c0 : W.cell? ⟨p, 0, none⟩ = some (.int .i64 0) := cell_of h 0
    have HL := keepH hL
    have HK := keepH hK
    clear hL hK h
    go_enter Try.func16, Try.ntmps16
    go_wp2_with fail
    refine HL.out.mono ?_
    rintro e w ⟨rfl, hR⟩
    have HP := keepH (HK.out w hR)
    have HR := keepH hR
    clear hR HK HL
    have d4 : w.cell? ⟨p, 4, none⟩ = some (.int .u64 (x : Int)) := cell_of HP.out 4
    have d0 : w.cell? ⟨p, 0, none⟩ = some (.int .i64 0) := cell_of HP.out 0
    have f4 := free_of HP.out 4
    have f0 := free_of HP.out 0
    have H1 : Hid (IsRC (w.setCell ⟨p, 4, none⟩ (.int .u64 (v : Int))) p F sv ⟨0, obj, v, sx, y, y0, nx, cnt, head, Cnt, Hd⟩) := set_of HP.out 4 _
    have H2 : Hid (IsRC ((w.setCell ⟨p, 4, none⟩ (.int .u64 (v : Int))).setCell ⟨p, 0, none⟩ (.int .i64 1)) p F sv ⟨1, obj, v, sx, y, y0, nx, cnt, head, Cnt, Hd⟩) := set_of H1.out 0 _
    have q4 : ((w.setCell ⟨p, 4, none⟩ (.int .u64 (v : Int))).setCell ⟨p, 0, none⟩ (.int .i64 1)).cell? ⟨p, 4, none⟩ = some (.int .u64 (v : Int)) := cell_of H2.out 4
    have r4 : (w.setCell ⟨p, 4, none⟩ (.int .u64 (v : Int))).cell? ⟨p, 4, none⟩ = some (.int .u64 (v : Int)) := cell_of H1.out 4
    have q0 : ((w.setCell ⟨p, 4, none⟩ (.int .u64 (v : Int))).setCell ⟨p, 0, none⟩ (.int .i64 1)).cell? ⟨p, 0, none⟩ = some (.int .i64 1) := cell_of H2.out 0
    go_wp2_with fail
    go_ret
    exact ⟨by simp, H2.out, w, HR.out, (setP _).put _⟩

set_option maxRecDepth 100000 in
set_option maxHeartbeats 2000000 in
theorem rc_1 (p F : Nat) (sv mv : Value) (th : Int) (obj x sx y y0 nx cnt head Cnt Hd : Nat) (W : World) (h : IsRC W p F sv ⟨1, obj, x, sx, y, y0, nx, cnt, head, Cnt, Hd⟩) (a : Nat) (ha : IntKind.u64.wrap ((x : Int) + 1) = (a : Int)) (v : Nat) (R : World → Prop) (hL : Calls Try.prog 38 #[mv, .int .i64 th, .int .u64 (a : Int)] W fun e w => e = .returned (.int .u64 (v : Int)) ∧ R w) (hK : ∀ w, R w → IsRC w p F sv ⟨1, obj, x, sx, y, y0, nx, cnt, head, Cnt, Hd⟩) :
    Calls Try.prog 16 #[.pointer (some ⟨p, 0, none⟩), mv, .int .i64 th] W fun e W' => e = .returned (.bool false) ∧ IsRC W' p F sv ⟨2, obj, x, (if v = 0 then 18446744073709551615 else v), y, y0, nx, cnt, head, Cnt, Hd⟩ ∧ ∃ w, R w ∧ Chg (fun k => k = p) w W' := by
  by_cases h0 : v = 0
  · have e0 : ((v : Int) == 0) = true := by simp [h0]
    rw [if_pos h0]
    clear h0
    have c4 : W.cell? ⟨p, 4, none⟩ = some (.int .u64 (x : Int)) := cell_of h 4
    have c0 : W.cell? ⟨p, 0, none⟩ = some (.int .i64 1) := cell_of h 0
    have HL := keepH hL
    have HK := keepH hK
    clear hL hK h
    go_enter Try.func16, Try.ntmps16
    go_wp2_with fail
    refine HL.out.mono ?_
    rintro e w ⟨rfl, hR⟩
    have HP := keepH (HK.out w hR)
    have HR := keepH hR
    clear hR HK HL
    have d5 : w.cell? ⟨p, 5, none⟩ = some (.int .u64 (sx : Int)) := cell_of HP.out 5
    have d0 : w.cell? ⟨p, 0, none⟩ = some (.int .i64 1) := cell_of HP.out 0
    have f5 := free_of HP.out 5
    have f0 := free_of HP.out 0
    have H1 : Hid (IsRC (w.setCell ⟨p, 5, none⟩ (.int .u64 (v : Int))) p F sv ⟨1, obj, x, v, y, y0, nx, cnt, head, Cnt, Hd⟩) := set_of HP.out 5 _
    have H2 : Hid (IsRC ((w.setCell ⟨p, 5, none⟩ (.int .u64 (v : Int))).setCell ⟨p, 5, none⟩ (.int .u64 18446744073709551615)) p F sv ⟨1, obj, x, 18446744073709551615, y, y0, nx, cnt, head, Cnt, Hd⟩) := set_of H1.out 5 _
    have q5 : (w.setCell ⟨p, 5, none⟩ (.int .u64 (v : Int))).cell? ⟨p, 5, none⟩ = some (.int .u64 (v : Int)) := cell_of H1.out 5
    go_wp2_with fail
    go_ret
    exact ⟨by simp, set_of H2.out 0 _, w, HR.out, ((setP _).put _).put _⟩
  · have e0 : ((v : Int) == 0) = false := beq_eq_false_iff_ne.2 (by omega)
    rw [if_neg h0]
    clear h0
    have c4 : W.cell? ⟨p, 4, none⟩ = some (.int .u64 (x : Int)) := cell_of h 4
    have c0 : W.cell? ⟨p, 0, none⟩ = some (.int .i64 1) := cell_of h 0
    have HL := keepH hL
    have HK := keepH hK
    clear hL hK h
    go_enter Try.func16, Try.ntmps16
    go_wp2_with fail
    refine HL.out.mono ?_
    rintro e w ⟨rfl, hR⟩
    have HP := keepH (HK.out w hR)
    have HR := keepH hR
    clear hR HK HL
    have d5 : w.cell? ⟨p, 5, none⟩ = some (.int .u64 (sx : Int)) := cell_of HP.out 5
    have d0 : w.cell? ⟨p, 0, none⟩ = some (.int .i64 1) := cell_of HP.out 0
    have f5 := free_of HP.out 5
    have f0 := free_of HP.out 0
    have H1 : Hid (IsRC (w.setCell ⟨p, 5, none⟩ (.int .u64 (v : Int))) p F sv ⟨1, obj, x, v, y, y0, nx, cnt, head, Cnt, Hd⟩) := set_of HP.out 5 _
    have q5 : (w.setCell ⟨p, 5, none⟩ (.int .u64 (v : Int))).cell? ⟨p, 5, none⟩ = some (.int .u64 (v : Int)) := cell_of H1.out 5
    go_wp2_with fail
    go_ret
    exact ⟨by simp, set_of H1.out 0 _, w, HR.out, (setP _).put _⟩

set_option maxRecDepth 100000 in
set_option maxHeartbeats 2000000 in
theorem rc_2 (p F : Nat) (sv mv : Value) (th : Int) (obj x sx y y0 nx cnt head Cnt Hd : Nat) (W : World) (h : IsRC W p F sv ⟨2, obj, x, sx, y, y0, nx, cnt, head, Cnt, Hd⟩) (v : Nat) (R : World → Prop) (hL : Calls Try.prog 38 #[mv, .int .i64 th, .int .u64 (x : Int)] W fun e w => e = .returned (.int .u64 (v : Int)) ∧ R w) (hK : ∀ w, R w → IsRC w p F sv ⟨2, obj, x, sx, y, y0, nx, cnt, head, Cnt, Hd⟩) :
    Calls Try.prog 16 #[.pointer (some ⟨p, 0, none⟩), mv, .int .i64 th] W fun e W' => e = .returned (.bool false) ∧ IsRC W' p F sv ⟨3, obj, x, sx, y, y0, nx, cnt, v, Cnt, Hd⟩ ∧ ∃ w, R w ∧ Chg (fun k => k = p) w W' := by
  have c4 : W.cell? ⟨p, 4, none⟩ = some (.int .u64 (x : Int)) := cell_of h 4
  have c0 : W.cell? ⟨p, 0, none⟩ = some (.int .i64 2) := cell_of h 0
  have HL := keepH hL
  have HK := keepH hK
  clear hL hK h
  go_enter Try.func16, Try.ntmps16
  go_wp2_with fail
  refine HL.out.mono ?_
  rintro e w ⟨rfl, hR⟩
  have HP := keepH (HK.out w hR)
  have HR := keepH hR
  clear hR HK HL
  have d10 : w.cell? ⟨p, 10, none⟩ = some (.int .u64 (head : Int)) := cell_of HP.out 10
  have d0 : w.cell? ⟨p, 0, none⟩ = some (.int .i64 2) := cell_of HP.out 0
  have f10 := free_of HP.out 10
  have f0 := free_of HP.out 0
  have H1 : Hid (IsRC (w.setCell ⟨p, 10, none⟩ (.int .u64 (v : Int))) p F sv ⟨2, obj, x, sx, y, y0, nx, cnt, v, Cnt, Hd⟩) := set_of HP.out 10 _
  go_wp2_with fail
  go_ret
  exact ⟨by simp, set_of H1.out 0 _, w, HR.out, (setP _).put _⟩

set_option maxRecDepth 100000 in
set_option maxHeartbeats 2000000 in
theorem rc_3 (p F : Nat) (sv mv : Value) (th : Int) (obj x sx y y0 nx cnt head Cnt Hd : Nat) (W : World) (h : IsRC W p F sv ⟨3, obj, x, sx, y, y0, nx, cnt, head, Cnt, Hd⟩) (a : Nat) (ha : IntKind.u64.wrap ((x : Int) + 2) = (a : Int)) (v : Nat) (R : World → Prop) (hL : Calls Try.prog 38 #[mv, .int .i64 th, .int .u64 (a : Int)] W fun e w => e = .returned (.int .u64 (v : Int)) ∧ R w) (hK : ∀ w, R w → IsRC w p F sv ⟨3, obj, x, sx, y, y0, nx, cnt, head, Cnt, Hd⟩) :
    Calls Try.prog 16 #[.pointer (some ⟨p, 0, none⟩), mv, .int .i64 th] W fun e W' => e = .returned (.bool (decide (v = 0))) ∧ IsRC W' p F sv (if v = 0 then RCut.fin ⟨4, obj, x, sx, v, v, nx, cnt, head, Cnt, Hd⟩ else ⟨4, obj, x, sx, v, v, nx, cnt, head, Cnt, Hd⟩) ∧ ∃ w, R w ∧ Chg (fun k => k = p) w W' := by
  by_cases h0 : v = 0
  · have e0 : ((v : Int) == 0) = true := by simp [h0]
    rw [if_pos h0, decide_eq_true h0]
    clear h0
    have c4 : W.cell? ⟨p, 4, none⟩ = some (.int .u64 (x : Int)) := cell_of h 4
    have c0 : W.cell? ⟨p, 0, none⟩ = some (.int .i64 3) := cell_of h 0
    have HL := keepH hL
    have HK := keepH hK
    clear hL hK h
    go_enter Try.func16, Try.ntmps16
    go_wp2_with fail
    refine HL.out.mono ?_
    rintro e w ⟨rfl, hR⟩
    have HP := keepH (HK.out w hR)
    have HR := keepH hR
    clear hR HK HL
    have d6 : w.cell? ⟨p, 6, none⟩ = some (.int .u64 (y : Int)) := cell_of HP.out 6
    have d7 : w.cell? ⟨p, 7, none⟩ = some (.int .u64 (y0 : Int)) := cell_of HP.out 7
    have d0 : w.cell? ⟨p, 0, none⟩ = some (.int .i64 3) := cell_of HP.out 0
    have f6 := free_of HP.out 6
    have f7 := free_of HP.out 7
    have f0 := free_of HP.out 0
    have H1 : Hid (IsRC (w.setCell ⟨p, 6, none⟩ (.int .u64 (v : Int))) p F sv ⟨3, obj, x, sx, v, y0, nx, cnt, head, Cnt, Hd⟩) := set_of HP.out 6 _
    have H2 : Hid (IsRC ((w.setCell ⟨p, 6, none⟩ (.int .u64 (v : Int))).setCell ⟨p, 7, none⟩ (.int .u64 (v : Int))) p F sv ⟨3, obj, x, sx, v, v, nx, cnt, head, Cnt, Hd⟩) := set_of H1.out 7 _
    have H3 : Hid (IsRC (((w.setCell ⟨p, 6, none⟩ (.int .u64 (v : Int))).setCell ⟨p, 7, none⟩ (.int .u64 (v : Int))).setCell ⟨p, 0, none⟩ (.int .i64 4)) p F sv ⟨4, obj, x, sx, v, v, nx, cnt, head, Cnt, Hd⟩) := set_of H2.out 0 _
    have q6 : (w.setCell ⟨p, 6, none⟩ (.int .u64 (v : Int))).cell? ⟨p, 6, none⟩ = some (.int .u64 (v : Int)) := cell_of H1.out 6
    have r6 : ((w.setCell ⟨p, 6, none⟩ (.int .u64 (v : Int))).setCell ⟨p, 7, none⟩ (.int .u64 (v : Int))).cell? ⟨p, 6, none⟩ = some (.int .u64 (v : Int)) := cell_of H2.out 6
    have t6 : (((w.setCell ⟨p, 6, none⟩ (.int .u64 (v : Int))).setCell ⟨p, 7, none⟩ (.int .u64 (v : Int))).setCell ⟨p, 0, none⟩ (.int .i64 4)).cell? ⟨p, 6, none⟩ = some (.int .u64 (v : Int)) := cell_of H3.out 6
    have q0 : (((w.setCell ⟨p, 6, none⟩ (.int .u64 (v : Int))).setCell ⟨p, 7, none⟩ (.int .u64 (v : Int))).setCell ⟨p, 0, none⟩ (.int .i64 4)).cell? ⟨p, 0, none⟩ = some (.int .i64 4) := cell_of H3.out 0
    go_wp2_with fail
    refine (rc_end p F sv ⟨4, obj, x, sx, v, v, nx, cnt, head, Cnt, Hd⟩ _ H3.out).mono ?_
    rintro e w3 ⟨rfl, h3, c3⟩
    have H33 := keepH h3
    have C33 := keepH c3
    have z0 : w3.cell? ⟨p, 0, none⟩ = some (.int .i64 9) := cell_of h3 0
    clear h3 c3
    go_wp2_with fail
    go_ret
    exact ⟨by simp, H33.out, w, HR.out, (((setP _).put _).put _).then_ C33.out⟩
  · have e0 : ((v : Int) == 0) = false := beq_eq_false_iff_ne.2 (by omega)
    rw [if_neg h0, decide_eq_false h0]
    clear h0
    have c4 : W.cell? ⟨p, 4, none⟩ = some (.int .u64 (x : Int)) := cell_of h 4
    have c0 : W.cell? ⟨p, 0, none⟩ = some (.int .i64 3) := cell_of h 0
    have HL := keepH hL
    have HK := keepH hK
    clear hL hK h
    go_enter Try.func16, Try.ntmps16
    go_wp2_with fail
    refine HL.out.mono ?_
    rintro e w ⟨rfl, hR⟩
    have HP := keepH (HK.out w hR)
    have HR := keepH hR
    clear hR HK HL
    have d6 : w.cell? ⟨p, 6, none⟩ = some (.int .u64 (y : Int)) := cell_of HP.out 6
    have d7 : w.cell? ⟨p, 7, none⟩ = some (.int .u64 (y0 : Int)) := cell_of HP.out 7
    have d0 : w.cell? ⟨p, 0, none⟩ = some (.int .i64 3) := cell_of HP.out 0
    have f6 := free_of HP.out 6
    have f7 := free_of HP.out 7
    have f0 := free_of HP.out 0
    have H1 : Hid (IsRC (w.setCell ⟨p, 6, none⟩ (.int .u64 (v : Int))) p F sv ⟨3, obj, x, sx, v, y0, nx, cnt, head, Cnt, Hd⟩) := set_of HP.out 6 _
    have H2 : Hid (IsRC ((w.setCell ⟨p, 6, none⟩ (.int .u64 (v : Int))).setCell ⟨p, 7, none⟩ (.int .u64 (v : Int))) p F sv ⟨3, obj, x, sx, v, v, nx, cnt, head, Cnt, Hd⟩) := set_of H1.out 7 _
    have H3 : Hid (IsRC (((w.setCell ⟨p, 6, none⟩ (.int .u64 (v : Int))).setCell ⟨p, 7, none⟩ (.int .u64 (v : Int))).setCell ⟨p, 0, none⟩ (.int .i64 4)) p F sv ⟨4, obj, x, sx, v, v, nx, cnt, head, Cnt, Hd⟩) := set_of H2.out 0 _
    have q6 : (w.setCell ⟨p, 6, none⟩ (.int .u64 (v : Int))).cell? ⟨p, 6, none⟩ = some (.int .u64 (v : Int)) := cell_of H1.out 6
    have r6 : ((w.setCell ⟨p, 6, none⟩ (.int .u64 (v : Int))).setCell ⟨p, 7, none⟩ (.int .u64 (v : Int))).cell? ⟨p, 6, none⟩ = some (.int .u64 (v : Int)) := cell_of H2.out 6
    have t6 : (((w.setCell ⟨p, 6, none⟩ (.int .u64 (v : Int))).setCell ⟨p, 7, none⟩ (.int .u64 (v : Int))).setCell ⟨p, 0, none⟩ (.int .i64 4)).cell? ⟨p, 6, none⟩ = some (.int .u64 (v : Int)) := cell_of H3.out 6
    have q0 : (((w.setCell ⟨p, 6, none⟩ (.int .u64 (v : Int))).setCell ⟨p, 7, none⟩ (.int .u64 (v : Int))).setCell ⟨p, 0, none⟩ (.int .i64 4)).cell? ⟨p, 0, none⟩ = some (.int .i64 4) := cell_of H3.out 0
    go_wp2_with fail
    go_ret
    exact ⟨by simp, H3.out, w, HR.out, ((setP _).put _).put _⟩

set_option maxRecDepth 100000 in
set_option maxHeartbeats 2000000 in
theorem rc_5F (p F : Nat) (sv mv : Value) (th : Int) (obj x sx y y0 nx cnt head Cnt Hd : Nat) (W : World) (h : IsRC W p F sv ⟨5, obj, x, sx, y, y0, nx, cnt, head, Cnt, Hd⟩) (a : Nat) (ha : IntKind.u64.wrap ((y : Int) + 2) = (a : Int)) (v : Nat) (R : World → Prop) (hL : Calls Try.prog 38 #[mv, .int .i64 th, .int .u64 (a : Int)] W fun e w => e = .returned (.int .u64 (v : Int)) ∧ R w) (hK : ∀ w, R w → IsRC w p F sv ⟨5, obj, x, sx, y, y0, nx, cnt, head, Cnt, Hd⟩) (h0 : v ≠ 0) :
    Calls Try.prog 16 #[.pointer (some ⟨p, 0, none⟩), mv, .int .i64 th] W fun e W' => e = .returned (.bool false) ∧ IsRC W' p F sv ⟨4, obj, x, sx, v, y0, nx, cnt, head, Cnt, Hd⟩ ∧ ∃ w, R w ∧ Chg (fun k => k = p) w W' := by
  have e0 : ((v : Int) == 0) = false := beq_eq_false_iff_ne.2 (by omega)
  clear h0
  have c6 : W.cell? ⟨p, 6, none⟩ = some (.int .u64 (y : Int)) := cell_of h 6
  have c0 : W.cell? ⟨p, 0, none⟩ = some (.int .i64 5) := cell_of h 0
  have HL := keepH hL
  have HK := keepH hK
  clear hL hK h
  go_enter Try.func16, Try.ntmps16
  go_wp2_with fail
  refine HL.out.mono ?_
  rintro e w ⟨rfl, hR⟩
  have HP := keepH (HK.out w hR)
  have HR := keepH hR
  clear hR HK HL
  have d6 : w.cell? ⟨p, 6, none⟩ = some (.int .u64 (y : Int)) := cell_of HP.out 6
  have d0 : w.cell? ⟨p, 0, none⟩ = some (.int .i64 5) := cell_of HP.out 0
  have f6 := free_of HP.out 6
  have f0 := free_of HP.out 0
  have H1 : Hid (IsRC (w.setCell ⟨p, 6, none⟩ (.int .u64 (v : Int))) p F sv ⟨5, obj, x, sx, v, y0, nx, cnt, head, Cnt, Hd⟩) := set_of HP.out 6 _
  have H2 : Hid (IsRC ((w.setCell ⟨p, 6, none⟩ (.int .u64 (v : Int))).setCell ⟨p, 0, none⟩ (.int .i64 4)) p F sv ⟨4, obj, x, sx, v, y0, nx, cnt, head, Cnt, Hd⟩) := set_of H1.out 0 _
  have q6 : (w.setCell ⟨p, 6, none⟩ (.int .u64 (v : Int))).cell? ⟨p, 6, none⟩ = some (.int .u64 (v : Int)) := cell_of H1.out 6
  have r6 : ((w.setCell ⟨p, 6, none⟩ (.int .u64 (v : Int))).setCell ⟨p, 0, none⟩ (.int .i64 4)).cell? ⟨p, 6, none⟩ = some (.int .u64 (v : Int)) := cell_of H2.out 6
  have q0 : ((w.setCell ⟨p, 6, none⟩ (.int .u64 (v : Int))).setCell ⟨p, 0, none⟩ (.int .i64 4)).cell? ⟨p, 0, none⟩ = some (.int .i64 4) := cell_of H2.out 0
  go_wp2_with fail
  go_ret
  exact ⟨by simp, H2.out, w, HR.out, (setP _).put _⟩

set_option maxRecDepth 100000 in
set_option maxHeartbeats 2000000 in
theorem rc_5T (p F : Nat) (sv mv : Value) (th : Int) (obj x sx y y0 nx cnt head Cnt Hd : Nat) (W : World) (h : IsRC W p F sv ⟨5, obj, x, sx, y, y0, nx, cnt, head, Cnt, Hd⟩) (a : Nat) (ha : IntKind.u64.wrap ((y : Int) + 2) = (a : Int)) (v : Nat) (t : RCut) (h0 : v = 0) (ht : RCut.enough ⟨4, obj, x, sx, v, y0, nx, cnt, head, Cnt, Hd⟩ 0 = t) (R : World → Prop) (hL : Calls Try.prog 38 #[mv, .int .i64 th, .int .u64 (a : Int)] W fun e w => e = .returned (.int .u64 (v : Int)) ∧ R w) (hK : ∀ w, R w → IsRC w p F sv ⟨5, obj, x, sx, y, y0, nx, cnt, head, Cnt, Hd⟩) :
    Calls Try.prog 16 #[.pointer (some ⟨p, 0, none⟩), mv, .int .i64 th] W fun e W' => e = .returned (.bool (decide (t.pos = 9))) ∧ IsRC W' p F sv t ∧ ∃ w, R w ∧ Chg (fun k => k = p) w W' := by
  have e0 : ((v : Int) == 0) = true := by simp [h0]
  clear h0
  have c6 : W.cell? ⟨p, 6, none⟩ = some (.int .u64 (y : Int)) := cell_of h 6
  have c0 : W.cell? ⟨p, 0, none⟩ = some (.int .i64 5) := cell_of h 0
  have HL := keepH hL
  have HK := keepH hK
  clear hL hK h
  go_enter Try.func16, Try.ntmps16
  go_wp2_with fail
  refine HL.out.mono ?_
  rintro e w ⟨rfl, hR⟩
  have HP := keepH (HK.out w hR)
  have HR := keepH hR
  clear hR HK HL
  have d6 : w.cell? ⟨p, 6, none⟩ = some (.int .u64 (y : Int)) := cell_of HP.out 6
  have d0 : w.cell? ⟨p, 0, none⟩ = some (.int .i64 5) := cell_of HP.out 0
  have f6 := free_of HP.out 6
  have f0 := free_of HP.out 0
  have H1 : Hid (IsRC (w.setCell ⟨p, 6, none⟩ (.int .u64 (v : Int))) p F sv ⟨5, obj, x, sx, v, y0, nx, cnt, head, Cnt, Hd⟩) := set_of HP.out 6 _
  have H2 : Hid (IsRC ((w.setCell ⟨p, 6, none⟩ (.int .u64 (v : Int))).setCell ⟨p, 0, none⟩ (.int .i64 4)) p F sv ⟨4, obj, x, sx, v, y0, nx, cnt, head, Cnt, Hd⟩) := set_of H1.out 0 _
  have q6 : (w.setCell ⟨p, 6, none⟩ (.int .u64 (v : Int))).cell? ⟨p, 6, none⟩ = some (.int .u64 (v : Int)) := cell_of H1.out 6
  have r6 : ((w.setCell ⟨p, 6, none⟩ (.int .u64 (v : Int))).setCell ⟨p, 0, none⟩ (.int .i64 4)).cell? ⟨p, 6, none⟩ = some (.int .u64 (v : Int)) := cell_of H2.out 6
  have q0 : ((w.setCell ⟨p, 6, none⟩ (.int .u64 (v : Int))).setCell ⟨p, 0, none⟩ (.int .i64 4)).cell? ⟨p, 0, none⟩ = some (.int .i64 4) := cell_of H2.out 0
  go_wp2_with fail
  refine (rc_enough 0 p F sv ⟨4, obj, x, sx, v, y0, nx, cnt, head, Cnt, Hd⟩ _ H2.out).mono ?_
  rintro e w3 ⟨rfl, hT, hC⟩
  rw [ht] at hT
  have HT := keepH hT
  have HC := keepH (((setP (W := w) (p := p) (i := 6) (.int .u64 (v : Int))).put (i := 0) (.int .i64 4)).then_ hC)
  clear hT hC ht
  obtain ⟨post, objt, xt, sxt, yt, y0t, nxt, cntt, headt, Cntt, Hdt⟩ := t
  have z0 : w3.cell? ⟨p, 0, none⟩ = some (.int .i64 (post : Int)) := cell_of HT.out 0
  by_cases h9 : post = 9
  · have e9 : ((post : Int) == 9) = true := by simp [h9]
    have dd : decide (post = 9) = true := decide_eq_true h9
    clear h9
    go_wp2_with fail
    go_ret
    exact ⟨by simp, HT.out, w, HR.out, HC.out⟩
  · have e9 : ((post : Int) == 9) = false := beq_eq_false_iff_ne.2 (by omega)
    have dd : decide (post = 9) = false := decide_eq_false h9
    clear h9
    go_wp2_with fail
    go_ret
    exact ⟨by simp, HT.out, w, HR.out, HC.out⟩

set_option maxRecDepth 100000 in
set_option maxHeartbeats 2000000 in
theorem rc_4F (p F : Nat) (q : Option Addr) (c : Nat) (l : List Nat) (mv : Value) (th : Int) (obj x sx y y0 nx cnt head Cnt Hd : Nat) (W : World) (h : IsRC W p F (.slice q l.length c) ⟨4, obj, x, sx, y, y0, nx, cnt, head, Cnt, Hd⟩) (hl : l.length < 4611686018427387904) (a : Nat) (ha : IntKind.u64.wrap ((y : Int) + 1) = (a : Int)) (v : Nat) (R : World → Prop) (hL : Calls Try.prog 38 #[mv, .int .i64 th, .int .u64 (a : Int)] W fun e w => e = .returned (.int .u64 (v : Int)) ∧ R w) (hK : ∀ w, R w → IsRC w p F (.slice q l.length c) ⟨4, obj, x, sx, y, y0, nx, cnt, head, Cnt, Hd⟩ ∧ U64At w q l ∧ ∀ bk off, q = some ⟨bk, off, none⟩ → l ≠ [] → bk ≠ p) (hb : ndN F l v sx = false) (cn : Nat) (hcn : IntKind.u64.wrap ((cnt : Int) + 1) = (cn : Int)) :
    Calls Try.prog 16 #[.pointer (some ⟨p, 0, none⟩), mv, .int .i64 th] W fun e W' => e = .returned (.bool false) ∧ IsRC W' p F (.slice q l.length c) ⟨5, obj, x, sx, y, y0, nx, cn, head, Cnt, Hd⟩ ∧ ∃ w, R w ∧ Chg (fun k => k = p) w W' := by
  have c6 : W.cell? ⟨p, 6, none⟩ = some (.int .u64 (y : Int)) := cell_of h 6
  have c0 : W.cell? ⟨p, 0, none⟩ = some (.int .i64 4) := cell_of h 0
  have HL := keepH hL
  have HK := keepH hK
  clear hL hK h
  go_enter Try.func16, Try.ntmps16
  go_wp2_with fail
  refine HL.out.mono ?_
  rintro e w ⟨rfl, hR⟩
  obtain ⟨hP, hU, hq⟩ := HK.out w hR
  have HP := keepH hP
  have HQ := keepH hq
  have HR := keepH hR
  have HUd : Hid (U64At w.drew q l) := hU.chg ((Chg.refl (fun _ => False) w).drew) (fun _ _ _ _ x => x)
  clear hR HK HL hP hU hq
  go_upto_region 23 with fail
  have HS0 : Hid (w.cell? ⟨p, 2, none⟩ = some (.int .u64 (F : Int)) ∧ w.cell? ⟨p, 3, none⟩ = some (.slice q l.length c) ∧ w.cell? ⟨p, 5, none⟩ = some (.int .u64 (sx : Int))) := ⟨cell_of HP.out 2, cell_of HP.out 3, cell_of HP.out 5⟩
  go_region_held3 (fun w' => w'.cell? ⟨p, 2, none⟩ = some (.int .u64 (F : Int)) ∧ w'.cell? ⟨p, 3, none⟩ = some (.slice q l.length c) ∧ w'.cell? ⟨p, 5, none⟩ = some (.int .u64 (sx : Int))) (first | exact HS0.out | exact hS5) (first | (go_at_call 8; refine (r_needed F v sx q c l w.drew HUd.out hl).mono ?_; rintro e w2 ⟨rfl, C2'⟩; rw [hb]; have C2 : Chg (fun _ => False) w w2 := (Chg.refl (fun _ => False) w).drew.then_ C2'; have HP2 := keepH (HP.out.chg C2 (fun x => x)); have HC2 : Hid (Chg (fun k => k = p) w w2) := C2.mono (fun _ _ x => x.elim); have hS5 : w2.cell? ⟨p, 2, none⟩ = some (.int .u64 (F : Int)) ∧ w2.cell? ⟨p, 3, none⟩ = some (.slice q l.length c) ∧ w2.cell? ⟨p, 5, none⟩ = some (.int .u64 (sx : Int)) := ⟨cell_of HP2.out 2, cell_of HP2.out 3, cell_of HP2.out 5⟩; clear C2 C2') | fail)
  have g9 : w2.cell? ⟨p, 9, none⟩ = some (.int .u64 (cnt : Int)) := cell_of HP2.out 9
  have g0 : w2.cell? ⟨p, 0, none⟩ = some (.int .i64 4) := cell_of HP2.out 0
  have k9 := free_of HP2.out 9
  have k0 := free_of HP2.out 0
  have H3 : Hid (IsRC (w2.setCell ⟨p, 9, none⟩ (.int .u64 (cn : Int))) p F (.slice q l.length c) ⟨4, obj, x, sx, y, y0, nx, cn, head, Cnt, Hd⟩) := set_of HP2.out 9 _
  go_wp2_with fail
  go_ret
  exact ⟨by simp, set_of H3.out 0 _, w, HR.out, (HC2.out.put _).put _⟩

set_option maxRecDepth 100000 in
set_option maxHeartbeats 2000000 in
theorem rc_4T (p F : Nat) (q : Option Addr) (c : Nat) (l : List Nat) (mv : Value) (th : Int) (obj x sx y y0 nx cnt head Cnt Hd : Nat) (W : World) (h : IsRC W p F (.slice q l.length c) ⟨4, obj, x, sx, y, y0, nx, cnt, head, Cnt, Hd⟩) (hl : l.length < 4611686018427387904) (a : Nat) (ha : IntKind.u64.wrap ((y : Int) + 1) = (a : Int)) (v : Nat) (R : World → Prop) (hL : Calls Try.prog 38 #[mv, .int .i64 th, .int .u64 (a : Int)] W fun e w => e = .returned (.int .u64 (v : Int)) ∧ R w) (hK : ∀ w, R w → IsRC w p F (.slice q l.length c) ⟨4, obj, x, sx, y, y0, nx, cnt, head, Cnt, Hd⟩ ∧ U64At w q l ∧ ∀ bk off, q = some ⟨bk, off, none⟩ → l ≠ [] → bk ≠ p) (hb : ndN F l v sx = true) (t : RCut) (ht : RCut.enough ⟨4, obj, x, sx, y, y0, nx, cnt, head, Cnt, Hd⟩ v = t) :
    Calls Try.prog 16 #[.pointer (some ⟨p, 0, none⟩), mv, .int .i64 th] W fun e W' => e = .returned (.bool (decide (t.pos = 9))) ∧ IsRC W' p F (.slice q l.length c) t ∧ ∃ w, R w ∧ Chg (fun k => k = p) w W' := by
  have c6 : W.cell? ⟨p, 6, none⟩ = some (.int .u64 (y : Int)) := cell_of h 6
  have c0 : W.cell? ⟨p, 0, none⟩ = some (.int .i64 4) := cell_of h 0
  have HL := keepH hL
  have HK := keepH hK
  clear hL hK h
  go_enter Try.func16, Try.ntmps16
  go_wp2_with fail
  refine HL.out.mono ?_
  rintro e w ⟨rfl, hR⟩
  obtain ⟨hP, hU, hq⟩ := HK.out w hR
  have HP := keepH hP
  have HQ := keepH hq
  have HR := keepH hR
  have HUd : Hid (U64At w.drew q l) := hU.chg ((Chg.refl (fun _ => False) w).drew) (fun _ _ _ _ x => x)
  clear hR HK HL hP hU hq
  go_upto_region 23 with fail
  have HS0 : Hid (w.cell? ⟨p, 2, none⟩ = some (.int .u64 (F : Int)) ∧ w.cell? ⟨p, 3, none⟩ = some (.slice q l.length c) ∧ w.cell? ⟨p, 5, none⟩ = some (.int .u64 (sx : Int))) := ⟨cell_of HP.out 2, cell_of HP.out 3, cell_of HP.out 5⟩
  go_region_held3 (fun w' => w'.cell? ⟨p, 2, none⟩ = some (.int .u64 (F : Int)) ∧ w'.cell? ⟨p, 3, none⟩ = some (.slice q l.length c) ∧ w'.cell? ⟨p, 5, none⟩ = some (.int .u64 (sx : Int))) (first | exact HS0.out | exact hS5) (first | (go_at_call 8; refine (r_needed F v sx q c l w.drew HUd.out hl).mono ?_; rintro e w2 ⟨rfl, C2'⟩; rw [hb]; have C2 : Chg (fun _ => False) w w2 := (Chg.refl (fun _ => False) w).drew.then_ C2'; have HP2 := keepH (HP.out.chg C2 (fun x => x)); have HC2 : Hid (Chg (fun k => k = p) w w2) := C2.mono (fun _ _ x => x.elim); have hS5 : w2.cell? ⟨p, 2, none⟩ = some (.int .u64 (F : Int)) ∧ w2.cell? ⟨p, 3, none⟩ = some (.slice q l.length c) ∧ w2.cell? ⟨p, 5, none⟩ = some (.int .u64 (sx : Int)) := ⟨cell_of HP2.out 2, cell_of HP2.out 3, cell_of HP2.out 5⟩; clear C2 C2') | fail)
  go_wp2_with fail
  refine (rc_enough v p F (.slice q l.length c) ⟨4, obj, x, sx, y, y0, nx, cnt, head, Cnt, Hd⟩ _ HP2.out).mono ?_
  rintro e w3 ⟨rfl, hT, hC⟩
  rw [ht] at hT
  have HT := keepH hT
  have HC := keepH (HC2.out.then_ hC)
  clear hT hC ht
  obtain ⟨post, objt, xt, sxt, yt, y0t, nxt, cntt, headt, Cntt, Hdt⟩ := t
  have z0 : w3.cell? ⟨p, 0, none⟩ = some (.int .i64 (post : Int)) := cell_of HT.out 0
  by_cases h9 : post = 9
  · have e9 : ((post : Int) == 9) = true := by simp [h9]
    have dd : decide (post = 9) = true := decide_eq_true h9
    clear h9
    go_wp2_with fail
    go_ret
    exact ⟨by simp, HT.out, w, HR.out, HC.out⟩
  · have e9 : ((post : Int) == 9) = false := beq_eq_false_iff_ne.2 (by omega)
    have dd : decide (post = 9) = false := decide_eq_false h9
    clear h9
    go_wp2_with fail
    go_ret
    exact ⟨by simp, HT.out, w, HR.out, HC.out⟩

set_option maxRecDepth 100000 in
set_option maxHeartbeats 2000000 in
theorem rc_6 (p F : Nat) (sv mv : Value) (th : Int) (obj x sx y y0 nx cnt head Cnt Hd : Nat) (W : World) (h : IsRC W p F sv ⟨6, obj, x, sx, y, y0, nx, cnt, head, Cnt, Hd⟩) (a : Nat) (ha : IntKind.u64.wrap ((x : Int) + 2) = (a : Int)) (R : World → Prop) (hL : Calls Try.prog 13 #[mv, .int .i64 th, .int .u64 (a : Int), .int .u64 (y : Int)] W.drew fun e w => e = .returned (.tuple #[]) ∧ R w) (hK : ∀ w, R w → IsRC w p F sv ⟨6, obj, x, sx, y, y0, nx, cnt, head, Cnt, Hd⟩) :
    Calls Try.prog 16 #[.pointer (some ⟨p, 0, none⟩), mv, .int .i64 th] W fun e W' => e = .returned (.bool (decide (y = 0))) ∧ IsRC W' p F sv (if y = 0 then RCut.fin ⟨3, obj, x, sx, y, y0, nx, cnt, head, Cnt, Hd⟩ else ⟨3, obj, y, nx, y, y0, nx, cnt, head, Cnt, Hd⟩) ∧ ∃ w, R w ∧ Chg (fun k => k = p) w W' := by
  by_cases h0 : y = 0
  · have e0 : ((y : Int) == 0) = true := by simp [h0]
    rw [if_pos h0, decide_eq_true h0]
    clear h0
    have c4 : W.cell? ⟨p, 4, none⟩ = some (.int .u64 (x : Int)) := cell_of h 4
    have c6 : W.cell? ⟨p, 6, none⟩ = some (.int .u64 (y : Int)) := cell_of h 6
    have c0 : W.cell? ⟨p, 0, none⟩ = some (.int .i64 6) := cell_of h 0
    have HL := keepH hL
    have HK := keepH hK
    clear hL hK
    go_enter Try.func16, Try.ntmps16
    go_upto_region 33 with fail
    have HS0 : Hid (W.cell? ⟨p, 4, none⟩ = some (.int .u64 (x : Int)) ∧ W.cell? ⟨p, 6, none⟩ = some (.int .u64 (y : Int))) := ⟨cell_of h 4, cell_of h 6⟩
    clear h c4 c6
    go_region_held3 (fun w' => w'.cell? ⟨p, 4, none⟩ = some (.int .u64 (x : Int)) ∧ w'.cell? ⟨p, 6, none⟩ = some (.int .u64 (y : Int))) (first | exact HS0.out | exact hS5) (first | (go_at_call 13; refine HL.out.mono ?_; rintro e w ⟨rfl, hR⟩; have HP := keepH (HK.out w hR); have HR := keepH hR; have hS5 : w.cell? ⟨p, 4, none⟩ = some (.int .u64 (x : Int)) ∧ w.cell? ⟨p, 6, none⟩ = some (.int .u64 (y : Int)) := ⟨cell_of HP.out 4, cell_of HP.out 6⟩; clear hR) | fail)
    have d0 : w.cell? ⟨p, 0, none⟩ = some (.int .i64 6) := cell_of HP.out 0
    have d6 : w.cell? ⟨p, 6, none⟩ = some (.int .u64 (y : Int)) := cell_of HP.out 6
    have f0 := free_of HP.out 0
    obtain ⟨w1, hw1⟩ : ∃ w1, w1 = (w.setCell ⟨p, 0, none⟩ (.int .i64 3)) := ⟨_, rfl⟩
    have H1 : Hid (IsRC w1 p F sv ⟨3, obj, x, sx, y, y0, nx, cnt, head, Cnt, Hd⟩) := by rw [hw1]; exact set_of HP.out 0 _
    have C1 : Hid (Chg (fun k => k = p) w w1) := by rw [hw1]; exact setP _
    have g6 : w1.cell? ⟨p, 6, none⟩ = some (.int .u64 (y : Int)) := cell_of H1.out 6
    have g8 : w1.cell? ⟨p, 8, none⟩ = some (.int .u64 (nx : Int)) := cell_of H1.out 8
    have g4 : w1.cell? ⟨p, 4, none⟩ = some (.int .u64 (x : Int)) := cell_of H1.out 4
    have g5 : w1.cell? ⟨p, 5, none⟩ = some (.int .u64 (sx : Int)) := cell_of H1.out 5
    have g0 : w1.cell? ⟨p, 0, none⟩ = some (.int .i64 3) := cell_of H1.out 0
    have k4 := free_of H1.out 4
    have k5 := free_of H1.out 5
    have HW1 := keepH hw1
    clear hw1
    go_upto_region 35 with fail
    rw [← HW1.out]
    clear HW1 d0 d6 f0
    go_wp2_with fail
    refine (rc_end p F sv ⟨3, obj, x, sx, y, y0, nx, cnt, head, Cnt, Hd⟩ _ H1.out).mono ?_
    rintro e w3 ⟨rfl, h3, c3⟩
    have H33 := keepH h3
    have C33 := keepH c3
    have z0 : w3.cell? ⟨p, 0, none⟩ = some (.int .i64 9) := cell_of h3 0
    clear h3 c3
    go_wp2_with fail
    go_ret
    exact ⟨by simp, H33.out, w, HR.out, C1.out.then_ C33.out⟩
  · have e0 : ((y : Int) == 0) = false := beq_eq_false_iff_ne.2 (by omega)
    rw [if_neg h0, decide_eq_false h0]
    clear h0
    have c4 : W.cell? ⟨p, 4, none⟩ = some (.int .u64 (x : Int)) := cell_of h 4
    have c6 : W.cell? ⟨p, 6, none⟩ = some (.int .u64 (y : Int)) := cell_of h 6
    have c0 : W.cell? ⟨p, 0, none⟩ = some (.int .i64 6) := cell_of h 0
    have HL := keepH hL
    have HK := keepH hK
    clear hL hK
    go_enter Try.func16, Try.ntmps16
    go_upto_region 33 with fail
    have HS0 : Hid (W.cell? ⟨p, 4, none⟩ = some (.int .u64 (x : Int)) ∧ W.cell? ⟨p, 6, none⟩ = some (.int .u64 (y : Int))) := ⟨cell_of h 4, cell_of h 6⟩
    clear h c4 c6
    go_region_held3 (fun w' => w'.cell? ⟨p, 4, none⟩ = some (.int .u64 (x : Int)) ∧ w'.cell? ⟨p, 6, none⟩ = some (.int .u64 (y : Int))) (first | exact HS0.out | exact hS5) (first | (go_at_call 13; refine HL.out.mono ?_; rintro e w ⟨rfl, hR⟩; have HP := keepH (HK.out w hR); have HR := keepH hR; have hS5 : w.cell? ⟨p, 4, none⟩ = some (.int .u64 (x : Int)) ∧ w.cell? ⟨p, 6, none⟩ = some (.int .u64 (y : Int)) := ⟨cell_of HP.out 4, cell_of HP.out 6⟩; clear hR) | fail)
    have d0 : w.cell? ⟨p, 0, none⟩ = some (.int .i64 6) := cell_of HP.out 0
    have d6 : w.cell? ⟨p, 6, none⟩ = some (.int .u64 (y : Int)) := cell_of HP.out 6
    have f0 := free_of HP.out 0
    obtain ⟨w1, hw1⟩ : ∃ w1, w1 = (w.setCell ⟨p, 0, none⟩ (.int .i64 3)) := ⟨_, rfl⟩
    have H1 : Hid (IsRC w1 p F sv ⟨3, obj, x, sx, y, y0, nx, cnt, head, Cnt, Hd⟩) := by rw [hw1]; exact set_of HP.out 0 _
    have C1 : Hid (Chg (fun k => k = p) w w1) := by rw [hw1]; exact setP _
    have g6 : w1.cell? ⟨p, 6, none⟩ = some (.int .u64 (y : Int)) := cell_of H1.out 6
    have g8 : w1.cell? ⟨p, 8, none⟩ = some (.int .u64 (nx : Int)) := cell_of H1.out 8
    have g4 : w1.cell? ⟨p, 4, none⟩ = some (.int .u64 (x : Int)) := cell_of H1.out 4
    have g5 : w1.cell? ⟨p, 5, none⟩ = some (.int .u64 (sx : Int)) := cell_of H1.out 5
    have g0 : w1.cell? ⟨p, 0, none⟩ = some (.int .i64 3) := cell_of H1.out 0
    have k4 := free_of H1.out 4
    have k5 := free_of H1.out 5
    have HW1 := keepH hw1
    clear hw1
    go_upto_region 35 with fail
    rw [← HW1.out]
    clear HW1 d0 d6 f0
    go_upto_region 37 with fail
    obtain ⟨w4, hw4⟩ : ∃ w4, w4 = (((w1.setCell ⟨p, 4, none⟩ (.int .u64 (y : Int))).setCell ⟨p, 5, none⟩ (.int .u64 (nx : Int)))).drew := ⟨_, rfl⟩
    have H4 : Hid (IsRC w4 p F sv ⟨3, obj, y, nx, y, y0, nx, cnt, head, Cnt, Hd⟩) := by rw [hw4]; exact set_of (set_of H1.out 4 _) 5 _
    have C4 : Hid (Chg (fun k => k = p) w w4) := by rw [hw4]; exact ((C1.out.put _).put _).drew
    have z0 : w4.cell? ⟨p, 0, none⟩ = some (.int .i64 3) := cell_of H4.out 0
    have HW4 := keepH hw4
    clear hw4
    go_region
    rw [← HW4.out]
    clear HW4
    go_wp2_with fail
    go_ret
    exact ⟨by simp, H4.out, w, HR.out, C4.out⟩

end Go.Proofs.Ytciohnfbjaglbaa
