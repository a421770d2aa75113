/- A Cut's steps, over any view. -/
import Derived.Deep.RegionHeld3
import Derived.Test.YtbjebnkfecjpnaaKcG
namespace Go.Proofs.Ytbjebnkfecjpnaa
open Go.RowKit Go.Shelf
set_option linter.unusedVariables false

set_option maxRecDepth 100000 in
set_option maxHeartbeats 2000000 in
theorem k_s0 (p F : Nat) (sv v : Value) (obj head cnt kept kst first asked ast : Nat) (W : World) (h : IsCut W p F sv ⟨obj, 0, head, cnt, kept, kst, first, asked, ast⟩) (x : Nat) (R : World → Prop) (hL : Calls Try.prog 39 #[v, .int .u64 (obj : Int)] W fun e w => e = .returned (.int .u64 (x : Int)) ∧ R w) (hK : ∀ w, R w → IsCut w p F sv ⟨obj, 0, head, cnt, kept, kst, first, asked, ast⟩) :
    Calls Try.prog 16 #[.pointer (some ⟨p, 0, none⟩), v] W fun e W' => e = .returned (.bool (decide (x = 0))) ∧ IsCut W' p F sv ⟨obj, (if x = 0 then 7 else 1), head, cnt, x, kst, first, asked, ast⟩ ∧ ∃ w, R w ∧ Chg (fun k => k = p) w W' := by
  by_cases h0 : x = 0
  · have e0 : ((x : Int) == 0) = true := by simp [h0]
    rw [if_pos h0, decide_eq_true h0]
    clear h0
    have c0 : W.cell? ⟨p, 0, none⟩ = some (.int .u64 (obj : Int)) := cell_of h 0
    have c3 : W.cell? ⟨p, 3, none⟩ = some (.int .u8 0) := cell_of h 3
    have HL := keepH hL
    have HK := keepH hK
    clear hL hK h
    go_enter Try.func16, Try.ntmps16
    go_wp2_with fail
    refine HL.out.mono ?_
    rintro e w ⟨rfl, hR⟩
    have HP := keepH (HK.out w hR)
    have HR := keepH hR
    clear hR HK HL
    have d6 : w.cell? ⟨p, 6, none⟩ = some (.int .u64 (kept : Int)) := cell_of HP.out 6
    have d3 : w.cell? ⟨p, 3, none⟩ = some (.int .u8 (0 : Int)) := cell_of HP.out 3
    have f6 := free_of HP.out 6
    have f3 := free_of HP.out 3
    have H1 : Hid (IsCut (w.setCell ⟨p, 6, none⟩ (.int .u64 (x : Int))) p F sv ⟨obj, 0, head, cnt, x, kst, first, asked, ast⟩) := set_of HP.out 6 _
    have H2 : Hid (IsCut ((w.setCell ⟨p, 6, none⟩ (.int .u64 (x : Int))).setCell ⟨p, 3, none⟩ (.int .u8 1)) p F sv ⟨obj, 1, head, cnt, x, kst, first, asked, ast⟩) := set_of H1.out 3 _
    have q3 : ((w.setCell ⟨p, 6, none⟩ (.int .u64 (x : Int))).setCell ⟨p, 3, none⟩ (.int .u8 1)).cell? ⟨p, 3, none⟩ = some (.int .u8 1) := cell_of H2.out 3
    have q6 : ((w.setCell ⟨p, 6, none⟩ (.int .u64 (x : Int))).setCell ⟨p, 3, none⟩ (.int .u8 1)).cell? ⟨p, 6, none⟩ = some (.int .u64 (x : Int)) := cell_of H2.out 6
    have r6 : (w.setCell ⟨p, 6, none⟩ (.int .u64 (x : Int))).cell? ⟨p, 6, none⟩ = some (.int .u64 (x : Int)) := cell_of H1.out 6
    have q7 : (((w.setCell ⟨p, 6, none⟩ (.int .u64 (x : Int))).setCell ⟨p, 3, none⟩ (.int .u8 1)).setCell ⟨p, 3, none⟩ (.int .u8 7)).cell? ⟨p, 3, none⟩ = some (.int .u8 7) := cell_of (set_of H2.out 3 _) 3
    go_wp2_with fail
    go_ret
    exact ⟨by simp, set_of H2.out 3 _, w, HR.out, ((setP _).put _).put _⟩
  · have e0 : ((x : Int) == 0) = false := by simp [h0]
    rw [if_neg h0, decide_eq_false h0]
    clear h0
    have c0 : W.cell? ⟨p, 0, none⟩ = some (.int .u64 (obj : Int)) := cell_of h 0
    have c3 : W.cell? ⟨p, 3, none⟩ = some (.int .u8 0) := cell_of h 3
    have HL := keepH hL
    have HK := keepH hK
    clear hL hK h
    go_enter Try.func16, Try.ntmps16
    go_wp2_with fail
    refine HL.out.mono ?_
    rintro e w ⟨rfl, hR⟩
    have HP := keepH (HK.out w hR)
    have HR := keepH hR
    clear hR HK HL
    have d6 : w.cell? ⟨p, 6, none⟩ = some (.int .u64 (kept : Int)) := cell_of HP.out 6
    have d3 : w.cell? ⟨p, 3, none⟩ = some (.int .u8 (0 : Int)) := cell_of HP.out 3
    have f6 := free_of HP.out 6
    have f3 := free_of HP.out 3
    have H1 : Hid (IsCut (w.setCell ⟨p, 6, none⟩ (.int .u64 (x : Int))) p F sv ⟨obj, 0, head, cnt, x, kst, first, asked, ast⟩) := set_of HP.out 6 _
    have H2 : Hid (IsCut ((w.setCell ⟨p, 6, none⟩ (.int .u64 (x : Int))).setCell ⟨p, 3, none⟩ (.int .u8 1)) p F sv ⟨obj, 1, head, cnt, x, kst, first, asked, ast⟩) := set_of H1.out 3 _
    have q3 : ((w.setCell ⟨p, 6, none⟩ (.int .u64 (x : Int))).setCell ⟨p, 3, none⟩ (.int .u8 1)).cell? ⟨p, 3, none⟩ = some (.int .u8 1) := cell_of H2.out 3
    have q6 : ((w.setCell ⟨p, 6, none⟩ (.int .u64 (x : Int))).setCell ⟨p, 3, none⟩ (.int .u8 1)).cell? ⟨p, 6, none⟩ = some (.int .u64 (x : Int)) := cell_of H2.out 6
    have r6 : (w.setCell ⟨p, 6, none⟩ (.int .u64 (x : Int))).cell? ⟨p, 6, none⟩ = some (.int .u64 (x : Int)) := cell_of H1.out 6
    go_wp2_with fail
    go_ret
    exact ⟨by simp, H2.out, w, HR.out, (setP _).put _⟩

set_option maxRecDepth 100000 in
set_option maxHeartbeats 2000000 in
theorem k_s1 (p F : Nat) (sv v : Value) (obj head cnt kept kst first asked ast : Nat) (W : World) (h : IsCut W p F sv ⟨obj, 1, head, cnt, kept, kst, first, asked, ast⟩) (a x : Nat) (ha : IntKind.u64.wrap ((kept : Int) + 1) = (a : Int)) (R : World → Prop) (hL : Calls Try.prog 39 #[v, .int .u64 (a : Int)] W fun e w => e = .returned (.int .u64 (x : Int)) ∧ R w) (hK : ∀ w, R w → IsCut w p F sv ⟨obj, 1, head, cnt, kept, kst, first, asked, ast⟩) :
    Calls Try.prog 16 #[.pointer (some ⟨p, 0, none⟩), v] W fun e W' => e = .returned (.bool false) ∧ IsCut W' p F sv ⟨obj, 2, head, cnt, kept, (if x = 0 then 18446744073709551615 else x), first, asked, ast⟩ ∧ ∃ w, R w ∧ Chg (fun k => k = p) w W' := by
  by_cases h0 : x = 0
  · have e0 : ((x : Int) == 0) = true := by simp [h0]
    rw [if_pos h0]
    clear h0
    have c6 : W.cell? ⟨p, 6, none⟩ = some (.int .u64 (kept : Int)) := cell_of h 6
    have c3 : W.cell? ⟨p, 3, none⟩ = some (.int .u8 1) := cell_of h 3
    have HL := keepH hL
    have HK := keepH hK
    clear hL hK h
    go_enter Try.func16, Try.ntmps16
    go_wp2_with fail
    refine HL.out.mono ?_
    rintro e w ⟨rfl, hR⟩
    have HP := keepH (HK.out w hR)
    have HR := keepH hR
    clear hR HK HL
    have d7 : w.cell? ⟨p, 7, none⟩ = some (.int .u64 (kst : Int)) := cell_of HP.out 7
    have d3 : w.cell? ⟨p, 3, none⟩ = some (.int .u8 1) := cell_of HP.out 3
    have f7 := free_of HP.out 7
    have f3 := free_of HP.out 3
    have H1 : Hid (IsCut (w.setCell ⟨p, 7, none⟩ (.int .u64 (x : Int))) p F sv ⟨obj, 1, head, cnt, kept, x, first, asked, ast⟩) := set_of HP.out 7 _
    have H2 : Hid (IsCut ((w.setCell ⟨p, 7, none⟩ (.int .u64 (x : Int))).setCell ⟨p, 7, none⟩ (.int .u64 18446744073709551615)) p F sv ⟨obj, 1, head, cnt, kept, 18446744073709551615, first, asked, ast⟩) := set_of H1.out 7 _
    go_wp2_with fail
    go_ret
    exact ⟨by simp, set_of H2.out 3 _, w, HR.out, ((setP _).put _).put _⟩
  · have e0 : ((x : Int) == 0) = false := by simp [h0]
    rw [if_neg h0]
    clear h0
    have c6 : W.cell? ⟨p, 6, none⟩ = some (.int .u64 (kept : Int)) := cell_of h 6
    have c3 : W.cell? ⟨p, 3, none⟩ = some (.int .u8 1) := cell_of h 3
    have HL := keepH hL
    have HK := keepH hK
    clear hL hK h
    go_enter Try.func16, Try.ntmps16
    go_wp2_with fail
    refine HL.out.mono ?_
    rintro e w ⟨rfl, hR⟩
    have HP := keepH (HK.out w hR)
    have HR := keepH hR
    clear hR HK HL
    have d7 : w.cell? ⟨p, 7, none⟩ = some (.int .u64 (kst : Int)) := cell_of HP.out 7
    have d3 : w.cell? ⟨p, 3, none⟩ = some (.int .u8 1) := cell_of HP.out 3
    have f7 := free_of HP.out 7
    have f3 := free_of HP.out 3
    have H1 : Hid (IsCut (w.setCell ⟨p, 7, none⟩ (.int .u64 (x : Int))) p F sv ⟨obj, 1, head, cnt, kept, x, first, asked, ast⟩) := set_of HP.out 7 _
    go_wp2_with fail
    go_ret
    exact ⟨by simp, set_of H1.out 3 _, w, HR.out, (setP _).put _⟩

set_option maxRecDepth 100000 in
set_option maxHeartbeats 2000000 in
theorem k_s2 (p F : Nat) (sv v : Value) (obj head cnt kept kst first asked ast : Nat) (W : World) (h : IsCut W p F sv ⟨obj, 2, head, cnt, kept, kst, first, asked, ast⟩) (x : Nat) (R : World → Prop) (hL : Calls Try.prog 39 #[v, .int .u64 (kept : Int)] W fun e w => e = .returned (.int .u64 (x : Int)) ∧ R w) (hK : ∀ w, R w → IsCut w p F sv ⟨obj, 2, head, cnt, kept, kst, first, asked, ast⟩) :
    Calls Try.prog 16 #[.pointer (some ⟨p, 0, none⟩), v] W fun e W' => e = .returned (.bool false) ∧ IsCut W' p F sv ⟨obj, 3, x, cnt, kept, kst, first, asked, ast⟩ ∧ ∃ w, R w ∧ Chg (fun k => k = p) w W' := by
  have c6 : W.cell? ⟨p, 6, none⟩ = some (.int .u64 (kept : Int)) := cell_of h 6
  have c3 : W.cell? ⟨p, 3, none⟩ = some (.int .u8 2) := cell_of h 3
  have HL := keepH hL
  have HK := keepH hK
  clear hL hK h
  go_enter Try.func16, Try.ntmps16
  go_wp2_with fail
  refine HL.out.mono ?_
  rintro e w ⟨rfl, hR⟩
  have HP := keepH (HK.out w hR)
  have HR := keepH hR
  clear hR HK HL
  have d4 : w.cell? ⟨p, 4, none⟩ = some (.int .u64 (head : Int)) := cell_of HP.out 4
  have d3 : w.cell? ⟨p, 3, none⟩ = some (.int .u8 2) := cell_of HP.out 3
  have f4 := free_of HP.out 4
  have f3 := free_of HP.out 3
  have H1 : Hid (IsCut (w.setCell ⟨p, 4, none⟩ (.int .u64 (x : Int))) p F sv ⟨obj, 2, x, cnt, kept, kst, first, asked, ast⟩) := set_of HP.out 4 _
  go_wp2_with fail
  go_ret
  exact ⟨by simp, set_of H1.out 3 _, w, HR.out, (setP _).put _⟩

set_option maxRecDepth 100000 in
set_option maxHeartbeats 2000000 in
theorem k_s3 (p F : Nat) (sv v : Value) (obj head cnt kept kst first asked ast : Nat) (W : World) (t : CutS) (h : IsCut W p F sv ⟨obj, 3, head, cnt, kept, kst, first, asked, ast⟩) (a x : Nat) (ha : IntKind.u64.wrap ((kept : Int) + 2) = (a : Int)) (R : World → Prop) (hL : Calls Try.prog 39 #[v, .int .u64 (a : Int)] W fun e w => e = .returned (.int .u64 (x : Int)) ∧ R w) (hK : ∀ w, R w → IsCut w p F sv ⟨obj, 3, head, cnt, kept, kst, first, asked, ast⟩) (ht : CutS.ask ⟨obj, 3, head, cnt, kept, kst, x, asked, ast⟩ x = t) :
    Calls Try.prog 16 #[.pointer (some ⟨p, 0, none⟩), v] W fun e W' => e = .returned (.bool (decide (t.nx = 7))) ∧ IsCut W' p F sv t ∧ ∃ w, R w ∧ Chg (fun k => k = p) w W' := by
  have c6 : W.cell? ⟨p, 6, none⟩ = some (.int .u64 (kept : Int)) := cell_of h 6
  have c3 : W.cell? ⟨p, 3, none⟩ = some (.int .u8 3) := cell_of h 3
  have HL := keepH hL
  have HK := keepH hK
  clear hL hK h
  go_enter Try.func16, Try.ntmps16
  go_wp2_with fail
  refine HL.out.mono ?_
  rintro e w ⟨rfl, hR⟩
  have HP := keepH (HK.out w hR)
  have HR := keepH hR
  clear hR HK HL
  have d8 : w.cell? ⟨p, 8, none⟩ = some (.int .u64 (first : Int)) := cell_of HP.out 8
  have d3 : w.cell? ⟨p, 3, none⟩ = some (.int .u8 3) := cell_of HP.out 3
  have f8 := free_of HP.out 8
  have f3 := free_of HP.out 3
  have H1 : Hid (IsCut (w.setCell ⟨p, 8, none⟩ (.int .u64 (x : Int))) p F sv ⟨obj, 3, head, cnt, kept, kst, x, asked, ast⟩) := set_of HP.out 8 _
  have q8 : (w.setCell ⟨p, 8, none⟩ (.int .u64 (x : Int))).cell? ⟨p, 8, none⟩ = some (.int .u64 (x : Int)) := cell_of H1.out 8
  go_wp2_with fail
  refine (k_ask x p F sv ⟨obj, 3, head, cnt, kept, kst, x, asked, ast⟩ _ H1.out).mono ?_
  rintro e w2 ⟨rfl, hT, hC⟩
  have HT := keepH hT
  have HC := keepH ((setP (i := 8) (W := w) (p := p) (.int .u64 (x : Int))).then_ hC)
  clear hT hC
  rw [ht] at HT
  clear ht
  obtain ⟨obj2, nx2, head2, cnt2, kept2, kst2, first2, asked2, ast2⟩ := t
  have z3 : w2.cell? ⟨p, 3, none⟩ = some (.int .u8 (nx2 : Int)) := cell_of HT.out 3
  by_cases h7 : nx2 = 7
  · have e7 : ((nx2 : Int) == 7) = true := by simp [h7]
    have dd : decide (nx2 = 7) = true := decide_eq_true h7
    clear h7
    go_wp2_with fail
    go_ret
    exact ⟨by simp, HT.out, w, HR.out, HC.out⟩
  · have e7 : ((nx2 : Int) == 7) = false := beq_eq_false_iff_ne.2 (by omega)
    have dd : decide (nx2 = 7) = false := decide_eq_false h7
    clear h7
    go_wp2_with fail
    go_ret
    exact ⟨by simp, HT.out, w, HR.out, HC.out⟩

set_option maxRecDepth 100000 in
set_option maxHeartbeats 2000000 in
theorem k_s5 (p F : Nat) (sv v : Value) (obj head cnt kept kst first asked ast : Nat) (W : World) (t : CutS) (h : IsCut W p F sv ⟨obj, 5, head, cnt, kept, kst, first, asked, ast⟩) (hcn : IntKind.u64.wrap ((cnt : Int) + 1) = ((cnt + 1 : Nat) : Int)) (a x : Nat) (ha : IntKind.u64.wrap ((asked : Int) + 2) = (a : Int)) (R : World → Prop) (hL : Calls Try.prog 39 #[v, .int .u64 (a : Int)] (W.setCell ⟨p, 5, none⟩ (.int .u64 ((cnt + 1 : Nat) : Int))) fun e w => e = .returned (.int .u64 (x : Int)) ∧ R w) (hK : ∀ w, R w → IsCut w p F sv ⟨obj, 5, head, (cnt + 1), kept, kst, first, asked, ast⟩) (ht : CutS.ask ⟨obj, 5, head, (cnt + 1), kept, kst, first, asked, ast⟩ x = t) :
    Calls Try.prog 16 #[.pointer (some ⟨p, 0, none⟩), v] W fun e W' => e = .returned (.bool (decide (t.nx = 7))) ∧ IsCut W' p F sv t ∧ ∃ w, R w ∧ Chg (fun k => k = p) w W' := by
  have c9 : W.cell? ⟨p, 9, none⟩ = some (.int .u64 (asked : Int)) := cell_of h 9
  have c5 : W.cell? ⟨p, 5, none⟩ = some (.int .u64 (cnt : Int)) := cell_of h 5
  have c3 : W.cell? ⟨p, 3, none⟩ = some (.int .u8 5) := cell_of h 3
  have f5 := free_of h 5
  have H0 : Hid (IsCut (W.setCell ⟨p, 5, none⟩ (.int .u64 ((cnt + 1 : Nat) : Int))) p F sv ⟨obj, 5, head, (cnt + 1), kept, kst, first, asked, ast⟩) := set_of h 5 _
  have HL := keepH hL
  have HK := keepH hK
  clear hL hK h
  go_enter Try.func16, Try.ntmps16
  go_wp2_with fail
  refine HL.out.mono ?_
  rintro e w ⟨rfl, hR⟩
  have HP := keepH (HK.out w hR)
  have HR := keepH hR
  clear hR HK HL
  go_wp2_with fail
  refine (k_ask x p F sv ⟨obj, 5, head, (cnt + 1), kept, kst, first, asked, ast⟩ _ HP.out).mono ?_
  rintro e w2 ⟨rfl, hT, hC⟩
  have HT := keepH hT
  have HC := keepH hC
  clear hT hC
  rw [ht] at HT
  clear ht
  obtain ⟨obj2, nx2, head2, cnt2, kept2, kst2, first2, asked2, ast2⟩ := t
  have z3 : w2.cell? ⟨p, 3, none⟩ = some (.int .u8 (nx2 : Int)) := cell_of HT.out 3
  by_cases h7 : nx2 = 7
  · have e7 : ((nx2 : Int) == 7) = true := by simp [h7]
    have dd : decide (nx2 = 7) = true := decide_eq_true h7
    clear h7
    go_wp2_with fail
    go_ret
    exact ⟨by simp, HT.out, w, HR.out, HC.out⟩
  · have e7 : ((nx2 : Int) == 7) = false := beq_eq_false_iff_ne.2 (by omega)
    have dd : decide (nx2 = 7) = false := decide_eq_false h7
    clear h7
    go_wp2_with fail
    go_ret
    exact ⟨by simp, HT.out, w, HR.out, HC.out⟩

set_option maxRecDepth 100000 in
set_option maxHeartbeats 2000000 in
theorem k_s7 (p F : Nat) (sv v : Value) (obj head cnt kept kst first asked ast : Nat) (W : World) (h : IsCut W p F sv ⟨obj, 7, head, cnt, kept, kst, first, asked, ast⟩) :
    Calls Try.prog 16 #[.pointer (some ⟨p, 0, none⟩), v] W fun e W' => e = .returned (.bool true) ∧ W' = W := by
  have c3 : W.cell? ⟨p, 3, none⟩ = some (.int .u8 7) := cell_of h 3
  clear h
  go_enter Try.func16, Try.ntmps16
  go_wp2_with fail
  go_ret
  exact ⟨by simp, rfl⟩

end Go.Proofs.Ytbjebnkfecjpnaa
