/- A Cut's steps that ask what is needed, or store. -/
import Derived.Deep.RegionHeld3
import Derived.Test.YtbjebnkfecjpnaaKdG
namespace Go.Proofs.Ytbjebnkfecjpnaa
open Go.RowKit Go.Shelf
set_option linter.unusedVariables false

set_option maxRecDepth 100000 in
set_option maxHeartbeats 2000000 in
theorem k_s4F (p F : Nat) (q : Option Addr) (c : Nat) (l : List Nat) (v : Value) (obj head cnt kept kst first asked ast : Nat) (W : World) (h : IsCut W p F (.slice q l.length c) ⟨obj, 4, head, cnt, kept, kst, first, asked, ast⟩) (hl : l.length < 4611686018427387904) (a x : Nat) (ha : IntKind.u64.wrap ((asked : Int) + 1) = (a : Int)) (R : World → Prop) (hL : Calls Try.prog 39 #[v, .int .u64 (a : Int)] W fun e w => e = .returned (.int .u64 (x : Int)) ∧ R w) (hK : ∀ w, R w → IsCut w p F (.slice q l.length c) ⟨obj, 4, head, cnt, kept, kst, first, asked, ast⟩ ∧ U64At w q l ∧ ∀ bk off, q = some ⟨bk, off, none⟩ → l ≠ [] → bk ≠ p) (hb : ndN F l x kst = false) :
    Calls Try.prog 16 #[.pointer (some ⟨p, 0, none⟩), v] W fun e W' => e = .returned (.bool false) ∧ IsCut W' p F (.slice q l.length c) ⟨obj, 5, head, cnt, kept, kst, first, asked, x⟩ ∧ ∃ w, R w ∧ Chg (fun k => k = p) w W' := by
  have c9 : W.cell? ⟨p, 9, none⟩ = some (.int .u64 (asked : Int)) := cell_of h 9
  have c3 : W.cell? ⟨p, 3, none⟩ = some (.int .u8 4) := cell_of h 3
  have HL := keepH hL
  have HK := keepH hK
  clear hL hK h
  go_enter Try.func16, Try.ntmps16
  go_wp2_with fail
  refine HL.out.mono ?_
  rintro e w ⟨rfl, hR⟩
  obtain ⟨hP, hU, hq⟩ := HK.out w hR
  have HP := keepH hP
  have HU := keepH hU
  have HQ := keepH hq
  have HR := keepH hR
  clear hR HK HL hP hU hq
  have d10 : w.cell? ⟨p, 10, none⟩ = some (.int .u64 (ast : Int)) := cell_of HP.out 10
  have d3 : w.cell? ⟨p, 3, none⟩ = some (.int .u8 4) := cell_of HP.out 3
  have f10 := free_of HP.out 10
  have f3 := free_of HP.out 3
  obtain ⟨w1, hw1⟩ : ∃ w1, w1 = (w.setCell ⟨p, 10, none⟩ (.int .u64 (x : Int))).setCell ⟨p, 3, none⟩ (.int .u8 5) := ⟨_, rfl⟩
  have H1 : Hid (IsCut w1 p F (.slice q l.length c) ⟨obj, 5, head, cnt, kept, kst, first, asked, x⟩) := by rw [hw1]; exact set_of (set_of HP.out 10 _) 3 _
  have C1 : Hid (Chg (fun k => k = p) w w1) := by rw [hw1]; exact (setP _).put _
  have HU1 : Hid (U64At w1 q l) := HU.out.chg C1.out (fun bk off e hn => HQ.out bk off e hn)
  have HUd : Hid (U64At w1.drew q l) := HU1.out.chg ((Chg.refl (fun _ => False) w1).drew) (fun _ _ _ _ x => x)
  have HW1 := keepH hw1
  clear hw1
  go_upto_region 23 with fail
  rw [← HW1.out]
  clear HW1 d10 d3 f10 f3
  have hS0 : w1.cell? ⟨p, 1, none⟩ = some (.int .u64 (F : Int)) ∧ w1.cell? ⟨p, 2, none⟩ = some (.slice q l.length c) ∧ w1.cell? ⟨p, 10, none⟩ = some (.int .u64 (x : Int)) ∧ w1.cell? ⟨p, 7, none⟩ = some (.int .u64 (kst : Int)) := ⟨cell_of H1.out 1, cell_of H1.out 2, cell_of H1.out 10, cell_of H1.out 7⟩
  have HS0 := keepH hS0
  clear hS0
  go_region_held3 (fun w' => w'.cell? ⟨p, 1, none⟩ = some (.int .u64 (F : Int)) ∧ w'.cell? ⟨p, 2, none⟩ = some (.slice q l.length c) ∧ w'.cell? ⟨p, 10, none⟩ = some (.int .u64 (x : Int)) ∧ w'.cell? ⟨p, 7, none⟩ = some (.int .u64 (kst : Int))) (first | exact HS0.out | exact hS5) (first | (go_at_call 8; refine (k_needed F x kst q c l w1.drew HUd.out hl).mono ?_; rintro e w2 ⟨rfl, C2'⟩; rw [hb]; have C2 : Chg (fun _ => False) w1 w2 := (Chg.refl (fun _ => False) w1).drew.then_ C2'; have HP2 := keepH (H1.out.chg C2 (fun x => x)); have HC2 : Hid (Chg (fun k => k = p) w w2) := C1.out.then_ (C2.mono (fun _ _ x => x.elim)); have hS5 : w2.cell? ⟨p, 1, none⟩ = some (.int .u64 (F : Int)) ∧ w2.cell? ⟨p, 2, none⟩ = some (.slice q l.length c) ∧ w2.cell? ⟨p, 10, none⟩ = some (.int .u64 (x : Int)) ∧ w2.cell? ⟨p, 7, none⟩ = some (.int .u64 (kst : Int)) := ⟨cell_of HP2.out 1, cell_of HP2.out 2, cell_of HP2.out 10, cell_of HP2.out 7⟩; clear C2 C2') | fail)
  have z3 : w2.cell? ⟨p, 3, none⟩ = some (.int .u8 5) := cell_of HP2.out 3
  go_wp2_with fail
  go_ret
  exact ⟨by simp, HP2.out, w, HR.out, HC2.out⟩

set_option maxRecDepth 100000 in
set_option maxHeartbeats 2000000 in
theorem k_s4T (p F : Nat) (q : Option Addr) (c : Nat) (l : List Nat) (v : Value) (obj head cnt kept kst first asked ast : Nat) (W : World) (h : IsCut W p F (.slice q l.length c) ⟨obj, 4, head, cnt, kept, kst, first, asked, ast⟩) (hl : l.length < 4611686018427387904) (a x : Nat) (ha : IntKind.u64.wrap ((asked : Int) + 1) = (a : Int)) (R : World → Prop) (hL : Calls Try.prog 39 #[v, .int .u64 (a : Int)] W fun e w => e = .returned (.int .u64 (x : Int)) ∧ R w) (hK : ∀ w, R w → IsCut w p F (.slice q l.length c) ⟨obj, 4, head, cnt, kept, kst, first, asked, ast⟩ ∧ U64At w q l ∧ ∀ bk off, q = some ⟨bk, off, none⟩ → l ≠ [] → bk ≠ p) (hb : ndN F l x kst = true) (t : CutS) (ht : CutS.join ⟨obj, 5, head, cnt, kept, kst, first, asked, x⟩ = t) :
    Calls Try.prog 16 #[.pointer (some ⟨p, 0, none⟩), v] W fun e W' => e = .returned (.bool (decide (t.nx = 7))) ∧ IsCut W' p F (.slice q l.length c) t ∧ ∃ w, R w ∧ Chg (fun k => k = p) w W' := by
  have c9 : W.cell? ⟨p, 9, none⟩ = some (.int .u64 (asked : Int)) := cell_of h 9
  have c3 : W.cell? ⟨p, 3, none⟩ = some (.int .u8 4) := cell_of h 3
  have HL := keepH hL
  have HK := keepH hK
  clear hL hK h
  go_enter Try.func16, Try.ntmps16
  go_wp2_with fail
  refine HL.out.mono ?_
  rintro e w ⟨rfl, hR⟩
  obtain ⟨hP, hU, hq⟩ := HK.out w hR
  have HP := keepH hP
  have HU := keepH hU
  have HQ := keepH hq
  have HR := keepH hR
  clear hR HK HL hP hU hq
  have d10 : w.cell? ⟨p, 10, none⟩ = some (.int .u64 (ast : Int)) := cell_of HP.out 10
  have d3 : w.cell? ⟨p, 3, none⟩ = some (.int .u8 4) := cell_of HP.out 3
  have f10 := free_of HP.out 10
  have f3 := free_of HP.out 3
  obtain ⟨w1, hw1⟩ : ∃ w1, w1 = (w.setCell ⟨p, 10, none⟩ (.int .u64 (x : Int))).setCell ⟨p, 3, none⟩ (.int .u8 5) := ⟨_, rfl⟩
  have H1 : Hid (IsCut w1 p F (.slice q l.length c) ⟨obj, 5, head, cnt, kept, kst, first, asked, x⟩) := by rw [hw1]; exact set_of (set_of HP.out 10 _) 3 _
  have C1 : Hid (Chg (fun k => k = p) w w1) := by rw [hw1]; exact (setP _).put _
  have HU1 : Hid (U64At w1 q l) := HU.out.chg C1.out (fun bk off e hn => HQ.out bk off e hn)
  have HUd : Hid (U64At w1.drew q l) := HU1.out.chg ((Chg.refl (fun _ => False) w1).drew) (fun _ _ _ _ x => x)
  have HW1 := keepH hw1
  clear hw1
  go_upto_region 23 with fail
  rw [← HW1.out]
  clear HW1 d10 d3 f10 f3
  have hS0 : w1.cell? ⟨p, 1, none⟩ = some (.int .u64 (F : Int)) ∧ w1.cell? ⟨p, 2, none⟩ = some (.slice q l.length c) ∧ w1.cell? ⟨p, 10, none⟩ = some (.int .u64 (x : Int)) ∧ w1.cell? ⟨p, 7, none⟩ = some (.int .u64 (kst : Int)) := ⟨cell_of H1.out 1, cell_of H1.out 2, cell_of H1.out 10, cell_of H1.out 7⟩
  have HS0 := keepH hS0
  clear hS0
  go_region_held3 (fun w' => w'.cell? ⟨p, 1, none⟩ = some (.int .u64 (F : Int)) ∧ w'.cell? ⟨p, 2, none⟩ = some (.slice q l.length c) ∧ w'.cell? ⟨p, 10, none⟩ = some (.int .u64 (x : Int)) ∧ w'.cell? ⟨p, 7, none⟩ = some (.int .u64 (kst : Int))) (first | exact HS0.out | exact hS5) (first | (go_at_call 8; refine (k_needed F x kst q c l w1.drew HUd.out hl).mono ?_; rintro e w2 ⟨rfl, C2'⟩; rw [hb]; have C2 : Chg (fun _ => False) w1 w2 := (Chg.refl (fun _ => False) w1).drew.then_ C2'; have HP2 := keepH (H1.out.chg C2 (fun x => x)); have HC2 : Hid (Chg (fun k => k = p) w w2) := C1.out.then_ (C2.mono (fun _ _ x => x.elim)); have hS5 : w2.cell? ⟨p, 1, none⟩ = some (.int .u64 (F : Int)) ∧ w2.cell? ⟨p, 2, none⟩ = some (.slice q l.length c) ∧ w2.cell? ⟨p, 10, none⟩ = some (.int .u64 (x : Int)) ∧ w2.cell? ⟨p, 7, none⟩ = some (.int .u64 (kst : Int)) := ⟨cell_of HP2.out 1, cell_of HP2.out 2, cell_of HP2.out 10, cell_of HP2.out 7⟩; clear C2 C2') | fail)
  go_wp2_with fail
  refine (k_join p F (.slice q l.length c) ⟨obj, 5, head, cnt, kept, kst, first, asked, x⟩ _ HP2.out).mono ?_
  rintro e w3 ⟨rfl, hT, hC⟩
  rw [ht] at hT
  have HT := keepH hT
  have HC := keepH (HC2.out.then_ hC)
  clear hT hC ht
  obtain ⟨obj2, nx2, head2, cnt2, kept2, kst2, first2, asked2, ast2⟩ := t
  have z3 : w3.cell? ⟨p, 3, none⟩ = some (.int .u8 (nx2 : Int)) := cell_of HT.out 3
  by_cases h7 : nx2 = 7
  · have e7 : ((nx2 : Int) == 7) = true := by simp [h7]
    have dd : decide (nx2 = 7) = true := decide_eq_true h7
    clear h7
    go_wp2_with fail
    go_ret
    exact ⟨by simp, HT.out, w, HR.out, HC.out⟩
  · have e7 : ((nx2 : Int) == 7) = false := beq_eq_false_iff_ne.2 (by omega)
    have dd : decide (nx2 = 7) = false := decide_eq_false h7
    clear h7
    go_wp2_with fail
    go_ret
    exact ⟨by simp, HT.out, w, HR.out, HC.out⟩

set_option maxRecDepth 100000 in
set_option maxHeartbeats 2000000 in
theorem k_s6 (p F : Nat) (sv v : Value) (obj head cnt kept kst first asked ast : Nat) (W : World) (h : IsCut W p F sv ⟨obj, 6, head, cnt, kept, kst, first, asked, ast⟩) (a : Nat) (ha : IntKind.u64.wrap ((kept : Int) + 2) = (a : Int)) (R : World → Prop) (hL : Calls Try.prog 13 #[v, .int .u64 (a : Int), .int .u64 (asked : Int)] W.drew fun e w => e = .returned (.tuple #[]) ∧ R w) (hK : ∀ w, R w → IsCut w p F sv ⟨obj, 6, head, cnt, kept, kst, first, asked, ast⟩) (t : CutS) (ht : CutS.goOn ⟨obj, 6, head, cnt, kept, kst, first, asked, ast⟩ = t) :
    Calls Try.prog 16 #[.pointer (some ⟨p, 0, none⟩), v] W fun e W' => e = .returned (.bool (decide (t.nx = 7))) ∧ IsCut W' p F sv t ∧ ∃ w, R w ∧ Chg (fun k => k = p) w W' := by
  have c6 : W.cell? ⟨p, 6, none⟩ = some (.int .u64 (kept : Int)) := cell_of h 6
  have c9 : W.cell? ⟨p, 9, none⟩ = some (.int .u64 (asked : Int)) := cell_of h 9
  have c3 : W.cell? ⟨p, 3, none⟩ = some (.int .u8 6) := cell_of h 3
  have HL := keepH hL
  have HK := keepH hK
  clear hL hK
  go_enter Try.func16, Try.ntmps16
  go_upto_region 29 with fail
  have hS0 : W.cell? ⟨p, 6, none⟩ = some (.int .u64 (kept : Int)) ∧ W.cell? ⟨p, 9, none⟩ = some (.int .u64 (asked : Int)) := ⟨cell_of h 6, cell_of h 9⟩
  have HS0 := keepH hS0
  clear hS0 h c6 c9
  go_region_held3 (fun w' => w'.cell? ⟨p, 6, none⟩ = some (.int .u64 (kept : Int)) ∧ w'.cell? ⟨p, 9, none⟩ = some (.int .u64 (asked : Int))) (first | exact HS0.out | exact hS5) (first | (go_at_call 13; refine HL.out.mono ?_; rintro e w ⟨rfl, hR⟩; have HP := keepH (HK.out w hR); have HR := keepH hR; have hS5 : w.cell? ⟨p, 6, none⟩ = some (.int .u64 (kept : Int)) ∧ w.cell? ⟨p, 9, none⟩ = some (.int .u64 (asked : Int)) := ⟨cell_of HP.out 6, cell_of HP.out 9⟩; clear hR) | fail)
  go_wp2_with fail
  refine (k_goOn p F sv ⟨obj, 6, head, cnt, kept, kst, first, asked, ast⟩ _ HP.out).mono ?_
  rintro e w3 ⟨rfl, hT, hC⟩
  rw [ht] at hT
  have HT := keepH hT
  have HC := keepH hC
  clear hT hC ht
  obtain ⟨obj2, nx2, head2, cnt2, kept2, kst2, first2, asked2, ast2⟩ := t
  have z3 : w3.cell? ⟨p, 3, none⟩ = some (.int .u8 (nx2 : Int)) := cell_of HT.out 3
  by_cases h7 : nx2 = 7
  · have e7 : ((nx2 : Int) == 7) = true := by simp [h7]
    have dd : decide (nx2 = 7) = true := decide_eq_true h7
    clear h7
    go_wp2_with fail
    go_ret
    exact ⟨by simp, HT.out, w, HR.out, HC.out⟩
  · have e7 : ((nx2 : Int) == 7) = false := beq_eq_false_iff_ne.2 (by omega)
    have dd : decide (nx2 = 7) = false := decide_eq_false h7
    clear h7
    go_wp2_with fail
    go_ret
    exact ⟨by simp, HT.out, w, HR.out, HC.out⟩

end Go.Proofs.Ytbjebnkfecjpnaa
