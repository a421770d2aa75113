/- Vcas's Cas: its other ways (another value was there; another one was ahead). -/
import Derived.Test.YtadbgmcfjemkeaaVg
import Derived.Deep.RegionHeld3
namespace Go.Proofs.Ytadbgmcfjemkeaa
open Go.RowKit Go.Shelf
set_option linter.unusedVariables false

set_option maxRecDepth 100000 in
set_option maxHeartbeats 1000000 in
theorem compare_ne {W : World} {p : Nat} {t : TypeId} {l : List Value} {x old now : Nat} {z : Bool} (hp : Blk W p t l) (h8 : l[8]? = some (.int .u64 (x : Int))) (h9 : l[9]? = some (.int .u64 (old : Int))) (h10 : l[10]? = some (.int .u64 (now : Int))) (h11 : l[11]? = some (.int .u8 0)) (h13 : l[13]? = some (.bool z)) (hn : x ≠ old) :
    Calls Try.prog 82 #[.pointer (some ⟨p, 0, none⟩)] W fun e W' => e = .returned (.tuple #[]) ∧ Blk W' p t (((l.set 11 (.int .u8 1)).set 13 (.bool false)).set 11 (.int .u8 6)) ∧ Chg (fun k => k = p) W W' := by
  have c11 : W.cell? ⟨p, 11, none⟩ = some (.int .u8 0) := (hp.cell 11).trans h11
  have f11 := hp.free 11
  obtain ⟨w1, hw1⟩ : ∃ w1, w1 = W.setCell ⟨p, 11, none⟩ (.int .u8 1) := ⟨_, rfl⟩
  have P1 : Hid (Blk w1 p t (l.set 11 (.int .u8 1))) := by rw [hw1]; exact hp.set 11 _
  have HC1 : Hid (Chg (fun k => k = p) W w1) := by rw [hw1]; exact setP _
  have H8 : Hid (∀ w, Blk w p t (l.set 11 (.int .u8 1)) → w.cell? ⟨p, 8, none⟩ = some (.int .u64 (x : Int))) := fun w P => by rw [P.cell 8, List.getElem?_set_ne (by decide)]; exact h8
  have H9 : Hid (∀ w, Blk w p t (l.set 11 (.int .u8 1)) → w.cell? ⟨p, 9, none⟩ = some (.int .u64 (old : Int))) := fun w P => by rw [P.cell 9, List.getElem?_set_ne (by decide)]; exact h9
  have H13 : Hid (∀ w, Blk w p t (l.set 11 (.int .u8 1)) → w.cell? ⟨p, 13, none⟩ = some (.bool z)) := fun w P => by rw [P.cell 13, List.getElem?_set_ne (by decide)]; exact h13
  have H8' : Hid (∀ w, Blk w p t ((l.set 11 (.int .u8 1)).set 13 (.bool false)) → w.cell? ⟨p, 8, none⟩ = some (.int .u64 (x : Int))) := fun w P => by rw [P.cell 8, List.getElem?_set_ne (by decide), List.getElem?_set_ne (by decide)]; exact h8
  have H9' : Hid (∀ w, Blk w p t ((l.set 11 (.int .u8 1)).set 13 (.bool false)) → w.cell? ⟨p, 9, none⟩ = some (.int .u64 (old : Int))) := fun w P => by rw [P.cell 9, List.getElem?_set_ne (by decide), List.getElem?_set_ne (by decide)]; exact h9
  have H11' : Hid (∀ w, Blk w p t ((l.set 11 (.int .u8 1)).set 13 (.bool false)) → w.cell? ⟨p, 11, none⟩ = some (.int .u8 1)) := fun w P => by rw [P.cell 11, List.getElem?_set_ne (by decide)]; exact List.getElem?_set_self (List.getElem?_eq_some_iff.1 h11).1
  have d8 := H8.out w1 P1.out
  have d9 := H9.out w1 P1.out
  have d10 : w1.cell? ⟨p, 10, none⟩ = some (.int .u64 (now : Int)) := by rw [P1.out.cell 10, List.getElem?_set_ne (by decide)]; exact h10
  have n2 : ((x : Int) != (old : Int)) = true := bne_iff_ne.2 (by omega)
  have n3 : ((x : Int) == (old : Int)) = false := beq_eq_false_iff_ne.2 (by omega)
  have n4 : decide (x = old) = false := decide_eq_false hn
  clear hp h8 h9 h10 h11 h13 hn
  go_enter Try.func82, Try.ntmps82
  go_upto_region 1 with fail
  rw [← hw1]
  clear hw1 c11 f11
  go_quiet (fail)
  obtain ⟨w2, hw2⟩ : ∃ w2, w2 = w1.drewN nq := ⟨_, rfl⟩
  have P2 : Hid (Blk w2 p t (l.set 11 (.int .u8 1))) := by rw [hw2]; exact P1.out.chg (Goes.drewN w1 (fun _ => False) nq).chg (fun x => x)
  have HC2 : Hid (Chg (fun k => k = p) W w2) := by rw [hw2]; exact HC1.out.trans (Goes.drewN w1 (fun _ => False) nq).chg (fun _ _ x => x) (fun _ _ x => x.elim)
  rw [← hw2]
  clear hw2 d8 d9 d10 P1 HC1
  have P3 := keepH (P2.out.set 13 (.bool false))
  have HS0 : Hid (w2.cell? ⟨p, 8, none⟩ = some (.int .u64 (x : Int)) ∧ w2.cell? ⟨p, 9, none⟩ = some (.int .u64 (old : Int))) := ⟨H8.out w2 P2.out, H9.out w2 P2.out⟩
  have hS6 : (w2.setCell ⟨p, 13, none⟩ (.bool false)).cell? ⟨p, 8, none⟩ = some (.int .u64 (x : Int)) ∧ (w2.setCell ⟨p, 13, none⟩ (.bool false)).cell? ⟨p, 9, none⟩ = some (.int .u64 (old : Int)) := ⟨H8'.out _ P3.out, H9'.out _ P3.out⟩
  have e13 := H13.out w2 P2.out
  have g13 := P2.out.free 13
  have e11 := H11'.out _ P3.out
  have g11 := P3.out.free 11
  go_upto_region 2 with fail
  go_region_held3 (fun w' => w'.cell? ⟨p, 8, none⟩ = some (.int .u64 (x : Int)) ∧ w'.cell? ⟨p, 9, none⟩ = some (.int .u64 (old : Int))) (first | exact HS0.out | exact hS6) (fail)
  all_goals (
    go_wp2_with fail
    go_end0
    exact ⟨rfl, P3.out.set 11 _, (((HC2.out.trans (setP _) (fun _ _ x => x) (fun _ _ x => x)).drew).trans (setP _) (fun _ _ x => x) (fun _ _ x => x))⟩)
set_option maxRecDepth 100000 in
set_option maxHeartbeats 1000000 in
theorem compare_eq {W : World} {p : Nat} {t : TypeId} {l : List Value} {x old now : Nat} {z : Bool} (hp : Blk W p t l) (h8 : l[8]? = some (.int .u64 (x : Int))) (h9 : l[9]? = some (.int .u64 (old : Int))) (h10 : l[10]? = some (.int .u64 (now : Int))) (h11 : l[11]? = some (.int .u8 0)) (h13 : l[13]? = some (.bool z)) (hn : x = old) (hm : old = now) :
    Calls Try.prog 82 #[.pointer (some ⟨p, 0, none⟩)] W fun e W' => e = .returned (.tuple #[]) ∧ Blk W' p t (((l.set 11 (.int .u8 1)).set 13 (.bool true)).set 11 (.int .u8 6)) ∧ Chg (fun k => k = p) W W' := by
  have c11 : W.cell? ⟨p, 11, none⟩ = some (.int .u8 0) := (hp.cell 11).trans h11
  have f11 := hp.free 11
  obtain ⟨w1, hw1⟩ : ∃ w1, w1 = W.setCell ⟨p, 11, none⟩ (.int .u8 1) := ⟨_, rfl⟩
  have P1 : Hid (Blk w1 p t (l.set 11 (.int .u8 1))) := by rw [hw1]; exact hp.set 11 _
  have HC1 : Hid (Chg (fun k => k = p) W w1) := by rw [hw1]; exact setP _
  have H8 : Hid (∀ w, Blk w p t (l.set 11 (.int .u8 1)) → w.cell? ⟨p, 8, none⟩ = some (.int .u64 (x : Int))) := fun w P => by rw [P.cell 8, List.getElem?_set_ne (by decide)]; exact h8
  have H9 : Hid (∀ w, Blk w p t (l.set 11 (.int .u8 1)) → w.cell? ⟨p, 9, none⟩ = some (.int .u64 (old : Int))) := fun w P => by rw [P.cell 9, List.getElem?_set_ne (by decide)]; exact h9
  have H13 : Hid (∀ w, Blk w p t (l.set 11 (.int .u8 1)) → w.cell? ⟨p, 13, none⟩ = some (.bool z)) := fun w P => by rw [P.cell 13, List.getElem?_set_ne (by decide)]; exact h13
  have H8' : Hid (∀ w, Blk w p t ((l.set 11 (.int .u8 1)).set 13 (.bool true)) → w.cell? ⟨p, 8, none⟩ = some (.int .u64 (x : Int))) := fun w P => by rw [P.cell 8, List.getElem?_set_ne (by decide), List.getElem?_set_ne (by decide)]; exact h8
  have H9' : Hid (∀ w, Blk w p t ((l.set 11 (.int .u8 1)).set 13 (.bool true)) → w.cell? ⟨p, 9, none⟩ = some (.int .u64 (old : Int))) := fun w P => by rw [P.cell 9, List.getElem?_set_ne (by decide), List.getElem?_set_ne (by decide)]; exact h9
  have H11' : Hid (∀ w, Blk w p t ((l.set 11 (.int .u8 1)).set 13 (.bool true)) → w.cell? ⟨p, 11, none⟩ = some (.int .u8 1)) := fun w P => by rw [P.cell 11, List.getElem?_set_ne (by decide)]; exact List.getElem?_set_self (List.getElem?_eq_some_iff.1 h11).1
  have d8 := H8.out w1 P1.out
  have d9 := H9.out w1 P1.out
  have d10 : w1.cell? ⟨p, 10, none⟩ = some (.int .u64 (now : Int)) := by rw [P1.out.cell 10, List.getElem?_set_ne (by decide)]; exact h10
  have n2 : ((x : Int) != (old : Int)) = false := by subst hn; simp
  have n3 : ((x : Int) == (old : Int)) = true := by subst hn; simp
  have n4 : decide (x = old) = true := decide_eq_true hn
  have n5 : ((old : Int) == (now : Int)) = true := by subst hm; simp
  have n6 : decide (old = now) = true := decide_eq_true hm
  clear hp h8 h9 h10 h11 h13 hn hm
  go_enter Try.func82, Try.ntmps82
  go_upto_region 1 with fail
  rw [← hw1]
  clear hw1 c11 f11
  go_quiet (fail)
  obtain ⟨w2, hw2⟩ : ∃ w2, w2 = w1.drewN nq := ⟨_, rfl⟩
  have P2 : Hid (Blk w2 p t (l.set 11 (.int .u8 1))) := by rw [hw2]; exact P1.out.chg (Goes.drewN w1 (fun _ => False) nq).chg (fun x => x)
  have HC2 : Hid (Chg (fun k => k = p) W w2) := by rw [hw2]; exact HC1.out.trans (Goes.drewN w1 (fun _ => False) nq).chg (fun _ _ x => x) (fun _ _ x => x.elim)
  rw [← hw2]
  clear hw2 d8 d9 d10 P1 HC1
  have P3 := keepH (P2.out.set 13 (.bool true))
  have HS0 : Hid (w2.cell? ⟨p, 8, none⟩ = some (.int .u64 (x : Int)) ∧ w2.cell? ⟨p, 9, none⟩ = some (.int .u64 (old : Int))) := ⟨H8.out w2 P2.out, H9.out w2 P2.out⟩
  have hS6 : (w2.setCell ⟨p, 13, none⟩ (.bool true)).cell? ⟨p, 8, none⟩ = some (.int .u64 (x : Int)) ∧ (w2.setCell ⟨p, 13, none⟩ (.bool true)).cell? ⟨p, 9, none⟩ = some (.int .u64 (old : Int)) := ⟨H8'.out _ P3.out, H9'.out _ P3.out⟩
  have e13 := H13.out w2 P2.out
  have g13 := P2.out.free 13
  have e11 := H11'.out _ P3.out
  have g11 := P3.out.free 11
  go_upto_region 2 with fail
  go_region_held3 (fun w' => w'.cell? ⟨p, 8, none⟩ = some (.int .u64 (x : Int)) ∧ w'.cell? ⟨p, 9, none⟩ = some (.int .u64 (old : Int))) (first | exact HS0.out | exact hS6) (fail)
  all_goals (
    go_wp2_with fail
    go_end0
    exact ⟨rfl, P3.out.set 11 _, (((HC2.out.trans (setP _) (fun _ _ x => x) (fun _ _ x => x)).drew).trans (setP _) (fun _ _ x => x) (fun _ _ x => x))⟩)
set_option maxRecDepth 100000 in
theorem cas_readE {W : World} {p : Nat} {t : TypeId} {l l3 : List Value} (hp : Blk W p t l) (h11 : l[11]? = some (.int .u8 0)) (V : Value) (R : World → Prop) (hT : Calls Try.prog 73 #[.pointer (some ⟨p, 0, none⟩), V] W fun e w => e = .returned (.bool true) ∧ R w)
    (hK : ∀ w, R w → Calls Try.prog 82 #[.pointer (some ⟨p, 0, none⟩)] w fun e W' => e = .returned (.tuple #[]) ∧ Blk W' p t l3 ∧ Chg (fun k => k = p) w W') (h311 : l3[11]? = some (.int .u8 6)) :
    Calls Try.prog 81 #[.pointer (some ⟨p, 0, none⟩), V] W fun e W' => e = .returned (.bool true) ∧ ∃ w, R w ∧ Chg (fun k => k = p) w W' ∧ Blk W' p t l3 := by
  have c11 : W.cell? ⟨p, 11, none⟩ = some (.int .u8 0) := (hp.cell 11).trans h11
  have HT := keepH hT
  have HK := keepH hK
  have H3 := keepH h311
  clear hp hT hK h11 h311
  go_enter Try.func81, Try.ntmps81
  go_wp2_with fail
  refine HT.out.mono ?_
  rintro e w ⟨rfl, hr⟩
  have HR := keepH hr
  have HCM := keepH (HK.out w hr)
  clear hr c11
  go_wp2_with fail
  refine HCM.out.mono ?_
  rintro e w2 ⟨rfl, P3, C3⟩
  have HP3 := keepH P3
  have HC3 := keepH C3
  have d11 : w2.cell? ⟨p, 11, none⟩ = some (.int .u8 6) := (P3.cell 11).trans H3.out
  clear P3 C3
  go_wp2_with fail
  go_ret
  exact ⟨by simp, w, HR.out, HC3.out, HP3.out⟩
set_option maxRecDepth 100000 in
set_option maxHeartbeats 2000000 in
theorem swap_no {W : World} {p : Nat} {t : TypeId} {cam ver pos obj fpos head made : Nat} {clk : Value} {rest : List Value} (hp : Blk W p t (fndL cam ver pos clk obj fpos head rest)) (h12 : (fndL cam ver pos clk obj fpos head rest)[12]? = some (.int .u64 (made : Int))) (h11 : ∃ z, (fndL cam ver pos clk obj fpos head rest)[11]? = some (.int .u8 z)) (V : Value) (R : World → Prop)
    (hC : Calls Try.prog 79 #[V, .int .u64 (obj : Int), .int .u64 (head : Int), .int .u64 (made : Int)] W.drew fun e w => e = .returned (.bool false) ∧ R w) (hK : ∀ w, R w → Blk w p t (fndL cam ver pos clk obj fpos head rest)) :
    Calls Try.prog 84 #[.pointer (some ⟨p, 0, none⟩), V] W fun e W' => e = .returned (.tuple #[]) ∧ ∃ w, R w ∧ W' = w.setCell ⟨p, 11, none⟩ (.int .u8 3) := by
  obtain ⟨z11, h11⟩ := h11
  have c4 : W.cell? ⟨p, 4, none⟩ = some (.int .u64 (obj : Int)) := hp.cell 4
  have c6 : W.cell? ⟨p, 6, none⟩ = some (.int .u64 (head : Int)) := hp.cell 6
  have c12 : W.cell? ⟨p, 12, none⟩ = some (.int .u64 (made : Int)) := (hp.cell 12).trans h12
  have HC := keepH hC
  have HK := keepH hK
  have H11 := keepH h11
  clear hp hC hK h12 h11
  go_enter Try.func84, Try.ntmps84
  go_upto_region 0 with fail
  go_cut [21] from 4 to 21 (fun s21 wz => s21 = .bool false ∧ Hid (R wz))
  case first =>
    go_region_with (go_at_call 79; refine HC.out.mono ?_; rintro e w ⟨rfl, hr⟩)
    all_goals (try go_wp2_with fail)
    all_goals go_meet
    all_goals (exact ⟨by first | rfl | trivial, keepH hr⟩)
  case rest =>
    obtain ⟨w, hwz⟩ : ∃ wz, wz = wc := ⟨_, rfl⟩
    rw [← hwz] at hcut ⊢
    clear hwz
    obtain ⟨rfl, HR⟩ := hcut
    have P2 := keepH (HK.out w HR.out)
    have d11 : w.cell? ⟨p, 11, none⟩ = some (.int .u8 z11) := (P2.out.cell 11).trans H11.out
    have f11 := P2.out.free 11
    clear c4 c6 c12
    go_wp2_with fail
    go_end0
    exact ⟨rfl, w, HR.out, rfl⟩
set_option maxRecDepth 100000 in
set_option maxHeartbeats 2000000 in
theorem cas_ahead {W : World} {p : Nat} {t : TypeId} {cam ver pos obj fpos head c : Nat} {clk : Value} {rest : List Value} (hp : Blk W p t (fndL cam ver pos clk obj fpos head rest)) (h11 : (fndL cam ver pos clk obj fpos head rest)[11]? = some (.int .u8 3)) (V : Value) (R : World → Prop)
    (hL : Calls Try.prog 75 #[V, .int .u64 (obj : Int)] W.drew fun e w => e = .returned (.int .u64 (c : Int)) ∧ R w) (hK : ∀ w, R w → Blk w p t (fndL cam ver pos clk obj fpos head rest)) :
    Calls Try.prog 81 #[.pointer (some ⟨p, 0, none⟩), V] W fun e W' => e = .returned (.bool false) ∧ ∃ w, R w ∧ Chg (fun k => k = p) w W' ∧ Blk W' p t ((fndL cam c 0 clk obj fpos head rest).set 11 (.int .u8 5)) := by
  have c11 : W.cell? ⟨p, 11, none⟩ = some (.int .u8 3) := (hp.cell 11).trans h11
  have c4 : W.cell? ⟨p, 4, none⟩ = some (.int .u64 (obj : Int)) := hp.cell 4
  have HL := keepH hL
  have HK := keepH hK
  have H11 : Hid ((fndL cam c 0 clk obj fpos head rest)[11]? = some (.int .u8 3)) := h11
  have HS0 : Hid (W.cell? ⟨p, 4, none⟩ = some (.int .u64 (obj : Int))) := c4
  clear hp hL hK h11
  go_enter Try.func81, Try.ntmps81
  go_upto_region 14 with fail
  go_cut [] from 36 to 49 (fun wz => Hid (∃ w, R w ∧ Blk wz p t (fndL cam c 0 clk obj fpos head rest) ∧ Chg (fun k => k = p) w wz))
  case first =>
    go_region_held3 (fun w' => w'.cell? ⟨p, 4, none⟩ = some (.int .u64 (obj : Int))) (first | exact HS0.out | exact hS5 | exact hS6)
      (first
        | (go_at_call 75; refine HL.out.mono ?_; rintro e w ⟨rfl, hr⟩; have P2 := keepH (HK.out w hr); have hS5 : w.cell? ⟨p, 4, none⟩ = some (.int .u64 (obj : Int)) := P2.out.cell 4; have HR := keepH hr; clear hr)
        | (go_at_call 50; refine (aim_any P2.out c).mono ?_; rintro e w2 ⟨rfl, P3, C3⟩; have hS6 : w2.cell? ⟨p, 4, none⟩ = some (.int .u64 (obj : Int)) := P3.cell 4; have HP3 := keepH P3; have HC3 := keepH C3; clear P3 C3))
    all_goals (try go_wp2_with fail)
    all_goals go_meet
    all_goals (exact keepH ⟨w, HR.out, HP3.out, HC3.out⟩)
  case rest =>
    obtain ⟨wz, hwz⟩ : ∃ wz, wz = wc := ⟨_, rfl⟩
    rw [← hwz] at hcut ⊢
    clear hwz
    obtain ⟨w, hr, P3, C3⟩ := hcut.out
    have HR := keepH hr
    have HP3 := keepH P3
    have HC3 := keepH C3
    have e11 : wz.cell? ⟨p, 11, none⟩ = some (.int .u8 3) := (P3.cell 11).trans H11.out
    have f11 := P3.free 11
    have g11 := set_same P3 11 _ (.int .u8 5) H11.out
    clear hcut hr P3 C3 c11 c4
    go_wp2_with fail
    go_ret
    exact ⟨by simp, w, HR.out, HC3.out.trans (setP _) (fun _ _ x => x) (fun _ _ x => x), HP3.out.set 11 _⟩
set_option maxRecDepth 100000 in
theorem cas_otherF {W : World} {p : Nat} {t : TypeId} {l : List Value} (hp : Blk W p t l) (h11 : l[11]? = some (.int .u8 5)) (V : Value) (R : World → Prop) (hT : Calls Try.prog 76 #[.pointer (some ⟨p, 0, none⟩), V] W fun e w => e = .returned (.bool false) ∧ R w) (hK : ∀ w, R w → ∃ l2, Blk w p t l2 ∧ l2[11]? = some (.int .u8 5)) :
    Calls Try.prog 81 #[.pointer (some ⟨p, 0, none⟩), V] W fun e W' => e = .returned (.bool false) ∧ R W' := by
  have c11 : W.cell? ⟨p, 11, none⟩ = some (.int .u8 5) := (hp.cell 11).trans h11
  have HT := keepH hT
  have HK := keepH hK
  clear hp hT hK h11
  go_enter Try.func81, Try.ntmps81
  go_wp2_with fail
  refine HT.out.mono ?_
  rintro e w ⟨rfl, hr⟩
  obtain ⟨l2, P2, h11⟩ := HK.out w hr
  have HR := keepH hr
  have d11 : w.cell? ⟨p, 11, none⟩ = some (.int .u8 5) := (P2.cell 11).trans h11
  clear hr P2 h11 c11
  go_wp2_with fail
  go_ret
  exact ⟨by simp, HR.out⟩
set_option maxRecDepth 100000 in
theorem cas_otherT {W : World} {p : Nat} {t : TypeId} {l : List Value} (hp : Blk W p t l) (h11 : l[11]? = some (.int .u8 5)) (V : Value) (R : World → Prop) (hT : Calls Try.prog 76 #[.pointer (some ⟨p, 0, none⟩), V] W fun e w => e = .returned (.bool true) ∧ R w) (hK : ∀ w, R w → ∃ l2, Blk w p t l2 ∧ l2[11]? = some (.int .u8 5)) :
    Calls Try.prog 81 #[.pointer (some ⟨p, 0, none⟩), V] W fun e W' => e = .returned (.bool true) ∧ ∃ w, R w ∧ W' = w.setCell ⟨p, 11, none⟩ (.int .u8 6) := by
  have c11 : W.cell? ⟨p, 11, none⟩ = some (.int .u8 5) := (hp.cell 11).trans h11
  have HT := keepH hT
  have HK := keepH hK
  clear hp hT hK h11
  go_enter Try.func81, Try.ntmps81
  go_wp2_with fail
  refine HT.out.mono ?_
  rintro e w ⟨rfl, hr⟩
  obtain ⟨l2, P2, h11⟩ := HK.out w hr
  have HR := keepH hr
  have d11 : w.cell? ⟨p, 11, none⟩ = some (.int .u8 5) := (P2.cell 11).trans h11
  have f11 := P2.free 11
  have e11 := set_same P2 11 _ (.int .u8 6) h11
  clear hr P2 h11 c11
  go_wp2_with fail
  go_ret
  exact ⟨by simp, w, HR.out, rfl⟩
set_option maxRecDepth 100000 in
theorem ask_go {W : World} {p : Nat} {t : TypeId} {l : List Value} {head : Nat} {z : Int} (hp : Blk W p t l) (h8 : l[8]? = some (.int .u8 z)) (h6 : l[6]? = some (.int .u64 (head : Int))) (hh : head ≠ 0) : Calls Try.prog 86 #[.pointer (some ⟨p, 0, none⟩)] W fun e W' => e = .returned (.tuple #[]) ∧ W' = W.setCell ⟨p, 8, none⟩ (.int .u8 1) := by
  have d8 : W.cell? ⟨p, 8, none⟩ = some (.int .u8 z) := (hp.cell 8).trans h8
  have d6 : W.cell? ⟨p, 6, none⟩ = some (.int .u64 (head : Int)) := (hp.cell 6).trans h6
  have f8 := hp.free 8
  have n1 : ((head : Int) == 0) = false := beq_eq_false_iff_ne.2 (by omega)
  clear hp h8 h6 hh
  go_enter Try.func86, Try.ntmps86
  go_wp2_with fail
  go_end0
  exact ⟨rfl, rfl⟩
set_option maxRecDepth 100000 in
theorem ask_0 {W : World} {p : Nat} {t : TypeId} {l : List Value} {z : Int} (hp : Blk W p t l) (h8 : l[8]? = some (.int .u8 z)) (h6 : l[6]? = some (.int .u64 0)) : Calls Try.prog 86 #[.pointer (some ⟨p, 0, none⟩)] W fun e W' => e = .returned (.tuple #[]) ∧ W' = (W.setCell ⟨p, 8, none⟩ (.int .u8 1)).setCell ⟨p, 8, none⟩ (.int .u8 4) := by
  have d8 : W.cell? ⟨p, 8, none⟩ = some (.int .u8 z) := (hp.cell 8).trans h8
  have d6 : W.cell? ⟨p, 6, none⟩ = some (.int .u64 0) := (hp.cell 6).trans h6
  have f8 := hp.free 8
  have f8' := (hp.set 8 (.int .u8 1)).free 8
  have e8 := set_same hp 8 _ (.int .u8 1) h8
  clear hp h8 h6
  go_enter Try.func86, Try.ntmps86
  go_wp2_with fail
  go_end0
  exact ⟨rfl, rfl⟩
set_option maxRecDepth 100000 in
theorem at_findF {W : World} {p : Nat} {t : TypeId} {l : List Value} (hp : Blk W p t l) (h8 : l[8]? = some (.int .u8 0)) (V : Value) (R : World → Prop) (hT : Calls Try.prog 74 #[.pointer (some ⟨p, 0, none⟩), V] W fun e w => e = .returned (.bool false) ∧ R w) (hK : ∀ w, R w → ∃ l2, Blk w p t l2 ∧ l2[8]? = some (.int .u8 0)) :
    Calls Try.prog 85 #[.pointer (some ⟨p, 0, none⟩), V] W fun e W' => e = .returned (.bool false) ∧ R W' := by
  have c8 : W.cell? ⟨p, 8, none⟩ = some (.int .u8 0) := (hp.cell 8).trans h8
  have HT := keepH hT
  have HK := keepH hK
  clear hp hT hK h8
  go_enter Try.func85, Try.ntmps85
  go_wp2_with fail
  refine HT.out.mono ?_
  rintro e w ⟨rfl, hr⟩
  obtain ⟨l2, P2, h8⟩ := HK.out w hr
  have HR := keepH hr
  have d8 : w.cell? ⟨p, 8, none⟩ = some (.int .u8 0) := (P2.cell 8).trans h8
  clear hr P2 h8 c8
  go_wp2_with fail
  go_ret
  exact ⟨by simp, HR.out⟩
set_option maxRecDepth 100000 in
theorem at_findT {W : World} {p : Nat} {t : TypeId} {l : List Value} {head : Nat} (hp : Blk W p t l) (h8 : l[8]? = some (.int .u8 0)) (V : Value) (R : World → Prop) (hh : head ≠ 0) (hT : Calls Try.prog 74 #[.pointer (some ⟨p, 0, none⟩), V] W fun e w => e = .returned (.bool true) ∧ R w) (hK : ∀ w, R w → ∃ l2, Blk w p t l2 ∧ l2[8]? = some (.int .u8 0) ∧ l2[6]? = some (.int .u64 (head : Int))) :
    Calls Try.prog 85 #[.pointer (some ⟨p, 0, none⟩), V] W fun e W' => e = .returned (.bool false) ∧ ∃ w, R w ∧ W' = w.setCell ⟨p, 8, none⟩ (.int .u8 1) := by
  have c8 : W.cell? ⟨p, 8, none⟩ = some (.int .u8 0) := (hp.cell 8).trans h8
  have HT := keepH hT
  have HK := keepH hK
  clear hp hT hK h8
  go_enter Try.func85, Try.ntmps85
  go_wp2_with fail
  refine HT.out.mono ?_
  rintro e w ⟨rfl, hr⟩
  obtain ⟨l2, P2, h8, h6⟩ := HK.out w hr
  have HR := keepH hr
  have HA := keepH (ask_go P2 h8 h6 hh)
  have e8 := set_same P2 8 _ (.int .u8 1) h8
  clear hr P2 h8 h6 c8
  go_wp2_with fail
  refine HA.out.mono ?_
  rintro e w2 ⟨rfl, rfl⟩
  go_wp2_with fail
  go_ret
  exact ⟨by simp, w, HR.out, rfl⟩
set_option maxRecDepth 100000 in
set_option maxHeartbeats 1000000 in
theorem at_stamp {W : World} {p : Nat} {t : TypeId} {l : List Value} {head st c : Nat} (hp : Blk W p t l) (h8 : l[8]? = some (.int .u8 1)) (h6 : l[6]? = some (.int .u64 (head : Int))) (h7 : l[7]? = some (.int .u64 (st : Int))) (V : Value) (R : World → Prop) (a : Nat) (ha : a = (head + 1) % 18446744073709551616) (hL : ∀ W1, W1 = (W.setCell ⟨p, 8, none⟩ (.int .u8 2)).drew → Calls Try.prog 75 #[V, .int .u64 (a : Int)] W1 fun e w => e = .returned (.int .u64 (c : Int)) ∧ R w) (hK : ∀ w, R w → Blk w p t (l.set 8 (.int .u8 2))) :
    Calls Try.prog 85 #[.pointer (some ⟨p, 0, none⟩), V] W fun e W' => e = .returned (.bool false) ∧ ∃ w, R w ∧ Chg (fun k => k = p) w W' ∧ Blk W' p t (l.set 8 (.int .u8 (if c ≤ st then 3 else 2))) := by
  have c8 : W.cell? ⟨p, 8, none⟩ = some (.int .u8 1) := (hp.cell 8).trans h8
  have f8 := hp.free 8
  obtain ⟨w1, hw1⟩ : ∃ w1, w1 = W.setCell ⟨p, 8, none⟩ (.int .u8 2) := ⟨_, rfl⟩
  have P1 : Hid (Blk w1 p t (l.set 8 (.int .u8 2))) := by rw [hw1]; exact hp.set 8 _
  have d6 : w1.cell? ⟨p, 6, none⟩ = some (.int .u64 (head : Int)) := by rw [P1.out.cell 6, List.getElem?_set_ne (by decide)]; exact h6
  have d7 : w1.cell? ⟨p, 7, none⟩ = some (.int .u64 (st : Int)) := by rw [P1.out.cell 7, List.getElem?_set_ne (by decide)]; exact h7
  have k1 : IntKind.u64.wrap ((head : Int) + 1) = (a : Int) := by rw [IntKind.wrap_u64]; omega
  have hl : 8 < l.length := (List.getElem?_eq_some_iff.1 h8).1
  have h7' : (l.set 8 (.int .u8 2))[7]? = some (.int .u64 (st : Int)) := by rw [List.getElem?_set_ne (by decide)]; exact h7
  have HL := keepH (hL _ (by rw [hw1]) : Calls Try.prog 75 #[V, .int .u64 (a : Int)] w1.drew fun e w => e = .returned (.int .u64 (c : Int)) ∧ R w)
  have HK := keepH hK
  have H7 := keepH h7'
  have HLN := keepH hl
  clear hp hL hK h8 h6 h7 ha h7' hl
  go_enter Try.func85, Try.ntmps85
  go_upto_region 9 with fail
  rw [← hw1]
  clear hw1 c8 f8
  go_cut [37] from 25 to 37 (fun s37 wz => s37 = .bool (decide (c ≤ st)) ∧ Hid (R wz))
  case first =>
    go_region_with (go_at_call 75; refine HL.out.mono ?_; rintro e w ⟨rfl, hr⟩; have q7 : w.cell? ⟨p, 7, none⟩ = some (.int .u64 (st : Int)) := ((HK.out w hr).cell 7).trans H7.out; have HR := keepH hr; clear hr)
    all_goals (try go_wp2_with fail)
    all_goals go_meet
    all_goals (exact ⟨by first | rfl | (congr 1; simp) | simp, HR⟩)
  case rest =>
    obtain ⟨w, hwz⟩ : ∃ wz, wz = wc := ⟨_, rfl⟩
    rw [← hwz] at hcut ⊢
    clear hwz
    obtain ⟨rfl, HR⟩ := hcut
    have P2 := keepH (HK.out w HR.out)
    have e8 : w.cell? ⟨p, 8, none⟩ = some (.int .u8 2) := by rw [P2.out.cell 8, List.getElem?_set_self HLN.out]
    have g8 := P2.out.free 8
    clear d6 d7
    by_cases hc : c ≤ st
    · have dd : decide (c ≤ st) = true := decide_eq_true hc
      have e8' := set_same P2.out 8 _ (.int .u8 3) ((P2.out.cell 8).symm.trans e8)
      rw [dd]
      go_wp2_with fail
      go_ret
      refine ⟨by simp, w, HR.out, setP _, ?_⟩
      have z := P2.out.set 8 (.int .u8 3)
      rw [List.set_set] at z
      first
        | exact z
        | (rw [if_pos hc]; exact z)
    · have dd : decide (c ≤ st) = false := decide_eq_false hc
      rw [dd]
      go_wp2_with fail
      go_ret
      refine ⟨by simp, w, HR.out, Chg.refl _ _, ?_⟩
      first
        | exact P2.out
        | (rw [if_neg hc]; exact P2.out)
set_option maxRecDepth 100000 in
theorem at_older0 {W : World} {p : Nat} {t : TypeId} {l : List Value} {head : Nat} (hp : Blk W p t l) (h8 : l[8]? = some (.int .u8 2)) (h6 : l[6]? = some (.int .u64 (head : Int))) (V : Value) (R : World → Prop) (a : Nat) (ha : a = (head + 2) % 18446744073709551616) (hL : Calls Try.prog 75 #[V, .int .u64 (a : Int)] W fun e w => e = .returned (.int .u64 0) ∧ R w) (hK : ∀ w, R w → Blk w p t l) :
    Calls Try.prog 85 #[.pointer (some ⟨p, 0, none⟩), V] W fun e W' => e = .returned (.bool true) ∧ ∃ w, R w ∧ W' = ((w.setCell ⟨p, 6, none⟩ (.int .u64 0)).setCell ⟨p, 8, none⟩ (.int .u8 1)).setCell ⟨p, 8, none⟩ (.int .u8 4) := by
  have c8 : W.cell? ⟨p, 8, none⟩ = some (.int .u8 2) := (hp.cell 8).trans h8
  have c6 : W.cell? ⟨p, 6, none⟩ = some (.int .u64 (head : Int)) := (hp.cell 6).trans h6
  have k1 : IntKind.u64.wrap ((head : Int) + 2) = (a : Int) := by rw [IntKind.wrap_u64]; omega
  have HL := keepH hL
  have HK := keepH hK
  have H8 := keepH h8
  have H6 := keepH h6
  clear hp hL hK h8 h6 ha
  go_enter Try.func85, Try.ntmps85
  go_wp2_with fail
  refine HL.out.mono ?_
  rintro e w ⟨rfl, hr⟩
  have P2 := HK.out w hr
  have HR := keepH hr
  have d6 : w.cell? ⟨p, 6, none⟩ = some (.int .u64 (head : Int)) := (P2.cell 6).trans H6.out
  have f6 := P2.free 6
  have P3 := P2.set 6 (.int .u64 0)
  have h8' : (l.set 6 (.int .u64 0))[8]? = some (.int .u8 2) := by rw [List.getElem?_set_ne (by decide)]; exact H8.out
  have h6' : (l.set 6 (.int .u64 0))[6]? = some (.int .u64 0) := by rw [List.getElem?_set_self (List.getElem?_eq_some_iff.1 H6.out).1]
  have HA := keepH (ask_0 P3 h8' h6')
  have P4 := P3.set 8 (.int .u8 1)
  have e4 := set_same P3 8 _ (.int .u8 1) h8'
  have e8 := set_same P4 8 (.int .u8 1) (.int .u8 4) ((P4.cell 8).symm.trans e4)
  clear hr P2 P3 P4 c8 c6 h8' h6' e4
  go_wp2_with fail
  refine HA.out.mono ?_
  rintro e w2 ⟨rfl, rfl⟩
  go_wp2_with fail
  go_ret
  exact ⟨by simp, w, HR.out, rfl⟩
set_option maxRecDepth 100000 in
theorem at_valueT {W : World} {p : Nat} {t : TypeId} {l : List Value} {head x : Nat} (hp : Blk W p t l) (h8 : l[8]? = some (.int .u8 3)) (h6 : l[6]? = some (.int .u64 (head : Int))) (h9 : ∃ z, l[9]? = some (.int .u64 z)) (V : Value) (R : World → Prop) (hL : Calls Try.prog 75 #[V, .int .u64 (head : Int)] W fun e w => e = .returned (.int .u64 (x : Int)) ∧ R w) (hK : ∀ w, R w → Blk w p t l) :
    Calls Try.prog 85 #[.pointer (some ⟨p, 0, none⟩), V] W fun e W' => e = .returned (.bool true) ∧ ∃ w, R w ∧ W' = (w.setCell ⟨p, 9, none⟩ (.int .u64 (x : Int))).setCell ⟨p, 8, none⟩ (.int .u8 4) := by
  obtain ⟨z, h9⟩ := h9
  have c8 : W.cell? ⟨p, 8, none⟩ = some (.int .u8 3) := (hp.cell 8).trans h8
  have c6 : W.cell? ⟨p, 6, none⟩ = some (.int .u64 (head : Int)) := (hp.cell 6).trans h6
  have HL := keepH hL
  have HK := keepH hK
  have H8 := keepH h8
  have H9 := keepH h9
  clear hp hL hK h8 h6 h9
  go_enter Try.func85, Try.ntmps85
  go_wp2_with fail
  refine HL.out.mono ?_
  rintro e w ⟨rfl, hr⟩
  have P2 := HK.out w hr
  have HR := keepH hr
  have d9 : w.cell? ⟨p, 9, none⟩ = some (.int .u64 z) := (P2.cell 9).trans H9.out
  have d8 : w.cell? ⟨p, 8, none⟩ = some (.int .u8 3) := (P2.cell 8).trans H8.out
  have f9 := P2.free 9
  have f8 := P2.free 8
  have P3 := P2.set 9 (.int .u64 (x : Int))
  have h8' : (l.set 9 (.int .u64 (x : Int)))[8]? = some (.int .u8 3) := by rw [List.getElem?_set_ne (by decide)]; exact H8.out
  have f8' := P3.free 8
  have d8' : (w.setCell ⟨p, 9, none⟩ (.int .u64 (x : Int))).cell? ⟨p, 8, none⟩ = some (.int .u8 3) := (P3.cell 8).trans h8'
  have e8 := set_same P3 8 _ (.int .u8 4) h8'
  clear hr P2 P3 c8 c6 h8'
  go_wp2_with fail
  go_ret
  exact ⟨by simp, w, HR.out, rfl⟩

end Go.Proofs.Ytadbgmcfjemkeaa
