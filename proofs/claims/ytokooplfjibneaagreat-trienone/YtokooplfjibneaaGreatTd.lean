/- The trie's ways: down by a Read, and the looks at a leaf. -/
import Derived.Test.YtokooplfjibneaaGreatTc
import Derived.Test.YtokooplfjibneaaGreatSpl
namespace Go.Proofs.YtokooplfjibneaaGreat
open Go.RowKit Go.Shelf
set_option linter.unusedVariables false

set_option maxRecDepth 100000 in
theorem down_F {W : World} {p : Nat} {t : TypeId} {l : List Value} {q : Nat} (hp : Blk W p t l) (h5 : l[5]? = some (.pointer (some ⟨q, 0, none⟩))) (V : Value) (R : World → Prop) (hS : Calls Tryz.prog 74 #[.pointer (some ⟨q, 0, none⟩), V] W fun e w => e = .returned (.bool false) ∧ R w) :
    Calls Tryz.prog 59 #[.pointer (some ⟨p, 0, none⟩), V] W fun e w => e = .returned (.tuple #[]) ∧ R w := by
  have c5 : W.cell? ⟨p, 5, none⟩ = some (.pointer (some ⟨q, 0, none⟩)) := (hp.cell 5).trans h5
  have HS := keepH hS
  clear hp h5 hS
  go_enter Tryz.func59, Tryz.ntmps59
  go_wp2_with fail
  refine HS.out.mono ?_
  rintro e w ⟨rfl, hr⟩
  have HR := keepH hr
  clear hr HS
  go_wp2_with fail
  (try simp only [Exit.inBlock, Exit.then])
  refine bodyPost_ret (results_none rfl _ _ _) rfl ?_
  exact ⟨rfl, HR.out⟩
set_option maxRecDepth 100000 in
set_option maxHeartbeats 1000000 in
theorem down_leaf {W : World} {p : Nat} {t : TypeId} {cam key mixd obj lvl wd lf ly fx ax q : Nat} {nx no ot sa : Value} {fd ad : Bool} {rest : List Value} (hp : Blk W p t (wayL cam key mixd obj lvl (.pointer (some ⟨q, 0, none⟩)) wd lf ly fd fx nx no ot sa ad ax rest)) (hnx : ∃ f fs, nx = .func f fs #[]) (V : Value) (R : World → Prop) (hS : Calls Tryz.prog 74 #[.pointer (some ⟨q, 0, none⟩), V] W fun e w => e = .returned (.bool true) ∧ R w) (hP : ∀ w, R w → Blk w p t (wayL cam key mixd obj lvl (.pointer (some ⟨q, 0, none⟩)) wd lf ly fd fx nx no ot sa ad ax rest)) (x a : Nat) (hV : ∀ w, R w → ∃ u lq, Blk w q u lq ∧ lq[8]? = some (.int .u64 (x : Int))) (hx : x = 2 * a + 1) (ha : a < 18446744073709551616) :
    Calls Tryz.prog 59 #[.pointer (some ⟨p, 0, none⟩), V] W fun e w => e = .returned (.tuple #[]) ∧ ∃ y, R y ∧ Chg (fun k => k = p) y w ∧ Blk w p t (wayL cam key mixd obj lvl (.pointer (some ⟨q, 0, none⟩)) x a ly fd fx (fnV 76 p) no ot sa ad ax rest) := by
  have hmf : ∀ (fn : Fn) (first cap : Array Value) (w : World), (Instr.makeFunc fn first cap).run Tryz.prog w = .ok (.func fn first cap) w := fun _ _ _ _ => rfl
  obtain ⟨nf, nfs, rfl⟩ := hnx
  have c5 : W.cell? ⟨p, 5, none⟩ = some (.pointer (some ⟨q, 0, none⟩)) := hp.cell 5
  have HS := keepH hS
  have HP := keepH hP
  have HV := keepH hV
  have HX := keepH hx
  clear hp hS hP hV hx
  go_enter Tryz.func59, Tryz.ntmps59
  go_wp2_with fail
  refine HS.out.mono ?_
  rintro e w ⟨rfl, hr⟩
  have HR := keepH hr
  have P1 := keepH (HP.out w hr)
  obtain ⟨u, lq, B1, e8⟩ := HV.out w hr
  have HB1 := keepH B1
  have H8 := keepH e8
  clear hr HS HP HV c5 B1 e8
  have c5 : w.cell? ⟨p, 5, none⟩ = some (.pointer (some ⟨q, 0, none⟩)) := P1.out.cell 5
  have c6 : w.cell? ⟨p, 6, none⟩ = some (.int .u64 (wd : Int)) := P1.out.cell 6
  have f6 := P1.out.free 6
  have P2 := keepH (P1.out.set 6 (.int .u64 (x : Int)))
  have d6 : (w.setCell ⟨p, 6, none⟩ (.int .u64 (x : Int))).cell? ⟨p, 6, none⟩ = some (.int .u64 (x : Int)) := P2.out.cell 6
  have d7 : (w.setCell ⟨p, 6, none⟩ (.int .u64 (x : Int))).cell? ⟨p, 7, none⟩ = some (.int .u64 (lf : Int)) := P2.out.cell 7
  have f7 := P2.out.free 7
  have P3 := keepH (P2.out.set 7 (.int .u64 (a : Int)))
  have d16 : ((w.setCell ⟨p, 6, none⟩ (.int .u64 (x : Int))).setCell ⟨p, 7, none⟩ (.int .u64 (a : Int))).cell? ⟨p, 16, none⟩ = some (.func nf nfs #[]) := P3.out.cell 16
  have f16 := P3.out.free 16
  go_wp2_with fail
  refine (rd_value HB1.out H8.out).mono ?_
  rintro e w1 ⟨rfl, rfl⟩
  go_wp2_with fail
  refine (split_leaf a x _ HX.out ha).mono ?_
  rintro e w2 ⟨rfl, rfl⟩
  go_wp2_with fail
  go_end0
  exact ⟨rfl, w1, HR.out, ((setP _).trans (setP _) (fun _ _ x => x) (fun _ _ x => x)).trans (setP _) (fun _ _ x => x) (fun _ _ x => x), P3.out.set 16 _⟩
set_option maxRecDepth 100000 in
set_option maxHeartbeats 1000000 in
theorem down_tell {W : World} {p : Nat} {t : TypeId} {cam key mixd obj lvl wd lf ly fx ax q : Nat} {nx ot sa : Value} {fd ad : Bool} {rest : List Value} (hp : Blk W p t (wayL cam key mixd obj lvl (.pointer (some ⟨q, 0, none⟩)) wd lf ly fd fx nx (fnV 20 p) ot sa ad ax rest)) (V : Value) (R : World → Prop) (hS : Calls Tryz.prog 74 #[.pointer (some ⟨q, 0, none⟩), V] W fun e w => e = .returned (.bool true) ∧ R w) (hP : ∀ w, R w → Blk w p t (wayL cam key mixd obj lvl (.pointer (some ⟨q, 0, none⟩)) wd lf ly fd fx nx (fnV 20 p) ot sa ad ax rest)) (hV : ∀ w, R w → ∃ u lq, Blk w q u lq ∧ lq[8]? = some (.int .u64 0)) :
    Calls Tryz.prog 59 #[.pointer (some ⟨p, 0, none⟩), V] W fun e w => e = .returned (.tuple #[]) ∧ ∃ y, R y ∧ Chg (fun k => k = p) y w ∧ Blk w p t (wayL cam key mixd obj lvl (.pointer (some ⟨q, 0, none⟩)) 0 lf ly fd fx .nilFunc (fnV 20 p) ot sa fd fx rest) := by
  have c5 : W.cell? ⟨p, 5, none⟩ = some (.pointer (some ⟨q, 0, none⟩)) := hp.cell 5
  have HS := keepH hS
  have HP := keepH hP
  have HV := keepH hV
  clear hp hS hP hV
  go_enter Tryz.func59, Tryz.ntmps59
  go_wp2_with fail
  refine HS.out.mono ?_
  rintro e w ⟨rfl, hr⟩
  have HR := keepH hr
  have P1 := keepH (HP.out w hr)
  obtain ⟨u, lq, B1, e8⟩ := HV.out w hr
  have HB1 := keepH B1
  have H8 := keepH e8
  clear hr HS HP HV c5 B1 e8
  have c5 : w.cell? ⟨p, 5, none⟩ = some (.pointer (some ⟨q, 0, none⟩)) := P1.out.cell 5
  have c6 : w.cell? ⟨p, 6, none⟩ = some (.int .u64 (wd : Int)) := P1.out.cell 6
  have f6 := P1.out.free 6
  have P2 := keepH (P1.out.set 6 (.int .u64 0))
  have d6 : (w.setCell ⟨p, 6, none⟩ (.int .u64 0)).cell? ⟨p, 6, none⟩ = some (.int .u64 0) := P2.out.cell 6
  have d17 : (w.setCell ⟨p, 6, none⟩ (.int .u64 0)).cell? ⟨p, 17, none⟩ = some (.func (.func 20) #[.pointer (some ⟨p, 0, none⟩)] #[]) := P2.out.cell 17
  go_wp2_with fail
  refine (rd_value (x := 0) HB1.out H8.out).mono ?_
  rintro e w1 ⟨rfl, rfl⟩
  go_wp2_with fail
  refine (split_0 _).mono ?_
  rintro e w2 ⟨rfl, rfl⟩
  go_wp2_with fail
  refine (tell_any (wd := 0) P2.out).mono ?_
  rintro e w3 ⟨rfl, P3, C3⟩
  have HP3 := keepH P3
  have HC3 := keepH C3
  clear P3 C3
  go_wp2_with fail
  go_end0
  exact ⟨rfl, w1, HR.out, (setP _).trans HC3.out (fun _ _ x => x) (fun _ _ x => x), HP3.out⟩
set_option maxRecDepth 100000 in
set_option maxHeartbeats 1000000 in
theorem wlook_key {W : World} {p : Nat} {t : TypeId} {cam key mixd obj lvl wd lf ly fx ax : Nat} {rd nx no ot sa : Value} {fd ad : Bool} {rest : List Value} (hp : Blk W p t (wayL cam key mixd obj lvl rd wd lf ly fd fx nx no ot sa ad ax rest)) (hnx : ∃ f fs, nx = .func f fs #[]) (V : Value) (R : World → Prop) (hL : Calls Tryz.prog 89 #[V, .int .u64 (lf : Int)] W fun e w => e = .returned (.int .u64 (key : Int)) ∧ R w) (hP : ∀ w, R w → Blk w p t (wayL cam key mixd obj lvl rd wd lf ly fd fx nx no ot sa ad ax rest)) :
    Calls Tryz.prog 76 #[.pointer (some ⟨p, 0, none⟩), V] W fun e w => e = .returned (.tuple #[]) ∧ ∃ y, R y ∧ Chg (fun k => k = p) y w ∧ Blk w p t (wayL cam key mixd obj lvl rd wd lf key fd fx (fnV 90 p) no ot sa ad ax rest) := by
  have hmf : ∀ (fn : Fn) (first cap : Array Value) (w : World), (Instr.makeFunc fn first cap).run Tryz.prog w = .ok (.func fn first cap) w := fun _ _ _ _ => rfl
  obtain ⟨nf, nfs, rfl⟩ := hnx
  have c7 : W.cell? ⟨p, 7, none⟩ = some (.int .u64 (lf : Int)) := hp.cell 7
  have HL := keepH hL
  have HP := keepH hP
  clear hp hL hP
  go_enter Tryz.func76, Tryz.ntmps76
  go_wp2_with fail
  refine HL.out.mono ?_
  rintro e w ⟨rfl, hr⟩
  have HR := keepH hr
  have P1 := keepH (HP.out w hr)
  clear hr HL HP c7
  have c8 : w.cell? ⟨p, 8, none⟩ = some (.int .u64 (ly : Int)) := P1.out.cell 8
  have f8 := P1.out.free 8
  obtain ⟨w1, hw1⟩ : ∃ w1, w1 = w.setCell ⟨p, 8, none⟩ (.int .u64 (key : Int)) := ⟨_, rfl⟩
  have P2 : Hid (Blk w1 p t (wayL cam key mixd obj lvl rd wd lf key fd fx (.func nf nfs #[]) no ot sa ad ax rest)) := by rw [hw1]; exact P1.out.set 8 _
  have HC1 : Hid (Chg (fun k => k = p) w w1) := by rw [hw1]; exact setP _
  go_upto_region 1 with fail
  rw [← hw1]
  clear hw1 c8 f8
  have d8 : w1.cell? ⟨p, 8, none⟩ = some (.int .u64 (key : Int)) := P2.out.cell 8
  have d1 : w1.cell? ⟨p, 1, none⟩ = some (.int .u64 (key : Int)) := P2.out.cell 1
  go_quiet (fail)
  obtain ⟨w2, hw2⟩ : ∃ w2, w2 = w1.drewN nq := ⟨_, rfl⟩
  have C2 : Chg (fun k => k = p) w w2 := by rw [hw2]; exact HC1.out.trans (Goes.drewN w1 (fun _ => False) nq).chg (fun _ _ x => x) (fun _ _ x => x.elim)
  have P3 : Hid (Blk w2 p t (wayL cam key mixd obj lvl rd wd lf key fd fx (.func nf nfs #[]) no ot sa ad ax rest)) := by rw [hw2]; exact P2.out.chg (Goes.drewN w1 (fun _ => False) nq).chg (fun x => x)
  rw [← hw2]
  have HC2 := keepH C2
  clear hw2 C2 d8 d1
  have d16 : w2.cell? ⟨p, 16, none⟩ = some (.func nf nfs #[]) := P3.out.cell 16
  have f16 := P3.out.free 16
  go_wp2_with fail
  go_end0
  exact ⟨rfl, w, HR.out, HC2.out.trans (setP _) (fun _ _ x => x) (fun _ _ x => x), P3.out.set 16 _⟩
set_option maxRecDepth 100000 in
set_option maxHeartbeats 1000000 in
theorem look_value_tell {W : World} {p : Nat} {t : TypeId} {cam key mixd obj lvl wd lf ly fx ax : Nat} {rd nx no ot : Value} {fd ad : Bool} {rest : List Value} (hp : Blk W p t (wayL cam key mixd obj lvl rd wd lf ly fd fx nx no ot (fnV 20 p) ad ax rest)) (V : Value) (R : World → Prop) (a2 x : Nat) (h2 : a2 = (lf + 1) % 18446744073709551616) (hL : Calls Tryz.prog 89 #[V, .int .u64 (a2 : Int)] W fun e w => e = .returned (.int .u64 (x : Int)) ∧ R w) (hP : ∀ w, R w → Blk w p t (wayL cam key mixd obj lvl rd wd lf ly fd fx nx no ot (fnV 20 p) ad ax rest)) :
    Calls Tryz.prog 90 #[.pointer (some ⟨p, 0, none⟩), V] W fun e w => e = .returned (.tuple #[]) ∧ ∃ y, R y ∧ Chg (fun k => k = p) y w ∧ Blk w p t (wayL cam key mixd obj lvl rd wd lf ly true x .nilFunc no ot (fnV 20 p) true x rest) := by
  have c7 : W.cell? ⟨p, 7, none⟩ = some (.int .u64 (lf : Int)) := hp.cell 7
  have k1 : IntKind.u64.wrap ((lf : Int) + 1) = (a2 : Int) := by rw [IntKind.wrap_u64]; omega
  have HL := keepH hL
  have HP := keepH hP
  clear hp hL hP h2
  go_enter Tryz.func90, Tryz.ntmps90
  go_wp2_with fail
  refine HL.out.mono ?_
  rintro e w ⟨rfl, hr⟩
  have HR := keepH hr
  have P1 := keepH (HP.out w hr)
  clear hr HL HP c7
  obtain ⟨w2, hw2⟩ : ∃ w2, w2 = w.setCells p 9 (ansL true x) := ⟨_, rfl⟩
  have P2 : Hid (Blk w2 p t (wayL cam key mixd obj lvl rd wd lf ly true x nx no ot (fnV 20 p) ad ax rest)) := by
    rw [hw2]
    exact setCells_of t p (ansL true x) [.int .u64 (cam : Int), .int .u64 (key : Int), .int .u64 (mixd : Int), .int .u64 (obj : Int), .int .i64 (lvl : Int), rd, .int .u64 (wd : Int), .int .u64 (lf : Int), .int .u64 (ly : Int)] (ansL fd fx) ([nx, no, ot, fnV 20 p] ++ ansL ad ax ++ rest) w P1.out rfl
  have HC2 : Hid (Chg (fun k => k = p) w w2) := by rw [hw2]; exact setCells_chg p _ 9 _
  have HTH : Hid (w.there p 9 7) := there_of P1.out 9 7 (by simp [wayL, ansL])
  have HW := keepH hw2
  clear hw2
  have d19 : w2.cell? ⟨p, 19, none⟩ = some (.func (.func 20) #[.pointer (some ⟨p, 0, none⟩)] #[]) := P2.out.cell 19
  go_upto_region 1 with (refine wpList_store_mid rfl 37 (.tmp 14) (.tmp 12) rfl p 9 #[.int .i64 0, .bool true, .int .u64 (x : Int), .bool false, .int .u64 0, .slice none 0 0, .int .u64 0] rfl rfl HTH.out (ans_size true x) (ans_one true x) ?_; rw [show w.setCells p 9 (#[.int .i64 0, .bool true, .int .u64 (x : Int), .bool false, .int .u64 0, .slice none 0 0, .int .u64 0] : Array Value).toList = w2 from HW.out.symm]; clear HW HTH)
  go_wp2_with fail
  refine (tell_any P2.out).mono ?_
  rintro e w3 ⟨rfl, P3, C3⟩
  have HP3 := keepH P3
  have HC3 := keepH C3
  clear P3 C3
  go_wp2_with fail
  go_end0
  exact ⟨rfl, w, HR.out, HC2.out.trans HC3.out (fun _ _ x => x) (fun _ _ x => x), HP3.out⟩
end Go.Proofs.YtokooplfjibneaaGreat
