/- The trie's ways: how they begin and go down. -/
import Derived.Test.YtokooplfjibneaaGreatTa
namespace Go.Proofs.YtokooplfjibneaaGreat
open Go.RowKit Go.Shelf
set_option linter.unusedVariables false

def fnV (f p : Nat) : Value := .func (.func f) #[.pointer (some ⟨p, 0, none⟩)] #[]
/-- A way that stands ahead of an object, its Read not begun. -/
def From (W W' : World) (p : Nat) (t : TypeId) (cam key mixd obj lvl wd lf ly : Nat) (no ot sa : Value) (ad : Bool) (ax : Nat) (rest : List Value) : Prop :=
  ∃ q, W.heap.size ≤ q ∧ Blk W' p t (wayL cam key mixd obj lvl (.pointer (some ⟨q, 0, none⟩)) wd lf ly false 0 (fnV 59 p) no ot sa ad ax rest) ∧ Blk W' q 150 (r0L cam obj) ∧ Chg (fun k => k = p) W W'
set_option maxRecDepth 100000 in
set_option maxHeartbeats 1000000 in
theorem from_any {W : World} {p : Nat} {t : TypeId} {cam key mixd obj0 lvl0 wd lf ly fx ax : Nat} {rd nx no ot sa : Value} {fd ad : Bool} {rest : List Value} (hp : Blk W p t (wayL cam key mixd obj0 lvl0 rd wd lf ly fd fx nx no ot sa ad ax rest)) (obj lvl : Nat) :
    Calls Tryz.prog 48 #[.pointer (some ⟨p, 0, none⟩), .int .u64 (obj : Int), .int .i64 (lvl : Int)] W fun e W' => e = .returned (.tuple #[]) ∧ From W W' p t cam key mixd obj lvl wd lf ly no ot sa ad ax rest := by
  have hmf : ∀ (fn : Fn) (first cap : Array Value) (w : World), (Instr.makeFunc fn first cap).run Tryz.prog w = .ok (.func fn first cap) w := fun _ _ _ _ => rfl
  have c3 : W.cell? ⟨p, 3, none⟩ = some (.int .u64 (obj0 : Int)) := hp.cell 3
  have f3 := hp.free 3
  have P0 := hp.set 3 (.int .u64 (obj : Int))
  have c4 : (W.setCell ⟨p, 3, none⟩ (.int .u64 (obj : Int))).cell? ⟨p, 4, none⟩ = some (.int .i64 (lvl0 : Int)) := P0.cell 4
  have f4 := P0.free 4
  have c4' : W.cell? ⟨p, 4, none⟩ = some (.int .i64 (lvl0 : Int)) := hp.cell 4
  have f4' := hp.free 4
  obtain ⟨w1, hw1⟩ : ∃ w1, w1 = (W.setCell ⟨p, 3, none⟩ (.int .u64 (obj : Int))).setCell ⟨p, 4, none⟩ (.int .i64 (lvl : Int)) := ⟨_, rfl⟩
  have P1 : Blk w1 p t (wayL cam key mixd obj lvl rd wd lf ly fd fx nx no ot sa ad ax rest) := by rw [hw1]; exact P0.set 4 _
  have C1 : Chg (fun k => k = p) W w1 := by rw [hw1]; exact (setP _).trans (setP _) (fun _ _ x => x) (fun _ _ x => x)
  obtain ⟨w2, hw2⟩ : ∃ w2, w2 = w1.setCells p 9 (ansL false 0) := ⟨_, rfl⟩
  have P2 : Blk w2 p t (wayL cam key mixd obj lvl rd wd lf ly false 0 nx no ot sa ad ax rest) := by
    rw [hw2]
    exact setCells_of t p (ansL false 0) [.int .u64 (cam : Int), .int .u64 (key : Int), .int .u64 (mixd : Int), .int .u64 (obj : Int), .int .i64 (lvl : Int), rd, .int .u64 (wd : Int), .int .u64 (lf : Int), .int .u64 (ly : Int)] (ansL fd fx) ([nx, no, ot, sa] ++ ansL ad ax ++ rest) w1 P1 rfl
  have C2 : Chg (fun k => k = p) W w2 := by rw [hw2]; exact C1.trans (setCells_chg p _ 9 _) (fun _ _ x => x) (fun _ _ x => x)
  have HTH : Hid (w1.there p 9 7) := there_of P1 9 7 (by simp [wayL, ansL])
  have HW := keepH hw2
  have HP2 := keepH P2
  have HC2 := keepH C2
  have d0 : w2.cell? ⟨p, 0, none⟩ = some (.int .u64 (cam : Int)) := P2.cell 0
  clear hp hw2 P2 C2 P1 C1 P0
  go_enter Tryz.func48, Tryz.ntmps48
  go_upto_region 1 with fail
  rw [← hw1]
  clear hw1 c3 f3 c4 f4 c4' f4'
  go_upto_region 2 with (refine wpList_store_mid rfl 37 (.tmp 17) (.tmp 15) rfl p 9 #[.int .i64 0, .bool false, .int .u64 0, .bool false, .int .u64 0, .slice none 0 0, .int .u64 0] rfl rfl HTH.out (ans_size false 0) (ans_one false 0) ?_; rw [show w1.setCells p 9 (#[.int .i64 0, .bool false, .int .u64 0, .bool false, .int .u64 0, .slice none 0 0, .int .u64 0] : Array Value).toList = w2 from HW.out.symm]; clear HW HTH)
  go_wp2_with fail
  refine (rd_new cam obj _).mono ?_
  rintro e w3 ⟨q, hq, rfl, B3, C3, S3⟩
  have P3 := HP2.out.chg C3 (fun x => x)
  have e5 : w3.cell? ⟨p, 5, none⟩ = some rd := P3.cell 5
  have g5 := P3.free 5
  have P4 := P3.set 5 (.pointer (some ⟨q, 0, none⟩))
  have e16 : (w3.setCell ⟨p, 5, none⟩ (.pointer (some ⟨q, 0, none⟩))).cell? ⟨p, 16, none⟩ = some nx := P4.cell 16
  have g16 := P4.free 16
  have e16' : w3.cell? ⟨p, 16, none⟩ = some nx := P3.cell 16
  have HP4 := keepH P4
  have HB3 := keepH B3
  have HC3 : Hid (Chg (fun k => k = p) W w3) := HC2.out.trans C3 (fun _ _ x => x) (fun _ _ x => x.elim)
  have HQ : Hid (W.heap.size ≤ q ∧ p < q) := ⟨Nat.le_trans HC2.out.size hq, Nat.lt_of_lt_of_le (lt_of HP2.out) hq⟩
  clear P3 P4 B3 C3 S3 hq d0
  go_wp2_with fail
  go_end0
  have hne : q ≠ p := by have := HQ.out; omega
  exact ⟨rfl, q, HQ.out.1, HP4.out.set 16 _, (Below.heap_setCell _ _ _ _ hne).trans ((Below.heap_setCell _ _ _ _ hne).trans HB3.out), (HC3.out.trans (setP _) (fun _ _ x => x) (fun _ _ x => x)).trans (setP _) (fun _ _ x => x) (fun _ _ x => x)⟩
set_option maxRecDepth 100000 in
set_option maxHeartbeats 1000000 in
theorem enter_any {W : World} {p : Nat} {t : TypeId} {cam key mixd obj0 lvl0 wd lf ly fx ax : Nat} {rd nx no ot sa : Value} {fd ad : Bool} {rest : List Value} (hp : Blk W p t (wayL cam key mixd obj0 lvl0 rd wd lf ly fd fx nx no ot sa ad ax rest)) (br lvl dg obj : Nat) (hm : mixd < 18446744073709551616) (hl : lvl < 11) (hdg : (dg : Int) = dig mixd lvl) (hdl : dg < 64) (ho : obj = (br + dg) % 18446744073709551616) :
    Calls Tryz.prog 35 #[.pointer (some ⟨p, 0, none⟩), .int .u64 (br : Int), .int .i64 (lvl : Int)] W fun e W' => e = .returned (.tuple #[]) ∧ From W W' p t cam key mixd obj lvl wd lf ly no ot sa ad ax rest := by
  have c2 : W.cell? ⟨p, 2, none⟩ = some (.int .u64 (mixd : Int)) := hp.cell 2
  have HDG : Hid (∀ w, Calls Tryz.prog 49 #[.int .u64 (mixd : Int), .int .i64 (lvl : Int)] w fun e W' => e = .returned (.int .i64 (dg : Int)) ∧ W' = w) := fun w => by rw [hdg]; exact digit_any mixd lvl w (by omega) (by omega) (by omega) (by omega)
  have k1 : IntKind.u64.wrap (dg : Int) = (dg : Int) := by rw [IntKind.wrap_u64]; omega
  have k2 : IntKind.u64.wrap ((br : Int) + (dg : Int)) = (obj : Int) := by rw [IntKind.wrap_u64]; omega
  have HP := keepH hp
  clear hp hdg ho
  go_enter Tryz.func35, Tryz.ntmps35
  go_wp2_with fail
  refine (HDG.out _).mono ?_
  rintro e w1 ⟨rfl, rfl⟩
  go_wp2_with fail
  refine (from_any HP.out obj lvl).mono ?_
  rintro e w2 ⟨rfl, F2⟩
  have HF := keepH F2
  clear F2
  go_wp2_with fail
  go_end0
  exact ⟨rfl, HF.out⟩
set_option maxRecDepth 100000 in
set_option maxHeartbeats 1000000 in
theorem begin_any {W : World} {p : Nat} {t : TypeId} {cam0 key0 mixd0 obj0 lvl0 wd lf ly fx ax : Nat} {rd nx no ot sa : Value} {fd ad : Bool} {rest : List Value} (hp : Blk W p t (wayL cam0 key0 mixd0 obj0 lvl0 rd wd lf ly fd fx nx no ot sa ad ax rest)) (cam br key mixd dg obj : Nat) (hk : key < 18446744073709551616) (hmx : mixd = mixN key) (hdg : (dg : Int) = dig mixd 0) (hdl : dg < 64) (ho : obj = (br + dg) % 18446744073709551616) :
    Calls Tryz.prog 21 #[.pointer (some ⟨p, 0, none⟩), .agg #[.int .u64 (cam : Int), .int .u64 (br : Int)], .int .u64 (key : Int)] W fun e W' => e = .returned (.tuple #[]) ∧ From W W' p t cam key mixd obj 0 wd lf ly no ot sa ad ax rest := by
  have hm : mixd < 18446744073709551616 := by rw [hmx]; exact mixN_lt
  obtain ⟨w0, hw0⟩ : ∃ w0, w0 = W.alloc (.cells #[.int .u64 (cam : Int), .int .u64 (br : Int)] 24) := ⟨_, rfl⟩
  have hpl := lt_of hp
  have C0 : Chg (fun k => k = p) W w0 := by rw [hw0]; exact (Chg.refl _ _).alloc _
  have P0 : Blk w0 p t (wayL cam0 key0 mixd0 obj0 lvl0 rd wd lf ly fd fx nx no ot sa ad ax rest) := by rw [hw0]; exact alloc_of hp _
  have B0 : Blk w0 W.heap.size 24 [.int .u64 (cam : Int), .int .u64 (br : Int)] := by rw [hw0]; exact heap_alloc_new _ _
  have r0 : w0.cell? ⟨W.heap.size, 0, none⟩ = some (.int .u64 (cam : Int)) := B0.cell 0
  have c0 : w0.cell? ⟨p, 0, none⟩ = some (.int .u64 (cam0 : Int)) := P0.cell 0
  have f0 := P0.free 0
  obtain ⟨w1, hw1⟩ : ∃ w1, w1 = w0.setCell ⟨p, 0, none⟩ (.int .u64 (cam : Int)) := ⟨_, rfl⟩
  have P1 : Blk w1 p t (wayL cam key0 mixd0 obj0 lvl0 rd wd lf ly fd fx nx no ot sa ad ax rest) := by rw [hw1]; exact P0.set 0 _
  have c1 : w1.cell? ⟨p, 1, none⟩ = some (.int .u64 (key0 : Int)) := P1.cell 1
  have f1 := P1.free 1
  have c2 : w1.cell? ⟨p, 2, none⟩ = some (.int .u64 (mixd0 : Int)) := P1.cell 2
  have f2 := P1.free 2
  have P2 := P1.set 1 (.int .u64 (key : Int))
  have d2 : (w1.setCell ⟨p, 1, none⟩ (.int .u64 (key : Int))).cell? ⟨p, 2, none⟩ = some (.int .u64 (mixd0 : Int)) := P2.cell 2
  have g2 := P2.free 2
  obtain ⟨w3, hw3⟩ : ∃ w3, w3 = (w1.setCell ⟨p, 1, none⟩ (.int .u64 (key : Int))).setCell ⟨p, 2, none⟩ (.int .u64 (mixd : Int)) := ⟨_, rfl⟩
  have P3 : Blk w3 p t (wayL cam key mixd obj0 lvl0 rd wd lf ly fd fx nx no ot sa ad ax rest) := by rw [hw3]; exact P2.set 2 _
  have C3 : Chg (fun k => k = p) W w3 := by
    rw [hw3, hw1]
    exact ((C0.trans (setP _) (fun _ _ x => x) (fun _ _ x => x)).trans (setP _) (fun _ _ x => x) (fun _ _ x => x)).trans (setP _) (fun _ _ x => x) (fun _ _ x => x)
  have B3 : Blk w3 W.heap.size 24 [.int .u64 (cam : Int), .int .u64 (br : Int)] := by
    rw [hw3, hw1]
    have hne : W.heap.size ≠ p := by omega
    exact (Below.heap_setCell _ _ _ _ hne).trans ((Below.heap_setCell _ _ _ _ hne).trans ((Below.heap_setCell _ _ _ _ hne).trans B0))
  have r1 : w3.cell? ⟨W.heap.size, 1, none⟩ = some (.int .u64 (br : Int)) := B3.cell 1
  have HP3 := keepH P3
  have HC3 := keepH C3
  have HMX : Hid (∀ w, Calls Tryz.prog 18 #[.int .u64 (key : Int)] w fun e w' => e = .returned (.int .u64 (mixd : Int)) ∧ w' = w) := fun w => by rw [hmx]; exact mix_nat key w hk
  have HE := keepH (enter_any P3 br 0 dg obj hm (by omega) hdg hdl ho)
  clear hp P0 P1 P2 P3 C0 C3 B0 B3 hmx hpl hdg ho
  go_enter Tryz.func21, Tryz.ntmps21
  go_upto_region 1 with fail
  rw [← hw0]
  clear hw0
  go_upto_region 2 with fail
  rw [← hw1]
  clear hw1 r0 c0 f0
  go_wp2_with fail
  refine (HMX.out _).mono ?_
  rintro e w4 ⟨rfl, rfl⟩
  go_upto_region 3 with fail
  rw [← hw3]
  clear hw3 c1 f1 c2 f2 d2 g2
  go_wp2_with fail
  refine HE.out.mono ?_
  rintro e w5 ⟨rfl, q, hq, P5, B5, C5⟩
  have HF : Hid (From W w5 p t cam key mixd obj 0 wd lf ly no ot sa ad ax rest) := ⟨q, Nat.le_trans HC3.out.size hq, P5, B5, HC3.out.trans C5 (fun _ _ x => x) (fun _ _ x => x)⟩
  clear hq P5 B5 C5
  go_wp2_with fail
  go_end0
  exact ⟨rfl, HF.out⟩
end Go.Proofs.YtokooplfjibneaaGreat
