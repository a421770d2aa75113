/- The trie's ways: how they begin, go on and end. -/
import Derived.Test.YtokooplfjibneaaGreatMid
import Derived.Test.YtokooplfjibneaaGreatMixF
namespace Go.Proofs.YtokooplfjibneaaGreat
open Go.RowKit Go.Shelf
set_option linter.unusedVariables false

/-- An answer's cells: nothing but whether a value was found, and which. -/
def ansL (fd : Bool) (fx : Nat) : List Value := [.int .i64 0, .bool fd, .int .u64 (fx : Int), .bool false, .int .u64 0, .slice none 0 0, .int .u64 0]
/-- A way's cells, and those of the proc behind it. -/
def wayL (cam key mixd obj lvl : Nat) (rd : Value) (wd lf ly : Nat) (fd : Bool) (fx : Nat) (nx no ot sa : Value) (ad : Bool) (ax : Nat) (rest : List Value) : List Value :=
  [.int .u64 (cam : Int), .int .u64 (key : Int), .int .u64 (mixd : Int), .int .u64 (obj : Int), .int .i64 (lvl : Int), rd, .int .u64 (wd : Int), .int .u64 (lf : Int), .int .u64 (ly : Int)] ++ ansL fd fx ++ [nx, no, ot, sa] ++ ansL ad ax ++ rest
theorem ans_size (fd : Bool) (fx : Nat) : (Tryz.prog.info? 37).map (·.size) = some (#[.int .i64 0, .bool fd, .int .u64 (fx : Int), .bool false, .int .u64 0, .slice none 0 0, .int .u64 0] : Array Value).size := by kernel_rfl
theorem ans_one (fd : Bool) (fx : Nat) : (#[.int .i64 0, .bool fd, .int .u64 (fx : Int), .bool false, .int .u64 0, .slice none 0 0, .int .u64 0] : Array Value).all (·.oneCell') = true := by kernel_rfl

set_option maxRecDepth 100000 in
set_option maxHeartbeats 1000000 in
theorem end_any {W : World} {p : Nat} {t : TypeId} {cam key mixd obj lvl wd lf ly fx ax : Nat} {rd nx no ot sa : Value} {fd ad : Bool} {rest : List Value} (hp : Blk W p t (wayL cam key mixd obj lvl rd wd lf ly fd fx nx no ot sa ad ax rest)) (bd : Bool) (bx : Nat) :
    Calls Tryz.prog 34 #[.pointer (some ⟨p, 0, none⟩), .agg #[.int .i64 0, .bool bd, .int .u64 (bx : Int), .bool false, .int .u64 0, .slice none 0 0, .int .u64 0]] W fun e W' => e = .returned (.tuple #[]) ∧ Blk W' p t (wayL cam key mixd obj lvl rd wd lf ly fd fx .nilFunc no ot sa bd bx rest) ∧ Chg (fun k => k = p) W W' := by
  obtain ⟨w0, hw0⟩ : ∃ w0, w0 = W.alloc (.cells #[.int .i64 0, .bool bd, .int .u64 (bx : Int), .bool false, .int .u64 0, .slice none 0 0, .int .u64 0] 37) := ⟨_, rfl⟩
  have C0 : Chg (fun k => k = p) W w0 := by rw [hw0]; exact (Chg.refl _ _).alloc _
  have P0 : Blk w0 p t (wayL cam key mixd obj lvl rd wd lf ly fd fx nx no ot sa ad ax rest) := by rw [hw0]; exact alloc_of hp _
  have B0 : Blk w0 W.heap.size 37 (ansL bd bx) := by rw [hw0]; exact heap_alloc_new _ _
  have r0 : w0.cell? ⟨W.heap.size, 0, none⟩ = some (.int .i64 0) := B0.cell 0
  have r1 : w0.cell? ⟨W.heap.size, 1, none⟩ = some (.bool bd) := B0.cell 1
  have r2 : w0.cell? ⟨W.heap.size, 2, none⟩ = some (.int .u64 (bx : Int)) := B0.cell 2
  have r3 : w0.cell? ⟨W.heap.size, 3, none⟩ = some (.bool false) := B0.cell 3
  have r4 : w0.cell? ⟨W.heap.size, 4, none⟩ = some (.int .u64 0) := B0.cell 4
  have r5 : w0.cell? ⟨W.heap.size, 5, none⟩ = some (.slice none 0 0) := B0.cell 5
  have r6 : w0.cell? ⟨W.heap.size, 6, none⟩ = some (.int .u64 0) := B0.cell 6
  obtain ⟨w1, hw1⟩ : ∃ w1, w1 = w0.setCells p 20 (ansL bd bx) := ⟨_, rfl⟩
  have P1 : Blk w1 p t (wayL cam key mixd obj lvl rd wd lf ly fd fx nx no ot sa bd bx rest) := by
    rw [hw1]
    exact setCells_of t p (ansL bd bx) ([.int .u64 (cam : Int), .int .u64 (key : Int), .int .u64 (mixd : Int), .int .u64 (obj : Int), .int .i64 (lvl : Int), rd, .int .u64 (wd : Int), .int .u64 (lf : Int), .int .u64 (ly : Int)] ++ ansL fd fx ++ [nx, no, ot, sa]) (ansL ad ax) rest w0 P0 rfl
  have C1 : Chg (fun k => k = p) W w1 := by rw [hw1]; exact C0.trans (setCells_chg p _ 20 _) (fun _ _ x => x) (fun _ _ x => x)
  have HTH : Hid (w0.there p 20 7) := there_of P0 20 7 (by simp [wayL, ansL])
  have c16 : w1.cell? ⟨p, 16, none⟩ = some nx := P1.cell 16
  have f16 := P1.free 16
  have HW := keepH hw1
  have HP1 := keepH P1
  have HC1 := keepH C1
  clear hp hw1 P1 C1 P0 B0 C0
  go_enter Tryz.func34, Tryz.ntmps34
  go_upto_region 1 with fail
  rw [← hw0]
  clear hw0
  go_wp2_with (refine wpList_store_mid rfl 37 (.tmp 7) (.tmp 5) rfl p 20 #[.int .i64 0, .bool bd, .int .u64 (bx : Int), .bool false, .int .u64 0, .slice none 0 0, .int .u64 0] rfl rfl HTH.out (ans_size bd bx) (ans_one bd bx) ?_; rw [show w0.setCells p 20 (#[.int .i64 0, .bool bd, .int .u64 (bx : Int), .bool false, .int .u64 0, .slice none 0 0, .int .u64 0] : Array Value).toList = w1 from HW.out.symm]; clear HW HTH)
  go_wp2_with fail
  go_end0
  exact ⟨rfl, HP1.out.set 16 _, HC1.out.trans (setP _) (fun _ _ x => x) (fun _ _ x => x)⟩
set_option maxRecDepth 100000 in
set_option maxHeartbeats 1000000 in
theorem tell_any {W : World} {p : Nat} {t : TypeId} {cam key mixd obj lvl wd lf ly fx ax : Nat} {rd nx no ot sa : Value} {fd ad : Bool} {rest : List Value} (hp : Blk W p t (wayL cam key mixd obj lvl rd wd lf ly fd fx nx no ot sa ad ax rest)) :
    Calls Tryz.prog 20 #[.pointer (some ⟨p, 0, none⟩)] W fun e W' => e = .returned (.tuple #[]) ∧ Blk W' p t (wayL cam key mixd obj lvl rd wd lf ly fd fx .nilFunc no ot sa fd fx rest) ∧ Chg (fun k => k = p) W W' := by
  have r0 : W.cell? ⟨p, 9, none⟩ = some (.int .i64 0) := hp.cell 9
  have r1 : W.cell? ⟨p, 10, none⟩ = some (.bool fd) := hp.cell 10
  have r2 : W.cell? ⟨p, 11, none⟩ = some (.int .u64 (fx : Int)) := hp.cell 11
  have r3 : W.cell? ⟨p, 12, none⟩ = some (.bool false) := hp.cell 12
  have r4 : W.cell? ⟨p, 13, none⟩ = some (.int .u64 0) := hp.cell 13
  have r5 : W.cell? ⟨p, 14, none⟩ = some (.slice none 0 0) := hp.cell 14
  have r6 : W.cell? ⟨p, 15, none⟩ = some (.int .u64 0) := hp.cell 15
  have HP := keepH hp
  clear hp
  go_enter Tryz.func20, Tryz.ntmps20
  go_wp2_with fail
  refine (end_any HP.out fd fx).mono ?_
  rintro e w1 ⟨rfl, P1, C1⟩
  have HP1 := keepH P1
  have HC1 := keepH C1
  clear P1 C1
  go_wp2_with fail
  go_end0
  exact ⟨rfl, HP1.out, HC1.out⟩
end Go.Proofs.YtokooplfjibneaaGreat
