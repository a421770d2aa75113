/- The document's Cut: what a step of it does, over any memory. -/
import Derived.Test.YtciohnfbjaglbaaKo
namespace Go.Proofs.Ytciohnfbjaglbaa
open Go.RowKit Go.Shelf
set_option linter.unusedVariables false

structure RCut where
  pos : Nat
  obj : Nat
  x : Nat
  sx : Nat
  y : Nat
  y0 : Nat
  nx : Nat
  cnt : Nat
  head : Nat
  Cnt : Nat
  Hd : Nat
def rcL (F : Nat) (sv : Value) (s : RCut) : Array Value := #[.int .i64 (s.pos : Int), .int .u64 (s.obj : Int), .int .u64 (F : Int), sv, .int .u64 (s.x : Int), .int .u64 (s.sx : Int), .int .u64 (s.y : Int), .int .u64 (s.y0 : Int), .int .u64 (s.nx : Int), .int .u64 (s.cnt : Int), .int .u64 (s.head : Int), .int .u64 (s.Cnt : Int), .int .u64 (s.Hd : Int)]
def IsRC (W : World) (p F : Nat) (sv : Value) (s : RCut) : Prop := W.heap[p]? = some (.cells (rcL F sv s) 43 (0, 0))
theorem IsRC.chg {W W' : World} {G : Nat → Prop} {p F : Nat} {sv : Value} {s : RCut} (h : IsRC W p F sv s) (hc : Chg G W W') (hn : ¬ G p) : IsRC W' p F sv s := (hc.block p (lt_of h) hn).trans h
def RCut.fin (s : RCut) : RCut := { s with Cnt := s.cnt, Hd := s.head, pos := 9 }
def RCut.enough (s : RCut) (sy : Nat) : RCut := if s.y ≠ s.y0 then { s with nx := sy, pos := 6 } else if s.y = 0 then RCut.fin { s with nx := sy } else { s with nx := sy, x := s.y, sx := sy, pos := 3 }

set_option maxRecDepth 100000 in
set_option maxHeartbeats 2000000 in
theorem rc_end (p F : Nat) (sv : Value) (s : RCut) (W : World) (h : IsRC W p F sv s) :
    Calls Try.prog 39 #[.pointer (some ⟨p, 0, none⟩)] W fun e W' => e = .returned (.tuple #[]) ∧ IsRC W' p F sv s.fin ∧ Chg (fun k => k = p) W W' := by
  obtain ⟨pos, obj, x, sx, y, y0, nx, cnt, head, Cnt, Hd⟩ := s
  have c9 : W.cell? ⟨p, 9, none⟩ = some (.int .u64 (cnt : Int)) := cell_of h 9
  have c10 : W.cell? ⟨p, 10, none⟩ = some (.int .u64 (head : Int)) := cell_of h 10
  have c11 : W.cell? ⟨p, 11, none⟩ = some (.int .u64 (Cnt : Int)) := cell_of h 11
  have c12 : W.cell? ⟨p, 12, none⟩ = some (.int .u64 (Hd : Int)) := cell_of h 12
  have c0 : W.cell? ⟨p, 0, none⟩ = some (.int .i64 (pos : Int)) := cell_of h 0
  have f11 := free_of h 11
  have f12 := free_of h 12
  have f0 := free_of h 0
  have H1 := keepH (set_of h 11 (.int .u64 (cnt : Int)))
  have H2 := keepH (set_of H1.out 12 (.int .u64 (head : Int)))
  clear h
  go_enter Try.func39, Try.ntmps39
  go_wp2_with fail
  go_end0
  exact ⟨rfl, set_of H2.out 0 _, ((setP _).put _).put _⟩

set_option maxRecDepth 100000 in
set_option maxHeartbeats 2000000 in
theorem rc_enough (sy : Nat) (p F : Nat) (sv : Value) (s : RCut) (W : World) (h : IsRC W p F sv s) :
    Calls Try.prog 40 #[.pointer (some ⟨p, 0, none⟩), .int .u64 (sy : Int)] W fun e W' => e = .returned (.tuple #[]) ∧ IsRC W' p F sv (s.enough sy) ∧ Chg (fun k => k = p) W W' := by
  obtain ⟨pos, obj, x, sx, y, y0, nx, cnt, head, Cnt, Hd⟩ := s
  have c8 : W.cell? ⟨p, 8, none⟩ = some (.int .u64 (nx : Int)) := cell_of h 8
  have f8 := free_of h 8
  obtain ⟨w1, hw1⟩ : ∃ w1, w1 = (W.setCell ⟨p, 8, none⟩ (.int .u64 (sy : Int))) := ⟨_, rfl⟩
  have H1 : Hid (IsRC w1 p F sv ⟨pos, obj, x, sx, y, y0, sy, cnt, head, Cnt, Hd⟩) := by rw [hw1]; exact set_of h 8 _
  have C1 : Hid (Chg (fun k => k = p) W w1) := by rw [hw1]; exact setP _
  have d6 : w1.cell? ⟨p, 6, none⟩ = some (.int .u64 (y : Int)) := cell_of H1.out 6
  have d7 : w1.cell? ⟨p, 7, none⟩ = some (.int .u64 (y0 : Int)) := cell_of H1.out 7
  have HW1 := keepH hw1
  clear h hw1
  by_cases h0 : y = y0
  · have e1 : ((y : Int) != (y0 : Int)) = false := by simp [h0]
    by_cases hz : y = 0
    · have e2 : ((y : Int) == 0) = true := by simp [hz]
      have es : RCut.enough ⟨pos, obj, x, sx, y, y0, nx, cnt, head, Cnt, Hd⟩ sy = RCut.fin ⟨pos, obj, x, sx, y, y0, sy, cnt, head, Cnt, Hd⟩ := by unfold RCut.enough; rw [if_neg (by simpa using h0), if_pos hz]
      rw [es]
      clear es h0 hz
      go_enter Try.func40, Try.ntmps40
      go_upto_region 3 with fail
      rw [← HW1.out]
      clear HW1
      go_quiet (fail)
      obtain ⟨w2, hw2⟩ : ∃ w2, w2 = w1.drewN nq := ⟨_, rfl⟩
      have H2 : Hid (IsRC w2 p F sv ⟨pos, obj, x, sx, y, y0, sy, cnt, head, Cnt, Hd⟩) := by rw [hw2]; exact H1.out
      have C2 : Hid (Chg (fun k => k = p) W w2) := by rw [hw2]; exact C1.out.then_ (Goes.drewN w1 (fun k => k = p) nq).chg
      rw [← hw2]
      clear hw2 d6 d7
      have g6 : w2.cell? ⟨p, 6, none⟩ = some (.int .u64 (y : Int)) := cell_of H2.out 6
      have g4 : w2.cell? ⟨p, 4, none⟩ = some (.int .u64 (x : Int)) := cell_of H2.out 4
      have g5 : w2.cell? ⟨p, 5, none⟩ = some (.int .u64 (sx : Int)) := cell_of H2.out 5
      have g0 : w2.cell? ⟨p, 0, none⟩ = some (.int .i64 (pos : Int)) := cell_of H2.out 0
      have k4 := free_of H2.out 4
      have k5 := free_of H2.out 5
      have k0 := free_of H2.out 0
      go_wp2_with fail
      refine (rc_end p F sv ⟨pos, obj, x, sx, y, y0, sy, cnt, head, Cnt, Hd⟩ _ H2.out).mono ?_
      rintro e w3 ⟨rfl, h3, c3⟩
      have H3 := keepH h3
      have C3 := keepH (C2.out.then_ c3)
      clear h3 c3
      go_wp2_with fail
      go_end0
      exact ⟨rfl, H3.out, C3.out⟩
    · have e2 : ((y : Int) == 0) = false := beq_eq_false_iff_ne.2 (by omega)
      have es : RCut.enough ⟨pos, obj, x, sx, y, y0, nx, cnt, head, Cnt, Hd⟩ sy = ⟨3, obj, y, sy, y, y0, sy, cnt, head, Cnt, Hd⟩ := by unfold RCut.enough; rw [if_neg (by simpa using h0), if_neg hz]
      rw [es]
      clear es h0 hz
      go_enter Try.func40, Try.ntmps40
      go_upto_region 3 with fail
      rw [← HW1.out]
      clear HW1
      go_quiet (fail)
      obtain ⟨w2, hw2⟩ : ∃ w2, w2 = w1.drewN nq := ⟨_, rfl⟩
      have H2 : Hid (IsRC w2 p F sv ⟨pos, obj, x, sx, y, y0, sy, cnt, head, Cnt, Hd⟩) := by rw [hw2]; exact H1.out
      have C2 : Hid (Chg (fun k => k = p) W w2) := by rw [hw2]; exact C1.out.then_ (Goes.drewN w1 (fun k => k = p) nq).chg
      rw [← hw2]
      clear hw2 d6 d7
      have g6 : w2.cell? ⟨p, 6, none⟩ = some (.int .u64 (y : Int)) := cell_of H2.out 6
      have g4 : w2.cell? ⟨p, 4, none⟩ = some (.int .u64 (x : Int)) := cell_of H2.out 4
      have g5 : w2.cell? ⟨p, 5, none⟩ = some (.int .u64 (sx : Int)) := cell_of H2.out 5
      have g0 : w2.cell? ⟨p, 0, none⟩ = some (.int .i64 (pos : Int)) := cell_of H2.out 0
      have k4 := free_of H2.out 4
      have k5 := free_of H2.out 5
      have k0 := free_of H2.out 0
      have H3 := keepH (set_of H2.out 4 (.int .u64 (y : Int)))
      have H4 := keepH (set_of H3.out 5 (.int .u64 (sy : Int)))
      go_wp2_with fail
      go_end0
      exact ⟨rfl, set_of H4.out 0 _, ((C2.out.put _).put _).put _⟩
  · have e1 : ((y : Int) != (y0 : Int)) = true := bne_iff_ne.2 (by omega)
    have es : RCut.enough ⟨pos, obj, x, sx, y, y0, nx, cnt, head, Cnt, Hd⟩ sy = ⟨6, obj, x, sx, y, y0, sy, cnt, head, Cnt, Hd⟩ := by unfold RCut.enough; rw [if_pos h0]
    rw [es]
    clear es h0
    go_enter Try.func40, Try.ntmps40
    go_upto_region 3 with fail
    rw [← HW1.out]
    clear HW1
    go_quiet (fail)
    obtain ⟨w2, hw2⟩ : ∃ w2, w2 = w1.drewN nq := ⟨_, rfl⟩
    have H2 : Hid (IsRC w2 p F sv ⟨pos, obj, x, sx, y, y0, sy, cnt, head, Cnt, Hd⟩) := by rw [hw2]; exact H1.out
    have C2 : Hid (Chg (fun k => k = p) W w2) := by rw [hw2]; exact C1.out.then_ (Goes.drewN w1 (fun k => k = p) nq).chg
    rw [← hw2]
    clear hw2 d6 d7
    have g6 : w2.cell? ⟨p, 6, none⟩ = some (.int .u64 (y : Int)) := cell_of H2.out 6
    have g4 : w2.cell? ⟨p, 4, none⟩ = some (.int .u64 (x : Int)) := cell_of H2.out 4
    have g5 : w2.cell? ⟨p, 5, none⟩ = some (.int .u64 (sx : Int)) := cell_of H2.out 5
    have g0 : w2.cell? ⟨p, 0, none⟩ = some (.int .i64 (pos : Int)) := cell_of H2.out 0
    have k4 := free_of H2.out 4
    have k5 := free_of H2.out 5
    have k0 := free_of H2.out 0
    go_wp2_with fail
    go_end0
    exact ⟨rfl, set_of H2.out 0 _, C2.out.put _⟩

end Go.Proofs.Ytciohnfbjaglbaa
