/- A Cut, step by step, over any view. -/
import Derived.Test.YtbjebnkfecjpnaaKnG
namespace Go.Proofs.Ytbjebnkfecjpnaa
open Go.RowKit Go.Shelf
set_option linter.unusedVariables false

structure CutS where
  obj : Nat
  nx : Nat
  head : Nat
  cnt : Nat
  kept : Nat
  kst : Nat
  first : Nat
  asked : Nat
  ast : Nat
def cutL (F : Nat) (sv : Value) (s : CutS) : Array Value := #[.int .u64 (s.obj : Int), .int .u64 (F : Int), sv, .int .u8 (s.nx : Int), .int .u64 (s.head : Int), .int .u64 (s.cnt : Int), .int .u64 (s.kept : Int), .int .u64 (s.kst : Int), .int .u64 (s.first : Int), .int .u64 (s.asked : Int), .int .u64 (s.ast : Int)]
def IsCut (W : World) (p F : Nat) (sv : Value) (s : CutS) : Prop := W.heap[p]? = some (.cells (cutL F sv s) 96 (0, 0))
theorem IsCut.chg {W W' : World} {G : Nat → Prop} {p F : Nat} {sv : Value} {s : CutS} (h : IsCut W p F sv s) (hc : Chg G W W') (hn : ¬ G p) : IsCut W' p F sv s := (hc.block p (lt_of h) hn).trans h
theorem Chg.put {W W' : World} {p i : Nat} (h : Chg (fun k => k = p) W W') (u : Value) : Chg (fun k => k = p) W (W'.setCell ⟨p, i, none⟩ u) := h.setCell (p := ⟨p, i, none⟩) (fun _ => rfl) u
theorem Chg.then_ {G : Nat → Prop} {a b c : World} (h : Chg G a b) (k : Chg G b c) : Chg G a c := h.trans k (fun _ _ x => x) (fun _ _ x => x)

def CutS.goOn (s : CutS) : CutS := { s with kept := s.asked, kst := s.ast, nx := if s.asked = 0 then 7 else 3 }
def CutS.join (s : CutS) : CutS := if s.asked = s.first then s.goOn else { s with nx := 6 }
def CutS.ask (s : CutS) (x : Nat) : CutS := if x = 0 then CutS.join { s with asked := x, nx := 4 } else { s with asked := x, nx := 4 }

set_option maxRecDepth 100000 in
set_option maxHeartbeats 1000000 in
theorem k_goOn (p F : Nat) (sv : Value) (s : CutS) (W : World) (h : IsCut W p F sv s) :
    Calls Try.prog 42 #[.pointer (some ⟨p, 0, none⟩)] W fun e W' => e = .returned (.tuple #[]) ∧ IsCut W' p F sv s.goOn ∧ Chg (fun k => k = p) W W' := by
  obtain ⟨obj, nx, head, cnt, kept, kst, first, asked, ast⟩ := s
  by_cases h0 : asked = 0
  · have e0 : ((asked : Int) == 0) = true := by simp [h0]
    have es : CutS.goOn ⟨obj, nx, head, cnt, kept, kst, first, asked, ast⟩ = ⟨obj, 7, head, cnt, asked, ast, first, asked, ast⟩ := by simp [CutS.goOn, h0]
    rw [es]
    clear es h0
    have c6 : W.cell? ⟨p, 6, none⟩ = some (.int .u64 (kept : Int)) := cell_of h 6
    have c7 : W.cell? ⟨p, 7, none⟩ = some (.int .u64 (kst : Int)) := cell_of h 7
    have c9 : W.cell? ⟨p, 9, none⟩ = some (.int .u64 (asked : Int)) := cell_of h 9
    have c10 : W.cell? ⟨p, 10, none⟩ = some (.int .u64 (ast : Int)) := cell_of h 10
    have f6 := free_of h 6
    have f7 := free_of h 7
    have f3 := free_of h 3
    obtain ⟨w1, hw1⟩ : ∃ w1, w1 = ((W.setCell ⟨p, 6, none⟩ (.int .u64 (asked : Int))).setCell ⟨p, 7, none⟩ (.int .u64 (ast : Int))).drew := ⟨_, rfl⟩
    have H1 : Hid (IsCut w1 p F sv ⟨obj, nx, head, cnt, asked, ast, first, asked, ast⟩) := by rw [hw1]; exact set_of (set_of h 6 _) 7 _
    have C1 : Hid (Chg (fun k => k = p) W w1) := by rw [hw1]; exact ((setP _).put _).drew
    have d3 : w1.cell? ⟨p, 3, none⟩ = some (.int .u8 (nx : Int)) := cell_of H1.out 3
    have d6 : w1.cell? ⟨p, 6, none⟩ = some (.int .u64 (asked : Int)) := cell_of H1.out 6
    have g3 := free_of H1.out 3
    have H2 := keepH (set_of H1.out 3 (.int .u8 3))
    have e3 : (w1.setCell ⟨p, 3, none⟩ (.int .u8 3)).cell? ⟨p, 3, none⟩ = some (.int .u8 3) := cell_of H2.out 3
    have HW1 := keepH hw1
    clear h hw1
    go_enter Try.func42, Try.ntmps42
    go_upto_region 0 with fail
    go_region
    rw [← HW1.out]
    clear HW1 c6 c7 c9 c10 f6 f7
    go_wp2_with fail
    go_end0
    exact ⟨rfl, set_of H2.out 3 _, (C1.out.put _).put _⟩
  · have e0 : ((asked : Int) == 0) = false := by simp [h0]
    have es : CutS.goOn ⟨obj, nx, head, cnt, kept, kst, first, asked, ast⟩ = ⟨obj, 3, head, cnt, asked, ast, first, asked, ast⟩ := by simp [CutS.goOn, h0]
    rw [es]
    clear es h0
    have c6 : W.cell? ⟨p, 6, none⟩ = some (.int .u64 (kept : Int)) := cell_of h 6
    have c7 : W.cell? ⟨p, 7, none⟩ = some (.int .u64 (kst : Int)) := cell_of h 7
    have c9 : W.cell? ⟨p, 9, none⟩ = some (.int .u64 (asked : Int)) := cell_of h 9
    have c10 : W.cell? ⟨p, 10, none⟩ = some (.int .u64 (ast : Int)) := cell_of h 10
    have f6 := free_of h 6
    have f7 := free_of h 7
    have f3 := free_of h 3
    obtain ⟨w1, hw1⟩ : ∃ w1, w1 = ((W.setCell ⟨p, 6, none⟩ (.int .u64 (asked : Int))).setCell ⟨p, 7, none⟩ (.int .u64 (ast : Int))).drew := ⟨_, rfl⟩
    have H1 : Hid (IsCut w1 p F sv ⟨obj, nx, head, cnt, asked, ast, first, asked, ast⟩) := by rw [hw1]; exact set_of (set_of h 6 _) 7 _
    have C1 : Hid (Chg (fun k => k = p) W w1) := by rw [hw1]; exact ((setP _).put _).drew
    have d3 : w1.cell? ⟨p, 3, none⟩ = some (.int .u8 (nx : Int)) := cell_of H1.out 3
    have d6 : w1.cell? ⟨p, 6, none⟩ = some (.int .u64 (asked : Int)) := cell_of H1.out 6
    have g3 := free_of H1.out 3
    have H2 := keepH (set_of H1.out 3 (.int .u8 3))
    have e3 : (w1.setCell ⟨p, 3, none⟩ (.int .u8 3)).cell? ⟨p, 3, none⟩ = some (.int .u8 3) := cell_of H2.out 3
    have HW1 := keepH hw1
    clear h hw1
    go_enter Try.func42, Try.ntmps42
    go_upto_region 0 with fail
    go_region
    rw [← HW1.out]
    clear HW1 c6 c7 c9 c10 f6 f7
    go_wp2_with fail
    go_end0
    exact ⟨rfl, H2.out, C1.out.put _⟩

set_option maxRecDepth 100000 in
set_option maxHeartbeats 1000000 in
theorem k_join (p F : Nat) (sv : Value) (s : CutS) (W : World) (h : IsCut W p F sv s) :
    Calls Try.prog 41 #[.pointer (some ⟨p, 0, none⟩)] W fun e W' => e = .returned (.tuple #[]) ∧ IsCut W' p F sv s.join ∧ Chg (fun k => k = p) W W' := by
  obtain ⟨obj, nx, head, cnt, kept, kst, first, asked, ast⟩ := s
  have c8 : W.cell? ⟨p, 8, none⟩ = some (.int .u64 (first : Int)) := cell_of h 8
  have c9 : W.cell? ⟨p, 9, none⟩ = some (.int .u64 (asked : Int)) := cell_of h 9
  have c3 : W.cell? ⟨p, 3, none⟩ = some (.int .u8 (nx : Int)) := cell_of h 3
  have f3 := free_of h 3
  have H := keepH h
  clear h
  by_cases h0 : asked = first
  · have es : CutS.join ⟨obj, nx, head, cnt, kept, kst, first, asked, ast⟩ = CutS.goOn ⟨obj, nx, head, cnt, kept, kst, first, asked, ast⟩ := by simp [CutS.join, h0]
    rw [es]
    have e1 : ((asked : Int) == (first : Int)) = true := by simp [h0]
    clear es h0
    go_enter Try.func41, Try.ntmps41
    go_upto_region 0 with fail
    go_quiet (fail)
    have HB : Hid (IsCut (W.drewN nq) p F sv ⟨obj, nx, head, cnt, kept, kst, first, asked, ast⟩) := H.out
    go_wp2_with fail
    refine (k_goOn p F sv ⟨obj, nx, head, cnt, kept, kst, first, asked, ast⟩ _ HB.out).mono ?_
    rintro e w ⟨rfl, h1, h2⟩
    have H1 := keepH h1
    have C1 : Hid (Chg (fun k => k = p) W w) := (Goes.drewN W (fun k => k = p) nq).chg.then_ h2
    clear h1 h2
    go_wp2_with fail
    exact bodyPost_ret (results_none rfl _ _ _) rfl ⟨rfl, H1.out, C1.out⟩
  · have es : CutS.join ⟨obj, nx, head, cnt, kept, kst, first, asked, ast⟩ = ⟨obj, 6, head, cnt, kept, kst, first, asked, ast⟩ := by simp [CutS.join, h0]
    rw [es]
    have e1 : ((asked : Int) == (first : Int)) = false := beq_eq_false_iff_ne.2 (by omega)
    clear es h0
    go_enter Try.func41, Try.ntmps41
    go_upto_region 0 with fail
    go_quiet (fail)
    have HB : Hid (IsCut (W.drewN nq) p F sv ⟨obj, nx, head, cnt, kept, kst, first, asked, ast⟩) := H.out
    have CB : Hid (Chg (fun k => k = p) W (W.drewN nq)) := (Goes.drewN W (fun k => k = p) nq).chg
    obtain ⟨w1, hw1⟩ : ∃ w1, w1 = W.drewN nq := ⟨_, rfl⟩
    rw [← hw1] at HB CB ⊢
    clear hw1
    have d3 : w1.cell? ⟨p, 3, none⟩ = some (.int .u8 (nx : Int)) := cell_of HB.out 3
    have g3 := free_of HB.out 3
    go_wp2_with fail
    go_end0
    exact ⟨rfl, set_of HB.out 3 _, CB.out.put _⟩

set_option maxRecDepth 100000 in
set_option maxHeartbeats 1000000 in
theorem k_ask (x : Nat) (p F : Nat) (sv : Value) (s : CutS) (W : World) (h : IsCut W p F sv s) :
    Calls Try.prog 40 #[.pointer (some ⟨p, 0, none⟩), .int .u64 (x : Int)] W fun e W' => e = .returned (.tuple #[]) ∧ IsCut W' p F sv (s.ask x) ∧ Chg (fun k => k = p) W W' := by
  obtain ⟨obj, nx, head, cnt, kept, kst, first, asked, ast⟩ := s
  have c3 : W.cell? ⟨p, 3, none⟩ = some (.int .u8 (nx : Int)) := cell_of h 3
  have c9 : W.cell? ⟨p, 9, none⟩ = some (.int .u64 (asked : Int)) := cell_of h 9
  have f3 := free_of h 3
  have f9 := free_of h 9
  have H1 := keepH (set_of h 9 (.int .u64 (x : Int)))
  have g3 := free_of H1.out 3
  have d3 : (W.setCell ⟨p, 9, none⟩ (.int .u64 (x : Int))).cell? ⟨p, 3, none⟩ = some (.int .u8 (nx : Int)) := cell_of H1.out 3
  have H2 := keepH (set_of H1.out 3 (.int .u8 4))
  obtain ⟨w2, hw2⟩ : ∃ w2, w2 = (W.setCell ⟨p, 9, none⟩ (.int .u64 (x : Int))).setCell ⟨p, 3, none⟩ (.int .u8 4) := ⟨_, rfl⟩
  have HI : Hid (IsCut w2 p F sv ⟨obj, 4, head, cnt, kept, kst, first, x, ast⟩) := by rw [hw2]; exact H2.out
  have HC : Hid (Chg (fun k => k = p) W w2) := by rw [hw2]; exact (setP _).put _
  clear h
  by_cases h0 : x = 0
  · have es : CutS.ask ⟨obj, nx, head, cnt, kept, kst, first, asked, ast⟩ x = CutS.join ⟨obj, 4, head, cnt, kept, kst, first, x, ast⟩ := by simp only [CutS.ask, h0, if_true]
    rw [es]
    have e0 : ((x : Int) == 0) = true := by simp [h0]
    clear es h0
    go_enter Try.func40, Try.ntmps40
    go_wp2_with fail
    rw [← hw2]
    clear hw2
    refine (k_join p F sv ⟨obj, 4, head, cnt, kept, kst, first, x, ast⟩ _ HI.out).mono ?_
    rintro e w ⟨rfl, h1, h2⟩
    have HJ := keepH h1
    have C1 := keepH (HC.out.then_ h2)
    clear h1 h2
    go_wp2_with fail
    go_end0
    exact ⟨rfl, HJ.out, C1.out⟩
  · have es : CutS.ask ⟨obj, nx, head, cnt, kept, kst, first, asked, ast⟩ x = ⟨obj, 4, head, cnt, kept, kst, first, x, ast⟩ := by simp only [CutS.ask, h0, if_false]
    rw [es]
    have e0 : ((x : Int) == 0) = false := by simp [h0]
    have HI2 := HI
    rw [hw2] at HI HC
    clear es hw2 h0
    go_enter Try.func40, Try.ntmps40
    go_wp2_with fail
    go_end0
    exact ⟨rfl, HI.out, HC.out⟩

end Go.Proofs.Ytbjebnkfecjpnaa
