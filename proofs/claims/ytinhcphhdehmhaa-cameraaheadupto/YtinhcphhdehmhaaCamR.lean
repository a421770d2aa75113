/- The document's procs of the camera (shutterref08), inside a call that is under way. -/
import Derived.Test.YtinhcphhdehmhaaRMemB
import Derived.Test.YtinhcphhdehmhaaCamA
namespace Go.Proofs.Ytinhcphhdehmhaa
open Go.RowKit Go.Shelf
set_option linter.unusedVariables false

def nowCells (cell most nb tb nAt nSt : Nat) (fr tz : Int) : Array Value := #[.bool true, .int .u64 (most : Int), .pointer (some ⟨nb, 0, none⟩), .pointer (some ⟨tb, 0, none⟩), .int .i64 (nAt : Int), .int .u64 (cell : Int), .int .u64 (nSt : Int), .int .i64 0, .int .u64 (cell : Int), .int .u64 (most : Int), .int .u64 0, .int .u64 0, .int .i64 0, .bool false, .int .i64 fr, .int .i64 tz]
def takeCells (cell most nb tb tAt st told err : Nat) (mv : Bool) (fr tz : Int) : Array Value := #[.bool false, .int .u64 (most : Int), .pointer (some ⟨nb, 0, none⟩), .pointer (some ⟨tb, 0, none⟩), .int .i64 0, .int .u64 (cell : Int), .int .u64 0, .int .i64 (tAt : Int), .int .u64 (cell : Int), .int .u64 (most : Int), .int .u64 (st : Int), .int .u64 (told : Int), .int .i64 (err : Int), .bool mv, .int .i64 fr, .int .i64 tz]
def IsN (W : World) (p cell most nb tb nAt nSt : Nat) (fr tz : Int) : Prop := W.heap[p]? = some (.cells (nowCells cell most nb tb nAt nSt fr tz) 43 (0, 0))
def IsT (W : World) (p cell most nb tb tAt st told err : Nat) (mv : Bool) (fr tz : Int) : Prop := W.heap[p]? = some (.cells (takeCells cell most nb tb tAt st told err mv fr tz) 43 (0, 0))

/-- What changes: the memory, the proc. -/
structure GoesR (W W' : World) (R R' : Nat → Prop) (p : Nat) : Prop where
  chg : Chg (fun k => R k ∨ k = p) W W'
  new : ∀ k, R' k → R k ∨ W.heap.size ≤ k
theorem Goes.putR {W W1 : World} {R R1 : Nat → Prop} {p : Nat} (h : Goes W W1 R R1) {i : Nat} (u : Value) : GoesR W (W1.setCell ⟨p, i, none⟩ u) R R1 p :=
  ⟨Chg.setCell (F := fun k => R k ∨ k = p) (h.chg.mono (fun _ _ x => Or.inl x)) (p := ⟨p, i, none⟩) (fun _ => .inr rfl) u, h.new⟩
theorem GoesR.put {W W1 : World} {R R1 : Nat → Prop} {p : Nat} (h : GoesR W W1 R R1 p) {i : Nat} (u : Value) : GoesR W (W1.setCell ⟨p, i, none⟩ u) R R1 p :=
  ⟨Chg.setCell (F := fun k => R k ∨ k = p) h.chg (p := ⟨p, i, none⟩) (fun _ => .inr rfl) u, h.new⟩
theorem GoesR.drewN {W W1 : World} {R R1 : Nat → Prop} {p : Nat} (h : GoesR W W1 R R1 p) (q : Nat) : GoesR W (W1.drewN q) R R1 p :=
  ⟨h.chg.trans (Goes.drewN W1 (fun _ => False) q).chg (fun _ _ x => x) (fun _ _ x => x.elim), h.new⟩
theorem Goes.undrew {W W1 : World} {R R1 : Nat → Prop} (h : Goes W.drew W1 R R1) : Goes W W1 R R1 := ⟨⟨h.chg.os, h.chg.tape, h.chg.output, h.chg.size, h.chg.block⟩, h.new⟩
theorem RMem.put {W : World} {R : Nat → Prop} {nm n next p i : Nat} {cs : List Nat} {l : List Acc} (h : RMem W R nm n next cs l) (hp : ¬ R p) (u : Value) : RMem (W.setCell ⟨p, i, none⟩ u) R nm n next cs l :=
  h.chg ((Chg.refl (fun k => k = p) W).setCell (p := ⟨p, i, none⟩) (fun _ => rfl) u) (fun _ hk e => hp (by rw [← e]; exact hk))
theorem Goes.outR {W W1 : World} {R R1 : Nat → Prop} {v : Nat} (h : Goes W W1 R R1) (hv : v < W.heap.size) (hn : ¬ R v) : ¬ R1 v := fun x => (h.new v x).elim hn (fun y => by omega)

set_option maxRecDepth 100000 in
theorem rn_step (p cell mx nb tb st nm n next : Nat) (fr tz th : Int) (R : Nat → Prop) (cs : List Nat) (l : List Acc) (W : World) (hp : IsN W p cell mx nb tb 0 st fr tz) (h : RMem W R nm n next cs l) (hnp : ¬ R p) (hl : l.length < 1099511627776) (ha : cell < 18446744073709551616) :
    Calls Try.prog 37 #[.pointer (some ⟨p, 4, none⟩), .pointer (some ⟨nm, 0, none⟩), .int .i64 th] W fun e W' => e = .returned (.bool true) ∧ IsN W' p cell mx nb tb 1 (cellN cs cell) fr tz ∧ ∃ R', RMem W' R' nm n next cs (l ++ [⟨th, 1, cell, 0, 0, .slice none 0 0, [], cellN cs cell, false⟩]) ∧ GoesR W W' R R' p := by
  have c4 : W.cell? ⟨p, 4, none⟩ = some (.int .i64 0) := cell_of hp 4
  have c5 : W.cell? ⟨p, 5, none⟩ = some (.int .u64 (cell : Int)) := cell_of hp 5
  have HP := keepH hp
  have H := keepH h
  clear hp h
  go_enter Try.func37, Try.ntmps37
  go_wp2_with fail
  refine (r_load nm n next cell th R cs l _ H.out hl ha).mono ?_
  rintro e w1 ⟨rfl, R1, M1, G1⟩
  have hP1 : Hid (IsN w1 p cell mx nb tb 0 st fr tz) := (G1.chg.block p (lt_of HP.out) hnp).trans HP.out
  have hN1 : Hid (¬ R1 p) := G1.outR (lt_of HP.out) hnp
  have HM1 := keepH M1
  have HG1 := keepH G1
  have d6 : w1.cell? ⟨p, 6, none⟩ = some (.int .u64 (st : Int)) := cell_of hP1.out 6
  have f6 := free_of hP1.out 6
  have P2 := keepH (set_of hP1.out 6 (.int .u64 (cellN cs cell : Int)))
  have d4 : (w1.setCell ⟨p, 6, none⟩ (.int .u64 (cellN cs cell : Int))).cell? ⟨p, 4, none⟩ = some (.int .i64 0) := cell_of P2.out 4
  have d4' : w1.cell? ⟨p, 4, none⟩ = some (.int .i64 0) := cell_of hP1.out 4
  have f4 := free_of P2.out 4
  clear M1 G1
  go_wp2_with fail
  go_ret
  exact ⟨by simp, set_of P2.out 4 _, R1, (HM1.out.put hN1.out _).put hN1.out _, (HG1.out.putR _).put _⟩

set_option maxRecDepth 100000 in
theorem rn_done (p cell mx nb tb st : Nat) (fr tz : Int) (m t : Value) (W : World) (hp : IsN W p cell mx nb tb 1 st fr tz) : Calls Try.prog 37 #[.pointer (some ⟨p, 4, none⟩), m, t] W fun e W' => e = .returned (.bool true) ∧ W' = W := by
  have c4 : W.cell? ⟨p, 4, none⟩ = some (.int .i64 1) := cell_of hp 4
  go_enter Try.func37, Try.ntmps37
  go_wp2_with fail
  go_ret
  exact ⟨by simp, rfl⟩
set_option maxRecDepth 100000 in
theorem rt_done (p cell mx nb tb st told err : Nat) (mv : Bool) (fr tz : Int) (m t : Value) (W : World) (hp : IsT W p cell mx nb tb 2 st told err mv fr tz) : Calls Try.prog 38 #[.pointer (some ⟨p, 7, none⟩), m, t] W fun e W' => e = .returned (.bool true) ∧ W' = W := by
  have c7 : W.cell? ⟨p, 7, none⟩ = some (.int .i64 2) := cell_of hp 7
  go_enter Try.func38, Try.ntmps38
  go_wp2_with fail
  go_ret
  exact ⟨by simp, rfl⟩

set_option maxRecDepth 100000 in
set_option maxHeartbeats 1000000 in
theorem rt_load (p cell mx nb tb st nm n next : Nat) (fr tz th : Int) (R : Nat → Prop) (cs : List Nat) (l : List Acc) (W : World) (hp : IsT W p cell mx nb tb 0 st 0 0 false fr tz) (h : RMem W R nm n next cs l) (hnp : ¬ R p) (hl : l.length < 1099511627776) (ha : cell < 18446744073709551616) (c : Nat) (hc : cellN cs cell = c) :
    Calls Try.prog 38 #[.pointer (some ⟨p, 7, none⟩), .pointer (some ⟨nm, 0, none⟩), .int .i64 th] W fun e W' => e = .returned (.bool (decide (mx ≤ c))) ∧ IsT W' p cell mx nb tb (if mx ≤ c then 2 else 1) c 0 (if mx ≤ c then 31 else 0) false fr tz ∧ ∃ R', RMem W' R' nm n next cs (l ++ [⟨th, 1, cell, 0, 0, .slice none 0 0, [], c, false⟩]) ∧ GoesR W W' R R' p := by
  have c7 : W.cell? ⟨p, 7, none⟩ = some (.int .i64 0) := cell_of hp 7
  have c8 : W.cell? ⟨p, 8, none⟩ = some (.int .u64 (cell : Int)) := cell_of hp 8
  have HP := keepH hp
  have H := keepH h
  clear hp h
  go_enter Try.func38, Try.ntmps38
  go_wp2_with fail
  refine (r_load nm n next cell th R cs l _ H.out hl ha).mono ?_
  rintro e w1 ⟨rfl, R1, M1, G1⟩
  have hP1 : Hid (IsT w1 p cell mx nb tb 0 st 0 0 false fr tz) := (G1.chg.block p (lt_of HP.out) hnp).trans HP.out
  have hN1 : Hid (¬ R1 p) := G1.outR (lt_of HP.out) hnp
  have HM1 := keepH M1
  have HG1 := keepH G1
  rw [hc] at HM1 ⊢
  clear M1 G1 hc
  have d3 : w1.cell? ⟨p, 10, none⟩ = some (.int .u64 (st : Int)) := cell_of hP1.out 10
  have d2 : w1.cell? ⟨p, 7, none⟩ = some (.int .i64 0) := cell_of hP1.out 7
  have f3 := free_of hP1.out 10
  have P2 := keepH (set_of hP1.out 10 (.int .u64 (c : Int)))
  have f2 := free_of P2.out 7
  have P3 := keepH (set_of P2.out 7 (.int .i64 1))
  obtain ⟨w3, hw3⟩ : ∃ w3, w3 = (w1.setCell ⟨p, 10, none⟩ (.int .u64 (c : Int))).setCell ⟨p, 7, none⟩ (.int .i64 1) := ⟨_, rfl⟩
  rw [← hw3] at P3
  have r3 : w3.cell? ⟨p, 10, none⟩ = some (.int .u64 (c : Int)) := cell_of P3.out 10
  have r1 : w3.cell? ⟨p, 9, none⟩ = some (.int .u64 (mx : Int)) := cell_of P3.out 9
  have r2 : w3.cell? ⟨p, 7, none⟩ = some (.int .i64 1) := cell_of P3.out 7
  have HM3 : Hid (RMem w3 R1 nm n next cs (l ++ [⟨th, 1, cell, 0, 0, .slice none 0 0, [], c, false⟩])) := by rw [hw3]; exact (HM1.out.put hN1.out _).put hN1.out _
  have HG3 : Hid (GoesR W w3 R R1 p) := by rw [hw3]; exact (HG1.out.putR _).put _
  go_upto_region 5 with fail
  rw [← hw3]
  clear hw3 f3 f2 d3 d2
  by_cases hm : mx ≤ c
  · have t1 : (mx : Int) ≤ (c : Int) := by omega
    have t2 : decide ((mx : Int) ≤ (c : Int)) = true := decide_eq_true t1
    go_quiet (fail)
    obtain ⟨w4, hw4⟩ : ∃ w4, w4 = w3.drewN nq := ⟨_, rfl⟩
    have C4 : Chg (fun _ => False) w3 w4 := by rw [hw4]; exact (Goes.drewN w3 (fun _ => False) nq).chg
    rw [← hw4]
    have HM4 := keepH (HM3.out.chg C4 (fun _ _ x => x))
    have HG4 : Hid (GoesR W w4 R R1 p) := by rw [hw4]; exact HG3.out.drewN nq
    have Q3 := keepH ((C4.block p (lt_of P3.out) (fun x => x)).trans P3.out)
    have g4 : w4.cell? ⟨p, 12, none⟩ = some (.int .i64 0) := cell_of Q3.out 12
    have g2 : w4.cell? ⟨p, 7, none⟩ = some (.int .i64 1) := cell_of Q3.out 7
    have k4 := free_of Q3.out 12
    have Q4 := keepH (set_of Q3.out 12 (.int .i64 31))
    have k2 := free_of Q4.out 7
    clear hw4 C4 r3 r1 r2
    go_wp2_with fail
    go_ret
    exact ⟨by simp, set_of Q4.out 7 _, R1, (HM4.out.put hN1.out _).put hN1.out _, (HG4.out.put _).put _⟩
  · have t1 : ¬ (mx : Int) ≤ (c : Int) := by omega
    have t2 : decide ((mx : Int) ≤ (c : Int)) = false := decide_eq_false t1
    go_quiet (fail)
    go_wp2_with fail
    go_ret
    exact ⟨by simp, P3.out, R1, HM3.out.chg (Goes.drewN w3 (fun _ => False) _).chg (fun _ _ x => x), HG3.out.drewN _⟩

set_option maxRecDepth 100000 in
set_option maxHeartbeats 4000000 in
theorem rt_cas (p cell mx nb tb st nm n next : Nat) (fr tz th : Int) (R : Nat → Prop) (cs : List Nat) (l : List Acc) (W : World) (hp : IsT W p cell mx nb tb 1 st 0 0 false fr tz) (h : RMem W R nm n next cs l) (hnp : ¬ R p) (hl : l.length < 1099511627776) (ha : cell < 18446744073709551616) (hs : st + 1 < 18446744073709551616) :
    Calls Try.prog 38 #[.pointer (some ⟨p, 7, none⟩), .pointer (some ⟨nm, 0, none⟩), .int .i64 th] W fun e W' => e = .returned (.bool true) ∧ IsT W' p cell mx nb tb 2 st st 0 (casOk n cs cell st) fr tz ∧ ∃ R', RMem W' R' nm n next (casN n cs cell st (st + 1)) (l ++ [⟨th, 3, cell, st, st + 1, .slice none 0 0, [], 0, casOk n cs cell st⟩]) ∧ GoesR W W' R R' p := by
  have c7 : W.cell? ⟨p, 7, none⟩ = some (.int .i64 1) := cell_of hp 7
  have c8 : W.cell? ⟨p, 8, none⟩ = some (.int .u64 (cell : Int)) := cell_of hp 8
  have c10 : W.cell? ⟨p, 10, none⟩ = some (.int .u64 (st : Int)) := cell_of hp 10
  have wk : IntKind.u64.wrap ((st : Int) + 1) = ((st + 1 : Nat) : Int) := by rw [IntKind.wrap_u64]; omega
  have HP := keepH hp
  have H := keepH h
  clear hp h
  go_enter Try.func38, Try.ntmps38
  go_upto_region 9 with fail
  go_cut [59] from 43 to 61 (fun s59 wz => s59 = .bool (casOk n cs cell st) ∧ Hid (IsT wz p cell mx nb tb 1 st 0 0 (casOk n cs cell st) fr tz ∧ ∃ R', ¬ R' p ∧ RMem wz R' nm n next (casN n cs cell st (st + 1)) (l ++ [⟨th, 3, cell, st, st + 1, .slice none 0 0, [], 0, casOk n cs cell st⟩]) ∧ GoesR W wz R R' p))
  case first =>
    have H1 := keepH (H.out.chg ((Chg.refl (fun _ => False) W).drew) (fun _ _ x => x))
    go_region_with (go_at_call 43; refine (r_cas nm n next cell st (st + 1) th R cs l W.drew H1.out hl ha hs).mono ?_; rintro e w1 ⟨rfl, R1, M1, G1'⟩; have G1 := G1'.undrew; have hP1 : Hid (IsT w1 p cell mx nb tb 1 st 0 0 false fr tz) := (G1.chg.block p (lt_of HP.out) hnp).trans HP.out; have HM1 := keepH M1; have HG1 := keepH G1; have d5 : w1.cell? ⟨p, 13, none⟩ = some (.bool false) := cell_of hP1.out 13; have f5 := free_of hP1.out 13; clear M1 G1 G1')
    all_goals (try go_wp2_with fail)
    all_goals go_meet
    all_goals (have hN1 : ¬ R1 p := HG1.out.outR (W := W) (lt_of HP.out) hnp)
    all_goals (exact ⟨by first | rfl | trivial, set_of hP1.out 13 _, R1, hN1, HM1.out.put hN1 _, Goes.putR (W := W) HG1.out _⟩)
  case rest =>
    obtain ⟨wz, hwz⟩ : ∃ wz, wz = wc := ⟨_, rfl⟩
    rw [← hwz] at hcut ⊢
    clear hwz
    obtain ⟨rfl, HC⟩ := hcut
    obtain ⟨P2, R1, hN1, M1, G1⟩ := HC.out
    have HP2 := keepH P2
    have HM1 := keepH M1
    have HG1 := keepH G1
    have d10 : wz.cell? ⟨p, 10, none⟩ = some (.int .u64 (st : Int)) := cell_of P2 10
    have d11 : wz.cell? ⟨p, 11, none⟩ = some (.int .u64 0) := cell_of P2 11
    have d7 : wz.cell? ⟨p, 7, none⟩ = some (.int .i64 1) := cell_of P2 7
    have f11 := free_of P2 11
    have P3 := keepH (set_of P2 11 (.int .u64 (st : Int)))
    have f7 := free_of P3.out 7
    clear M1 G1 P2 HC c7 c8 c10
    go_wp2_with fail
    go_ret
    exact ⟨by simp, set_of P3.out 7 _, R1, (HM1.out.put hN1 _).put hN1 _, (HG1.out.put _).put _⟩
end Go.Proofs.Ytinhcphhdehmhaa
