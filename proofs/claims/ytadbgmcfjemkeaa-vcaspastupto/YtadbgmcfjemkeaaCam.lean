/- The camera's procs: what a step does, and what they tell. -/
import Derived.Deep.Cut
import Derived.Deep.CutBlock
import Derived.Deep.DeepCutAuto
import Derived.Test.YtadbgmcfjemkeaaOps
namespace Go.Proofs.Ytadbgmcfjemkeaa
open Go.RowKit Go.Shelf

def IsNow (W : World) (p cell pos stamp : Nat) : Prop := W.heap[p]? = some (.cells #[.int .u64 (cell : Int), .int .u8 (pos : Int), .int .u64 (stamp : Int)] 177 (0, 0))
def IsTake (W : World) (p cell most pos stamp err : Nat) (moved : Bool) : Prop := W.heap[p]? = some (.cells #[.int .u64 (cell : Int), .int .u64 (most : Int), .int .u8 (pos : Int), .int .u64 (stamp : Int), .int .i64 (err : Int), .bool moved] 148 (0, 0))
theorem IsNow.chg {W W' : World} {F : Nat → Prop} {p cell pos stamp : Nat} (h : IsNow W p cell pos stamp) (hc : Chg F W W') (hn : ¬ F p) : IsNow W' p cell pos stamp := (hc.block p (lt_of h) hn).trans h
theorem IsTake.chg {W W' : World} {F : Nat → Prop} {p cell most pos stamp err : Nat} {moved : Bool} (h : IsTake W p cell most pos stamp err moved) (hc : Chg F W W') (hn : ¬ F p) : IsTake W' p cell most pos stamp err moved := (hc.block p (lt_of h) hn).trans h -- the type 148

set_option maxRecDepth 100000 in
theorem n_new (cell : Nat) (W : World) : Calls Try.prog 77 #[.int .u64 (cell : Int)] W fun e W' => e = .returned (.pointer (some ⟨W.heap.size, 0, none⟩)) ∧ W' = W.alloc (.cells #[.int .u64 (cell : Int), .int .u8 0, .int .u64 0] 177) := by
  go_enter Try.func77, Try.ntmps77
  go_wp2_with fail
  go_ret
  exact ⟨by simp, rfl⟩
set_option maxRecDepth 100000 in
theorem t_new (cell most : Nat) (W : World) : Calls Try.prog 40 #[.int .u64 (cell : Int), .int .u64 (most : Int)] W fun e W' => e = .returned (.pointer (some ⟨W.heap.size, 0, none⟩)) ∧ W' = W.alloc (.cells #[.int .u64 (cell : Int), .int .u64 (most : Int), .int .u8 0, .int .u64 0, .int .i64 0, .bool false] 148) := by
  go_enter Try.func40, Try.ntmps40
  go_wp2_with fail
  go_ret
  exact ⟨by simp, rfl⟩

/-- What changes: the memory, the view, the proc. -/
structure GoesP (W W' : World) (F F' : Nat → Prop) (v p : Nat) : Prop where
  chg : Chg (fun k => (F k ∨ k = v) ∨ k = p) W W'
  new : ∀ k, F' k → F k ∨ W.heap.size ≤ k

theorem GoesV.undrew {W W1 : World} {F F1 : Nat → Prop} {v : Nat} (h : GoesV W.drew W1 F F1 v) : GoesV W W1 F F1 v := ⟨⟨h.chg.os, h.chg.tape, h.chg.output, h.chg.size, h.chg.block⟩, h.new⟩
theorem GoesV.putP {W W1 : World} {F F1 : Nat → Prop} {v p : Nat} (h : GoesV W W1 F F1 v) {i : Nat} (u : Value) : GoesP W (W1.setCell ⟨p, i, none⟩ u) F F1 v p :=
  ⟨Chg.setCell (F := fun k => (F k ∨ k = v) ∨ k = p) (h.chg.mono (fun _ _ x => Or.inl x)) (p := ⟨p, i, none⟩) (fun _ => .inr rfl) u, h.new⟩
theorem GoesP.put {W W1 : World} {F F1 : Nat → Prop} {v p : Nat} (h : GoesP W W1 F F1 v p) {i : Nat} (u : Value) : GoesP W (W1.setCell ⟨p, i, none⟩ u) F F1 v p :=
  ⟨h.chg.setCell (p := ⟨p, i, none⟩) (fun _ => .inr rfl) u, h.new⟩
theorem Bank.put {W : World} {F : Nat → Prop} {b most next p i : Nat} {cs : List Nat} {l : List Acc} (h : Bank W F b most next cs l) (hp : ¬ F p) (u : Value) : Bank (W.setCell ⟨p, i, none⟩ u) F b most next cs l :=
  h.chg ((Chg.refl (fun k => k = p) W).setCell (p := ⟨p, i, none⟩) (fun _ => rfl) u) (fun _ hk e => hp (by rw [← e]; exact hk))
theorem IsView.put {W : World} {v b p i : Nat} {th : Int} {made : Nat} (h : IsView W v b th made) (hp : v ≠ p) (u : Value) : IsView (W.setCell ⟨p, i, none⟩ u) v b th made := other_of h hp u

set_option maxRecDepth 100000 in
theorem n_step (p v b most next made cell st : Nat) (th : Int) (F : Nat → Prop) (cs : List Nat) (l : List Acc) (W : World) (hp : IsNow W p cell 0 st) (hw : IsView W v b th made) (h : Bank W F b most next cs l) (hnv : ¬ F v) (hnp : ¬ F p) (hpv : p ≠ v) (hmd : made < 1099511627776) (hl : l.length < 1099511627776) (ha : cell < 18446744073709551616) :
    Calls Try.prog 78 #[.pointer (some ⟨p, 0, none⟩), .pointer (some ⟨v, 0, none⟩)] W fun e W' => e = .returned (.bool true) ∧ IsNow W' p cell 2 (cellN cs cell) ∧ ∃ F' vs, Bank W' F' b most next cs (l ++ [⟨th, 1, cell, 0, 0, vs, [], cellN cs cell, false⟩]) ∧ IsView W' v b th (made + 1) ∧ GoesP W W' F F' v p := by
  have c0 : W.cell? ⟨p, 0, none⟩ = some (.int .u64 (cell : Int)) := cell_of hp 0
  have c1 : W.cell? ⟨p, 1, none⟩ = some (.int .u8 0) := cell_of hp 1
  have HP := keepH hp
  have HW := keepH hw
  have H := keepH h
  clear hp hw h
  go_enter Try.func78, Try.ntmps78
  go_wp2_with fail
  refine (v_load v b most next made th cell F cs l _ HW.out H.out hnv hmd hl ha).mono ?_
  rintro e w1 ⟨rfl, F1, vs, B1, V1, G1⟩
  have hP1 : Hid (IsNow w1 p cell 0 st) := HP.out.chg G1.chg (fun e => e.elim hnp hpv)
  have hN1 : Hid (¬ F1 p) := G1.out (lt_of HP.out) hnp
  have HB1 := keepH B1
  have HV1 := keepH V1
  have HG1 := keepH G1
  have d2 := (cell_of hP1.out 2).trans rfl
  have d1 := (cell_of hP1.out 1).trans rfl
  have f2 := free_of hP1.out 2
  have f1 := free_of (set_of hP1.out 2 (.int .u64 (cellN cs cell : Int))) 1
  have f1' := free_of hP1.out 1
  clear B1 V1 G1
  go_wp2_with fail
  go_ret
  refine ⟨by simp, ?_, F1, vs, (HB1.out.put hN1.out _).put hN1.out _, (HV1.out.put (Ne.symm hpv) _).put (Ne.symm hpv) _, (HG1.out.putP _).put _⟩
  exact set_of (set_of hP1.out 2 _) 1 _

set_option maxRecDepth 100000 in
theorem n_done (p cell st : Nat) (v : Value) (W : World) (hp : IsNow W p cell 2 st) : Calls Try.prog 78 #[.pointer (some ⟨p, 0, none⟩), v] W fun e W' => e = .returned (.bool true) ∧ W' = W := by
  have c1 : W.cell? ⟨p, 1, none⟩ = some (.int .u8 2) := cell_of hp 1
  go_enter Try.func78, Try.ntmps78
  go_wp2_with fail
  go_ret
  exact ⟨by simp, rfl⟩
set_option maxRecDepth 100000 in
theorem t_done (p cell most st err : Nat) (mv : Bool) (v : Value) (W : World) (hp : IsTake W p cell most 2 st err mv) : Calls Try.prog 88 #[.pointer (some ⟨p, 0, none⟩), v] W fun e W' => e = .returned (.bool true) ∧ W' = W := by
  have c2 : W.cell? ⟨p, 2, none⟩ = some (.int .u8 2) := cell_of hp 2
  go_enter Try.func88, Try.ntmps88
  go_wp2_with fail
  go_ret
  exact ⟨by simp, rfl⟩

set_option maxRecDepth 100000 in
theorem t_load (p v b most next made cell mx st : Nat) (th : Int) (F : Nat → Prop) (cs : List Nat) (l : List Acc) (W : World) (hp : IsTake W p cell mx 0 st 0 false) (hw : IsView W v b th made) (h : Bank W F b most next cs l) (hnv : ¬ F v) (hnp : ¬ F p) (hpv : p ≠ v) (hmd : made < 1099511627776) (hl : l.length < 1099511627776) (ha : cell < 18446744073709551616) (c : Nat) (hc : cellN cs cell = c) :
    Calls Try.prog 88 #[.pointer (some ⟨p, 0, none⟩), .pointer (some ⟨v, 0, none⟩)] W fun e W' => e = .returned (.bool (decide (mx ≤ c))) ∧ IsTake W' p cell mx (if mx ≤ c then 2 else 1) c (if mx ≤ c then 31 else 0) false ∧ ∃ F' vs, Bank W' F' b most next cs (l ++ [⟨th, 1, cell, 0, 0, vs, [], c, false⟩]) ∧ IsView W' v b th (made + 1) ∧ GoesP W W' F F' v p := by
  have c0 : W.cell? ⟨p, 0, none⟩ = some (.int .u64 (cell : Int)) := cell_of hp 0
  have c2 : W.cell? ⟨p, 2, none⟩ = some (.int .u8 0) := cell_of hp 2
  have HP := keepH hp
  have HW := keepH hw
  have H := keepH h
  clear hp hw h
  go_enter Try.func88, Try.ntmps88
  go_wp2_with fail
  refine (v_load v b most next made th cell F cs l _ HW.out H.out hnv hmd hl ha).mono ?_
  rintro e w1 ⟨rfl, F1, vs, B1, V1, G1⟩
  have hP1 : Hid (IsTake w1 p cell mx 0 st 0 false) := HP.out.chg G1.chg (fun e => e.elim hnp hpv)
  have hN1 : Hid (¬ F1 p) := G1.out (lt_of HP.out) hnp
  have HB1 := keepH B1
  have HV1 := keepH V1
  have HG1 := keepH G1
  rw [hc] at HB1 ⊢
  clear B1 V1 G1 hc
  have d3 := (cell_of hP1.out 3).trans rfl
  have d2 := (cell_of hP1.out 2).trans rfl
  have f3 := free_of hP1.out 3
  have P2 := keepH (set_of hP1.out 3 (.int .u64 (c : Int)))
  have f2 := free_of P2.out 2
  have P3 := keepH (set_of P2.out 2 (.int .u8 1))
  have f4 := free_of P3.out 4
  have P4 := keepH (set_of P3.out 4 (.int .i64 31))
  have f5 := free_of P4.out 2
  obtain ⟨w3, hw3⟩ : ∃ w3, w3 = (w1.setCell ⟨p, 3, none⟩ (.int .u64 (c : Int))).setCell ⟨p, 2, none⟩ (.int .u8 1) := ⟨_, rfl⟩
  rw [← hw3] at P3 P4 f4 f5
  have r3 : w3.cell? ⟨p, 3, none⟩ = some (.int .u64 (c : Int)) := cell_of P3.out 3
  have r1 : w3.cell? ⟨p, 1, none⟩ = some (.int .u64 (mx : Int)) := cell_of P3.out 1
  have r4 : w3.cell? ⟨p, 4, none⟩ = some (.int .i64 0) := cell_of P3.out 4
  have r2 : w3.cell? ⟨p, 2, none⟩ = some (.int .u8 1) := cell_of P3.out 2
  have HB3 : Hid (Bank w3 F1 b most next cs (l ++ [⟨th, 1, cell, 0, 0, vs, [], c, false⟩])) := by rw [hw3]; exact (HB1.out.put hN1.out _).put hN1.out _
  have HV3 : Hid (IsView w3 v b th (made + 1)) := by rw [hw3]; exact (HV1.out.put (Ne.symm hpv) _).put (Ne.symm hpv) _
  have HG3 : Hid (GoesP W w3 F F1 v p) := by rw [hw3]; exact (HG1.out.putP _).put _
  go_upto_region 7 with fail
  rw [← hw3]
  clear hw3 f3 f2
  by_cases hm : mx ≤ c
  · have t1 : (mx : Int) ≤ (c : Int) := by omega
    have t2 : decide ((mx : Int) ≤ (c : Int)) = true := decide_eq_true t1
    go_quiet (fail)
    obtain ⟨w4, hw4⟩ : ∃ w4, w4 = w3.drewN nq := ⟨_, rfl⟩
    have C4 : Chg (fun _ => False) w3 w4 := by rw [hw4]; exact (Goes.drewN w3 (fun _ => False) nq).chg
    rw [← hw4]
    have HB4 := keepH (HB3.out.chg C4 (fun _ _ x => x))
    have HV4 := keepH (HV3.out.chg C4 (fun x => x))
    have HG4 : Hid (GoesP W w4 F F1 v p) := ⟨HG3.out.chg.trans C4 (fun _ _ x => x) (fun _ _ x => x.elim), HG3.out.new⟩
    have Q3 := keepH ((C4.block p (lt_of P3.out) (fun x => x)).trans P3.out)
    have g4 := (cell_of Q3.out 4).trans rfl
    have g2 := (cell_of Q3.out 2).trans rfl
    have k4 := free_of Q3.out 4
    have Q4 := keepH (set_of Q3.out 4 (.int .i64 31))
    have k2 := free_of Q4.out 2
    have g5 := (cell_of Q4.out 2).trans rfl
    clear hw4 C4 r3 r1 r4 r2 f4 f5
    go_wp2_with fail
    go_ret
    refine ⟨by simp, ?_, F1, ⟨vs, ?_⟩, ?_, ?_⟩
    · exact set_of Q4.out 2 _
    · exact (HB4.out.put hN1.out _).put hN1.out _
    · exact (HV4.out.put (Ne.symm hpv) _).put (Ne.symm hpv) _
    · exact (HG4.out.put _).put _
  · have t1 : ¬ (mx : Int) ≤ (c : Int) := by omega
    have t2 : decide ((mx : Int) ≤ (c : Int)) = false := decide_eq_false t1
    go_quiet (fail)
    go_wp2_with fail
    go_ret
    refine ⟨by simp, ?_, F1, ⟨vs, ?_⟩, ?_, ?_⟩
    · exact P3.out
    · exact HB3.out.chg (Goes.drewN w3 (fun _ => False) _).chg (fun _ _ x => x)
    · exact HV3.out.chg (Goes.drewN w3 (fun _ => False) _).chg (fun x => x)
    · exact ⟨HG3.out.chg.trans (Goes.drewN w3 (fun _ => False) _).chg (fun _ _ x => x) (fun _ _ x => x.elim), HG3.out.new⟩

set_option maxRecDepth 100000 in
set_option maxHeartbeats 4000000 in
theorem t_cas (p v b most next made cell mx st : Nat) (th : Int) (F : Nat → Prop) (cs : List Nat) (l : List Acc) (W : World) (hp : IsTake W p cell mx 1 st 0 false) (hw : IsView W v b th made) (h : Bank W F b most next cs l) (hnv : ¬ F v) (hnp : ¬ F p) (hpv : p ≠ v) (hmd : made < 1099511627776) (hl : l.length < 1099511627776) (ha : cell < 18446744073709551616) (hs : st + 1 < 18446744073709551616) :
    Calls Try.prog 88 #[.pointer (some ⟨p, 0, none⟩), .pointer (some ⟨v, 0, none⟩)] W fun e W' => e = .returned (.bool true) ∧ IsTake W' p cell mx 2 st 0 (casOk most cs cell st) ∧ ∃ F' vs, Bank W' F' b most next (casN most cs cell st (st + 1)) (l ++ [⟨th, 3, cell, st, st + 1, vs, [], 0, casOk most cs cell st⟩]) ∧ IsView W' v b th (made + 1) ∧ GoesP W W' F F' v p := by
  have c0 : W.cell? ⟨p, 0, none⟩ = some (.int .u64 (cell : Int)) := cell_of hp 0
  have c2 : W.cell? ⟨p, 2, none⟩ = some (.int .u8 1) := cell_of hp 2
  have c3 : W.cell? ⟨p, 3, none⟩ = some (.int .u64 (st : Int)) := cell_of hp 3
  have wk : IntKind.u64.wrap ((st : Int) + 1) = ((st + 1 : Nat) : Int) := by rw [IntKind.wrap_u64]; omega
  have HP := keepH hp
  have HW := keepH hw
  have H := keepH h
  clear hp hw h
  go_enter Try.func88, Try.ntmps88
  go_wp2_with fail
  go_upto_region 11 with fail
  go_cut [57] from 42 to 59 (fun s57 wz => s57 = .bool (casOk most cs cell st) ∧ Hid (IsTake wz p cell mx 1 st 0 (casOk most cs cell st) ∧ ∃ F' vs, ¬ F' p ∧ Bank wz F' b most next (casN most cs cell st (st + 1)) (l ++ [⟨th, 3, cell, st, st + 1, vs, [], 0, casOk most cs cell st⟩]) ∧ IsView wz v b th (made + 1) ∧ GoesP W wz F F' v p))
  case first =>
    have HW1 := keepH (HW.out.chg ((Chg.refl (fun _ => False) W).drew) (fun x => x))
    have H1 := keepH (H.out.chg ((Chg.refl (fun _ => False) W).drew) (fun _ _ x => x))
    go_region_with (go_at_call 79; refine (v_cas v b most next made th cell st (st + 1) F cs l W.drew HW1.out H1.out hnv hmd hl ha hs).mono ?_; rintro e w1 ⟨rfl, F1, vs, B1, V1, G1'⟩; have G1 := G1'.undrew; have hP1 : Hid (IsTake w1 p cell mx 1 st 0 false) := HP.out.chg G1.chg (fun e => e.elim hnp hpv); have HB1 := keepH B1; have HV1 := keepH V1; have HG1 := keepH G1; have d5 := (cell_of hP1.out 5).trans rfl; have f5 := free_of hP1.out 5; clear B1 V1 G1 G1')
    all_goals (try go_wp2_with fail)
    all_goals go_meet
    all_goals (have hN1 : ¬ F1 p := HG1.out.out (W := W) (lt_of HP.out) hnp)
    all_goals (exact ⟨by first | rfl | trivial, set_of hP1.out 5 _, F1, vs, hN1, HB1.out.put hN1 _, HV1.out.put (Ne.symm hpv) _, GoesV.putP (W := W) HG1.out _⟩)
  case rest =>
    obtain ⟨wz, hwz⟩ : ∃ wz, wz = wc := ⟨_, rfl⟩
    rw [← hwz] at hcut ⊢
    clear hwz
    obtain ⟨rfl, HC⟩ := hcut
    obtain ⟨P2, F1, vs, hN1, B1, V1, G1⟩ := HC.out
    have HP2 := keepH P2
    have HB1 := keepH B1
    have HV1 := keepH V1
    have HG1 := keepH G1
    have d2 := (cell_of P2 2).trans rfl
    have f2 := free_of P2 2
    clear B1 V1 G1 P2 HC c0 c2 c3
    go_wp2_with fail
    go_ret
    exact ⟨by simp, set_of HP2.out 2 _, F1, vs, HB1.out.put hN1 _, HV1.out.put (Ne.symm hpv) _, HG1.out.put _⟩
end Go.Proofs.Ytadbgmcfjemkeaa
