/- The camera's procs: what a step does, and what they tell. -/
import Derived.Deep.Cut
import Derived.Deep.CutBlock
import Derived.Deep.DeepCutAuto
import Derived.Test.YtokooplfjibneaaGreatOps
namespace Go.Proofs.YtokooplfjibneaaGreat
open Go.RowKit Go.Shelf

def IsNow (W : World) (p cell pos stamp : Nat) : Prop := W.heap[p]? = some (.cells #[.int .u64 (cell : Int), .int .u8 (pos : Int), .int .u64 (stamp : Int)] 184 (0, 0))
theorem IsNow.chg {W W' : World} {F : Nat → Prop} {p cell pos stamp : Nat} (h : IsNow W p cell pos stamp) (hc : Chg F W W') (hn : ¬ F p) : IsNow W' p cell pos stamp := (hc.block p (lt_of h) hn).trans h
set_option maxRecDepth 100000 in
theorem n_new (cell : Nat) (W : World) : Calls Tryz.prog 110 #[.int .u64 (cell : Int)] W fun e W' => e = .returned (.pointer (some ⟨W.heap.size, 0, none⟩)) ∧ W' = W.alloc (.cells #[.int .u64 (cell : Int), .int .u8 0, .int .u64 0] 184) := by
  go_enter Tryz.func110, Tryz.ntmps110
  go_wp2_with fail
  go_ret
  exact ⟨by simp, rfl⟩
/-- What changes: the memory, the view, the proc. -/
structure GoesP (W W' : World) (F F' : Nat → Prop) (v p : Nat) : Prop where
  chg : Chg (fun k => (F k ∨ k = v) ∨ k = p) W W'
  new : ∀ k, F' k → F k ∨ W.heap.size ≤ k

theorem GoesV.undrew {W W1 : World} {F F1 : Nat → Prop} {v : Nat} (h : GoesV W.drew W1 F F1 v) : GoesV W W1 F F1 v := ⟨⟨h.chg.os, h.chg.tape, h.chg.output, h.chg.size, h.chg.block⟩, h.new⟩
theorem GoesV.putP {W W1 : World} {F F1 : Nat → Prop} {v p : Nat} (h : GoesV W W1 F F1 v) {i : Nat} (u : Value) : GoesP W (W1.setCell ⟨p, i, none⟩ u) F F1 v p :=
  ⟨Chg.setCell (F := fun k => (F k ∨ k = v) ∨ k = p) (h.chg.mono (fun _ _ x => Or.inl x)) (p := ⟨p, i, none⟩) (fun _ => .inr rfl) u, h.new⟩
theorem GoesP.put {W W1 : World} {F F1 : Nat → Prop} {v p : Nat} (h : GoesP W W1 F F1 v p) {i : Nat} (u : Value) : GoesP W (W1.setCell ⟨p, i, none⟩ u) F F1 v p :=
  ⟨h.chg.setCell (p := ⟨p, i, none⟩) (fun _ => .inr rfl) u, h.new⟩
theorem Bank.put {W : World} {F : Nat → Prop} {b most next p i : Nat} {cs : List Nat} {l : List Acc} (h : Bank W F b most next cs l) (hp : ¬ F p) (u : Value) : Bank (W.setCell ⟨p, i, none⟩ u) F b most next cs l :=
  h.chg ((Chg.refl (fun k => k = p) W).setCell (p := ⟨p, i, none⟩) (fun _ => rfl) u) (fun _ hk e => hp (by rw [← e]; exact hk))
theorem IsView.put {W : World} {v b p i : Nat} {th : Int} {made : Nat} (h : IsView W v b th made) (hp : v ≠ p) (u : Value) : IsView (W.setCell ⟨p, i, none⟩ u) v b th made := other_of h hp u

set_option maxRecDepth 100000 in
theorem n_step (p v b most next made cell st : Nat) (th : Int) (F : Nat → Prop) (cs : List Nat) (l : List Acc) (W : World) (hp : IsNow W p cell 0 st) (hw : IsView W v b th made) (h : Bank W F b most next cs l) (hnv : ¬ F v) (hnp : ¬ F p) (hpv : p ≠ v) (hmd : made < 1099511627776) (hl : l.length < 1099511627776) (ha : cell < 18446744073709551616) :
    Calls Tryz.prog 111 #[.pointer (some ⟨p, 0, none⟩), .pointer (some ⟨v, 0, none⟩)] W fun e W' => e = .returned (.bool true) ∧ IsNow W' p cell 2 (cellN cs cell) ∧ ∃ F' vs, Bank W' F' b most next cs (l ++ [⟨th, 1, cell, 0, 0, vs, [], cellN cs cell, false⟩]) ∧ IsView W' v b th (made + 1) ∧ GoesP W W' F F' v p := by
  have c0 : W.cell? ⟨p, 0, none⟩ = some (.int .u64 (cell : Int)) := cell_of hp 0
  have c1 : W.cell? ⟨p, 1, none⟩ = some (.int .u8 0) := cell_of hp 1
  have HP := keepH hp
  have HW := keepH hw
  have H := keepH h
  clear hp hw h
  go_enter Tryz.func111, Tryz.ntmps111
  go_wp2_with fail
  refine (v_load v b most next made th cell F cs l _ HW.out H.out hnv hmd hl ha).mono ?_
  rintro e w1 ⟨rfl, F1, vs, B1, V1, G1⟩
  have hP1 : Hid (IsNow w1 p cell 0 st) := HP.out.chg G1.chg (fun e => e.elim hnp hpv)
  have hN1 : Hid (¬ F1 p) := G1.out (lt_of HP.out) hnp
  have HB1 := keepH B1
  have HV1 := keepH V1
  have HG1 := keepH G1
  have d2 := (cell_of hP1.out 2).trans rfl
  have d1 := (cell_of hP1.out 1).trans rfl
  have f2 := free_of hP1.out 2
  have f1 := free_of (set_of hP1.out 2 (.int .u64 (cellN cs cell : Int))) 1
  have f1' := free_of hP1.out 1
  clear B1 V1 G1
  go_wp2_with fail
  go_ret
  refine ⟨by simp, ?_, F1, vs, (HB1.out.put hN1.out _).put hN1.out _, (HV1.out.put (Ne.symm hpv) _).put (Ne.symm hpv) _, (HG1.out.putP _).put _⟩
  exact set_of (set_of hP1.out 2 _) 1 _

set_option maxRecDepth 100000 in
theorem n_done (p cell st : Nat) (v : Value) (W : World) (hp : IsNow W p cell 2 st) : Calls Tryz.prog 111 #[.pointer (some ⟨p, 0, none⟩), v] W fun e W' => e = .returned (.bool true) ∧ W' = W := by
  have c1 : W.cell? ⟨p, 1, none⟩ = some (.int .u8 2) := cell_of hp 1
  go_enter Tryz.func111, Tryz.ntmps111
  go_wp2_with fail
  go_ret
  exact ⟨by simp, rfl⟩
end Go.Proofs.YtokooplfjibneaaGreat
