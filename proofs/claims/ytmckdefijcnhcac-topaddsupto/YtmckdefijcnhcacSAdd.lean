/- An adder: a proc that loads a cell and adds to another, so often: what its steps do. -/
import Derived.Test.YtmckdefijcnhcacSAsk
import Derived.Test.YtmckdefijcnhcacSPickIn
namespace Go.Proofs.Ytmckdefijcnhcac
open Go.RowKit Go.Shelf

def IsAdder (W : World) (p left : Nat) (ld : Bool) (saw : Nat) : Prop := W.heap[p]? = some (.cells #[.int .u64 1, .int .u64 2, .int .i64 (left : Int), .bool ld, .int .u64 (saw : Int)] 71 (0, 0))
theorem IsAdder.chg {W W' : World} {F : Nat → Prop} {p left saw : Nat} {ld : Bool} (h : IsAdder W p left ld saw) (hc : Chg F W W') (hn : ¬ F p) : IsAdder W' p left ld saw := (hc.block p (lt_of h) hn).trans h
theorem mt_step_add (a : Addr) (w : World) : (method 278 68 (.pointer (some a)) "Step").run Try.prog w = .ok (87, .pointer (some a)) w := by kernel_rfl

set_option maxRecDepth 100000 in
theorem s_stepOf_add (a : Addr) (v : Value) (R : Bool → World → Prop) (W : World)
    (hK : Calls Try.prog 87 #[.pointer (some a), v] (W.alloc (.cells #[.bool false] 4)) fun e W' => ∃ d, e = .returned (.bool d) ∧ R d W' ∧ W'.heap[W.heap.size]? = some (.cells #[.bool false] 4 (0, 0))) :
    Calls Try.prog 48 #[.iface 68 (.pointer (some a)), v] W fun e W' => ∃ d W1, e = .returned (.bool d) ∧ R d W1 ∧ W1.heap[W.heap.size]? = some (.cells #[.bool false] 4 (0, 0)) ∧ W' = W1.setCell ⟨W.heap.size, 0, none⟩ (.bool d) := by
  have hmf : ∀ (fn : Fn) (first cap : Array Value) (w : World), (Instr.makeFunc fn first cap).run Try.prog w = .ok (.func fn first cap) w := fun _ _ _ _ => rfl
  have hm := mt_step_add a
  have HK := keepH hK
  clear hK
  go_enter_defers Try.func48, Try.ntmps48
  go_wp2_with fail
  refine HK.out.mono ?_
  rintro e W1 ⟨d, rfl, hR, hb⟩
  have c0 : W1.cell? ⟨W.heap.size, 0, none⟩ = some (.bool false) := cell_of hb 0
  have f0 := free_of hb 0
  have HR := keepH hR
  have HB := keepH hb
  clear hR hb
  go_wp2_with fail
  refine leaves_cons (f := 58) (args := #[.pointer (some ⟨W.heap.size, 0, none⟩)]) (by simp) (by simp [go_sem]) ?_
  refine (s_catch ⟨W.heap.size, 0, none⟩ _).mono ?_
  rintro e u' w'' ⟨rfl, rfl, rfl⟩
  have r0 := World.cell?_setCell_same' W1 ⟨W.heap.size, 0, none⟩ (.bool d) (by rw [c0]; rfl)
  simp [Leaves, settle, results, Try.results48, go_sem, r0]
  cases d
  · exact .inl ⟨rfl, W1, HR.out, HB.out, rfl⟩
  · exact .inr ⟨rfl, W1, HR.out, HB.out, rfl⟩

set_option maxRecDepth 100000 in
theorem add_step_load (p left saw v b most next made : Nat) (th : Int) (F : Nat → Prop) (cs : List Nat) (l : List Acc) (W : World) (hp : IsAdder W p left false saw) (hl0 : 0 < left) (hw : IsView W v b th made) (h : Bank W F b most next cs l) (hnv : ¬ F v) (hnp : ¬ F p) (hpv : p ≠ v) (hmd : made < 1099511627776) (hl : l.length < 1099511627776) :
    Calls Try.prog 87 #[.pointer (some ⟨p, 0, none⟩), .pointer (some ⟨v, 0, none⟩)] W fun e W' => e = .returned (.bool false) ∧ ∃ F' vs, Bank W' F' b most next cs (l ++ [⟨th, 1, 1, 0, 0, vs, [], cellN cs 1, false⟩]) ∧ IsView W' v b th (made + 1) ∧ IsAdder W' p left true (cellN cs 1) ∧ ¬ F' p ∧ ¬ F' v ∧
      Chg (fun k => (F k ∨ k = v) ∨ k = p) W W' ∧ ∀ k, F' k → F k ∨ W.heap.size ≤ k := by
  have c0 : W.cell? ⟨p, 0, none⟩ = some (.int .u64 1) := cell_of hp 0
  have c2 : W.cell? ⟨p, 2, none⟩ = some (.int .i64 (left : Int)) := cell_of hp 2
  have c3 : W.cell? ⟨p, 3, none⟩ = some (.bool false) := cell_of hp 3
  have t0 : ¬ (left : Int) ≤ 0 := by omega
  have HP := keepH hp
  have HW := keepH hw
  have H := keepH h
  clear hp hw h
  go_enter Try.func87, Try.ntmps87
  go_wp2_with fail
  refine (v_load v b most next made th 1 F cs l _ HW.out H.out hnv hmd hl (by omega)).mono ?_
  rintro e W1 ⟨rfl, F1, vs, B1, V1, G1⟩
  have hp1 : Hid (IsAdder W1 p left false saw) := HP.out.chg G1.chg (fun e => e.elim hnp hpv)
  have d3 : W1.cell? ⟨p, 3, none⟩ = some (.bool false) := cell_of hp1.out 3
  have d4 : W1.cell? ⟨p, 4, none⟩ = some (.int .u64 (saw : Int)) := cell_of hp1.out 4
  have f3 := free_of hp1.out 3
  have f4 := free_of hp1.out 4
  have n1 : ¬ F1 p := G1.out (lt_of HP.out) hnp
  have n2 : ¬ F1 v := G1.out HW.out.lt hnv
  have HB1 := keepH B1
  have HV1 := keepH V1
  clear B1 V1
  go_wp2_with fail
  go_ret
  have cg : Chg (fun k => k = p) W1 ((W1.setCell ⟨p, 4, none⟩ (.int .u64 (cellN cs 1 : Int))).setCell ⟨p, 3, none⟩ (.bool true)) := ((Chg.refl (fun k => k = p) W1).setCell (p := ⟨p, 4, none⟩) (fun _ => rfl) _).setCell (p := ⟨p, 3, none⟩) (fun _ => rfl) _
  refine ⟨by simp, F1, vs, HB1.out.chg cg (fun k e e2 => n1 (e2 ▸ e)), HV1.out.chg cg (fun e => hpv e.symm), ?_, n1, n2, G1.chg.trans cg (fun _ _ e => .inl e) (fun _ _ e => .inr e), G1.new⟩
  have e := set_of (set_of hp1.out 4 (.int .u64 (cellN cs 1 : Int))) 3 (.bool true)
  exact e

set_option maxRecDepth 100000 in
theorem add_step_add (p left saw v b most next made : Nat) (th : Int) (F : Nat → Prop) (cs : List Nat) (l : List Acc) (W : World) (hp : IsAdder W p left true saw) (hl0 : 0 < left) (hl1 : left ≤ 1000) (hw : IsView W v b th made) (h : Bank W F b most next cs l) (hnv : ¬ F v) (hnp : ¬ F p) (hpv : p ≠ v) (hmd : made < 1099511627776) (hl : l.length < 1099511627776) :
    Calls Try.prog 87 #[.pointer (some ⟨p, 0, none⟩), .pointer (some ⟨v, 0, none⟩)] W fun e W' => e = .returned (.bool (decide (left - 1 = 0))) ∧ ∃ F' vs, Bank W' F' b most next (stN most cs 2 (addN (cellN cs 2) 1)) (l ++ [⟨th, 4, 2, 1, 0, vs, [], cellN cs 2, false⟩]) ∧ IsView W' v b th (made + 1) ∧ IsAdder W' p (left - 1) false saw ∧ ¬ F' p ∧ ¬ F' v ∧
      Chg (fun k => (F k ∨ k = v) ∨ k = p) W W' ∧ ∀ k, F' k → F k ∨ W.heap.size ≤ k := by
  have c1 : W.cell? ⟨p, 1, none⟩ = some (.int .u64 2) := cell_of hp 1
  have c2 : W.cell? ⟨p, 2, none⟩ = some (.int .i64 (left : Int)) := cell_of hp 2
  have c3 : W.cell? ⟨p, 3, none⟩ = some (.bool true) := cell_of hp 3
  have t0 : ¬ (left : Int) ≤ 0 := by omega
  obtain ⟨ln, hln⟩ : ∃ ln, ln = left - 1 := ⟨_, rfl⟩
  have wl : IntKind.i64.wrap ((left : Int) - 1) = (ln : Int) := by rw [IntKind.wrap_i64]; omega
  rw [← hln]
  have HP := keepH hp
  have HW := keepH hw
  have H := keepH h
  clear hp hw h hln
  go_enter Try.func87, Try.ntmps87
  go_wp2_with fail
  refine (v_add v b most next made th 2 1 F cs l _ HW.out H.out hnv hmd hl (by omega)).mono ?_
  rintro e W1 ⟨rfl, F1, vs, B1, V1, G1⟩
  have hp1 : Hid (IsAdder W1 p left true saw) := HP.out.chg G1.chg (fun e => e.elim hnp hpv)
  have d2 : W1.cell? ⟨p, 2, none⟩ = some (.int .i64 (left : Int)) := cell_of hp1.out 2
  have d3 : W1.cell? ⟨p, 3, none⟩ = some (.bool true) := cell_of hp1.out 3
  have f2 := free_of hp1.out 2
  have f3 := free_of hp1.out 3
  have n1 : ¬ F1 p := G1.out (lt_of HP.out) hnp
  have n2 : ¬ F1 v := G1.out HW.out.lt hnv
  have HB1 := keepH B1
  have HV1 := keepH V1
  clear B1 V1
  go_wp2_with fail
  go_ret
  have cg : Chg (fun k => k = p) W1 ((W1.setCell ⟨p, 3, none⟩ (.bool false)).setCell ⟨p, 2, none⟩ (.int .i64 (ln : Int))) := ((Chg.refl (fun k => k = p) W1).setCell (p := ⟨p, 3, none⟩) (fun _ => rfl) _).setCell (p := ⟨p, 2, none⟩) (fun _ => rfl) _
  refine ⟨?_, F1, vs, HB1.out.chg cg (fun k e e2 => n1 (e2 ▸ e)), HV1.out.chg cg (fun e => hpv e.symm), ?_, n1, n2, G1.chg.trans cg (fun _ _ e => .inl e) (fun _ _ e => .inr e), G1.new⟩
  · by_cases hz : ln = 0
    · simp [hz]
    · have : ¬ (ln : Int) = 0 := by omega
      simp [hz]
  · have e := set_of (set_of hp1.out 3 (.bool false)) 2 (.int .i64 (ln : Int))
    exact e
end Go.Proofs.Ytmckdefijcnhcac
