/- A proc takes a step: stepOf; a Load. -/
import Derived.Test.YtkfmpebhibnniaaSExt
import Derived.Defers
import Derived.Recover
namespace Go.Proofs.Ytkfmpebhibnniaa
open Go.RowKit Go.Shelf

theorem s_catch (p : Addr) (w : World) :
    CallsD Try.prog 57 #[.pointer (some p)] .returning w fun e u' w' => e = .returned (.tuple #[]) ∧ u' = .returning ∧ w' = w := by
  refine callsD_of_wpS Try.func57 rfl fun c₀ cs hu => ?_
  apply wpS_seq
  apply wpS_region
  simp [wpOpsS, go_sem, recoverD, hu, Try.ntmps57, Exit.thenS]
  refine wpS_cond (t := false) (by simp [Act.eval, Array.replicate]) ?_
  simp only [Bool.false_eq_true, if_false]
  refine wpS_of_wp (wp_skip ?_)
  cases c₀
  simp_all [bodyPostS, results, Try.results57]

theorem mt_step_load (a : Addr) (w : World) : (method 279 85 (.pointer (some a)) "Step").run Try.prog w = .ok (89, .pointer (some a)) w := by kernel_rfl

set_option maxRecDepth 100000 in
theorem s_stepOf_load (a : Addr) (v : Value) (R : Bool → World → Prop) (W : World)
    (hK : Calls Try.prog 89 #[.pointer (some a), v] (W.alloc (.cells #[.bool false] 4)) fun e W' => ∃ d, e = .returned (.bool d) ∧ R d W' ∧ W'.heap[W.heap.size]? = some (.cells #[.bool false] 4 (0, 0))) :
    Calls Try.prog 37 #[.iface 85 (.pointer (some a)), v] W fun e W' => ∃ d W1, e = .returned (.bool d) ∧ R d W1 ∧ W1.heap[W.heap.size]? = some (.cells #[.bool false] 4 (0, 0)) ∧ W' = W1.setCell ⟨W.heap.size, 0, none⟩ (.bool d) := by
  have hmf : ∀ (fn : Fn) (first cap : Array Value) (w : World), (Instr.makeFunc fn first cap).run Try.prog w = .ok (.func fn first cap) w := fun _ _ _ _ => rfl
  have hm := mt_step_load a
  have HK := keepH hK
  clear hK
  go_enter_defers Try.func37, Try.ntmps37
  go_wp2_with fail
  refine HK.out.mono ?_
  rintro e W1 ⟨d, rfl, hR, hb⟩
  have c0 : W1.cell? ⟨W.heap.size, 0, none⟩ = some (.bool false) := cell_of hb 0
  have f0 := free_of hb 0
  have HR := keepH hR
  have HB := keepH hb
  clear hR hb
  go_wp2_with fail
  refine leaves_cons (f := 57) (args := #[.pointer (some ⟨W.heap.size, 0, none⟩)]) (by simp) (by simp [go_sem]) ?_
  refine (s_catch ⟨W.heap.size, 0, none⟩ _).mono ?_
  rintro e u' w'' ⟨rfl, rfl, rfl⟩
  have r0 := World.cell?_setCell_same' W1 ⟨W.heap.size, 0, none⟩ (.bool d) (by rw [c0]; rfl)
  simp [Leaves, settle, results, Try.results37, go_sem, r0]
  cases d
  · exact .inl ⟨rfl, W1, HR.out, HB.out, rfl⟩
  · exact .inr ⟨rfl, W1, HR.out, HB.out, rfl⟩

set_option maxRecDepth 100000 in
theorem s_stepOf_nil (v : Value) (W : World) : Calls Try.prog 37 #[.nilIface, v] W fun e W' => e = .returned (.bool true) ∧ Chg (fun _ => False) W W' := by
  go_enter_defers Try.func37, Try.ntmps37
  go_wp2_with fail
  simp [bodyPostD, Leaves, results, Try.results37, go_sem]
  exact (Chg.refl _ W).alloc _

/-- A Load: its cell, what it told, whether it is done. -/
def IsLoad (W : World) (p addr val : Nat) (done : Bool) : Prop := W.heap[p]? = some (.cells #[.int .u64 (addr : Int), .int .u64 (val : Int), .bool done] 126 (0, 0))
theorem IsLoad.chg {W W' : World} {F : Nat → Prop} {p addr val : Nat} {done : Bool} (h : IsLoad W p addr val done) (hc : Chg F W W') (hn : ¬ F p) : IsLoad W' p addr val done := (hc.block p (lt_of h) hn).trans h

set_option maxRecDepth 100000 in
theorem load_new (addr : Nat) (W : World) : Calls Try.prog 31 #[.int .u64 (addr : Int)] W fun e W' => e = .returned (.pointer (some ⟨W.heap.size, 0, none⟩)) ∧ W' = W.alloc (.cells #[.int .u64 (addr : Int), .int .u64 0, .bool false] 126) := by
  go_enter Try.func31, Try.ntmps31
  go_wp2_with fail
  go_ret
  exact ⟨by simp, rfl⟩
set_option maxRecDepth 100000 in
theorem load_step_done (p addr val : Nat) (v : Value) (W : World) (h : IsLoad W p addr val true) : Calls Try.prog 89 #[.pointer (some ⟨p, 0, none⟩), v] W fun e W' => e = .returned (.bool true) ∧ W' = W := by
  have c2 : W.cell? ⟨p, 2, none⟩ = some (.bool true) := cell_of h 2
  clear h
  go_enter Try.func89, Try.ntmps89
  go_wp2_with fail
  go_ret
  exact ⟨by simp, rfl⟩
set_option maxRecDepth 100000 in
theorem load_step (p addr val v b most next made : Nat) (th : Int) (F : Nat → Prop) (cs : List Nat) (l : List Acc) (W : World) (hp : IsLoad W p addr val false) (hw : IsView W v b th made) (h : Bank W F b most next cs l) (hnv : ¬ F v) (hnp : ¬ F p) (hpv : p ≠ v) (hmd : made < 1099511627776) (hl : l.length < 1099511627776) (ha : addr < 18446744073709551616) :
    Calls Try.prog 89 #[.pointer (some ⟨p, 0, none⟩), .pointer (some ⟨v, 0, none⟩)] W fun e W' => e = .returned (.bool true) ∧ ∃ F' vs, Bank W' F' b most next cs (l ++ [⟨th, 1, addr, 0, 0, vs, [], cellN cs addr, false⟩]) ∧ IsView W' v b th (made + 1) ∧ IsLoad W' p addr (cellN cs addr) true ∧ ¬ F' p ∧ ¬ F' v ∧
      Chg (fun k => (F k ∨ k = v) ∨ k = p) W W' ∧ ∀ k, F' k → F k ∨ W.heap.size ≤ k := by
  have c0 : W.cell? ⟨p, 0, none⟩ = some (.int .u64 (addr : Int)) := cell_of hp 0
  have c2 : W.cell? ⟨p, 2, none⟩ = some (.bool false) := cell_of hp 2
  have HP := keepH hp
  have HW := keepH hw
  have H := keepH h
  clear hp hw h
  go_enter Try.func89, Try.ntmps89
  go_wp2_with fail
  refine (v_load v b most next made th addr F cs l _ HW.out H.out hnv hmd hl ha).mono ?_
  rintro e W1 ⟨rfl, F1, vs, B1, V1, G1⟩
  have hp1 : Hid (IsLoad W1 p addr val false) := HP.out.chg G1.chg (fun e => e.elim hnp hpv)
  have d1 : W1.cell? ⟨p, 1, none⟩ = some (.int .u64 (val : Int)) := cell_of hp1.out 1
  have d2 : W1.cell? ⟨p, 2, none⟩ = some (.bool false) := cell_of hp1.out 2
  have f1 := free_of hp1.out 1
  have f2 := free_of hp1.out 2
  have n1 : ¬ F1 p := G1.out (lt_of HP.out) hnp
  have n2 : ¬ F1 v := G1.out HW.out.lt hnv
  have HB1 := keepH B1
  have HV1 := keepH V1
  clear B1 V1
  go_wp2_with fail
  go_ret
  have cg : Chg (fun k => k = p) W1 ((W1.setCell ⟨p, 1, none⟩ (.int .u64 (cellN cs addr : Int))).setCell ⟨p, 2, none⟩ (.bool true)) := ((Chg.refl (fun k => k = p) W1).setCell (p := ⟨p, 1, none⟩) (fun _ => rfl) _).setCell (p := ⟨p, 2, none⟩) (fun _ => rfl) _
  refine ⟨by simp, F1, vs, HB1.out.chg cg (fun k e e2 => n1 (e2 ▸ e)), HV1.out.chg cg (fun e => hpv e.symm), ?_, n1, n2, G1.chg.trans cg (fun _ _ e => .inl e) (fun _ _ e => .inr e), G1.new⟩
  have e := set_of (set_of hp1.out 1 (.int .u64 (cellN cs addr : Int))) 2 (.bool true)
  exact e
end Go.Proofs.Ytkfmpebhibnniaa
