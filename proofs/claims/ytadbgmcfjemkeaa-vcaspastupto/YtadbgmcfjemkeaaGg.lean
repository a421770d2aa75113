/- Runs of procs: stepOf of a Cas, an At, a Take, a Cut, a Read. -/
import Derived.Test.YtadbgmcfjemkeaaGf
namespace Go.Proofs.Ytadbgmcfjemkeaa
open Go.RowKit Go.Shelf
set_option linter.unusedVariables false
theorem mt_step_Gcas (a : Addr) (w : World) : (method 292 53 (.pointer (some a)) "Step").run Try.prog w = .ok (81, .pointer (some a)) w := by kernel_rfl
set_option maxRecDepth 100000 in
theorem so_Gcas (p : Nat) : SoAt 81 (.iface 53 (.pointer (some ⟨p, 0, none⟩))) p := by
  intro v d K W hK
  have hmf : ∀ (fn : Fn) (first cap : Array Value) (w : World), (Instr.makeFunc fn first cap).run Try.prog w = .ok (.func fn first cap) w := fun _ _ _ _ => rfl
  have hm := mt_step_Gcas ⟨p, 0, none⟩
  have HK := keepH hK
  clear hK
  go_enter_defers Try.func35, Try.ntmps35
  go_wp2_with fail
  refine HK.out.mono ?_
  rintro e W1 ⟨rfl, hR, hb0⟩
  have hb : W1.heap[W.heap.size]? = some (.cells #[.bool false] 4 (0, 0)) := hb0.trans (heap_alloc_new _ _)
  have c0 : W1.cell? ⟨W.heap.size, 0, none⟩ = some (.bool false) := cell_of hb 0
  have f0 := free_of hb 0
  have HR := keepH hR
  clear hR hb hb0
  go_wp2_with fail
  refine leaves_cons (f := 47) (args := #[.pointer (some ⟨W.heap.size, 0, none⟩)]) (by simp) (by simp [go_sem]) ?_
  refine (s_catch ⟨W.heap.size, 0, none⟩ _).mono ?_
  rintro e u' w'' ⟨rfl, rfl, rfl⟩
  have r0 := World.cell?_setCell_same' W1 ⟨W.heap.size, 0, none⟩ (.bool d) (by rw [c0]; rfl)
  simp [Leaves, settle, results, Try.results35, go_sem, r0]
  exact ⟨W1, HR.out, rfl⟩
theorem mt_step_Gat (a : Addr) (w : World) : (method 292 54 (.pointer (some a)) "Step").run Try.prog w = .ok (85, .pointer (some a)) w := by kernel_rfl
set_option maxRecDepth 100000 in
theorem so_Gat (p : Nat) : SoAt 85 (.iface 54 (.pointer (some ⟨p, 0, none⟩))) p := by
  intro v d K W hK
  have hmf : ∀ (fn : Fn) (first cap : Array Value) (w : World), (Instr.makeFunc fn first cap).run Try.prog w = .ok (.func fn first cap) w := fun _ _ _ _ => rfl
  have hm := mt_step_Gat ⟨p, 0, none⟩
  have HK := keepH hK
  clear hK
  go_enter_defers Try.func35, Try.ntmps35
  go_wp2_with fail
  refine HK.out.mono ?_
  rintro e W1 ⟨rfl, hR, hb0⟩
  have hb : W1.heap[W.heap.size]? = some (.cells #[.bool false] 4 (0, 0)) := hb0.trans (heap_alloc_new _ _)
  have c0 : W1.cell? ⟨W.heap.size, 0, none⟩ = some (.bool false) := cell_of hb 0
  have f0 := free_of hb 0
  have HR := keepH hR
  clear hR hb hb0
  go_wp2_with fail
  refine leaves_cons (f := 47) (args := #[.pointer (some ⟨W.heap.size, 0, none⟩)]) (by simp) (by simp [go_sem]) ?_
  refine (s_catch ⟨W.heap.size, 0, none⟩ _).mono ?_
  rintro e u' w'' ⟨rfl, rfl, rfl⟩
  have r0 := World.cell?_setCell_same' W1 ⟨W.heap.size, 0, none⟩ (.bool d) (by rw [c0]; rfl)
  simp [Leaves, settle, results, Try.results35, go_sem, r0]
  exact ⟨W1, HR.out, rfl⟩
theorem mt_step_Gtake (a : Addr) (w : World) : (method 292 55 (.pointer (some a)) "Step").run Try.prog w = .ok (88, .pointer (some a)) w := by kernel_rfl
set_option maxRecDepth 100000 in
theorem so_Gtake (p : Nat) : SoAt 88 (.iface 55 (.pointer (some ⟨p, 0, none⟩))) p := by
  intro v d K W hK
  have hmf : ∀ (fn : Fn) (first cap : Array Value) (w : World), (Instr.makeFunc fn first cap).run Try.prog w = .ok (.func fn first cap) w := fun _ _ _ _ => rfl
  have hm := mt_step_Gtake ⟨p, 0, none⟩
  have HK := keepH hK
  clear hK
  go_enter_defers Try.func35, Try.ntmps35
  go_wp2_with fail
  refine HK.out.mono ?_
  rintro e W1 ⟨rfl, hR, hb0⟩
  have hb : W1.heap[W.heap.size]? = some (.cells #[.bool false] 4 (0, 0)) := hb0.trans (heap_alloc_new _ _)
  have c0 : W1.cell? ⟨W.heap.size, 0, none⟩ = some (.bool false) := cell_of hb 0
  have f0 := free_of hb 0
  have HR := keepH hR
  clear hR hb hb0
  go_wp2_with fail
  refine leaves_cons (f := 47) (args := #[.pointer (some ⟨W.heap.size, 0, none⟩)]) (by simp) (by simp [go_sem]) ?_
  refine (s_catch ⟨W.heap.size, 0, none⟩ _).mono ?_
  rintro e u' w'' ⟨rfl, rfl, rfl⟩
  have r0 := World.cell?_setCell_same' W1 ⟨W.heap.size, 0, none⟩ (.bool d) (by rw [c0]; rfl)
  simp [Leaves, settle, results, Try.results35, go_sem, r0]
  exact ⟨W1, HR.out, rfl⟩
theorem mt_step_Gread (a : Addr) (w : World) : (method 292 52 (.pointer (some a)) "Step").run Try.prog w = .ok (72, .pointer (some a)) w := by kernel_rfl
set_option maxRecDepth 100000 in
theorem so_Gread (p : Nat) : SoAt 72 (.iface 52 (.pointer (some ⟨p, 0, none⟩))) p := by
  intro v d K W hK
  have hmf : ∀ (fn : Fn) (first cap : Array Value) (w : World), (Instr.makeFunc fn first cap).run Try.prog w = .ok (.func fn first cap) w := fun _ _ _ _ => rfl
  have hm := mt_step_Gread ⟨p, 0, none⟩
  have HK := keepH hK
  clear hK
  go_enter_defers Try.func35, Try.ntmps35
  go_wp2_with fail
  refine HK.out.mono ?_
  rintro e W1 ⟨rfl, hR, hb0⟩
  have hb : W1.heap[W.heap.size]? = some (.cells #[.bool false] 4 (0, 0)) := hb0.trans (heap_alloc_new _ _)
  have c0 : W1.cell? ⟨W.heap.size, 0, none⟩ = some (.bool false) := cell_of hb 0
  have f0 := free_of hb 0
  have HR := keepH hR
  clear hR hb hb0
  go_wp2_with fail
  refine leaves_cons (f := 47) (args := #[.pointer (some ⟨W.heap.size, 0, none⟩)]) (by simp) (by simp [go_sem]) ?_
  refine (s_catch ⟨W.heap.size, 0, none⟩ _).mono ?_
  rintro e u' w'' ⟨rfl, rfl, rfl⟩
  have r0 := World.cell?_setCell_same' W1 ⟨W.heap.size, 0, none⟩ (.bool d) (by rw [c0]; rfl)
  simp [Leaves, settle, results, Try.results35, go_sem, r0]
  exact ⟨W1, HR.out, rfl⟩
end Go.Proofs.Ytadbgmcfjemkeaa
