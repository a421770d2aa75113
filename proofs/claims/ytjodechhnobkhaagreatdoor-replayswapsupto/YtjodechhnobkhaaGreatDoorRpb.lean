/- The forms of accesses, and the pointers to the numbers that each kind names. -/
import Derived.Test.YtjodechhnobkhaaGreatDoorSb0
import Derived.Test.YtjodechhnobkhaaGreatDoorRpa
namespace Go.Proofs.YtjodechhnobkhaaGreatDoor
open Go.RowKit
set_option linter.unusedVariables false

abbrev formsC : Array Value := #[.string ⟨#[]⟩, .nilFunc, .bool false, .bool false, .string ⟨#[108, 111, 97, 100]⟩, .func (.func 45) #[] #[], .bool false, .bool false,
  .string ⟨#[115, 116, 111, 114, 101]⟩, .func (.func 46) #[] #[], .bool false, .bool false, .string ⟨#[99, 97, 115]⟩, .func (.func 47) #[] #[], .bool true, .bool false,
  .string ⟨#[97, 100, 100]⟩, .func (.func 48) #[] #[], .bool false, .bool false, .string ⟨#[97, 108, 108, 111, 99]⟩, .func (.func 49) #[] #[], .bool false, .bool true]
def IsForms (W : World) (tb : Nat) : Prop := W.heap[tb]? = some (.cells formsC 120 (0, 0))
theorem IsForms.on {W W' : World} {tb : Nat} (h : IsForms W tb) (hb : Below W.heap.size W W') : IsForms W' tb := heap_below h hb

set_option maxRecDepth 100000 in
theorem f_forms (W : World) : Calls Tryz.prog 29 #[] W fun e W' => e = .returned (.pointer (some ⟨W.heap.size, 0, none⟩)) ∧ IsForms W' W.heap.size ∧ W'.heap.size = W.heap.size + 1 ∧ Below W.heap.size W W' := by
  go_enter Tryz.func29, Tryz.ntmps29
  go_wp2_with fail
  go_ret
  exact ⟨rfl, heap_alloc_new _ _, by simp, below_alloc _ _⟩

def NumsAt (W W' : World) (ps : Array Value) : Prop := W'.heap[W.heap.size]? = some (.cells ps 115 (0, 0)) ∧ W'.heap.size = W.heap.size + 1 ∧ Below W.heap.size W W'
theorem nums_alloc (W : World) (ps : Array Value) : NumsAt W (W.alloc (.cells ps 115)) ps := ⟨heap_alloc_new _ _, by simp, below_alloc _ _⟩
theorem nums_drew {W W' : World} {ps : Array Value} (h : NumsAt W W' ps) : NumsAt W W'.drew ps := ⟨h.1, h.2.1, ⟨h.2.2.os, h.2.2.tape, h.2.2.output, h.2.2.size, h.2.2.block⟩⟩
theorem drew_nums {W W' : World} {ps : Array Value} (h : NumsAt W.drew W' ps) : NumsAt W W' ps := ⟨h.1, h.2.1, ⟨h.2.2.os, h.2.2.tape, h.2.2.output, h.2.2.size, h.2.2.block⟩⟩
set_option maxRecDepth 100000 in
theorem f_n1 (b : Nat) (W : World) : Calls Tryz.prog 45 #[.pointer (some ⟨b, 0, none⟩)] W fun e W' => e = .returned (.slice (some ⟨W.heap.size, 0, none⟩) 2 2) ∧ NumsAt W W' #[.pointer (some ⟨b, 2, none⟩), .pointer (some ⟨b, 6, none⟩)] := by
  go_enter Tryz.func45, Tryz.ntmps45
  go_wp2_with fail
  go_region
  go_wp2_with fail
  go_ret
  exact ⟨rfl, by first | exact nums_alloc _ _ | exact nums_drew (nums_alloc _ _) | exact drew_nums (nums_alloc _ _)⟩
set_option maxRecDepth 100000 in
theorem f_n2 (b : Nat) (W : World) : Calls Tryz.prog 46 #[.pointer (some ⟨b, 0, none⟩)] W fun e W' => e = .returned (.slice (some ⟨W.heap.size, 0, none⟩) 2 2) ∧ NumsAt W W' #[.pointer (some ⟨b, 2, none⟩), .pointer (some ⟨b, 3, none⟩)] := by
  go_enter Tryz.func46, Tryz.ntmps46
  go_wp2_with fail
  go_region
  go_wp2_with fail
  go_ret
  exact ⟨rfl, by first | exact nums_alloc _ _ | exact nums_drew (nums_alloc _ _) | exact drew_nums (nums_alloc _ _)⟩
set_option maxRecDepth 100000 in
theorem f_n3 (b : Nat) (W : World) : Calls Tryz.prog 47 #[.pointer (some ⟨b, 0, none⟩)] W fun e W' => e = .returned (.slice (some ⟨W.heap.size, 0, none⟩) 3 3) ∧ NumsAt W W' #[.pointer (some ⟨b, 2, none⟩), .pointer (some ⟨b, 3, none⟩), .pointer (some ⟨b, 4, none⟩)] := by
  go_enter Tryz.func47, Tryz.ntmps47
  go_wp2_with fail
  go_region
  go_wp2_with fail
  go_ret
  exact ⟨rfl, by first | exact nums_alloc _ _ | exact nums_drew (nums_alloc _ _) | exact drew_nums (nums_alloc _ _)⟩
set_option maxRecDepth 100000 in
theorem f_n4 (b : Nat) (W : World) : Calls Tryz.prog 48 #[.pointer (some ⟨b, 0, none⟩)] W fun e W' => e = .returned (.slice (some ⟨W.heap.size, 0, none⟩) 3 3) ∧ NumsAt W W' #[.pointer (some ⟨b, 2, none⟩), .pointer (some ⟨b, 3, none⟩), .pointer (some ⟨b, 6, none⟩)] := by
  go_enter Tryz.func48, Tryz.ntmps48
  go_wp2_with fail
  go_region
  go_wp2_with fail
  go_ret
  exact ⟨rfl, by first | exact nums_alloc _ _ | exact nums_drew (nums_alloc _ _) | exact drew_nums (nums_alloc _ _)⟩
set_option maxRecDepth 100000 in
theorem f_n5 (b : Nat) (W : World) : Calls Tryz.prog 49 #[.pointer (some ⟨b, 0, none⟩)] W fun e W' => e = .returned (.slice (some ⟨W.heap.size, 0, none⟩) 1 1) ∧ NumsAt W W' #[.pointer (some ⟨b, 2, none⟩)] := by
  go_enter Tryz.func49, Tryz.ntmps49
  go_wp2_with fail
  first | go_ret | (go_region; go_wp2_with fail; go_ret)
  exact ⟨rfl, by first | exact nums_alloc _ _ | exact nums_drew (nums_alloc _ _) | exact drew_nums (nums_alloc _ _)⟩
end Go.Proofs.YtjodechhnobkhaaGreatDoor
