/- A memory and its views, over a plain bank. -/
import Derived.Test.YtdgagpcofghbaaaGreatDoorTrace
namespace Go.Proofs.YtdgagpcofghbaaaGreatDoor
open Go.RowKit Go.Shelf

def IsMem (W : World) (m b : Nat) : Prop := W.heap[m]? = some (.cells #[.iface 122 (.pointer (some ⟨b, 0, none⟩)), .bool false] 121 (0, 0))
def IsView (W : World) (v b : Nat) (th : Int) (made : Nat) : Prop := W.heap[v]? = some (.cells #[.iface 122 (.pointer (some ⟨b, 0, none⟩)), .int .i64 th, .int .i64 (made : Int)] 125 (0, 0))
theorem IsMem.chg {W W' : World} {F : Nat → Prop} {m b : Nat} (h : IsMem W m b) (hc : Chg F W W') (hn : ¬ F m) : IsMem W' m b := (hc.block m (lt_of h) hn).trans h
theorem IsView.chg {W W' : World} {F : Nat → Prop} {v b : Nat} {th : Int} {made : Nat} (h : IsView W v b th made) (hc : Chg F W W') (hn : ¬ F v) : IsView W' v b th made := (hc.block v (lt_of h) hn).trans h
theorem IsMem.lt {W : World} {m b : Nat} (h : IsMem W m b) : m < W.heap.size := lt_of h
theorem IsView.lt {W : World} {v b : Nat} {th : Int} {made : Nat} (h : IsView W v b th made) : v < W.heap.size := lt_of h

theorem mt_load (a : Addr) (w : World) : (method 304 122 (.pointer (some a)) "shutter/arena.load").run Tryz.prog w = .ok (160, .pointer (some a)) w := by kernel_rfl
theorem mt_store (a : Addr) (w : World) : (method 304 122 (.pointer (some a)) "shutter/arena.store").run Tryz.prog w = .ok (164, .pointer (some a)) w := by kernel_rfl
theorem mt_cas (a : Addr) (w : World) : (method 304 122 (.pointer (some a)) "shutter/arena.cas").run Tryz.prog w = .ok (157, .pointer (some a)) w := by kernel_rfl
theorem mt_add (a : Addr) (w : World) : (method 304 122 (.pointer (some a)) "shutter/arena.add").run Tryz.prog w = .ok (155, .pointer (some a)) w := by kernel_rfl
theorem mt_alloc (a : Addr) (w : World) : (method 304 122 (.pointer (some a)) "shutter/arena.alloc").run Tryz.prog w = .ok (156, .pointer (some a)) w := by kernel_rfl
theorem mt_left (a : Addr) (w : World) : (method 304 122 (.pointer (some a)) "shutter/arena.left").run Tryz.prog w = .ok (159, .pointer (some a)) w := by kernel_rfl
theorem mt_note (a : Addr) (w : World) : (method 304 122 (.pointer (some a)) "shutter/arena.note").run Tryz.prog w = .ok (162, .pointer (some a)) w := by kernel_rfl
set_option maxRecDepth 100000 in
theorem m_view (m b : Nat) (th : Int) (W : World) (hm : IsMem W m b) : Calls Tryz.prog 61 #[.pointer (some ⟨m, 0, none⟩), .int .i64 th] W fun e W' => e = .returned (.pointer (some ⟨W.heap.size, 0, none⟩)) ∧ W' = W.alloc (.cells #[.iface 122 (.pointer (some ⟨b, 0, none⟩)), .int .i64 th, .int .i64 0] 125) := by
  have c0 : W.cell? ⟨m, 0, none⟩ = some (.iface 122 (.pointer (some ⟨b, 0, none⟩))) := cell_of hm 0
  clear hm
  go_enter Tryz.func61, Tryz.ntmps61
  go_wp2_with fail
  go_ret
  exact ⟨by simp, rfl⟩

end Go.Proofs.YtdgagpcofghbaaaGreatDoor
