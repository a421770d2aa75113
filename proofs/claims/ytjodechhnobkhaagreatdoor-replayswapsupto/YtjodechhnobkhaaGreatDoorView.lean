/- A memory and its views, over a plain bank. -/
import Derived.Test.YtjodechhnobkhaaGreatDoorTrace
namespace Go.Proofs.YtjodechhnobkhaaGreatDoor
open Go.RowKit Go.Shelf

def IsMem (W : World) (m b : Nat) : Prop := W.heap[m]? = some (.cells #[.iface 111 (.pointer (some ⟨b, 0, none⟩)), .bool false] 82 (0, 0))
def IsView (W : World) (v b : Nat) (th : Int) (made : Nat) : Prop := W.heap[v]? = some (.cells #[.iface 111 (.pointer (some ⟨b, 0, none⟩)), .int .i64 th, .int .i64 (made : Int)] 122 (0, 0))
theorem IsMem.chg {W W' : World} {F : Nat → Prop} {m b : Nat} (h : IsMem W m b) (hc : Chg F W W') (hn : ¬ F m) : IsMem W' m b := (hc.block m (lt_of h) hn).trans h
theorem IsView.chg {W W' : World} {F : Nat → Prop} {v b : Nat} {th : Int} {made : Nat} (h : IsView W v b th made) (hc : Chg F W W') (hn : ¬ F v) : IsView W' v b th made := (hc.block v (lt_of h) hn).trans h
theorem IsMem.lt {W : World} {m b : Nat} (h : IsMem W m b) : m < W.heap.size := lt_of h
theorem IsView.lt {W : World} {v b : Nat} {th : Int} {made : Nat} (h : IsView W v b th made) : v < W.heap.size := lt_of h

theorem mt_load (a : Addr) (w : World) : (method 303 111 (.pointer (some a)) "shutter/arena.load").run Tryz.prog w = .ok (142, .pointer (some a)) w := by kernel_rfl
theorem mt_store (a : Addr) (w : World) : (method 303 111 (.pointer (some a)) "shutter/arena.store").run Tryz.prog w = .ok (146, .pointer (some a)) w := by kernel_rfl
theorem mt_cas (a : Addr) (w : World) : (method 303 111 (.pointer (some a)) "shutter/arena.cas").run Tryz.prog w = .ok (139, .pointer (some a)) w := by kernel_rfl
theorem mt_add (a : Addr) (w : World) : (method 303 111 (.pointer (some a)) "shutter/arena.add").run Tryz.prog w = .ok (137, .pointer (some a)) w := by kernel_rfl
theorem mt_alloc (a : Addr) (w : World) : (method 303 111 (.pointer (some a)) "shutter/arena.alloc").run Tryz.prog w = .ok (138, .pointer (some a)) w := by kernel_rfl
theorem mt_size (a : Addr) (w : World) : (method 303 111 (.pointer (some a)) "shutter/arena.size").run Tryz.prog w = .ok (145, .pointer (some a)) w := by kernel_rfl
theorem mt_left (a : Addr) (w : World) : (method 303 111 (.pointer (some a)) "shutter/arena.left").run Tryz.prog w = .ok (141, .pointer (some a)) w := by kernel_rfl
theorem mt_note (a : Addr) (w : World) : (method 303 111 (.pointer (some a)) "shutter/arena.note").run Tryz.prog w = .ok (144, .pointer (some a)) w := by kernel_rfl
set_option maxRecDepth 100000 in
theorem m_peek (m b most next addr : Nat) (F : Nat → Prop) (cs : List Nat) (l : List Acc) (W : World) (hm : IsMem W m b) (h : Bank W F b most next cs l) (ha : addr < 18446744073709551616) :
    Calls Tryz.prog 19 #[.pointer (some ⟨m, 0, none⟩), .int .u64 (addr : Int)] W fun e W' => e = .returned (.int .u64 (cellN cs addr : Int)) ∧ W' = W := by
  have c0 : W.cell? ⟨m, 0, none⟩ = some (.iface 111 (.pointer (some ⟨b, 0, none⟩))) := cell_of hm 0
  have q := mt_load ⟨b, 0, none⟩
  have H := keepH h
  clear h hm
  go_enter Tryz.func19, Tryz.ntmps19
  go_wp2_with fail
  refine (p_load b most next addr F cs l _ H.out ha).mono ?_
  rintro e w' ⟨rfl, rfl⟩
  go_wp2_with fail
  go_ret
  exact ⟨by simp, rfl⟩

set_option maxRecDepth 100000 in
theorem m_cells (m b most next : Nat) (F : Nat → Prop) (cs : List Nat) (l : List Acc) (W : World) (hm : IsMem W m b) (h : Bank W F b most next cs l) :
    Calls Tryz.prog 18 #[.pointer (some ⟨m, 0, none⟩)] W fun e W' => e = .returned (.int .i64 (most : Int)) ∧ W' = W := by
  have c0 : W.cell? ⟨m, 0, none⟩ = some (.iface 111 (.pointer (some ⟨b, 0, none⟩))) := cell_of hm 0
  have q := mt_size ⟨b, 0, none⟩
  have H := keepH h
  clear h hm
  go_enter Tryz.func18, Tryz.ntmps18
  go_wp2_with fail
  refine (p_size b most next F cs l _ H.out).mono ?_
  rintro e w' ⟨rfl, rfl⟩
  go_wp2_with fail
  go_ret
  exact ⟨by simp, rfl⟩

set_option maxRecDepth 100000 in
theorem m_view (m b : Nat) (th : Int) (W : World) (hm : IsMem W m b) : Calls Tryz.prog 31 #[.pointer (some ⟨m, 0, none⟩), .int .i64 th] W fun e W' => e = .returned (.pointer (some ⟨W.heap.size, 0, none⟩)) ∧ W' = W.alloc (.cells #[.iface 111 (.pointer (some ⟨b, 0, none⟩)), .int .i64 th, .int .i64 0] 122) := by
  have c0 : W.cell? ⟨m, 0, none⟩ = some (.iface 111 (.pointer (some ⟨b, 0, none⟩))) := cell_of hm 0
  clear hm
  go_enter Tryz.func31, Tryz.ntmps31
  go_wp2_with fail
  go_ret
  exact ⟨by simp, rfl⟩

end Go.Proofs.YtjodechhnobkhaaGreatDoor
