/- A memory and its views, over a plain bank. -/
import Derived.Test.YtkfmpebhibnniaaTrace
namespace Go.Proofs.Ytkfmpebhibnniaa
open Go.RowKit Go.Shelf

def IsMem (W : World) (m b : Nat) : Prop := W.heap[m]? = some (.cells #[.iface 93 (.pointer (some ⟨b, 0, none⟩)), .bool false] 92 (0, 0))
def IsView (W : World) (v b : Nat) (th : Int) (made : Nat) : Prop := W.heap[v]? = some (.cells #[.iface 93 (.pointer (some ⟨b, 0, none⟩)), .int .i64 th, .int .i64 (made : Int)] 99 (0, 0))
theorem IsMem.chg {W W' : World} {F : Nat → Prop} {m b : Nat} (h : IsMem W m b) (hc : Chg F W W') (hn : ¬ F m) : IsMem W' m b := (hc.block m (lt_of h) hn).trans h
theorem IsView.chg {W W' : World} {F : Nat → Prop} {v b : Nat} {th : Int} {made : Nat} (h : IsView W v b th made) (hc : Chg F W W') (hn : ¬ F v) : IsView W' v b th made := (hc.block v (lt_of h) hn).trans h
theorem IsMem.lt {W : World} {m b : Nat} (h : IsMem W m b) : m < W.heap.size := lt_of h
theorem IsView.lt {W : World} {v b : Nat} {th : Int} {made : Nat} (h : IsView W v b th made) : v < W.heap.size := lt_of h

theorem mt_load (a : Addr) (w : World) : (method 279 93 (.pointer (some a)) "shutter/arena.load").run Try.prog w = .ok (114, .pointer (some a)) w := by kernel_rfl
theorem mt_store (a : Addr) (w : World) : (method 279 93 (.pointer (some a)) "shutter/arena.store").run Try.prog w = .ok (118, .pointer (some a)) w := by kernel_rfl
theorem mt_cas (a : Addr) (w : World) : (method 279 93 (.pointer (some a)) "shutter/arena.cas").run Try.prog w = .ok (111, .pointer (some a)) w := by kernel_rfl
theorem mt_add (a : Addr) (w : World) : (method 279 93 (.pointer (some a)) "shutter/arena.add").run Try.prog w = .ok (109, .pointer (some a)) w := by kernel_rfl
theorem mt_alloc (a : Addr) (w : World) : (method 279 93 (.pointer (some a)) "shutter/arena.alloc").run Try.prog w = .ok (110, .pointer (some a)) w := by kernel_rfl
theorem mt_left (a : Addr) (w : World) : (method 279 93 (.pointer (some a)) "shutter/arena.left").run Try.prog w = .ok (113, .pointer (some a)) w := by kernel_rfl
theorem mt_note (a : Addr) (w : World) : (method 279 93 (.pointer (some a)) "shutter/arena.note").run Try.prog w = .ok (116, .pointer (some a)) w := by kernel_rfl
theorem mt_trace (a : Addr) (w : World) : (method 279 93 (.pointer (some a)) "shutter/arena.trace").run Try.prog w = .ok (119, .pointer (some a)) w := by kernel_rfl
theorem mt_made (a : Addr) (w : World) : (method 279 93 (.pointer (some a)) "shutter/arena.made").run Try.prog w = .ok (115, .pointer (some a)) w := by kernel_rfl
set_option maxRecDepth 100000 in
theorem m_peek (m b most next addr : Nat) (F : Nat → Prop) (cs : List Nat) (l : List Acc) (W : World) (hm : IsMem W m b) (h : Bank W F b most next cs l) (ha : addr < 18446744073709551616) :
    Calls Try.prog 29 #[.pointer (some ⟨m, 0, none⟩), .int .u64 (addr : Int)] W fun e W' => e = .returned (.int .u64 (cellN cs addr : Int)) ∧ W' = W := by
  have c0 : W.cell? ⟨m, 0, none⟩ = some (.iface 93 (.pointer (some ⟨b, 0, none⟩))) := cell_of hm 0
  have q := mt_load ⟨b, 0, none⟩
  have H := keepH h
  clear h hm
  go_enter Try.func29, Try.ntmps29
  go_wp2_with fail
  refine (p_load b most next addr F cs l _ H.out ha).mono ?_
  rintro e w' ⟨rfl, rfl⟩
  go_wp2_with fail
  go_ret
  exact ⟨by simp, rfl⟩

set_option maxRecDepth 100000 in
theorem m_made (m b most next : Nat) (F : Nat → Prop) (cs : List Nat) (l : List Acc) (W : World) (hm : IsMem W m b) (h : Bank W F b most next cs l) :
    Calls Try.prog 51 #[.pointer (some ⟨m, 0, none⟩)] W fun e W' => e = .returned (.int .i64 (l.length : Int)) ∧ W' = W := by
  have c0 : W.cell? ⟨m, 0, none⟩ = some (.iface 93 (.pointer (some ⟨b, 0, none⟩))) := cell_of hm 0
  have q := mt_made ⟨b, 0, none⟩
  have H := keepH h
  clear h hm
  go_enter Try.func51, Try.ntmps51
  go_wp2_with fail
  refine (p_made b most next F cs l _ H.out).mono ?_
  rintro e w' ⟨rfl, rfl⟩
  go_wp2_with fail
  go_ret
  exact ⟨by simp, rfl⟩

set_option maxRecDepth 100000 in
theorem m_trace (m b most next : Nat) (F : Nat → Prop) (cs : List Nat) (l : List Acc) (W : World) (hm : IsMem W m b) (h : Bank W F b most next cs l) (hl : l.length ≤ 1099511627776) (hvl : ∀ x ∈ l, x.vals.length ≤ 17592186043904) :
    Calls Try.prog 18 #[.pointer (some ⟨m, 0, none⟩)] W fun e W' => ∃ p c lk, e = .returned (.slice p l.length c) ∧ Traced W W' (.slice p l.length c) l lk l.length := by
  have c0 : W.cell? ⟨m, 0, none⟩ = some (.iface 93 (.pointer (some ⟨b, 0, none⟩))) := cell_of hm 0
  have q := mt_trace ⟨b, 0, none⟩
  have H := keepH h
  clear h hm
  go_enter Try.func18, Try.ntmps18
  go_wp2_with fail
  refine (p_trace b most next F cs l _ H.out hl hvl).mono ?_
  rintro e w' ⟨v, lk, rfl, T⟩
  have HT := keepH T
  obtain ⟨p, c, rfl⟩ := slice_of T.row
  clear T
  go_wp2_with fail
  go_ret
  exact ⟨p, c, lk, by simp, HT.out⟩

set_option maxRecDepth 100000 in
theorem m_view (m b : Nat) (th : Int) (W : World) (hm : IsMem W m b) : Calls Try.prog 11 #[.pointer (some ⟨m, 0, none⟩), .int .i64 th] W fun e W' => e = .returned (.pointer (some ⟨W.heap.size, 0, none⟩)) ∧ W' = W.alloc (.cells #[.iface 93 (.pointer (some ⟨b, 0, none⟩)), .int .i64 th, .int .i64 0] 99) := by
  have c0 : W.cell? ⟨m, 0, none⟩ = some (.iface 93 (.pointer (some ⟨b, 0, none⟩))) := cell_of hm 0
  clear hm
  go_enter Try.func11, Try.ntmps11
  go_wp2_with fail
  go_ret
  exact ⟨by simp, rfl⟩

set_option maxRecDepth 100000 in
theorem v_accesses (v b made : Nat) (th : Int) (W : World) (hv : IsView W v b th made) : Calls Try.prog 13 #[.pointer (some ⟨v, 0, none⟩)] W fun e W' => e = .returned (.int .i64 (made : Int)) ∧ W' = W := by
  have c0 : W.cell? ⟨v, 2, none⟩ = some (.int .i64 (made : Int)) := cell_of hv 2
  clear hv
  go_enter Try.func13, Try.ntmps13
  go_wp2_with fail
  go_ret
  exact ⟨by simp, rfl⟩
end Go.Proofs.Ytkfmpebhibnniaa
