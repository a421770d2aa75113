/- A live memory that is made, and its views. -/
import Derived.Test.YtdhlgmbmpipppaaLc
import Derived.BigRegion
namespace Go.Proofs.Ytdhlgmbmpipppaa
open Go.RowKit Go.Shelf
set_option linter.unusedVariables false

theorem Chg.falls {a b c : World} (h : Chg (fun _ => False) a b) (k : Chg (fun _ => False) b c) : Chg (fun _ => False) a c := h.trans k (fun _ _ x => x) (fun _ _ x => x)
theorem infoAu : (Try.prog.info? 63).map (fun i => (i.zero, i.size, i.bytes)) = some (some (.agg #[.int .u64 0]), 1, 8) := by kernel_rfl
theorem make_au (n : Nat) (hn : n ≤ 1048576) (u : World) : (Instr.makeSlice 58 (.int .i64 (n : Int)) (.int .i64 (n : Int))).run Try.prog u = .ok (.slice (some ⟨u.heap.size, 0, none⟩) n n) (u.alloc (.cells (rowV n (fun _ => .int .u64 0)).toArray 63)) := by
  obtain ⟨i0, hi, hz0, hz1, hz2⟩ : ∃ i0, Try.prog.info? 63 = some i0 ∧ i0.zero = some (.agg #[.int .u64 0]) ∧ i0.size = 1 ∧ i0.bytes = 8 := by
    have h := infoAu
    cases e : Try.prog.info? 63 with
    | none => rw [e] at h; simp at h
    | some i0 => rw [e] at h; simp at h; exact ⟨i0, rfl, h.1, h.2.1, h.2.2⟩
  have h := run_make (P := Try.prog) u 58 63 i0 (.agg #[.int .u64 0]) Try.underlying58 hi hz0 .i64 .i64 (n : Int) (n : Int) (by omega) (Int.le_refl _) (by rw [hz2]; omega) (by omega)
  have hz : (Value.agg #[.int .u64 0]).cells = #[.int .u64 0] := rfl
  have e : madeCells #[.int .u64 0] n = (rowV n (fun _ => .int .u64 0)).toArray := by
    apply Array.ext'
    rw [toList_madeCells_one]
    simp [rowV, List.map_const']
  rw [← e]
  simpa [hz1, hz] using h
theorem three_new (w : World) (a b d : Obj) : Chg (fun _ => False) w (((w.alloc a).alloc b).alloc d).drew ∧ (((w.alloc a).alloc b).alloc d).drew.heap[w.heap.size]? = some a ∧ (((w.alloc a).alloc b).alloc d).drew.heap[w.heap.size + 1]? = some b ∧ (((w.alloc a).alloc b).alloc d).drew.heap[w.heap.size + 1 + 1]? = some d := by
  have e0 : (w.alloc a).heap[w.heap.size]? = some a := heap_alloc_new _ _
  have e1 : ((w.alloc a).alloc b).heap[w.heap.size + 1]? = some b := by
    have e : ((w.alloc a).alloc b).heap[(w.alloc a).heap.size]? = some b := heap_alloc_new _ _
    rw [show (w.alloc a).heap.size = w.heap.size + 1 by simp] at e
    exact e
  have e2 : (((w.alloc a).alloc b).alloc d).heap[w.heap.size + 1 + 1]? = some d := by
    have e : (((w.alloc a).alloc b).alloc d).heap[((w.alloc a).alloc b).heap.size]? = some d := heap_alloc_new _ _
    rw [show ((w.alloc a).alloc b).heap.size = w.heap.size + 1 + 1 by simp] at e
    exact e
  exact ⟨((((Chg.refl _ _).alloc a).alloc b).alloc d).drew, alloc_of (alloc_of e0 _) _, alloc_of e1 _, e2⟩
set_option maxRecDepth 100000 in
set_option maxHeartbeats 2000000 in
theorem l_new (W : World) : Calls Try.prog 18 #[.int .i64 256] W fun e w => ∃ lb gc gf, e = .returned (.pointer (some ⟨lb, 0, none⟩)) ∧ LB w lb gc gf 1 [] ∧ Chg (fun _ => False) W w ∧ W.heap.size ≤ lb ∧ W.heap.size ≤ gc ∧ W.heap.size ≤ gf := by
  have mk1 : ∀ u : World, (Instr.makeSlice 58 (.int .i64 256) (.int .i64 256)).run Try.prog u = .ok (.slice (some ⟨u.heap.size, 0, none⟩) 256 256) (u.alloc (.cells (rowV 256 (fun _ => .int .u64 0)).toArray 63)) := fun u => make_au 256 (by omega) u
  have mk2 : ∀ u : World, (Instr.makeSlice 58 (.int .i64 4) (.int .i64 4)).run Try.prog u = .ok (.slice (some ⟨u.heap.size, 0, none⟩) 4 4) (u.alloc (.cells (rowV 4 (fun _ => .int .u64 0)).toArray 63)) := fun u => make_au 4 (by omega) u
  go_enter Try.func18, Try.ntmps18
  go_upto_region 1 with fail
  go_cut [3] from 4 to 12 (fun s3 wz => ∃ lb gc gf : Nat, s3 = .pointer (some ⟨lb, 0, none⟩) ∧ wz.heap[lb]? = some (.cells (lbL gc gf 0) 65 (0, 0)) ∧ IsR wz gc 256 (fun _ => .int .u64 0) 63 ∧ IsR wz gf 4 (fun _ => .int .u64 0) 63 ∧ lb ≠ gc ∧ lb ≠ gf ∧ gc ≠ gf ∧ Chg (fun _ => False) W wz ∧ W.heap.size ≤ lb ∧ W.heap.size ≤ gc ∧ W.heap.size ≤ gf)
  case first =>
    go_big_region
    · try go_wp2_with fail
      try go_meet
      obtain ⟨c, q1, q2, q3⟩ := three_new W (.cells (rowV 256 (fun _ => .int .u64 0)).toArray 63) (.cells (rowV 4 (fun _ => .int .u64 0)).toArray 63) (.cells (lbL W.heap.size (W.heap.size + 1) 0) 65)
      exact ⟨_, W.heap.size, W.heap.size + 1, rfl, q3, q1, q2, by omega, by omega, by omega, c, by omega, by omega, by omega⟩
    · try go_wp2_with fail
      try go_meet
      obtain ⟨c, q1, q2, q3⟩ := three_new W (.cells (rowV 4 (fun _ => .int .u64 0)).toArray 63) (.cells (rowV 256 (fun _ => .int .u64 0)).toArray 63) (.cells (lbL (W.heap.size + 1) W.heap.size 0) 65)
      exact ⟨_, W.heap.size + 1, W.heap.size, rfl, q3, q2, q1, by omega, by omega, by omega, c, by omega, by omega, by omega⟩
  case rest =>
    obtain ⟨lb, gc, gf, rfl, hb, hr, hf, n1, n2, n3, c, g1, g2, g3⟩ := hcut
    have c2 : wc.cell? ⟨lb, 2, none⟩ = some (.int .u64 0) := cell_of hb 2
    have f2 : wc.frozen? ⟨lb, 2, none⟩ = false := free_of hb 2
    have HB := keepH hb
    have HR := keepH hr
    have HF := keepH hf
    have HC := keepH c
    clear hb hr hf c mk1 mk2
    go_wp2_with fail
    refine (a_store 1 c2 f2).mono ?_
    rintro e w ⟨rfl, hw⟩
    have cw : Chg (fun k => k = lb) wc w := by rw [hw]; exact (Chg.refl (fun k => k = lb) wc).setCell (p := ⟨lb, 2, none⟩) (fun _ => rfl) _
    have hb1 : w.heap[lb]? = some (.cells (lbL gc gf 1) 65 (0, 0)) := by rw [hw]; exact set_of HB.out 2 _
    have hf1 : IsR w gf 4 (fun j => .int .u64 (FW 0 j : Int)) 63 := IsR.congr ((cw.block gf (lt_of HF.out) (fun e => n2 e.symm)).trans HF.out) (fun i hi => by unfold FW; simp)
    have HMk := keepH (t_mark lb gc gf 1 0 1 w hb1 hf1 (by omega) (by omega) n2)
    have HB1 := keepH hb1
    have HCw := keepH cw
    clear hw c2 f2 hb1 hf1 cw
    go_wp2_with fail
    refine HMk.out.mono ?_
    rintro e w' ⟨rfl, FR, CR⟩
    have HL : Hid (LB w' lb gc gf 1 []) := ⟨(CR.block lb (lt_of HB1.out) n2).trans HB1.out, IsR.congr ((CR.block gc (Nat.lt_of_lt_of_le (lt_of HR.out) HCw.out.size) n3).trans ((HCw.out.block gc (lt_of HR.out) (fun e => n1 e.symm)).trans HR.out)) (fun i hi => by simp [cellN]), FR, by omega, fun i hi => by simp [cellN], fun i => by simp [cellN]⟩
    have HCh : Hid (Chg (fun _ => False) W w') := (HC.out.trans HCw.out (H := fun _ => False) (fun _ _ x => x) (fun i hi e => by omega)).trans CR (fun _ _ x => x) (fun i hi e => by omega)
    clear FR CR
    go_wp2_with fail
    go_ret
    exact ⟨lb, gc, gf, by simp, HL.out, HCh.out, g1, g2, g3⟩

def IsLMem (W : World) (m lb : Nat) : Prop := W.heap[m]? = some (.cells #[.iface 44 (.pointer (some ⟨lb, 0, none⟩)), .bool true] 49 (0, 0))
def IsLView (W : World) (v lb : Nat) (th : Int) (made : Nat) : Prop := W.heap[v]? = some (.cells #[.iface 44 (.pointer (some ⟨lb, 0, none⟩)), .int .i64 th, .int .i64 (made : Int)] 53 (0, 0))
theorem mtl_load (a : Addr) (w : World) : (method 201 44 (.pointer (some a)) "shutter/arena.load").run Try.prog w = .ok (47, .pointer (some a)) w := by kernel_rfl
theorem mtl_store (a : Addr) (w : World) : (method 201 44 (.pointer (some a)) "shutter/arena.store").run Try.prog w = .ok (49, .pointer (some a)) w := by kernel_rfl
theorem mtl_cas (a : Addr) (w : World) : (method 201 44 (.pointer (some a)) "shutter/arena.cas").run Try.prog w = .ok (45, .pointer (some a)) w := by kernel_rfl
theorem mtl_add (a : Addr) (w : World) : (method 201 44 (.pointer (some a)) "shutter/arena.add").run Try.prog w = .ok (43, .pointer (some a)) w := by kernel_rfl
theorem mtl_alloc (a : Addr) (w : World) : (method 201 44 (.pointer (some a)) "shutter/arena.alloc").run Try.prog w = .ok (44, .pointer (some a)) w := by kernel_rfl
theorem mtl_left (a : Addr) (w : World) : (method 201 44 (.pointer (some a)) "shutter/arena.left").run Try.prog w = .ok (46, .pointer (some a)) w := by kernel_rfl
theorem mtl_note (a : Addr) (w : World) : (method 201 44 (.pointer (some a)) "shutter/arena.note").run Try.prog w = .ok (48, .pointer (some a)) w := by kernel_rfl
theorem mtl_trace (a : Addr) (w : World) : (method 201 44 (.pointer (some a)) "shutter/arena.trace").run Try.prog w = .ok (50, .pointer (some a)) w := by kernel_rfl
set_option maxRecDepth 100000 in
theorem m_newL (W : World) : Calls Try.prog 4 #[.int .i64 256, .bool true] W fun e w => ∃ m lb gc gf, e = .returned (.tuple #[.pointer (some ⟨m, 0, none⟩), .int .i64 0]) ∧ IsLMem w m lb ∧ LB w lb gc gf 1 [] ∧ Chg (fun _ => False) W w ∧ W.heap.size ≤ m ∧ W.heap.size ≤ lb ∧ W.heap.size ≤ gc ∧ W.heap.size ≤ gf := by
  go_enter Try.func4, Try.ntmps4
  go_wp2_with fail
  refine (l_new W).mono ?_
  rintro e w ⟨lb, gc, gf, rfl, L, C, g1, g2, g3⟩
  have HL := keepH (L.chg ((Chg.refl (fun _ => False) w).alloc (.cells #[.iface 44 (.pointer (some ⟨lb, 0, none⟩)), .bool true] 49)) (fun x => x) (fun x => x) (fun x => x))
  have HC := keepH (C.alloc (.cells #[.iface 44 (.pointer (some ⟨lb, 0, none⟩)), .bool true] 49))
  have HM : Hid (IsLMem (w.alloc (.cells #[.iface 44 (.pointer (some ⟨lb, 0, none⟩)), .bool true] 49)) w.heap.size lb) := heap_alloc_new _ _
  have sz := C.size
  clear L C
  go_wp2_with fail
  go_ret2
  exact ⟨_, lb, gc, gf, by simp, HM.out, HL.out, HC.out, sz, g1, g2, g3⟩
set_option maxRecDepth 100000 in
theorem m_viewL (m lb : Nat) (th : Int) (W : World) (hm : IsLMem W m lb) : Calls Try.prog 5 #[.pointer (some ⟨m, 0, none⟩), .int .i64 th] W fun e W' => e = .returned (.pointer (some ⟨W.heap.size, 0, none⟩)) ∧ W' = W.alloc (.cells #[.iface 44 (.pointer (some ⟨lb, 0, none⟩)), .int .i64 th, .int .i64 0] 53) := by
  have c0 : W.cell? ⟨m, 0, none⟩ = some (.iface 44 (.pointer (some ⟨lb, 0, none⟩))) := cell_of hm 0
  clear hm
  go_enter Try.func5, Try.ntmps5
  go_wp2_with fail
  go_ret
  exact ⟨by simp, rfl⟩
set_option maxRecDepth 100000 in
theorem m_leftL {W : World} {m lb gc gf next : Nat} {cs : List Nat} (hm : IsLMem W m lb) (h : LB W lb gc gf next cs) : Calls Try.prog 13 #[.pointer (some ⟨m, 0, none⟩)] W fun e W' => e = .returned (.int .i64 ((256 - next : Nat) : Int)) ∧ ∃ q, W' = W.drewN q := by
  have c0 : W.cell? ⟨m, 0, none⟩ = some (.iface 44 (.pointer (some ⟨lb, 0, none⟩))) := cell_of hm 0
  have q := mtl_left ⟨lb, 0, none⟩
  have H := keepH h
  clear h hm
  go_enter Try.func13, Try.ntmps13
  go_wp2_with fail
  refine H.out.left.mono ?_
  rintro e w' ⟨rfl, r, rfl⟩
  go_wp2_with fail
  go_ret
  exact ⟨by simp, _, rfl⟩
set_option maxRecDepth 100000 in
theorem m_peekL {W : World} {m lb gc gf next : Nat} {cs : List Nat} (hm : IsLMem W m lb) (h : LB W lb gc gf next cs) (a : Nat) (ha : a < 18446744073709551616) : Calls Try.prog 14 #[.pointer (some ⟨m, 0, none⟩), .int .u64 (a : Int)] W fun e W' => e = .returned (.int .u64 (cellN cs a : Int)) ∧ W' = W := by
  have c0 : W.cell? ⟨m, 0, none⟩ = some (.iface 44 (.pointer (some ⟨lb, 0, none⟩))) := cell_of hm 0
  have q := mtl_load ⟨lb, 0, none⟩
  have H := keepH h
  clear h hm
  go_enter Try.func14, Try.ntmps14
  go_wp2_with fail
  refine (H.out.load a ha).mono ?_
  rintro e w' ⟨rfl, rfl⟩
  go_wp2_with fail
  go_ret
  exact ⟨by simp, rfl⟩
set_option maxRecDepth 100000 in
theorem m_liveL {W : World} {m lb : Nat} (hm : IsLMem W m lb) : Calls Try.prog 17 #[.pointer (some ⟨m, 0, none⟩)] W fun e W' => e = .returned (.bool true) ∧ W' = W := by
  have c0 : W.cell? ⟨m, 1, none⟩ = some (.bool true) := cell_of hm 1
  clear hm
  go_enter Try.func17, Try.ntmps17
  go_wp2_with fail
  go_ret
  exact ⟨by simp, rfl⟩
set_option maxRecDepth 100000 in
theorem l_trace (lb : Nat) (W : World) : Calls Try.prog 50 #[.pointer (some ⟨lb, 0, none⟩)] W fun e W' => e = .returned (.slice none 0 0) ∧ W' = W := by
  go_enter Try.func50, Try.ntmps50
  go_wp2_with fail
  go_ret
  exact ⟨by simp, rfl⟩
set_option maxRecDepth 100000 in
theorem m_traceL {W : World} {m lb : Nat} (hm : IsLMem W m lb) : Calls Try.prog 16 #[.pointer (some ⟨m, 0, none⟩)] W fun e W' => e = .returned (.slice none 0 0) ∧ W' = W := by
  have c0 : W.cell? ⟨m, 0, none⟩ = some (.iface 44 (.pointer (some ⟨lb, 0, none⟩))) := cell_of hm 0
  have q := mtl_trace ⟨lb, 0, none⟩
  clear hm
  go_enter Try.func16, Try.ntmps16
  go_wp2_with fail
  refine (l_trace lb _).mono ?_
  rintro e w' ⟨rfl, rfl⟩
  go_wp2_with fail
  go_ret
  exact ⟨by simp, rfl⟩
set_option maxRecDepth 100000 in
theorem vl_acc {W : World} {v lb : Nat} {th : Int} {made : Nat} (hv : IsLView W v lb th made) : Calls Try.prog 12 #[.pointer (some ⟨v, 0, none⟩)] W fun e W' => e = .returned (.int .i64 (made : Int)) ∧ W' = W := by
  have c0 : W.cell? ⟨v, 2, none⟩ = some (.int .i64 (made : Int)) := cell_of hv 2
  clear hv
  go_enter Try.func12, Try.ntmps12
  go_wp2_with fail
  go_ret
  exact ⟨by simp, rfl⟩
set_option maxRecDepth 100000 in
theorem l_note (lb : Nat) (th : Int) (kind addr x y got : Nat) (vs : Value) (ok : Bool) (W : World) (h1 : vs.cells.size = 1) : Calls Try.prog 48 #[.pointer (some ⟨lb, 0, none⟩), accV th kind addr x y vs got ok] W fun e W' => e = .returned (.tuple #[]) ∧ Chg (fun _ => False) W W' := by
  unfold accV
  have HX : Hid (∀ o, Chg (fun _ => False) W (W.alloc o)) := fun o => (Chg.refl _ W).alloc o
  go_enter Try.func48, Try.ntmps48
  go_wp2_with fail
  go_end0
  exact ⟨rfl, HX.out _⟩
set_option maxRecDepth 100000 in
theorem vl_count (v lb made : Nat) (th th0 : Int) (kind addr x y got : Nat) (ok : Bool) (p : Option Addr) (n c : Nat) (W : World) (hw : IsLView W v lb th made) (hmd : made < 1099511627776) :
    Calls Try.prog 20 #[.pointer (some ⟨v, 0, none⟩), accV th0 kind addr x y (.slice p n c) got ok] W fun e W' => e = .returned (.tuple #[]) ∧ IsLView W' v lb th (made + 1) ∧ Chg (fun k => k = v) W W' := by
  have c0 : W.cell? ⟨v, 0, none⟩ = some (.iface 44 (.pointer (some ⟨lb, 0, none⟩))) := cell_of hw 0
  have c1 : W.cell? ⟨v, 1, none⟩ = some (.int .i64 th) := cell_of hw 1
  have c2 : W.cell? ⟨v, 2, none⟩ = some (.int .i64 (made : Int)) := cell_of hw 2
  have f2 := free_of hw 2
  have q := mtl_note ⟨lb, 0, none⟩
  obtain ⟨md, hmd'⟩ : ∃ md, md = made + 1 := ⟨_, rfl⟩
  have wn : IntKind.i64.wrap ((made : Int) + 1) = (md : Int) := by rw [IntKind.wrap_i64]; omega
  have HMD := keepH hmd'
  clear hmd'
  have hlt := lt_of hw
  have ne1 : ¬ v = W.heap.size := by omega
  have ne2 : ¬ W.heap.size = v := by omega
  have hv1 : Hid ((W.setCell ⟨v, 2, none⟩ (.int .i64 (md : Int))).heap[v]? = some (.cells #[.iface 44 (.pointer (some ⟨lb, 0, none⟩)), .int .i64 th, .int .i64 (md : Int)] 53 (0, 0))) := set_of hw 2 _
  have ka : ∀ o, ((W.setCell ⟨v, 2, none⟩ (.int .i64 (md : Int))).alloc o).cell? ⟨v, 0, none⟩ = some (.iface 44 (.pointer (some ⟨lb, 0, none⟩))) := fun o => cell_of (alloc_of hv1.out o) 0
  have HY : Hid (∀ o, Chg (fun k => k = v) W ((W.setCell ⟨v, 2, none⟩ (.int .i64 (md : Int))).alloc o).drew) := fun o => (((Chg.refl (fun k => k = v) W).setCell (p := ⟨v, 2, none⟩) (fun _ => rfl) _).alloc o).drew
  unfold accV
  clear hw
  go_enter Try.func20, Try.ntmps20
  go_wp2_with fail
  go_region_with (go_at_call 48; refine (l_note lb th kind addr x y got (.slice p n c) ok _ rfl).mono ?_; rintro e w2 ⟨rfl, G1⟩; have HG1 := keepH G1; clear G1)
  all_goals (go_wp2_with fail)
  all_goals go_end0
  all_goals
    refine ⟨rfl, ?_, (HY.out _).trans HG1.out (fun _ _ x => x) (fun _ _ x => x.elim)⟩
    have e := HMD.out
    subst e
    exact (HG1.out.block v (by simp; omega) (fun x => x)).trans (alloc_of hv1.out _)
theorem LB.nv {W : World} {v lb gc gf next : Nat} {cs : List Nat} {th : Int} {made : Nat} (h : LB W lb gc gf next cs) (hv : IsLView W v lb th made) : v ≠ lb ∧ v ≠ gc ∧ v ≠ gf := by
  unfold IsLView at hv
  refine ⟨fun e => ?_, fun e => ?_, fun e => ?_⟩
  · have a := h.blk; rw [← e, hv] at a; simp at a
  · have a := h.row; unfold IsR at a; rw [← e, hv] at a; simp at a
  · have a := h.fil; unfold IsR at a; rw [← e, hv] at a; simp at a
set_option maxRecDepth 100000 in
theorem vl_load {W : World} {v lb gc gf next made : Nat} {cs : List Nat} {th : Int} (a : Nat) (ha : a < 18446744073709551616) (hw : IsLView W v lb th made) (h : LB W lb gc gf next cs) (hmd : made < 1099511627776) : Calls Try.prog 7 #[.pointer (some ⟨v, 0, none⟩), .int .u64 (a : Int)] W fun e W' => e = .returned (.int .u64 (cellN cs a : Int)) ∧ LB W' lb gc gf (next) (cs) ∧ IsLView W' v lb th (made + 1) ∧ Chg (fun k => k = v ∨ k = lb ∨ k = gc ∨ k = gf) W W' := by
  have c0 : W.cell? ⟨v, 0, none⟩ = some (.iface 44 (.pointer (some ⟨lb, 0, none⟩))) := cell_of hw 0
  have q := mtl_load ⟨lb, 0, none⟩
  obtain ⟨n1, n2, n3⟩ := h.nv hw
  have HW := keepH hw
  have HL := keepH ((h.load a ha).mono (fun e w z => (⟨z.1, by rw [z.2]; exact h, by rw [z.2]; exact Chg.refl _ _⟩ : e = .returned (.int .u64 (cellN cs a : Int)) ∧ LB w lb gc gf next cs ∧ Chg (fun k => k = gc) W w)))
  clear h hw
  go_enter Try.func7, Try.ntmps7
  go_wp2_with fail
  refine HL.out.mono ?_
  rintro e w1 ⟨rfl, L1, C1⟩
  have HL1 := keepH L1
  have HC1 : Hid (Chg (fun k => k = lb ∨ k = gc ∨ k = gf) W w1) := C1.mono (fun _ _ e => .inr (.inl e))
  have HV1 : Hid (IsLView w1 v lb th made) := (HC1.out.block v (lt_of HW.out) (fun e => e.elim n1 (fun e => e.elim n2 n3))).trans HW.out
  clear L1 C1
  go_wp2_with fail
  refine (vl_count v lb made th 0 1 a 0 0 (cellN cs a) false none 0 0 _ HV1.out hmd).mono ?_
  rintro e w2 ⟨rfl, V2, C2⟩
  have HL2 := keepH (HL1.out.chg C2 (fun e => n1 e.symm) (fun e => n2 e.symm) (fun e => n3 e.symm))
  have HV2 := keepH V2
  have HC2 : Hid (Chg (fun k => k = v ∨ k = lb ∨ k = gc ∨ k = gf) W w2) := (HC1.out.mono (fun _ _ e => .inr e)).trans C2 (fun _ _ x => x) (fun _ _ e => .inl e)
  clear V2 C2
  go_wp2_with fail
  go_ret
  exact ⟨by simp, HL2.out, HV2.out, HC2.out⟩
set_option maxRecDepth 100000 in
theorem vl_store {W : World} {v lb gc gf next made : Nat} {cs : List Nat} {th : Int} (a x : Nat) (ha : a < 18446744073709551616) (hx : x < 18446744073709551616) (hw : IsLView W v lb th made) (h : LB W lb gc gf next cs) (hmd : made < 1099511627776) : Calls Try.prog 8 #[.pointer (some ⟨v, 0, none⟩), .int .u64 (a : Int), .int .u64 (x : Int)] W fun e W' => e = .returned (.tuple #[]) ∧ LB W' lb gc gf (next) (stN 256 cs a x) ∧ IsLView W' v lb th (made + 1) ∧ Chg (fun k => k = v ∨ k = lb ∨ k = gc ∨ k = gf) W W' := by
  have c0 : W.cell? ⟨v, 0, none⟩ = some (.iface 44 (.pointer (some ⟨lb, 0, none⟩))) := cell_of hw 0
  have q := mtl_store ⟨lb, 0, none⟩
  obtain ⟨n1, n2, n3⟩ := h.nv hw
  have HW := keepH hw
  have HL := keepH (h.store a x ha hx)
  clear h hw
  go_enter Try.func8, Try.ntmps8
  go_wp2_with fail
  refine HL.out.mono ?_
  rintro e w1 ⟨rfl, L1, C1⟩
  have HL1 := keepH L1
  have HC1 : Hid (Chg (fun k => k = lb ∨ k = gc ∨ k = gf) W w1) := C1.mono (fun _ _ e => .inr (.inl e))
  have HV1 : Hid (IsLView w1 v lb th made) := (HC1.out.block v (lt_of HW.out) (fun e => e.elim n1 (fun e => e.elim n2 n3))).trans HW.out
  clear L1 C1
  go_wp2_with fail
  refine (vl_count v lb made th 0 2 a x 0 0 false none 0 0 _ HV1.out hmd).mono ?_
  rintro e w2 ⟨rfl, V2, C2⟩
  have HL2 := keepH (HL1.out.chg C2 (fun e => n1 e.symm) (fun e => n2 e.symm) (fun e => n3 e.symm))
  have HV2 := keepH V2
  have HC2 : Hid (Chg (fun k => k = v ∨ k = lb ∨ k = gc ∨ k = gf) W w2) := (HC1.out.mono (fun _ _ e => .inr e)).trans C2 (fun _ _ x => x) (fun _ _ e => .inl e)
  clear V2 C2
  go_wp2_with fail
  go_end0
  exact ⟨rfl, HL2.out, HV2.out, HC2.out⟩
set_option maxRecDepth 100000 in
theorem vl_cas {W : World} {v lb gc gf next made : Nat} {cs : List Nat} {th : Int} (a o x : Nat) (ha : a < 18446744073709551616) (hx : x < 18446744073709551616) (hw : IsLView W v lb th made) (h : LB W lb gc gf next cs) (hmd : made < 1099511627776) : Calls Try.prog 9 #[.pointer (some ⟨v, 0, none⟩), .int .u64 (a : Int), .int .u64 (o : Int), .int .u64 (x : Int)] W fun e W' => e = .returned (.bool (casOk 256 cs a o)) ∧ LB W' lb gc gf (next) (casN 256 cs a o x) ∧ IsLView W' v lb th (made + 1) ∧ Chg (fun k => k = v ∨ k = lb ∨ k = gc ∨ k = gf) W W' := by
  have c0 : W.cell? ⟨v, 0, none⟩ = some (.iface 44 (.pointer (some ⟨lb, 0, none⟩))) := cell_of hw 0
  have q := mtl_cas ⟨lb, 0, none⟩
  obtain ⟨n1, n2, n3⟩ := h.nv hw
  have HW := keepH hw
  have HL := keepH (h.cas a o x ha hx)
  clear h hw
  go_enter Try.func9, Try.ntmps9
  go_wp2_with fail
  refine HL.out.mono ?_
  rintro e w1 ⟨rfl, L1, C1⟩
  have HL1 := keepH L1
  have HC1 : Hid (Chg (fun k => k = lb ∨ k = gc ∨ k = gf) W w1) := C1.mono (fun _ _ e => .inr (.inl e))
  have HV1 : Hid (IsLView w1 v lb th made) := (HC1.out.block v (lt_of HW.out) (fun e => e.elim n1 (fun e => e.elim n2 n3))).trans HW.out
  clear L1 C1
  go_wp2_with fail
  refine (vl_count v lb made th 0 3 a o x 0 (casOk 256 cs a o) none 0 0 _ HV1.out hmd).mono ?_
  rintro e w2 ⟨rfl, V2, C2⟩
  have HL2 := keepH (HL1.out.chg C2 (fun e => n1 e.symm) (fun e => n2 e.symm) (fun e => n3 e.symm))
  have HV2 := keepH V2
  have HC2 : Hid (Chg (fun k => k = v ∨ k = lb ∨ k = gc ∨ k = gf) W w2) := (HC1.out.mono (fun _ _ e => .inr e)).trans C2 (fun _ _ x => x) (fun _ _ e => .inl e)
  clear V2 C2
  go_wp2_with fail
  go_ret
  exact ⟨by simp, HL2.out, HV2.out, HC2.out⟩
set_option maxRecDepth 100000 in
theorem vl_add {W : World} {v lb gc gf next made : Nat} {cs : List Nat} {th : Int} (a x : Nat) (ha : a < 18446744073709551616) (hx : x < 18446744073709551616) (hw : IsLView W v lb th made) (h : LB W lb gc gf next cs) (hmd : made < 1099511627776) : Calls Try.prog 10 #[.pointer (some ⟨v, 0, none⟩), .int .u64 (a : Int), .int .u64 (x : Int)] W fun e W' => e = .returned (.int .u64 (cellN cs a : Int)) ∧ LB W' lb gc gf (next) (stN 256 cs a (addN (cellN cs a) x)) ∧ IsLView W' v lb th (made + 1) ∧ Chg (fun k => k = v ∨ k = lb ∨ k = gc ∨ k = gf) W W' := by
  have c0 : W.cell? ⟨v, 0, none⟩ = some (.iface 44 (.pointer (some ⟨lb, 0, none⟩))) := cell_of hw 0
  have q := mtl_add ⟨lb, 0, none⟩
  obtain ⟨n1, n2, n3⟩ := h.nv hw
  have HW := keepH hw
  have HL := keepH (h.add a x ha hx)
  clear h hw
  go_enter Try.func10, Try.ntmps10
  go_wp2_with fail
  refine HL.out.mono ?_
  rintro e w1 ⟨rfl, L1, C1⟩
  have HL1 := keepH L1
  have HC1 : Hid (Chg (fun k => k = lb ∨ k = gc ∨ k = gf) W w1) := C1.mono (fun _ _ e => .inr (.inl e))
  have HV1 : Hid (IsLView w1 v lb th made) := (HC1.out.block v (lt_of HW.out) (fun e => e.elim n1 (fun e => e.elim n2 n3))).trans HW.out
  clear L1 C1
  go_wp2_with fail
  refine (vl_count v lb made th 0 4 a x 0 (cellN cs a) false none 0 0 _ HV1.out hmd).mono ?_
  rintro e w2 ⟨rfl, V2, C2⟩
  have HL2 := keepH (HL1.out.chg C2 (fun e => n1 e.symm) (fun e => n2 e.symm) (fun e => n3 e.symm))
  have HV2 := keepH V2
  have HC2 : Hid (Chg (fun k => k = v ∨ k = lb ∨ k = gc ∨ k = gf) W w2) := (HC1.out.mono (fun _ _ e => .inr e)).trans C2 (fun _ _ x => x) (fun _ _ e => .inl e)
  clear V2 C2
  go_wp2_with fail
  go_ret
  exact ⟨by simp, HL2.out, HV2.out, HC2.out⟩
set_option maxRecDepth 100000 in
theorem vl_alloc {W : World} {v lb gc gf next made : Nat} {cs : List Nat} {th : Int} (p : Option Addr) (c : Nat) (vals : List Nat) (hr : Reads W p vals) (hne : ∀ ad, p = some ad → vals ≠ [] → ad.block ≠ lb ∧ ad.block ≠ gc) (hvs : ∀ x ∈ vals, x < 18446744073709551616) (hl : vals.length ≤ 17592186043904) (hw : IsLView W v lb th made) (h : LB W lb gc gf next cs) (hmd : made < 1099511627776) : Calls Try.prog 11 #[.pointer (some ⟨v, 0, none⟩), .slice p vals.length c] W fun e W' => e = .returned (.int .u64 (alAt 256 next vals.length : Int)) ∧ LB W' lb gc gf (alNext 256 next vals.length) (alN 256 next cs vals) ∧ IsLView W' v lb th (made + 1) ∧ Chg (fun k => k = v ∨ k = lb ∨ k = gc ∨ k = gf) W W' := by
  have c0 : W.cell? ⟨v, 0, none⟩ = some (.iface 44 (.pointer (some ⟨lb, 0, none⟩))) := cell_of hw 0
  have q := mtl_alloc ⟨lb, 0, none⟩
  obtain ⟨n1, n2, n3⟩ := h.nv hw
  have HW := keepH hw
  have HL := keepH (h.alloc p c vals hr hne hvs hl)
  clear h hw
  go_enter Try.func11, Try.ntmps11
  go_wp2_with fail
  refine HL.out.mono ?_
  rintro e w1 ⟨rfl, L1, C1⟩
  have HL1 := keepH L1
  have HC1 : Hid (Chg (fun k => k = lb ∨ k = gc ∨ k = gf) W w1) := C1.mono (fun _ _ e => e)
  have HV1 : Hid (IsLView w1 v lb th made) := (HC1.out.block v (lt_of HW.out) (fun e => e.elim n1 (fun e => e.elim n2 n3))).trans HW.out
  clear L1 C1
  go_wp2_with fail
  refine (vl_count v lb made th 0 5 (alAt 256 next vals.length) 0 0 0 false p vals.length c _ HV1.out hmd).mono ?_
  rintro e w2 ⟨rfl, V2, C2⟩
  have HL2 := keepH (HL1.out.chg C2 (fun e => n1 e.symm) (fun e => n2 e.symm) (fun e => n3 e.symm))
  have HV2 := keepH V2
  have HC2 : Hid (Chg (fun k => k = v ∨ k = lb ∨ k = gc ∨ k = gf) W w2) := (HC1.out.mono (fun _ _ e => .inr e)).trans C2 (fun _ _ x => x) (fun _ _ e => .inl e)
  clear V2 C2
  go_wp2_with fail
  go_ret
  exact ⟨by simp, HL2.out, HV2.out, HC2.out⟩
end Go.Proofs.Ytdhlgmbmpipppaa
