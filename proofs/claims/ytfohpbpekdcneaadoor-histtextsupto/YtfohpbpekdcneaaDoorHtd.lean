/- The line of a span: its text, pure and by the program; Itoa. -/
import Derived.Test.YtfohpbpekdcneaaDoorSb0
import Derived.Test.YtfohpbpekdcneaaDoorHta
import Derived.Test.YtfohpbpekdcneaaDoorHtc
import Derived.Test.YtfohpbpekdcneaaDoorHRight
namespace Go.Proofs.YtfohpbpekdcneaaDoor
open Go.RowKit Go.Shelf
set_option linter.unusedVariables false

structure Tb (w : World) : Prop where
  tab : Lib.TabIs Tryd.prog w "internal/strconv.uint64pow10" .u64 Lib.pow10Tab
  es : ∃ tp p, w.var? Tryd.prog "strconv.ErrSyntax" = some #[.iface tp p]
  er : ∃ tp p, w.var? Tryd.prog "strconv.ErrRange" = some #[.iface tp p]
  ml : ∃ m, w.cell? ⟨Tryd.lays146_ren.g 1, 0, none⟩ = some (.int .i64 m)
theorem Tb.on {w w' : World} (h : Tb w) (hb : Below w.heap.size w w') : Tb w' := by
  obtain ⟨h1, ⟨a, b, h2⟩, ⟨c, d, h3⟩, ⟨m, h4⟩⟩ := h
  exact ⟨var_below h1 hb, ⟨a, b, var_below h2 hb⟩, ⟨c, d, var_below h3 hb⟩, ⟨m, cell_below h4 hb⟩⟩

theorem itoa_any (n : Int) (h : isI n) (w : World) (T : Tb w) :
    Calls Tryd.prog 18 #[.int .i64 n] w fun e w' => e = .returned (.string (mkS (Lib.itoa n))) ∧ Below w.heap.size w w' := by
  refine (Any.strconv_Itoa Tryd.lays171 n h.1 (by have := h.2; omega) w T.tab).mono ?_
  rintro e w' ⟨rfl, k, os, rfl⟩
  exact ⟨rfl, grow_below _ _ _⟩

def toL (t : Int) : List UInt8 := if t < 0 then [45] else Lib.itoa t
def lineL (s : Sp) : List UInt8 := Lib.itoa s.th ++ 32 :: (Lib.itoa s.ix ++ 32 :: (Lib.itoa s.fr ++ 32 :: (toL s.to ++ [10])))
theorem itoa_len {n : Int} (h : isI n) : (Lib.itoa n).length ≤ 21 := Lib.itoa_length_le n h.1 (by have := h.2; omega)
theorem toL_len {n : Int} (h : isI n) : (toL n).length ≤ 21 := by
  unfold toL; split
  · simp
  · exact itoa_len h
theorem lineL_len {s : Sp} (h : s.Ok) : (lineL s).length ≤ 100 := by
  have a := itoa_len h.th
  have b := itoa_len h.ix
  have c := itoa_len h.fr
  have d := toL_len h.to
  unfold lineL
  simp only [List.length_append, List.length_cons, List.length_nil]
  omega
theorem joinsL (s : Sp) (h : s.Ok) : ∃ s1 s2 s3 s4 s5 s6 : ByteArray,
    (∀ W, (Op.stringOp .add (mkS (Lib.itoa s.th)) ⟨#[32]⟩).run Tryd.prog W = .ok (.string s1) W) ∧ (∀ W, (Op.stringOp .add s1 (mkS (Lib.itoa s.ix))).run Tryd.prog W = .ok (.string s2) W) ∧
    (∀ W, (Op.stringOp .add s2 ⟨#[32]⟩).run Tryd.prog W = .ok (.string s3) W) ∧ (∀ W, (Op.stringOp .add s3 (mkS (Lib.itoa s.fr))).run Tryd.prog W = .ok (.string s4) W) ∧
    (∀ W, (Op.stringOp .add s4 ⟨#[32]⟩).run Tryd.prog W = .ok (.string s5) W) ∧ (∀ W, (Op.stringOp .add s5 (mkS (toL s.to))).run Tryd.prog W = .ok (.string s6) W) ∧
    (∀ W, (Op.stringOp .add s6 ⟨#[10]⟩).run Tryd.prog W = .ok (.string (mkS (lineL s))) W) := by
  have a := itoa_len h.th
  have b := itoa_len h.ix
  have c := itoa_len h.fr
  have d := toL_len h.to
  refine ⟨_, _, _, _, _, _, add_str _ [32] ?_, add_str _ _ ?_, add_str _ [32] ?_, add_str _ _ ?_, add_str _ [32] ?_, add_str _ _ ?_, fun W => ?_⟩
  · simp; omega
  · simp; omega
  · simp; omega
  · simp; omega
  · simp; omega
  · simp; omega
  · rw [show lineL s = (((((Lib.itoa s.th ++ [32]) ++ Lib.itoa s.ix ++ [32]) ++ Lib.itoa s.fr) ++ [32]) ++ toL s.to) ++ [10] by unfold lineL; simp]
    exact add_str _ [10] (by simp; omega) W

set_option maxRecDepth 100000 in
set_option maxHeartbeats 2000000 in
theorem line_any (s : Sp) (h : s.Ok) (w : World) (T : Tb w) :
    Calls Tryd.prog 15 #[.agg #[.int .i64 s.th, .int .i64 s.ix, .int .i64 s.fr, .int .i64 s.to]] w fun e w' => e = .returned (.string (mkS (lineL s))) ∧ Below w.heap.size w w' := by
  obtain ⟨w0, hw0⟩ : ∃ w0, w0 = w.alloc (.cells #[.int .i64 s.th, .int .i64 s.ix, .int .i64 s.fr, .int .i64 s.to] 38) := ⟨_, rfl⟩
  have B0 : Below w.heap.size w w0 := by rw [hw0]; exact below_alloc _ _
  have X0 : w0.heap[w.heap.size]? = some (.cells #[.int .i64 s.th, .int .i64 s.ix, .int .i64 s.fr, .int .i64 s.to] 38 (0, 0)) := by rw [hw0]; exact heap_alloc_new _ _
  obtain ⟨s1, s2, s3, s4, s5, s6, j1, j2, j3, j4, j5, j6, j7⟩ := joinsL s h
  have hI := fun (n : Int) (hn : isI n) (w' : World) (hb : Below w.heap.size w w') => itoa_any n hn w' (T.on hb)
  obtain ⟨⟨th, ix, fr, tw⟩, hs⟩ : ∃ x, x = s := ⟨s, rfl⟩
  obtain ⟨sL, hL⟩ : ∃ x, x = mkS (lineL s) := ⟨_, rfl⟩
  rw [← hL] at j7 ⊢
  subst hs
  obtain ⟨c1, hc1⟩ : ∃ x, x = mkS (Lib.itoa th) := ⟨_, rfl⟩
  obtain ⟨c2, hc2⟩ : ∃ x, x = mkS (Lib.itoa ix) := ⟨_, rfl⟩
  obtain ⟨c3, hc3⟩ : ∃ x, x = mkS (Lib.itoa fr) := ⟨_, rfl⟩
  obtain ⟨c4, hc4⟩ : ∃ x, x = mkS (toL tw) := ⟨_, rfl⟩
  simp only at j1 j2 j4 j6 X0 hw0 ⊢
  rw [← hc1] at j1
  rw [← hc2] at j2
  rw [← hc3] at j4
  rw [← hc4] at j6
  have K1 : ∀ w1, Below w.heap.size w w1 → Calls Tryd.prog 18 #[.int .i64 th] w1 fun e w' => e = .returned (.string c1) ∧ Below w1.heap.size w1 w' := fun w1 hb => by rw [hc1]; exact hI th h.th w1 hb
  have K2 : ∀ w1, Below w.heap.size w w1 → Calls Tryd.prog 18 #[.int .i64 ix] w1 fun e w' => e = .returned (.string c2) ∧ Below w1.heap.size w1 w' := fun w1 hb => by rw [hc2]; exact hI ix h.ix w1 hb
  have K3 : ∀ w1, Below w.heap.size w w1 → Calls Tryd.prog 18 #[.int .i64 fr] w1 fun e w' => e = .returned (.string c3) ∧ Below w1.heap.size w1 w' := fun w1 hb => by rw [hc3]; exact hI fr h.fr w1 hb
  have hc4' : (tw < 0 ∧ c4 = mkS [45]) ∨ (¬ tw < 0 ∧ c4 = mkS (Lib.itoa tw)) := by
    rw [hc4]; unfold toL
    by_cases q : tw < 0
    · exact Or.inl ⟨q, by rw [if_pos q]⟩
    · exact Or.inr ⟨q, by rw [if_neg q]⟩
  have HK1 := keepH K1
  have HK2 := keepH K2
  have HK3 := keepH K3
  have HI := keepH hI
  have HOK := keepH h
  clear hc1 hc2 hc3 hc4 hL K1 K2 K3 hI T h
  rcases hc4' with ⟨q, rfl⟩ | ⟨q, hq⟩
  · have hpd := h_pending_b (a := th) (b := ix) (c := fr) (d := tw) (B := true) (by simpa using q)
    clear q
    go_enter Tryd.func15, Tryd.ntmps15
    go_upto_region 2 with fail
    rw [← hw0]
    clear hw0
    have a0 := cell_of X0 0
    have a1 := cell_of X0 1
    have a2 := cell_of X0 2
    have a3 := cell_of X0 3
    go_wp2_with fail
    refine (hpd w0).mono ?_
    rintro e w1 ⟨rfl, C1⟩
    have B1 := below_chain B0 (chgB C1)
    have X1 := heap_below X0 (chgB C1)
    clear C1 a0 a1 a2 a3
    go_upto_region 4 with fail
    have e0 := cell_regrown (cell_of X1 0)
    have e1 := cell_regrown (cell_of X1 1)
    have e2 := cell_regrown (cell_of X1 2)
    have G1 := keepH (fun dd os => Calls.regrown_of (w := w1) (d := dd) (os := os) (HK1.out _ (below_chain B1 (below_regrown w1 dd os))))
    have G2 := keepH (fun dd os => Calls.regrown_of (w := w1) (d := dd) (os := os) (HK2.out _ (below_chain B1 (below_regrown w1 dd os))))
    have G3 := keepH (fun dd os => Calls.regrown_of (w := w1) (d := dd) (os := os) (HK3.out _ (below_chain B1 (below_regrown w1 dd os))))
    have HB : Hid (∀ dq osq, Below w.heap.size w (Sort.grow (redrawn w1 dq) osq)) := keepH (fun dq osq => below_chain B1 (below_regrown w1 dq osq))
    clear X1 B1
    refine wp_region_quiet_below (by kernel_rfl) (by kernel_rfl) ?_
    repeat (go_big_quiet_step (first | exact G1.out _ _ | exact G2.out _ _ | exact G3.out _ _))
    refine wpQuiet_nil ?_
    intro _ hw'
    obtain ⟨⟨dq, osq⟩, hw''⟩ := hw'
    subst hw''
    go_wp2
    go_ret
    exact ⟨rfl, HB.out _ _⟩
  · have hpd := h_pending_b (a := th) (b := ix) (c := fr) (d := tw) (B := false) (by simpa using q)
    clear q
    have K4 : ∀ w1, Below w.heap.size w w1 → Calls Tryd.prog 18 #[.int .i64 tw] w1 fun e w' => e = .returned (.string c4) ∧ Below w1.heap.size w1 w' := fun w1 hb => by rw [hq]; exact HI.out tw HOK.out.to w1 hb
    have HK4 := keepH K4
    clear K4 hq
    go_enter Tryd.func15, Tryd.ntmps15
    go_upto_region 2 with fail
    rw [← hw0]
    clear hw0
    have a0 := cell_of X0 0
    have a1 := cell_of X0 1
    have a2 := cell_of X0 2
    have a3 := cell_of X0 3
    go_wp2_with fail
    refine (hpd w0).mono ?_
    rintro e w9 ⟨rfl, C1⟩
    have B9 := below_chain B0 (chgB C1)
    have X9 := heap_below X0 (chgB C1)
    clear C1 a0 a1 a2 a3
    have a3 := cell_of X9 3
    go_wp2_with fail
    refine (HK4.out w9 B9).mono ?_
    rintro e w1 ⟨rfl, C2⟩
    have B1 := below_chain B9 C2
    have X1 := heap_below X9 C2
    clear C2 a3
    go_upto_region 4 with fail
    have e0 := cell_regrown (cell_of X1 0)
    have e1 := cell_regrown (cell_of X1 1)
    have e2 := cell_regrown (cell_of X1 2)
    have G1 := keepH (fun dd os => Calls.regrown_of (w := w1) (d := dd) (os := os) (HK1.out _ (below_chain B1 (below_regrown w1 dd os))))
    have G2 := keepH (fun dd os => Calls.regrown_of (w := w1) (d := dd) (os := os) (HK2.out _ (below_chain B1 (below_regrown w1 dd os))))
    have G3 := keepH (fun dd os => Calls.regrown_of (w := w1) (d := dd) (os := os) (HK3.out _ (below_chain B1 (below_regrown w1 dd os))))
    have HB : Hid (∀ dq osq, Below w.heap.size w (Sort.grow (redrawn w1 dq) osq)) := keepH (fun dq osq => below_chain B1 (below_regrown w1 dq osq))
    clear X1 B1
    refine wp_region_quiet_below (by kernel_rfl) (by kernel_rfl) ?_
    repeat (go_big_quiet_step (first | exact G1.out _ _ | exact G2.out _ _ | exact G3.out _ _))
    refine wpQuiet_nil ?_
    intro _ hw'
    obtain ⟨⟨dq, osq⟩, hw''⟩ := hw'
    subst hw''
    go_wp2
    go_ret
    exact ⟨rfl, HB.out _ _⟩
end Go.Proofs.YtfohpbpekdcneaaDoor
