/- Operations and changes held against each other. -/
import Derived.Test.YtnhfpnhmdfgckaaEm
namespace Go.Proofs.Ytnhfpnhmdfgckaa
open Go.RowKit Go.Joins Go.ChangeShapes Go.WideShapes
set_option linter.unusedVariables false

theorem wf_0 : (Lit.int .i64 0).wf = true := by decide
theorem trod_bE (b : Bool) (w : World) : ∃ m, DataW.trod (H := Unit) (fun _ => ()) Try.prog w 0 (fun _ => true) true m 4 [.bool b] = some (.lit (.bool b), []) :=
  ⟨1, by simp [DataW.trod, Try.underlying4]⟩
theorem trod_iE (z : Int) (h : (Lit.int .i64 z).wf = true) (w : World) : ∃ m, DataW.trod (H := Unit) (fun _ => ()) Try.prog w 0 (fun _ => true) true m 3 [.int .i64 z] = some (.lit (.int .i64 z), []) :=
  ⟨1, by simp [DataW.trod, Try.underlying3, h]⟩
set_option maxRecDepth 100000 in
theorem ref_neq0 (w : World) : (binOp .neq 63 (.agg #[.bool false, .int .i64 0, .int .i64 0]) (.agg #[.bool false, .int .i64 0, .int .i64 0])).run Try.prog w = .ok (.bool false) w := by
  have t := shut_agg3 (enc := fun _ => ()) (P := Try.prog) (w := w) (base := 0) (spare := fun _ => true) (held := true) Try.underlying63 (by kernel_rfl) (by kernel_rfl) (trod_bE false w) (trod_iE 0 wf_0 w) (trod_iE 0 wf_0 w)
  obtain ⟨l, hl⟩ : ∃ l, keyOf Try.prog 63 (.agg #[.bool false, .int .i64 0, .int .i64 0]) = some l := ⟨_, (keyOf_asKey (by kernel_rfl) (by kernel_rfl) (by kernel_rfl) t).1⟩
  obtain ⟨r, hr, hi⟩ := run_equal_deep (P := Try.prog) w (m := 4) (by omega) (by kernel_rfl) (by kernel_rfl) hl hl
  have e : r = true := hi.2 rfl
  subst e
  simp [binOp, go_sem, hr]
set_option maxRecDepth 100000 in
set_option maxHeartbeats 4000000 in
theorem same_op (o : OpS) (w : World) : Calls Try.prog 49 #[.agg o.cells.toArray, .agg o.cells.toArray] w fun e w' => e = .returned (.bool true) ∧ Below w.heap.size w w' := by
  obtain ⟨kd, k, v⟩ := o
  simp only [OpS.cells, List.toArray]
  have hn := ref_neq0
  have HB : Hid (∀ a b, Below w.heap.size w ((w.alloc a).alloc b)) := keepH (fun a b => ((Below.refl _ w).alloc (Nat.le_refl _) a).alloc (by simp) b)
  go_enter Try.func49, Try.ntmps49
  go_wp2_with fail
  go_loopw [5] (fun q wr => q = .int .i64 0 ∧ wr = (w.alloc (.cells #[.int .u8 (kd : Int), .int .u64 (k : Int), .int .u64 (v : Int), .int .u64 0, .int .u64 0, .bool false, .int .i64 0, .int .i64 0, .slice none 0 0, .int .u64 0, .int .u64 0] 66)).alloc (.cells #[.int .u8 (kd : Int), .int .u64 (k : Int), .int .u64 (v : Int), .int .u64 0, .int .u64 0, .bool false, .int .i64 0, .int .i64 0, .slice none 0 0, .int .u64 0, .int .u64 0] 66)) (fun _ _ => 0)
  case atStart => exact ⟨rfl, rfl⟩
  case round =>
    obtain ⟨rfl, rfl⟩ := hrel
    go_wp2_with fail
    go_ret
    exact ⟨rfl, HB.out _ _⟩
set_option maxRecDepth 100000 in
set_option maxHeartbeats 4000000 in
theorem same_ops {W : World} {pa pb : Option Addr} {l : List OpS} (HA : OpSAt W pa l) (HB : OpSAt W pb l) (ca cb : Nat) (hl : l.length ≤ 1000000000) :
    Calls Try.prog 28 #[.slice pa l.length ca, .slice pb l.length cb] W fun e W' => e = .returned (.bool true) ∧ Below W.heap.size W W' := by
  have HAA := keepH HA
  have HBB := keepH HB
  clear HA HB
  go_enter Try.func28, Try.ntmps28
  go_wp2_with fail
  go_loopw [5] (fun q wr => ∃ i : Nat, i ≤ l.length ∧ q = .int .i64 (i : Int) ∧ Hid (Below W.heap.size W wr)) (fun q _ => l.length - (intOf q).toNat)
  case atStart => exact ⟨0, Nat.zero_le _, rfl, keepH (Below.refl _ _)⟩
  case round =>
    obtain ⟨i, hil, rfl, HX⟩ := hrel
    by_cases hlt : i < l.length
    · have q1 : (i : Int) < (l.length : Int) := by omega
      obtain ⟨⟨kd, k, v⟩, hc⟩ : ∃ c, l[i]? = some c := ⟨l[i], List.getElem?_eq_getElem hlt⟩
      obtain ⟨bk, off, rfl, hbk, hcs⟩ := (HAA.out.chg (below_chgE HX.out) (fun _ _ _ x => x)).resolve_left (by intro e; rw [e] at hc; simp at hc)
      obtain ⟨bk2, off2, rfl, hbk2, hcs2⟩ := (HBB.out.chg (below_chgE HX.out) (fun _ _ _ x => x)).resolve_left (by intro e; rw [e] at hc; simp at hc)
      have ha := hcs i _ hc
      have hb := hcs2 i _ hc
      have a0 := cell_regrown (ha 0 _ rfl)
      have a1 := cell_regrown (ha 1 _ rfl)
      have a2 := cell_regrown (ha 2 _ rfl)
      have a3 := cell_regrown (ha 3 _ rfl)
      have a4 := cell_regrown (ha 4 _ rfl)
      have a5 := cell_regrown (ha 5 _ rfl)
      have a6 := cell_regrown (ha 6 _ rfl)
      have a7 := cell_regrown (ha 7 _ rfl)
      have a8 := cell_regrown (ha 8 _ rfl)
      have a9 := cell_regrown (ha 9 _ rfl)
      have a10 := cell_regrown (ha 10 _ rfl)
      have b0 := cell_regrown (hb 0 _ rfl)
      have b1 := cell_regrown (hb 1 _ rfl)
      have b2 := cell_regrown (hb 2 _ rfl)
      have b3 := cell_regrown (hb 3 _ rfl)
      have b4 := cell_regrown (hb 4 _ rfl)
      have b5 := cell_regrown (hb 5 _ rfl)
      have b6 := cell_regrown (hb 6 _ rfl)
      have b7 := cell_regrown (hb 7 _ rfl)
      have b8 := cell_regrown (hb 8 _ rfl)
      have b9 := cell_regrown (hb 9 _ rfl)
      have b10 := cell_regrown (hb 10 _ rfl)
      simp only [Nat.add_zero] at a0 b0
      have KA := fun dd os => Calls.regrown_of (w := wr) (d := dd) (os := os) (same_op ⟨kd, k, v⟩ _)
      simp only [OpS.cells, List.toArray] at KA
      replace KA := keepH KA
      have HI : Hid (∀ dq osq, Below W.heap.size W (Sort.grow (redrawn wr dq) osq)) := keepH (fun dq osq => below_trans HX.out (below_regrown wr dq osq))
      clear hc hcs hcs2 ha hb HX
      go_wp2_with fail
      refine wp_region_quiet_below (by kernel_rfl) (by kernel_rfl) ?_
      repeat (quiet_step (first | exact KA.out _ _))
      refine wpQuiet_nil ?_
      intro _ hw'
      obtain ⟨⟨dq, osq⟩, hw''⟩ := hw'
      subst hw''
      go_wp2_with fail
      go_roundw
      case rel => exact ⟨i + 1, by omega, by first | rfl | go_num, keepH (HI.out _ _)⟩
      case measure => simp [intOf]; omega
    · have q1 : ¬ (i : Int) < (l.length : Int) := by omega
      go_wp2_with fail
      go_ret
      exact ⟨rfl, HX.out⟩
end Go.Proofs.Ytnhfpnhmdfgckaa
