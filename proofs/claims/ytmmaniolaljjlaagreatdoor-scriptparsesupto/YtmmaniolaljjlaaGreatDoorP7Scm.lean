/- The kind with a word, by the program. (mkScj.py) -/
import Derived.Test.YtmmaniolaljjlaaGreatDoorP6Sci
namespace Go.Proofs.YtmmaniolaljjlaaGreatDoor
open Go.RowKit Go.Shelf
set_option linter.unusedVariables false

theorem beq_mkS2 (a b : List UInt8) : ((mkS a).toList == (mkS b).toList) = decide (a = b) := by
  rw [mkS_toList, mkS_toList, Bool.eq_iff_iff]
  simp
theorem opW_inj : ∀ (j k : Nat), hasK j = true → hasK k = true → opW j = opW k → j = k := by
  intro j k hj hk e
  simp [hasK] at hj hk
  have h1 : j = 1 ∨ j = 2 ∨ j = 3 ∨ j = 4 ∨ j = 5 ∨ j = 6 ∨ j = 7 ∨ j = 8 ∨ j = 9 ∨ j = 10 := by omega
  have h2 : k = 1 ∨ k = 2 ∨ k = 3 ∨ k = 4 ∨ k = 5 ∨ k = 6 ∨ k = 7 ∨ k = 8 ∨ k = 9 ∨ k = 10 := by omega
  rcases h1 with rfl | rfl | rfl | rfl | rfl | rfl | rfl | rfl | rfl | rfl <;> rcases h2 with rfl | rfl | rfl | rfl | rfl | rfl | rfl | rfl | rfl | rfl <;> first | rfl | (exfalso; revert e; decide)
theorem wpList_index_run {P : Program} {ops : Array Oper} {rest : List Oper} {o : Oper} {a : Act} {w : World} {Q : Exit → Act → World → Prop} (hgd : o.guard = none) (t : TypeId) (x y : Operand) (ho : o.op = .index t x y) (v : Value)
    (hr : (Instr.index t (a.eval x) (a.eval y)).run P w = .ok v w) (h : wpList P ops Q rest (a.put o.dst v) w) : wpList P ops Q (o :: rest) a w := by
  refine wpList_plain hgd fun K hK => ?_
  unfold Oper.wp execOp
  simp only [ho, Sem.run_bind, hr, Result.andThen_ok, Sem.run_pure]
  exact hK _ _ h
def KindQ (t : List UInt8) (e : Ending) : Prop := (∃ k, hasK k = true ∧ t = opW k ∧ e = .returned (.tuple #[.int .u8 (k : Int), .bool true])) ∨ ((∀ k, hasK k = true → t ≠ opW k) ∧ e = .returned (.tuple #[.int .u8 0, .bool false]))
set_option maxRecDepth 100000 in
set_option maxHeartbeats 4000000 in
theorem kindOf_any (t : List UInt8) (W : World) (hW : Wd W) : Calls Tryz.prog 75 #[.string (mkS t)] W fun e W' => KindQ t e ∧ W' = W := by
  have c0 := hW.cell 0 (by omega)
  have e0 := beq_mkS2 (opW 0) t
  obtain ⟨s0, h0⟩ : ∃ s, s = mkS (opW 0) := ⟨_, rfl⟩
  rw [← h0] at c0 e0
  have z0 : s0.toList.isEmpty = true := by rw [h0, mkS_toList]; rfl
  have c1 := hW.cell 1 (by omega)
  have e1 := beq_mkS2 (opW 1) t
  obtain ⟨s1, h1⟩ : ∃ s, s = mkS (opW 1) := ⟨_, rfl⟩
  rw [← h1] at c1 e1
  have z1 : s1.toList.isEmpty = false := by rw [h1, mkS_toList]; rfl
  have c2 := hW.cell 2 (by omega)
  have e2 := beq_mkS2 (opW 2) t
  obtain ⟨s2, h2⟩ : ∃ s, s = mkS (opW 2) := ⟨_, rfl⟩
  rw [← h2] at c2 e2
  have z2 : s2.toList.isEmpty = false := by rw [h2, mkS_toList]; rfl
  have c3 := hW.cell 3 (by omega)
  have e3 := beq_mkS2 (opW 3) t
  obtain ⟨s3, h3⟩ : ∃ s, s = mkS (opW 3) := ⟨_, rfl⟩
  rw [← h3] at c3 e3
  have z3 : s3.toList.isEmpty = false := by rw [h3, mkS_toList]; rfl
  have c4 := hW.cell 4 (by omega)
  have e4 := beq_mkS2 (opW 4) t
  obtain ⟨s4, h4⟩ : ∃ s, s = mkS (opW 4) := ⟨_, rfl⟩
  rw [← h4] at c4 e4
  have z4 : s4.toList.isEmpty = false := by rw [h4, mkS_toList]; rfl
  have c5 := hW.cell 5 (by omega)
  have e5 := beq_mkS2 (opW 5) t
  obtain ⟨s5, h5⟩ : ∃ s, s = mkS (opW 5) := ⟨_, rfl⟩
  rw [← h5] at c5 e5
  have z5 : s5.toList.isEmpty = false := by rw [h5, mkS_toList]; rfl
  have c6 := hW.cell 6 (by omega)
  have e6 := beq_mkS2 (opW 6) t
  obtain ⟨s6, h6⟩ : ∃ s, s = mkS (opW 6) := ⟨_, rfl⟩
  rw [← h6] at c6 e6
  have z6 : s6.toList.isEmpty = false := by rw [h6, mkS_toList]; rfl
  have c7 := hW.cell 7 (by omega)
  have e7 := beq_mkS2 (opW 7) t
  obtain ⟨s7, h7⟩ : ∃ s, s = mkS (opW 7) := ⟨_, rfl⟩
  rw [← h7] at c7 e7
  have z7 : s7.toList.isEmpty = false := by rw [h7, mkS_toList]; rfl
  have c8 := hW.cell 8 (by omega)
  have e8 := beq_mkS2 (opW 8) t
  obtain ⟨s8, h8⟩ : ∃ s, s = mkS (opW 8) := ⟨_, rfl⟩
  rw [← h8] at c8 e8
  have z8 : s8.toList.isEmpty = false := by rw [h8, mkS_toList]; rfl
  have c9 := hW.cell 9 (by omega)
  have e9 := beq_mkS2 (opW 9) t
  obtain ⟨s9, h9⟩ : ∃ s, s = mkS (opW 9) := ⟨_, rfl⟩
  rw [← h9] at c9 e9
  have z9 : s9.toList.isEmpty = false := by rw [h9, mkS_toList]; rfl
  have c10 := hW.cell 10 (by omega)
  have e10 := beq_mkS2 (opW 10) t
  obtain ⟨s10, h10⟩ : ∃ s, s = mkS (opW 10) := ⟨_, rfl⟩
  rw [← h10] at c10 e10
  have z10 : s10.toList.isEmpty = false := by rw [h10, mkS_toList]; rfl
  obtain ⟨s, hs⟩ : ∃ s, s = mkS t := ⟨_, rfl⟩
  rw [← hs]
  rw [← hs] at e0
  obtain ⟨d0, g0⟩ : ∃ d, d = decide (opW 0 = t) := ⟨_, rfl⟩
  rw [← g0] at e0
  have G0 := keepH g0
  rw [← hs] at e1
  obtain ⟨d1, g1⟩ : ∃ d, d = decide (opW 1 = t) := ⟨_, rfl⟩
  rw [← g1] at e1
  have G1 := keepH g1
  rw [← hs] at e2
  obtain ⟨d2, g2⟩ : ∃ d, d = decide (opW 2 = t) := ⟨_, rfl⟩
  rw [← g2] at e2
  have G2 := keepH g2
  rw [← hs] at e3
  obtain ⟨d3, g3⟩ : ∃ d, d = decide (opW 3 = t) := ⟨_, rfl⟩
  rw [← g3] at e3
  have G3 := keepH g3
  rw [← hs] at e4
  obtain ⟨d4, g4⟩ : ∃ d, d = decide (opW 4 = t) := ⟨_, rfl⟩
  rw [← g4] at e4
  have G4 := keepH g4
  rw [← hs] at e5
  obtain ⟨d5, g5⟩ : ∃ d, d = decide (opW 5 = t) := ⟨_, rfl⟩
  rw [← g5] at e5
  have G5 := keepH g5
  rw [← hs] at e6
  obtain ⟨d6, g6⟩ : ∃ d, d = decide (opW 6 = t) := ⟨_, rfl⟩
  rw [← g6] at e6
  have G6 := keepH g6
  rw [← hs] at e7
  obtain ⟨d7, g7⟩ : ∃ d, d = decide (opW 7 = t) := ⟨_, rfl⟩
  rw [← g7] at e7
  have G7 := keepH g7
  rw [← hs] at e8
  obtain ⟨d8, g8⟩ : ∃ d, d = decide (opW 8 = t) := ⟨_, rfl⟩
  rw [← g8] at e8
  have G8 := keepH g8
  rw [← hs] at e9
  obtain ⟨d9, g9⟩ : ∃ d, d = decide (opW 9 = t) := ⟨_, rfl⟩
  rw [← g9] at e9
  have G9 := keepH g9
  rw [← hs] at e10
  obtain ⟨d10, g10⟩ : ∃ d, d = decide (opW 10 = t) := ⟨_, rfl⟩
  rw [← g10] at e10
  have G10 := keepH g10
  clear h0 g0 h1 g1 h2 g2 h3 g3 h4 g4 h5 g5 h6 g6 h7 g7 h8 g8 h9 g9 h10 g10 hs hW
  go_enter Tryz.func75, Tryz.ntmps75
  go_wp2_with fail
  clear c0 c1 c2 c3 c4 c5 c6 c7 c8 c9 c10
  go_loopw [7] (fun s wr => ∃ i : Nat, i ≤ 11 ∧ s = .int .i64 (i : Int) ∧ Hid (wr = W ∧ ∀ j, 1 ≤ j → j < i → t ≠ opW j)) (fun s _ => 11 - (intOf s).toNat)
  case atStart => exact ⟨0, by omega, rfl, keepH ⟨rfl, fun j _ h => by omega⟩⟩
  case round =>
    obtain ⟨i, hi, rfl, HK⟩ := hrel
    have hc : i = 0 ∨ i = 1 ∨ i = 2 ∨ i = 3 ∨ i = 4 ∨ i = 5 ∨ i = 6 ∨ i = 7 ∨ i = 8 ∨ i = 9 ∨ i = 10 ∨ i = 11 := by omega
    rcases hc with rfl | rfl | rfl | rfl | rfl | rfl | rfl | rfl | rfl | rfl | rfl | rfl
    · have hx : ∀ w, (Instr.index 119 (.agg #[.string s0, .string s1, .string s2, .string s3, .string s4, .string s5, .string s6, .string s7, .string s8, .string s9, .string s10]) (.int .i64 ((0 : Nat) : Int))).run Tryz.prog w = .ok (.string s0) w := fun w => by kernel_rfl
      clear e1 z1 e2 z2 e3 z3 e4 z4 e5 z5 e6 z6 e7 z7 e8 z8 e9 z9 e10 z10
      cases d0 with
      | false =>
        have HN : Hid (wr = W ∧ ∀ j, 1 ≤ j → j < 1 → t ≠ opW j) := keepH ⟨HK.out.1, fun j h1 h2 e => by
          have hg := G0.out
          by_cases q : j = 0
          · subst q; rw [e] at hg; simp at hg
          · exact HK.out.2 j h1 (by omega) e⟩
        go_wp2_with (first | (refine wpList_index_run rfl 119 _ _ rfl (.string s0) (hx _) ?_) | fail)
        go_roundw
        case rel => exact ⟨1, by omega, by first | rfl | go_num, HN⟩
        case measure => simp [intOf]
      | true =>
        have HN : Hid (wr = W ∧ ∀ j, 1 ≤ j → j < 1 → t ≠ opW j) := keepH ⟨HK.out.1, fun j h1 h2 e => by omega⟩
        go_wp2_with (first | (refine wpList_index_run rfl 119 _ _ rfl (.string s0) (hx _) ?_) | fail)
        go_roundw
        case rel => exact ⟨1, by omega, by first | rfl | go_num, HN⟩
        case measure => simp [intOf]
    · have hx : ∀ w, (Instr.index 119 (.agg #[.string s0, .string s1, .string s2, .string s3, .string s4, .string s5, .string s6, .string s7, .string s8, .string s9, .string s10]) (.int .i64 ((1 : Nat) : Int))).run Tryz.prog w = .ok (.string s1) w := fun w => by kernel_rfl
      clear e0 z0 e2 z2 e3 z3 e4 z4 e5 z5 e6 z6 e7 z7 e8 z8 e9 z9 e10 z10
      cases d1 with
      | false =>
        have HN : Hid (wr = W ∧ ∀ j, 1 ≤ j → j < 2 → t ≠ opW j) := keepH ⟨HK.out.1, fun j h1 h2 e => by
          have hg := G1.out
          by_cases q : j = 1
          · subst q; rw [e] at hg; simp at hg
          · exact HK.out.2 j h1 (by omega) e⟩
        go_wp2_with (first | (refine wpList_index_run rfl 119 _ _ rfl (.string s1) (hx _) ?_) | fail)
        go_roundw
        case rel => exact ⟨2, by omega, by first | rfl | go_num, HN⟩
        case measure => simp [intOf]
      | true =>
        go_wp2_with (first | (refine wpList_index_run rfl 119 _ _ rfl (.string s1) (hx _) ?_) | fail)
        go_ret2
        refine ⟨.inl ⟨1, rfl, ?_, by simp⟩, HK.out.1⟩
        have := G1.out
        simp at this
        exact this.symm
    · have hx : ∀ w, (Instr.index 119 (.agg #[.string s0, .string s1, .string s2, .string s3, .string s4, .string s5, .string s6, .string s7, .string s8, .string s9, .string s10]) (.int .i64 ((2 : Nat) : Int))).run Tryz.prog w = .ok (.string s2) w := fun w => by kernel_rfl
      clear e0 z0 e1 z1 e3 z3 e4 z4 e5 z5 e6 z6 e7 z7 e8 z8 e9 z9 e10 z10
      cases d2 with
      | false =>
        have HN : Hid (wr = W ∧ ∀ j, 1 ≤ j → j < 3 → t ≠ opW j) := keepH ⟨HK.out.1, fun j h1 h2 e => by
          have hg := G2.out
          by_cases q : j = 2
          · subst q; rw [e] at hg; simp at hg
          · exact HK.out.2 j h1 (by omega) e⟩
        go_wp2_with (first | (refine wpList_index_run rfl 119 _ _ rfl (.string s2) (hx _) ?_) | fail)
        go_roundw
        case rel => exact ⟨3, by omega, by first | rfl | go_num, HN⟩
        case measure => simp [intOf]
      | true =>
        go_wp2_with (first | (refine wpList_index_run rfl 119 _ _ rfl (.string s2) (hx _) ?_) | fail)
        go_ret2
        refine ⟨.inl ⟨2, rfl, ?_, by simp⟩, HK.out.1⟩
        have := G2.out
        simp at this
        exact this.symm
    · have hx : ∀ w, (Instr.index 119 (.agg #[.string s0, .string s1, .string s2, .string s3, .string s4, .string s5, .string s6, .string s7, .string s8, .string s9, .string s10]) (.int .i64 ((3 : Nat) : Int))).run Tryz.prog w = .ok (.string s3) w := fun w => by kernel_rfl
      clear e0 z0 e1 z1 e2 z2 e4 z4 e5 z5 e6 z6 e7 z7 e8 z8 e9 z9 e10 z10
      cases d3 with
      | false =>
        have HN : Hid (wr = W ∧ ∀ j, 1 ≤ j → j < 4 → t ≠ opW j) := keepH ⟨HK.out.1, fun j h1 h2 e => by
          have hg := G3.out
          by_cases q : j = 3
          · subst q; rw [e] at hg; simp at hg
          · exact HK.out.2 j h1 (by omega) e⟩
        go_wp2_with (first | (refine wpList_index_run rfl 119 _ _ rfl (.string s3) (hx _) ?_) | fail)
        go_roundw
        case rel => exact ⟨4, by omega, by first | rfl | go_num, HN⟩
        case measure => simp [intOf]
      | true =>
        go_wp2_with (first | (refine wpList_index_run rfl 119 _ _ rfl (.string s3) (hx _) ?_) | fail)
        go_ret2
        refine ⟨.inl ⟨3, rfl, ?_, by simp⟩, HK.out.1⟩
        have := G3.out
        simp at this
        exact this.symm
    · have hx : ∀ w, (Instr.index 119 (.agg #[.string s0, .string s1, .string s2, .string s3, .string s4, .string s5, .string s6, .string s7, .string s8, .string s9, .string s10]) (.int .i64 ((4 : Nat) : Int))).run Tryz.prog w = .ok (.string s4) w := fun w => by kernel_rfl
      clear e0 z0 e1 z1 e2 z2 e3 z3 e5 z5 e6 z6 e7 z7 e8 z8 e9 z9 e10 z10
      cases d4 with
      | false =>
        have HN : Hid (wr = W ∧ ∀ j, 1 ≤ j → j < 5 → t ≠ opW j) := keepH ⟨HK.out.1, fun j h1 h2 e => by
          have hg := G4.out
          by_cases q : j = 4
          · subst q; rw [e] at hg; simp at hg
          · exact HK.out.2 j h1 (by omega) e⟩
        go_wp2_with (first | (refine wpList_index_run rfl 119 _ _ rfl (.string s4) (hx _) ?_) | fail)
        go_roundw
        case rel => exact ⟨5, by omega, by first | rfl | go_num, HN⟩
        case measure => simp [intOf]
      | true =>
        go_wp2_with (first | (refine wpList_index_run rfl 119 _ _ rfl (.string s4) (hx _) ?_) | fail)
        go_ret2
        refine ⟨.inl ⟨4, rfl, ?_, by simp⟩, HK.out.1⟩
        have := G4.out
        simp at this
        exact this.symm
    · have hx : ∀ w, (Instr.index 119 (.agg #[.string s0, .string s1, .string s2, .string s3, .string s4, .string s5, .string s6, .string s7, .string s8, .string s9, .string s10]) (.int .i64 ((5 : Nat) : Int))).run Tryz.prog w = .ok (.string s5) w := fun w => by kernel_rfl
      clear e0 z0 e1 z1 e2 z2 e3 z3 e4 z4 e6 z6 e7 z7 e8 z8 e9 z9 e10 z10
      cases d5 with
      | false =>
        have HN : Hid (wr = W ∧ ∀ j, 1 ≤ j → j < 6 → t ≠ opW j) := keepH ⟨HK.out.1, fun j h1 h2 e => by
          have hg := G5.out
          by_cases q : j = 5
          · subst q; rw [e] at hg; simp at hg
          · exact HK.out.2 j h1 (by omega) e⟩
        go_wp2_with (first | (refine wpList_index_run rfl 119 _ _ rfl (.string s5) (hx _) ?_) | fail)
        go_roundw
        case rel => exact ⟨6, by omega, by first | rfl | go_num, HN⟩
        case measure => simp [intOf]
      | true =>
        go_wp2_with (first | (refine wpList_index_run rfl 119 _ _ rfl (.string s5) (hx _) ?_) | fail)
        go_ret2
        refine ⟨.inl ⟨5, rfl, ?_, by simp⟩, HK.out.1⟩
        have := G5.out
        simp at this
        exact this.symm
    · have hx : ∀ w, (Instr.index 119 (.agg #[.string s0, .string s1, .string s2, .string s3, .string s4, .string s5, .string s6, .string s7, .string s8, .string s9, .string s10]) (.int .i64 ((6 : Nat) : Int))).run Tryz.prog w = .ok (.string s6) w := fun w => by kernel_rfl
      clear e0 z0 e1 z1 e2 z2 e3 z3 e4 z4 e5 z5 e7 z7 e8 z8 e9 z9 e10 z10
      cases d6 with
      | false =>
        have HN : Hid (wr = W ∧ ∀ j, 1 ≤ j → j < 7 → t ≠ opW j) := keepH ⟨HK.out.1, fun j h1 h2 e => by
          have hg := G6.out
          by_cases q : j = 6
          · subst q; rw [e] at hg; simp at hg
          · exact HK.out.2 j h1 (by omega) e⟩
        go_wp2_with (first | (refine wpList_index_run rfl 119 _ _ rfl (.string s6) (hx _) ?_) | fail)
        go_roundw
        case rel => exact ⟨7, by omega, by first | rfl | go_num, HN⟩
        case measure => simp [intOf]
      | true =>
        go_wp2_with (first | (refine wpList_index_run rfl 119 _ _ rfl (.string s6) (hx _) ?_) | fail)
        go_ret2
        refine ⟨.inl ⟨6, rfl, ?_, by simp⟩, HK.out.1⟩
        have := G6.out
        simp at this
        exact this.symm
    · have hx : ∀ w, (Instr.index 119 (.agg #[.string s0, .string s1, .string s2, .string s3, .string s4, .string s5, .string s6, .string s7, .string s8, .string s9, .string s10]) (.int .i64 ((7 : Nat) : Int))).run Tryz.prog w = .ok (.string s7) w := fun w => by kernel_rfl
      clear e0 z0 e1 z1 e2 z2 e3 z3 e4 z4 e5 z5 e6 z6 e8 z8 e9 z9 e10 z10
      cases d7 with
      | false =>
        have HN : Hid (wr = W ∧ ∀ j, 1 ≤ j → j < 8 → t ≠ opW j) := keepH ⟨HK.out.1, fun j h1 h2 e => by
          have hg := G7.out
          by_cases q : j = 7
          · subst q; rw [e] at hg; simp at hg
          · exact HK.out.2 j h1 (by omega) e⟩
        go_wp2_with (first | (refine wpList_index_run rfl 119 _ _ rfl (.string s7) (hx _) ?_) | fail)
        go_roundw
        case rel => exact ⟨8, by omega, by first | rfl | go_num, HN⟩
        case measure => simp [intOf]
      | true =>
        go_wp2_with (first | (refine wpList_index_run rfl 119 _ _ rfl (.string s7) (hx _) ?_) | fail)
        go_ret2
        refine ⟨.inl ⟨7, rfl, ?_, by simp⟩, HK.out.1⟩
        have := G7.out
        simp at this
        exact this.symm
    · have hx : ∀ w, (Instr.index 119 (.agg #[.string s0, .string s1, .string s2, .string s3, .string s4, .string s5, .string s6, .string s7, .string s8, .string s9, .string s10]) (.int .i64 ((8 : Nat) : Int))).run Tryz.prog w = .ok (.string s8) w := fun w => by kernel_rfl
      clear e0 z0 e1 z1 e2 z2 e3 z3 e4 z4 e5 z5 e6 z6 e7 z7 e9 z9 e10 z10
      cases d8 with
      | false =>
        have HN : Hid (wr = W ∧ ∀ j, 1 ≤ j → j < 9 → t ≠ opW j) := keepH ⟨HK.out.1, fun j h1 h2 e => by
          have hg := G8.out
          by_cases q : j = 8
          · subst q; rw [e] at hg; simp at hg
          · exact HK.out.2 j h1 (by omega) e⟩
        go_wp2_with (first | (refine wpList_index_run rfl 119 _ _ rfl (.string s8) (hx _) ?_) | fail)
        go_roundw
        case rel => exact ⟨9, by omega, by first | rfl | go_num, HN⟩
        case measure => simp [intOf]
      | true =>
        go_wp2_with (first | (refine wpList_index_run rfl 119 _ _ rfl (.string s8) (hx _) ?_) | fail)
        go_ret2
        refine ⟨.inl ⟨8, rfl, ?_, by simp⟩, HK.out.1⟩
        have := G8.out
        simp at this
        exact this.symm
    · have hx : ∀ w, (Instr.index 119 (.agg #[.string s0, .string s1, .string s2, .string s3, .string s4, .string s5, .string s6, .string s7, .string s8, .string s9, .string s10]) (.int .i64 ((9 : Nat) : Int))).run Tryz.prog w = .ok (.string s9) w := fun w => by kernel_rfl
      clear e0 z0 e1 z1 e2 z2 e3 z3 e4 z4 e5 z5 e6 z6 e7 z7 e8 z8 e10 z10
      cases d9 with
      | false =>
        have HN : Hid (wr = W ∧ ∀ j, 1 ≤ j → j < 10 → t ≠ opW j) := keepH ⟨HK.out.1, fun j h1 h2 e => by
          have hg := G9.out
          by_cases q : j = 9
          · subst q; rw [e] at hg; simp at hg
          · exact HK.out.2 j h1 (by omega) e⟩
        go_wp2_with (first | (refine wpList_index_run rfl 119 _ _ rfl (.string s9) (hx _) ?_) | fail)
        go_roundw
        case rel => exact ⟨10, by omega, by first | rfl | go_num, HN⟩
        case measure => simp [intOf]
      | true =>
        go_wp2_with (first | (refine wpList_index_run rfl 119 _ _ rfl (.string s9) (hx _) ?_) | fail)
        go_ret2
        refine ⟨.inl ⟨9, rfl, ?_, by simp⟩, HK.out.1⟩
        have := G9.out
        simp at this
        exact this.symm
    · have hx : ∀ w, (Instr.index 119 (.agg #[.string s0, .string s1, .string s2, .string s3, .string s4, .string s5, .string s6, .string s7, .string s8, .string s9, .string s10]) (.int .i64 ((10 : Nat) : Int))).run Tryz.prog w = .ok (.string s10) w := fun w => by kernel_rfl
      clear e0 z0 e1 z1 e2 z2 e3 z3 e4 z4 e5 z5 e6 z6 e7 z7 e8 z8 e9 z9
      cases d10 with
      | false =>
        have HN : Hid (wr = W ∧ ∀ j, 1 ≤ j → j < 11 → t ≠ opW j) := keepH ⟨HK.out.1, fun j h1 h2 e => by
          have hg := G10.out
          by_cases q : j = 10
          · subst q; rw [e] at hg; simp at hg
          · exact HK.out.2 j h1 (by omega) e⟩
        go_wp2_with (first | (refine wpList_index_run rfl 119 _ _ rfl (.string s10) (hx _) ?_) | fail)
        go_roundw
        case rel => exact ⟨11, by omega, by first | rfl | go_num, HN⟩
        case measure => simp [intOf]
      | true =>
        go_wp2_with (first | (refine wpList_index_run rfl 119 _ _ rfl (.string s10) (hx _) ?_) | fail)
        go_ret2
        refine ⟨.inl ⟨10, rfl, ?_, by simp⟩, HK.out.1⟩
        have := G10.out
        simp at this
        exact this.symm
    · go_wp2_with fail
      go_ret2
      refine ⟨.inr ⟨fun k hk => HK.out.2 k ?_ ?_, by simp⟩, HK.out.1⟩
      · simp [hasK] at hk; omega
      · simp [hasK] at hk; omega
end Go.Proofs.YtmmaniolaljjlaaGreatDoor
/- Parts of a line that are read as numbers. (mkSck.py) -/
namespace Go.Proofs.YtmmaniolaljjlaaGreatDoor
open Go.RowKit Go.Shelf Go.Maps
set_option linter.unusedVariables false

/-- texts that lie somewhere -/
def SRd (W : World) (p : Option Addr) (fs : List (List UInt8)) : Prop :=
  fs = [] ∨ ∃ bk off, p = some ⟨bk, off, none⟩ ∧ bk < W.heap.size ∧ ∀ (i : Nat) (f : List UInt8), fs[i]? = some f → W.cell? ⟨bk, off + i, none⟩ = some (.string (mkS f))
theorem SRd.get {W : World} {p : Option Addr} {fs : List (List UInt8)} (h : SRd W p fs) (i : Nat) (f : List UInt8) (hf : fs[i]? = some f) : ∃ bk off, p = some ⟨bk, off, none⟩ ∧ bk < W.heap.size ∧ W.cell? ⟨bk, off + i, none⟩ = some (.string (mkS f)) := by
  rcases h with rfl | ⟨bk, off, rfl, hb, h⟩
  · simp at hf
  · exact ⟨bk, off, rfl, hb, h i f hf⟩
theorem SRd.on {W X : World} {p : Option Addr} {fs : List (List UInt8)} (h : SRd W p fs) (hb : Below W.heap.size W X) : SRd X p fs := by
  rcases h with rfl | ⟨bk, off, rfl, hl, h⟩
  · exact .inl rfl
  · exact .inr ⟨bk, off, rfl, Nat.lt_of_lt_of_le hl hb.size, fun i f hf => cell_below (h i f hf) hb⟩
def uRow (xs : List Nat) : List Value := xs.map fun n => Value.int .u64 ((n : Nat) : Int)
def zRow (xs : List Int) : List Value := xs.map fun n => Value.int .i64 n
theorem infoUk : (Tryz.prog.info? 23).map (fun i => (i.zero, i.size, i.bytes)) = some (some (.int .u64 0), 1, 8) := by kernel_rfl
theorem infoZ : (Tryz.prog.info? 3).map (fun i => (i.zero, i.size, i.bytes)) = some (some (.int .i64 0), 1, 8) := by kernel_rfl
structure StU (Z : World) (l : List Nat) (v : Value) (wr : World) : Prop where
  row : wr.ownsRow 0 23 1 v l.length (uRow l)
  bel : Below Z.heap.size Z wr
  new : ∀ b, v.ownBlock = some b → Z.heap.size ≤ b
theorem StU.on {Z : World} {l : List Nat} {v : Value} {wr X : World} (h : StU Z l v wr) (hb : Below wr.heap.size wr X) : StU Z l v X :=
  ⟨row_kept h.row fun b hb' => hb.block b (row_lt h.row b hb'), below_chain h.bel hb, h.new⟩
theorem StU.more {Z : World} {l : List Nat} {v v' : Value} {w1 w2 : World} {x : Nat} {o : Obj} (h : StU Z l v w1) (hr : w2.ownsRow 0 23 1 v' (l.length + 1) (uRow l ++ [.int .u64 (x : Int)])) (hg : (w1.alloc o).grownBy w2 v.ownBlock) (hw : v'.ownBlock = v.ownBlock ∨ v'.ownBlock = some (w1.alloc o).heap.size) : StU Z (l ++ [x]) v' w2 := by
  have hs := h.bel.size
  refine ⟨?_, (h.bel.alloc hs _).grown hg (by simp; omega) (fun k hk => h.new k hk), ?_⟩
  · rw [List.length_append]
    unfold uRow at *
    rw [List.map_append]
    exact hr
  · intro b hb
    rcases hw with e1 | e1
    · rw [e1] at hb
      exact h.new b hb
    · rw [e1] at hb
      simp at hb
      omega
theorem mapM_u_next {fs : List (List UInt8)} {i : Nat} {f : List UInt8} {us : List Nat} {x : Nat} (h : (fs.take i).mapM natP = some us) (hf : fs[i]? = some f) (hx : natP f = some x) : (fs.take (i + 1)).mapM natP = some (us ++ [x]) := by
  rw [List.take_add_one, hf, List.mapM_append, h]
  simp [hx]
theorem mapM_u_none {fs : List (List UInt8)} {i : Nat} {f : List UInt8} (hf : fs[i]? = some f) (hx : natP f = none) : fs.mapM natP = none := by
  have e : fs = fs.take i ++ f :: fs.drop (i + 1) := by
    obtain ⟨hi, rfl⟩ := List.getElem?_eq_some_iff.1 hf
    rw [← List.drop_eq_getElem_cons hi, List.take_append_drop]
  rw [e, List.mapM_append]
  cases (fs.take i).mapM natP with
  | none => rfl
  | some us => simp [hx]
theorem mapM_u_len {fs : List (List UInt8)} : ∀ {us : List Nat}, fs.mapM natP = some us → us.length = fs.length := by
  induction fs with
  | nil => intro us h; simp at h; subst h; rfl
  | cons f r ih =>
    intro us h
    simp only [List.mapM_cons, Option.bind_eq_bind, Option.bind_eq_some_iff, Option.pure_def, Option.some.injEq] at h
    obtain ⟨b, hb, r', hr', rfl⟩ := h
    simp [ih hr']
def NumsStU (W : World) (fs : List (List UInt8)) (e : Ending) (W' : World) : Prop := (∃ us v, fs.mapM natP = some us ∧ e = .returned (.tuple #[v, .bool true]) ∧ StU W us v W') ∨ (fs.mapM natP = none ∧ e = .returned (.tuple #[.slice none 0 0, .bool false]) ∧ Below W.heap.size W W')
set_option maxRecDepth 100000 in
set_option maxHeartbeats 4000000 in
theorem nums_u (p : Option Addr) (c : Nat) (fs : List (List UInt8)) (hl : fs.length ≤ 200000000) (hf : ∀ f ∈ fs, f.length ≤ 200000000) (W : World) (T : Tb W) (h : SRd W p fs) :
    Calls Tryz.prog 77 #[.func (.func 78) #[] #[], .slice p fs.length c] W (NumsStU W fs) := by
  have HNA := keepH (fun f (hm : f ∈ fs) w (hb : Below W.heap.size W w) => natural_any f (hf f hm) w (T.on hb))
  have HR := keepH h
  obtain ⟨n, hn⟩ : ∃ n, n = fs.length := ⟨_, rfl⟩
  have HN := keepH hn
  rw [← hn] at hl ⊢
  obtain ⟨i0, hi0, hz0, hz1, hz2⟩ := info_parts infoUk
  have HI := keepH hi0
  clear h T hf hn hi0
  go_enter Tryz.func77, Tryz.ntmps77
  go_wp2_with fail
  go_loopw [6, 13] (fun v s wr => ∃ i : Nat, i ≤ n ∧ s = .int .i64 (i : Int) ∧ Hid (∃ us, (fs.take i).mapM natP = some us ∧ StU W us v wr)) (fun _ s _ => n - (intOf s).toNat)
  case atStart => exact ⟨0, by omega, rfl, keepH ⟨[], by simp, World.ownsRow_nil _ _ _ _, Below.refl _ _, fun b hb => by simp [Value.ownBlock] at hb⟩⟩
  case round =>
    obtain ⟨i, him, rfl, HK⟩ := hrel
    obtain ⟨us, hus, hst⟩ := HK.out
    have HUS := keepH hus
    have HST := keepH hst
    have hul : us.length ≤ n := by
      rw [mapM_u_len hus, List.length_take]
      omega
    clear hus hst HK
    by_cases hlt : i < n
    · have t1 : (i : Int) < (n : Int) := by omega
      have t0 : (0 : Int) ≤ (i : Int) := by omega
      obtain ⟨f, hfi⟩ : ∃ f, fs[i]? = some f := ⟨fs[i]'(by have := HN.out; omega), List.getElem?_eq_getElem _⟩
      obtain ⟨bk, off, rfl, hbk, c0⟩ := (HR.out.on HST.out.bel).get i f hfi
      have HQ := keepH (HNA.out f (List.mem_of_getElem? hfi) wr HST.out.bel)
      have HFI := keepH hfi
      obtain ⟨sf, hsf⟩ : ∃ s, s = mkS f := ⟨_, rfl⟩
      rw [← hsf] at c0 HQ
      clear hfi hsf
      go_wp2_with fail
      refine HQ.out.mono ?_
      rintro e w2 ⟨v2, rfl, hv, B2⟩
      have HS2 := keepH (HST.out.on B2)
      clear B2 c0
      rcases hv with ⟨x, hx, rfl⟩ | ⟨hx, x, rfl⟩
      · have HNX := keepH (mapM_u_next HUS.out HFI.out hx)
        obtain ⟨fl, hfl⟩ : ∃ fl, fl = us.length := ⟨_, rfl⟩
        have hfl2 : fl ≤ 200000000 := by omega
        have HRW : Hid (w2.ownsRow 0 23 1 u6 fl (uRow us)) := keepH (by rw [hfl]; exact HS2.out.row)
        have hi0 := HI.out
        have HFL := keepH hfl
        clear hfl hx
        go_wp2_with (first | (at_builtin; refine wpList_append_own_at _ rfl (.tmp 25) (.tmp 27) 26 rfl 0 23 i0 (.int .u64 0) 1 8 Tryz.underlying26 hi0 hz0 hz1 hz2 rfl (by decide) u6 fl (uRow us) rfl (HRW.out.alloc _) ⟨w2.heap.size, 0, none⟩ 1 1 [.int .u64 (x : Int)] rfl rfl (cells_newR _ _ rfl _ _) (by intro u hu; simp at hu; subst hu; rfl) (by unfold maxLen; omega) (by omega) (Nat.zero_le _) ?_; intro v9 w9 r1 r2 r3 r4; have R1 := keepH r1; have R2 := keepH r2; have R4 := keepH r4; clear r1 r2 r3 r4) | go_in)
        have HNS := keepH (HS2.out.more (x := x) (by rw [← HFL.out]; exact R1.out) R2.out R4.out)
        go_roundw
        case rel => exact ⟨i + 1, by omega, by first | rfl | go_num, keepH ⟨_, HNX.out, HNS.out⟩⟩
        case measure => simp [intOf]; omega
      · have HNO := keepH (mapM_u_none HFI.out hx)
        clear hx
        go_wp2_with fail
        go_ret2
        exact .inr ⟨HNO.out, by simp, HS2.out.bel⟩
    · obtain rfl : i = n := by omega
      have t1 : ¬ (i : Int) < (i : Int) := by omega
      have hu := HUS.out
      rw [HN.out, List.take_length] at hu
      have HU := keepH hu
      clear hu
      go_wp2_with fail
      go_ret2
      exact .inl ⟨us, u6, HU.out, by simp, HST.out⟩
structure StZ (Z : World) (l : List Int) (v : Value) (wr : World) : Prop where
  row : wr.ownsRow 0 3 1 v l.length (zRow l)
  bel : Below Z.heap.size Z wr
  new : ∀ b, v.ownBlock = some b → Z.heap.size ≤ b
theorem StZ.on {Z : World} {l : List Int} {v : Value} {wr X : World} (h : StZ Z l v wr) (hb : Below wr.heap.size wr X) : StZ Z l v X :=
  ⟨row_kept h.row fun b hb' => hb.block b (row_lt h.row b hb'), below_chain h.bel hb, h.new⟩
theorem StZ.more {Z : World} {l : List Int} {v v' : Value} {w1 w2 : World} {x : Int} {o : Obj} (h : StZ Z l v w1) (hr : w2.ownsRow 0 3 1 v' (l.length + 1) (zRow l ++ [.int .i64 x])) (hg : (w1.alloc o).grownBy w2 v.ownBlock) (hw : v'.ownBlock = v.ownBlock ∨ v'.ownBlock = some (w1.alloc o).heap.size) : StZ Z (l ++ [x]) v' w2 := by
  have hs := h.bel.size
  refine ⟨?_, (h.bel.alloc hs _).grown hg (by simp; omega) (fun k hk => h.new k hk), ?_⟩
  · rw [List.length_append]
    unfold zRow at *
    rw [List.map_append]
    exact hr
  · intro b hb
    rcases hw with e1 | e1
    · rw [e1] at hb
      exact h.new b hb
    · rw [e1] at hb
      simp at hb
      omega
theorem mapM_z_next {fs : List (List UInt8)} {i : Nat} {f : List UInt8} {us : List Int} {x : Int} (h : (fs.take i).mapM intP = some us) (hf : fs[i]? = some f) (hx : intP f = some x) : (fs.take (i + 1)).mapM intP = some (us ++ [x]) := by
  rw [List.take_add_one, hf, List.mapM_append, h]
  simp [hx]
theorem mapM_z_none {fs : List (List UInt8)} {i : Nat} {f : List UInt8} (hf : fs[i]? = some f) (hx : intP f = none) : fs.mapM intP = none := by
  have e : fs = fs.take i ++ f :: fs.drop (i + 1) := by
    obtain ⟨hi, rfl⟩ := List.getElem?_eq_some_iff.1 hf
    rw [← List.drop_eq_getElem_cons hi, List.take_append_drop]
  rw [e, List.mapM_append]
  cases (fs.take i).mapM intP with
  | none => rfl
  | some us => simp [hx]
theorem mapM_z_len {fs : List (List UInt8)} : ∀ {us : List Int}, fs.mapM intP = some us → us.length = fs.length := by
  induction fs with
  | nil => intro us h; simp at h; subst h; rfl
  | cons f r ih =>
    intro us h
    simp only [List.mapM_cons, Option.bind_eq_bind, Option.bind_eq_some_iff, Option.pure_def, Option.some.injEq] at h
    obtain ⟨b, hb, r', hr', rfl⟩ := h
    simp [ih hr']
def NumsStZ (W : World) (fs : List (List UInt8)) (e : Ending) (W' : World) : Prop := (∃ us v, fs.mapM intP = some us ∧ e = .returned (.tuple #[v, .bool true]) ∧ StZ W us v W') ∨ (fs.mapM intP = none ∧ e = .returned (.tuple #[.slice none 0 0, .bool false]) ∧ Below W.heap.size W W')
set_option maxRecDepth 100000 in
set_option maxHeartbeats 4000000 in
theorem nums_z (p : Option Addr) (c : Nat) (fs : List (List UInt8)) (hl : fs.length ≤ 200000000) (hf : ∀ f ∈ fs, f.length ≤ 200000000) (W : World) (T : Tb W) (h : SRd W p fs) :
    Calls Tryz.prog 99 #[.func (.func 100) #[] #[], .slice p fs.length c] W (NumsStZ W fs) := by
  have HNA := keepH (fun f (hm : f ∈ fs) w (hb : Below W.heap.size W w) => integer_any f (hf f hm) w (T.on hb))
  have HR := keepH h
  obtain ⟨n, hn⟩ : ∃ n, n = fs.length := ⟨_, rfl⟩
  have HN := keepH hn
  rw [← hn] at hl ⊢
  obtain ⟨i0, hi0, hz0, hz1, hz2⟩ := info_parts infoZ
  have HI := keepH hi0
  clear h T hf hn hi0
  go_enter Tryz.func99, Tryz.ntmps99
  go_wp2_with fail
  go_loopw [6, 13] (fun v s wr => ∃ i : Nat, i ≤ n ∧ s = .int .i64 (i : Int) ∧ Hid (∃ us, (fs.take i).mapM intP = some us ∧ StZ W us v wr)) (fun _ s _ => n - (intOf s).toNat)
  case atStart => exact ⟨0, by omega, rfl, keepH ⟨[], by simp, World.ownsRow_nil _ _ _ _, Below.refl _ _, fun b hb => by simp [Value.ownBlock] at hb⟩⟩
  case round =>
    obtain ⟨i, him, rfl, HK⟩ := hrel
    obtain ⟨us, hus, hst⟩ := HK.out
    have HUS := keepH hus
    have HST := keepH hst
    have hul : us.length ≤ n := by
      rw [mapM_z_len hus, List.length_take]
      omega
    clear hus hst HK
    by_cases hlt : i < n
    · have t1 : (i : Int) < (n : Int) := by omega
      have t0 : (0 : Int) ≤ (i : Int) := by omega
      obtain ⟨f, hfi⟩ : ∃ f, fs[i]? = some f := ⟨fs[i]'(by have := HN.out; omega), List.getElem?_eq_getElem _⟩
      obtain ⟨bk, off, rfl, hbk, c0⟩ := (HR.out.on HST.out.bel).get i f hfi
      have HQ := keepH (HNA.out f (List.mem_of_getElem? hfi) wr HST.out.bel)
      have HFI := keepH hfi
      obtain ⟨sf, hsf⟩ : ∃ s, s = mkS f := ⟨_, rfl⟩
      rw [← hsf] at c0 HQ
      clear hfi hsf
      go_wp2_with fail
      refine HQ.out.mono ?_
      rintro e w2 ⟨v2, rfl, hv, B2⟩
      have HS2 := keepH (HST.out.on B2)
      clear B2 c0
      rcases hv with ⟨x, hx, rfl⟩ | ⟨hx, x, rfl⟩
      · have HNX := keepH (mapM_z_next HUS.out HFI.out hx)
        obtain ⟨fl, hfl⟩ : ∃ fl, fl = us.length := ⟨_, rfl⟩
        have hfl2 : fl ≤ 200000000 := by omega
        have HRW : Hid (w2.ownsRow 0 3 1 u6 fl (zRow us)) := keepH (by rw [hfl]; exact HS2.out.row)
        have hi0 := HI.out
        have HFL := keepH hfl
        clear hfl hx
        go_wp2_with (first | (at_builtin; refine wpList_append_own_at _ rfl (.tmp 25) (.tmp 27) 44 rfl 0 3 i0 (.int .i64 0) 1 8 Tryz.underlying44 hi0 hz0 hz1 hz2 rfl (by decide) u6 fl (zRow us) rfl (HRW.out.alloc _) ⟨w2.heap.size, 0, none⟩ 1 1 [.int .i64 x] rfl rfl (cells_newR _ _ rfl _ _) (by intro u hu; simp at hu; subst hu; rfl) (by unfold maxLen; omega) (by omega) (Nat.zero_le _) ?_; intro v9 w9 r1 r2 r3 r4; have R1 := keepH r1; have R2 := keepH r2; have R4 := keepH r4; clear r1 r2 r3 r4) | go_in)
        have HNS := keepH (HS2.out.more (x := x) (by rw [← HFL.out]; exact R1.out) R2.out R4.out)
        go_roundw
        case rel => exact ⟨i + 1, by omega, by first | rfl | go_num, keepH ⟨_, HNX.out, HNS.out⟩⟩
        case measure => simp [intOf]; omega
      · have HNO := keepH (mapM_z_none HFI.out hx)
        clear hx
        go_wp2_with fail
        go_ret2
        exact .inr ⟨HNO.out, by simp, HS2.out.bel⟩
    · obtain rfl : i = n := by omega
      have t1 : ¬ (i : Int) < (i : Int) := by omega
      have hu := HUS.out
      rw [HN.out, List.take_length] at hu
      have HU := keepH hu
      clear hu
      go_wp2_with fail
      go_ret2
      exact .inl ⟨us, u6, HU.out, by simp, HST.out⟩
end Go.Proofs.YtmmaniolaljjlaaGreatDoor
/- A handle that is read: the texts' cuts. (mkScl.py) -/
namespace Go.Proofs.YtmmaniolaljjlaaGreatDoor
open Go.RowKit Go.Shelf
set_option linter.unusedVariables false

/-- strings.Cut at a dot -/
theorem cutI_dot (l r : List UInt8) (hl : l.length + r.length ≤ 200000000) (hn : noB 46 l) (w : World) :
    Calls Tryz.prog 91 #[.string (mkS (l ++ 46 :: r)), .string ⟨#[46]⟩] w fun e w' => e = .returned (.tuple #[.string (mkS l), .string (mkS r), .bool true]) ∧ Below w.heap.size w w' := by
  have hix := Any.stringslite_Index_one Tryz.lays219 (mkS (l ++ 46 :: r)) 46 w
  rw [show Lib.indexByte (mkS (l ++ 46 :: r)).data.toList 46 = (l.length : Int) from ix_at hn] at hix
  have hsz : (mkS (l ++ 46 :: r)).size = l.length + 1 + r.length := by rw [mkS_size]; simp; omega
  have e1 : mkS l = (mkS (l ++ 46 :: r)).extract 0 l.length := by rw [mkS_extract]; simp
  have e2 : mkS r = (mkS (l ++ 46 :: r)).extract (l.length + 1) (mkS (l ++ 46 :: r)).size := by
    rw [mkS_extract, hsz]
    congr 1
    rw [show l ++ 46 :: r = (l ++ [46]) ++ r by simp, List.drop_left' (by simp), List.take_of_length_le (by omega)]
  rw [e1, e2]
  obtain ⟨s, hs⟩ : ∃ s, s = mkS (l ++ 46 :: r) := ⟨_, rfl⟩
  rw [← hs] at hix hsz ⊢
  obtain ⟨n, hn⟩ : ∃ n, n = l.length := ⟨_, rfl⟩
  rw [← hn] at hix ⊢
  have k1 : (0 : Int) ≤ (n : Int) := by omega
  have k2 : (n : Int) ≤ (s.size : Int) := by omega
  have k3 : (0 : Int) ≤ (n : Int) + 1 := by omega
  have k4 : (n : Int) + 1 ≤ (s.size : Int) := by omega
  have k5 : IntKind.i64.wrap ((n : Int) + 1) = (n : Int) + 1 := by rw [IntKind.wrap_i64]; omega
  have k6 : wrap64 ((n : Int) + 1) = (n : Int) + 1 := by unfold wrap64; omega
  clear e1 e2 hs hn hsz
  go_enter Tryz.func91, Tryz.ntmps91
  go_wp2_with (go_at_call 112; refine hix.mono ?_; rintro e w' ⟨rfl, rfl⟩)
  have mixed := Tryz.lays219.mixed
  go_region_o
  go_wp2
  go_ret3
  exact ⟨rfl, below_drewN (Below.refl _ _) 1⟩
theorem cutI_nodot (l : List UInt8) (hn : noB 46 l) (w : World) :
    Calls Tryz.prog 91 #[.string (mkS l), .string ⟨#[46]⟩] w fun e w' => e = .returned (.tuple #[.string (mkS l), .string (mkS []), .bool false]) ∧ Below w.heap.size w w' := by
  have hix := Any.stringslite_Index_one Tryz.lays219 (mkS l) 46 w
  rw [show Lib.indexByte (mkS l).data.toList 46 = -1 from ix_none hn] at hix
  go_enter Tryz.func91, Tryz.ntmps91
  go_wp2_with (go_at_call 112; refine hix.mono ?_; rintro e w' ⟨rfl, rfl⟩)
  go_ret3
  exact ⟨rfl, Below.refl _ _⟩
theorem cut_dot (l r : List UInt8) (hl : l.length + r.length ≤ 200000000) (hn : noB 46 l) (w : World) :
    Calls Tryz.prog 53 #[.string (mkS (l ++ 46 :: r)), .string ⟨#[46]⟩] w fun e w' => e = .returned (.tuple #[.string (mkS l), .string (mkS r), .bool true]) ∧ Below w.heap.size w w' := by
  have h := cutI_dot l r hl hn w
  obtain ⟨s, hs⟩ : ∃ s, s = mkS (l ++ 46 :: r) := ⟨_, rfl⟩
  rw [← hs] at h ⊢
  clear hs
  go_enter Tryz.func53, Tryz.ntmps53
  go_wp2_with fail
  refine h.mono ?_
  rintro e w1 ⟨rfl, hb⟩
  go_wp2
  go_ret3
  exact ⟨rfl, hb⟩
theorem cut_nodot (l : List UInt8) (hn : noB 46 l) (w : World) :
    Calls Tryz.prog 53 #[.string (mkS l), .string ⟨#[46]⟩] w fun e w' => e = .returned (.tuple #[.string (mkS l), .string (mkS []), .bool false]) ∧ Below w.heap.size w w' := by
  have h := cutI_nodot l hn w
  go_enter Tryz.func53, Tryz.ntmps53
  go_wp2_with fail
  refine h.mono ?_
  rintro e w1 ⟨rfl, hb⟩
  go_wp2
  go_ret3
  exact ⟨rfl, hb⟩

set_option maxRecDepth 100000 in
theorem hasP_any (t : List UInt8) (ht : t.length ≤ 200000000) (w : World) : Calls Tryz.prog 145 #[.string (mkS t), .string ⟨#[64]⟩] w fun e w' => e = .returned (.bool (decide (t.head? = some 64))) ∧ w' = w := by
  cases t with
  | nil =>
    have hsz : (mkS ([] : List UInt8)).size = 0 := rfl
    obtain ⟨s, hs⟩ : ∃ s, s = mkS ([] : List UInt8) := ⟨_, rfl⟩
    rw [← hs] at hsz ⊢
    clear hs
    have t1 : ¬ ((s.size : Int) ≥ 1) := by omega
    go_enter Tryz.func145, Tryz.ntmps145
    go_wp2_with fail
    go_ret
    exact ⟨by simp, rfl⟩
  | cons c r =>
    have hsz : (mkS (c :: r)).size = r.length + 1 := by rw [mkS_size]; rfl
    have hx : (mkS (c :: r)).extract 0 1 = mkS [c] := by rw [mkS_extract]; rfl
    have hq : (((mkS (c :: r)).extract 0 1).toList == [64]) = decide (c = 64) := by
      rw [hx, mkS_toList, Bool.eq_iff_iff]
      simp
    obtain ⟨s, hs⟩ : ∃ s, s = mkS (c :: r) := ⟨_, rfl⟩
    rw [← hs] at hsz hq ⊢
    have e : decide ((c :: r).head? = some 64) = decide (c = 64) := by simp
    rw [e]
    obtain ⟨d, hd⟩ : ∃ d, d = decide (c = 64) := ⟨_, rfl⟩
    rw [← hd] at hq ⊢
    clear hs hx hd e
    have t1 : ((s.size : Int) ≥ 1) := by omega
    have t2 : (1 : Int) ≤ (s.size : Int) := by omega
    go_enter Tryz.func145, Tryz.ntmps145
    go_wp2_with fail
    go_ret
    exact ⟨by simp, rfl⟩
set_option maxRecDepth 100000 in
theorem cutP_yes (r : List UInt8) (ht : r.length ≤ 100000000) (w : World) : Calls Tryz.prog 98 #[.string (mkS (64 :: r)), .string ⟨#[64]⟩] w fun e w' => e = .returned (.tuple #[.string (mkS r), .bool true]) ∧ w' = w := by
  have h := hasP_any (64 :: r) (by simp; omega) w
  rw [show decide ((64 :: r).head? = some 64) = true by simp] at h
  have hsz : (mkS (64 :: r)).size = r.length + 1 := by rw [mkS_size]; rfl
  have hx : mkS r = (mkS (64 :: r)).extract 1 (mkS (64 :: r)).size := by rw [mkS_extract, hsz]; congr 1; simp
  rw [hx]
  obtain ⟨s, hs⟩ : ∃ s, s = mkS (64 :: r) := ⟨_, rfl⟩
  rw [← hs] at h hsz ⊢
  clear hs hx
  have t2 : (1 : Int) ≤ (s.size : Int) := by omega
  clear hsz
  have hI : Calls Tryz.prog 120 #[.string s, .string ⟨#[64]⟩] w fun e w' => e = .returned (.tuple #[.string (s.extract 1 s.size), .bool true]) ∧ w' = w := by
    go_enter Tryz.func120, Tryz.ntmps120
    go_wp2_with fail
    refine h.mono ?_
    rintro e w1 ⟨rfl, rfl⟩
    go_wp2_with fail
    go_ret2
    exact ⟨by simp, rfl⟩
  clear h t2
  go_enter Tryz.func98, Tryz.ntmps98
  go_wp2_with fail
  refine hI.mono ?_
  rintro e w1 ⟨rfl, rfl⟩
  go_wp2_with fail
  go_ret2
  exact ⟨by simp, rfl⟩
set_option maxRecDepth 100000 in
theorem cutP_no (t : List UInt8) (ht : t.length ≤ 200000000) (hn : t.head? ≠ some 64) (w : World) : Calls Tryz.prog 98 #[.string (mkS t), .string ⟨#[64]⟩] w fun e w' => e = .returned (.tuple #[.string (mkS t), .bool false]) ∧ w' = w := by
  have h := hasP_any t ht w
  rw [show decide (t.head? = some 64) = false by simpa using hn] at h
  obtain ⟨s, hs⟩ : ∃ s, s = mkS t := ⟨_, rfl⟩
  rw [← hs] at h ⊢
  clear hs hn
  have hI : Calls Tryz.prog 120 #[.string s, .string ⟨#[64]⟩] w fun e w' => e = .returned (.tuple #[.string s, .bool false]) ∧ w' = w := by
    go_enter Tryz.func120, Tryz.ntmps120
    go_wp2_with fail
    refine h.mono ?_
    rintro e w1 ⟨rfl, rfl⟩
    go_wp2_with fail
    go_ret2
    exact ⟨by simp, rfl⟩
  clear h
  go_enter Tryz.func98, Tryz.ntmps98
  go_wp2_with fail
  refine hI.mono ?_
  rintro e w1 ⟨rfl, rfl⟩
  go_wp2_with fail
  go_ret2
  exact ⟨by simp, rfl⟩
end Go.Proofs.YtmmaniolaljjlaaGreatDoor
/- A handle that is read, by the program. -/
namespace Go.Proofs.YtmmaniolaljjlaaGreatDoor
open Go.RowKit Go.Shelf
set_option linter.unusedVariables false

def HdQ (t : List UInt8) (ok : Bool) (hnd : Nat) (set : Bool) (rt ri : Int) : Prop := (ok = true → isU hnd ∧ isI rt ∧ isI ri ∧ rhB hnd set rt ri = true ∧ t = hText hnd set rt ri) ∧
  (∀ h s a b, isU h → isI a → isI b → rhB h s a b = true → t = hText h s a b → ok = true ∧ hnd = h ∧ set = s ∧ rt = a ∧ ri = b)
theorem dec_head (u : Nat) : (Lib.decDigits u).head? ≠ some 64 := by
  intro h
  have hm : (64 : UInt8) ∈ Lib.decDigits u := List.mem_of_mem_head? (by rw [h]; rfl)
  have := dec_digit u 64 hm
  revert this; decide
theorem hText_head {h : Nat} {s : Bool} {a b : Int} : (hText h s a b).head? = some 64 ↔ s = true := by
  cases s with
  | false => simp only [hText]; constructor
             · intro e; exact absurd e (dec_head h)
             · intro e; simp at e
  | true => simp [hText]
theorem hd_nat {t : List UInt8} {u : Nat} (h : natP t = some u) : HdQ t true u false 0 0 := by
  obtain ⟨e, hu⟩ := natP_some h
  refine ⟨fun _ => ⟨hu, ⟨by omega, by omega⟩, ⟨by omega, by omega⟩, rfl, e⟩, fun h' s a b hh ha hb hr he => ?_⟩
  cases s with
  | true =>
    exfalso
    have := (hText_head (h := h') (s := true) (a := a) (b := b)).2 rfl
    rw [← he, e] at this
    exact dec_head u this
  | false =>
    have e2 : t = Lib.decDigits h' := he
    rw [e2, natP_dec h' hh] at h
    simp only [Option.some.injEq] at h
    simp [rhB] at hr
    exact ⟨rfl, h.symm, rfl, hr.1.symm, hr.2.symm⟩
theorem hd_nonat {t : List UInt8} (h : natP t = none) (hn : t.head? ≠ some 64) (x : Nat) : HdQ t false x false 0 0 := by
  refine ⟨fun e => by simp at e, fun h' s a b hh ha hb hr he => ?_⟩
  exfalso
  cases s with
  | true =>
    have := (hText_head (h := h') (s := true) (a := a) (b := b)).2 rfl
    rw [← he] at this
    exact hn this
  | false =>
    have e2 : t = Lib.decDigits h' := he
    rw [e2, natP_dec h' hh] at h
    simp at h
theorem itoa_ne (v : Int) : Lib.itoa v ≠ [] := by
  by_cases h : v < 0
  · obtain ⟨u, rfl, hu⟩ : ∃ u : Nat, v = -(u : Int) ∧ 1 ≤ u := ⟨(-v).toNat, by omega, by omega⟩
    rw [Lib.itoa_neg u hu]; simp
  · obtain ⟨u, rfl⟩ : ∃ u : Nat, v = (u : Int) := ⟨v.toNat, by omega⟩
    rw [Lib.itoa_nonneg]; exact dec_ne u
theorem intP_nil : intP [] = none := by
  cases h : intP [] with
  | none => rfl
  | some v =>
    have e := (intP_some h).1
    have := itoa_ne v
    exact absurd e.symm this
def CutP (r l q : List UInt8) : Prop := (r = l ++ 46 :: q ∧ noB 46 l) ∨ (noB 46 r ∧ l = r ∧ q = [])
theorem noB_first (b : UInt8) : ∀ (r : List UInt8), (∃ l q, r = l ++ b :: q ∧ noB b l) ∨ noB b r
  | [] => .inr (noB_nil b)
  | c :: r => by
    by_cases h : c = b
    · exact .inl ⟨[], r, by rw [h]; rfl, noB_nil b⟩
    · rcases noB_first b r with ⟨l, q, e, hl⟩ | hr
      · exact .inl ⟨c :: l, q, by rw [e]; rfl, hl.cons h⟩
      · exact .inr (hr.cons h)
theorem cutDot_any (r : List UInt8) (hr : r.length ≤ 100000000) (w : World) : Calls Tryz.prog 53 #[.string (mkS r), .string ⟨#[46]⟩] w fun e w' => ∃ l q b, e = .returned (.tuple #[.string (mkS l), .string (mkS q), .bool b]) ∧ CutP r l q ∧ Below w.heap.size w w' := by
  rcases noB_first 46 r with ⟨l, q, rfl, hl⟩ | hn
  · refine (cut_dot l q (by simp at hr; omega) hl w).mono ?_
    rintro e w' ⟨rfl, hb⟩
    exact ⟨l, q, true, rfl, .inl ⟨rfl, hl⟩, hb⟩
  · refine (cut_nodot r hn w).mono ?_
    rintro e w' ⟨rfl, hb⟩
    exact ⟨r, [], false, rfl, .inr ⟨hn, rfl, rfl⟩, hb⟩
theorem itoa_dot (n : Int) : noB 46 (Lib.itoa n) := by
  intro x hx e
  subst e
  have := itoa_byte n 46 hx
  revert this; decide
theorem hd_ref {r l q : List UInt8} {a b : Int} (hc : CutP r l q) (h : [l, q].mapM intP = some [a, b]) : HdQ (64 :: r) (rhB 0 true a b) 0 true a b ∧ isI a ∧ isI b := by
  simp only [List.mapM_cons, List.mapM_nil, Option.bind_eq_bind, Option.bind_eq_some_iff, Option.pure_def, Option.some.injEq] at h
  obtain ⟨a', h1, r', ⟨b', h2, r'', hr'', rfl⟩, hh⟩ := h
  subst hr''
  simp only [List.cons.injEq, and_true] at hh
  obtain ⟨rfl, rfl⟩ := hh
  obtain ⟨e1, r1, r2⟩ := intP_some h1
  obtain ⟨e2, r3, r4⟩ := intP_some h2
  rcases hc with ⟨rfl, hl⟩ | ⟨_, rfl, rfl⟩
  · refine ⟨⟨fun ho => ⟨by unfold isU; omega, ⟨r1, r2⟩, ⟨r3, r4⟩, ho, ?_⟩, fun h' s c d hh hc hd hr he => ?_⟩, ⟨r1, r2⟩, ⟨r3, r4⟩⟩
    · rw [e1, e2]; simp [hText]
    · have hs : s = true := hText_head.1 (by rw [← he]; rfl)
      subst hs
      have e3 : l ++ 46 :: q = Lib.itoa c ++ 46 :: Lib.itoa d := by simpa [hText] using he
      obtain ⟨e4, e5⟩ := noB_cutG hl (itoa_dot c) e3
      rw [e4, intP_itoa c hc.1 hc.2] at h1
      rw [e5, intP_itoa d hd.1 hd.2] at h2
      simp only [Option.some.injEq] at h1 h2
      subst h1 h2
      have h0 : h' = 0 := by simp [rhB] at hr; exact hr.1
      subst h0
      exact ⟨hr, rfl, rfl, rfl, rfl⟩
  · rw [intP_nil] at h2
    simp at h2
theorem hd_noref {r l q : List UInt8} (hc : CutP r l q) (h : [l, q].mapM intP = none) : HdQ (64 :: r) false 0 false 0 0 := by
  refine ⟨fun e => by simp at e, fun h' s c d hh hc' hd hr he => ?_⟩
  exfalso
  have hs : s = true := hText_head.1 (by rw [← he]; rfl)
  subst hs
  have e3 : r = Lib.itoa c ++ 46 :: Lib.itoa d := by simpa [hText] using he
  rcases hc with ⟨rfl, hl⟩ | ⟨hn, _, _⟩
  · obtain ⟨e4, e5⟩ := noB_cutG hl (itoa_dot c) e3
    rw [e4, e5] at h
    simp [intP_itoa c hc'.1 hc'.2, intP_itoa d hd.1 hd.2] at h
  · exact hn 46 (by rw [e3]; simp) rfl
def RdQ (W : World) (P k : Nat) (t : List UInt8) (e : Ending) (W' : World) : Prop := ∃ ok hnd set rt ri, e = .returned (.bool ok) ∧ W'.heap[P]? = some (.cells (opR k 0 0 0 hnd set rt ri (.slice none 0 0) 0 0) 28 (0, 0)) ∧ HdQ t ok hnd set rt ri ∧ Chg (fun b => b = P) W W'
theorem chg_of_below {W X : World} {P : Nat} (h : Below W.heap.size W X) : Chg (fun b => b = P) W X := ⟨h.os, h.tape, h.output, h.size, fun k hk _ => h.block k hk⟩
theorem chg_setP {W X : World} {P : Nat} (h : Chg (fun b => b = P) W X) (i : Nat) (v : Value) : Chg (fun b => b = P) W (X.setCell ⟨P, i, none⟩ v) := h.setCell (fun _ => rfl) v

set_option maxRecDepth 100000 in
set_option maxHeartbeats 4000000 in
theorem readH_nat (P k : Nat) (t : List UInt8) (ht : t.length ≤ 100000000) (hn : t.head? ≠ some 64) (W : World) (T : Tb W) (hX : W.heap[P]? = some (.cells (opR k 0 0 0 0 false 0 0 (.slice none 0 0) 0 0) 28 (0, 0))) :
    Calls Tryz.prog 76 #[.pointer (some ⟨P, 0, none⟩), .string (mkS t)] W (RdQ W P k t) := by
  have h1 := cutP_no t (by omega) hn W
  have h2 := natural_any t (by omega) W T
  have HN := keepH hn
  have HX := keepH hX
  obtain ⟨s, hs⟩ : ∃ s, s = mkS t := ⟨_, rfl⟩
  rw [← hs] at h1 h2 ⊢
  have H2 := keepH h2
  clear hs hn hX T h2
  go_enter Tryz.func76, Tryz.ntmps76
  go_wp2_with fail
  refine h1.mono ?_
  rintro e w1 ⟨rfl, hw1⟩
  rw [hw1]
  clear hw1 h1
  go_wp2_with fail
  refine H2.out.mono ?_
  rintro e w2 ⟨v, rfl, hv, B2⟩
  have X2 := heap_below HX.out B2
  have HX2 := keepH X2
  have HB2 := keepH B2
  have p4 : w2.cell? ⟨P, 4, none⟩ = _ := cell_of X2 4
  have q4 : w2.frozen? ⟨P, 4, none⟩ = false := free_of X2 4
  clear B2 X2
  rcases hv with ⟨u, hu, rfl⟩ | ⟨hu, u, rfl⟩
  · have HU := keepH hu
    clear hu
    go_wp2_with fail
    go_ret
    exact ⟨true, u, false, 0, 0, by simp, set_of HX2.out 4 (.int .u64 (u : Int)), hd_nat HU.out, chg_setP (chg_of_below HB2.out) 4 _⟩
  · have HU := keepH hu
    clear hu
    go_wp2_with fail
    go_ret
    exact ⟨false, u, false, 0, 0, by simp, set_of HX2.out 4 (.int .u64 (u : Int)), hd_nonat HU.out HN.out u, chg_setP (chg_of_below HB2.out) 4 _⟩
theorem two_ints {W X : World} {v : Value} {us : List Int} (h : StZ W us v X) (hl : us.length = 2) : ∃ a b g c, us = [a, b] ∧ v = .slice (some ⟨g, 0, none⟩) 2 c ∧ X.cell? ⟨g, 0, none⟩ = some (.int .i64 a) ∧ X.cell? ⟨g, 1, none⟩ = some (.int .i64 b) ∧ W.heap.size ≤ g := by
  match us, hl with
  | [a, b], _ =>
    have hc := fun g (hg : v.ownBlock = some g) => h.row.cells (g := g) hg
    rcases h.row.2 with ⟨hv, h0⟩ | ⟨g, cap, cur, hv, _⟩
    · simp at h0
    · have c0 := hc g (by rw [hv]; rfl) 0 (.int .i64 a) rfl
      have c1 := hc g (by rw [hv]; rfl) 1 (.int .i64 b) rfl
      rw [Addr.add_mid] at c0 c1
      exact ⟨a, b, g, cap, rfl, hv, by simpa using c0, by simpa using c1, h.new g (by rw [hv]; rfl)⟩

set_option maxRecDepth 100000 in
set_option maxHeartbeats 8000000 in
theorem readH_ref (P k : Nat) (r : List UInt8) (ht : r.length ≤ 10000000) (W : World) (T : Tb W) (hX : W.heap[P]? = some (.cells (opR k 0 0 0 0 false 0 0 (.slice none 0 0) 0 0) 28 (0, 0))) :
    Calls Tryz.prog 76 #[.pointer (some ⟨P, 0, none⟩), .string (mkS (64 :: r))] W (RdQ W P k (64 :: r)) := by
  have h1 := cutP_yes r (by omega) W
  have h2 := cutDot_any r (by omega) W
  have HX := keepH hX
  have HNU := keepH (fun p c fs (hl : fs.length ≤ 200000000) (hf : ∀ f ∈ fs, f.length ≤ 200000000) w (hb : Below W.heap.size W w) (hr : SRd w p fs) => nums_z p c fs hl hf w (T.on hb) hr)
  have HRH := keepH (fun a b (ha : isI a) (hb : isI b) w => rh_any k 0 0 0 0 true a b (.slice none 0 0) 0 0 ha hb w)
  obtain ⟨s, hs⟩ : ∃ s, s = mkS (64 :: r) := ⟨_, rfl⟩
  obtain ⟨sr, hsr⟩ : ∃ s, s = mkS r := ⟨_, rfl⟩
  rw [← hs, ← hsr] at h1
  rw [← hsr] at h2
  rw [← hs]
  have H2 := keepH h2
  clear hs hsr hX T h2
  go_enter Tryz.func76, Tryz.ntmps76
  go_wp2_with fail
  refine h1.mono ?_
  rintro e w1 ⟨rfl, hw1⟩
  rw [hw1]
  clear hw1 h1
  go_wp2_with fail
  refine H2.out.mono ?_
  rintro e w2 ⟨l, q, bb, rfl, hc, B2⟩
  have hll : l.length ≤ 10000000 ∧ q.length ≤ 10000000 := by
    rcases hc with ⟨rfl, _⟩ | ⟨_, rfl, rfl⟩
    · simp at ht; omega
    · exact ⟨ht, by simp⟩
  obtain ⟨w3, hw3⟩ : ∃ w3, w3 = w2.alloc (.cells #[.string (mkS l), .string (mkS q)] 9) := ⟨_, rfl⟩
  have B3 : Below w2.heap.size w2 w3 := by rw [hw3]; exact below_alloc _ _
  have X3 : w3.heap[w2.heap.size]? = some (.cells #[.string (mkS l), .string (mkS q)] 9 (0, 0)) := by rw [hw3]; exact heap_alloc_new _ _
  have hsr : SRd w3 (some ⟨w2.heap.size, 0, none⟩) [l, q] := .inr ⟨_, 0, rfl, (Array.getElem?_eq_some_iff.1 X3).1, fun i f hf => by
    rw [cell_of X3 (0 + i)]
    match i, hf with
    | 0, hf => simp at hf; subst hf; rfl
    | 1, hf => simp at hf; subst hf; rfl
    | i + 2, hf => simp at hf⟩
  have HQ := keepH (HNU.out (some ⟨w2.heap.size, 0, none⟩) 2 [l, q] (by simp) (fun f hf => by simp at hf; rcases hf with rfl | rfl <;> omega) w3 (below_chain B2 B3) hsr)
  have HC := keepH hc
  have HX3 := keepH (heap_below (heap_below HX.out B2) B3)
  have HB3 := keepH (below_chain B2 B3)
  obtain ⟨sl, hsl⟩ : ∃ s, s = mkS l := ⟨_, rfl⟩
  obtain ⟨sq, hsq⟩ : ∃ s, s = mkS q := ⟨_, rfl⟩
  rw [← hsl, ← hsq] at hw3 ⊢
  have HW3 := keepH hw3
  clear hc B2 B3 X3 hsr hw3 hsl hsq hll
  go_wp2_with fail
  rw [← HW3.out]
  refine HQ.out.mono ?_
  rintro e w4 (⟨us, v, hm, rfl, hst⟩ | ⟨hm, rfl, B4⟩)
  · obtain ⟨a, b, g, c, rfl, rfl, c0, c1, hg⟩ := two_ints hst ((mapM_z_len hm).trans rfl)
    obtain ⟨hd, ia, ib⟩ := hd_ref HC.out hm
    have HD := keepH hd
    have HIA := keepH ia
    have HIB := keepH ib
    have HX4 := keepH (heap_below HX3.out hst.bel)
    have HB4 := keepH (below_chain HB3.out hst.bel)
    have p5 : w4.cell? ⟨P, 5, none⟩ = _ := cell_of HX4.out 5
    have p6 : w4.cell? ⟨P, 6, none⟩ = _ := cell_of HX4.out 6
    have p7 : w4.cell? ⟨P, 7, none⟩ = _ := cell_of HX4.out 7
    have q5 : w4.frozen? ⟨P, 5, none⟩ = false := free_of HX4.out 5
    have q6 : w4.frozen? ⟨P, 6, none⟩ = false := free_of HX4.out 6
    have q7 : w4.frozen? ⟨P, 7, none⟩ = false := free_of HX4.out 7
    have hne : P ≠ g := by
      have := (Array.getElem?_eq_some_iff.1 HX3.out).1
      omega
    clear hd ia ib hm hst hg
    go_wp2_with fail
    go_region
    obtain ⟨w6, hw6⟩ : ∃ w6, w6 = (((w4.setCell ⟨P, 5, none⟩ (.bool true)).setCell ⟨P, 6, none⟩ (.int .i64 a)).setCell ⟨P, 7, none⟩ (.int .i64 b)).drew := ⟨_, rfl⟩
    have HX6 : Hid (w6.heap[P]? = some (.cells (opR k 0 0 0 0 true a b (.slice none 0 0) 0 0) 28 (0, 0))) := keepH (by rw [hw6]; exact set_of (set_of (set_of HX4.out 5 (.bool true)) 6 (.int .i64 a)) 7 (.int .i64 b))
    have HC6 : Hid (Chg (fun x => x = P) W w6) := keepH (by rw [hw6]; exact (chg_setP (chg_setP (chg_setP (chg_of_below HB4.out) 5 _) 6 _) 7 _).drew)
    go_upto_region 11 with fail
    rw [← hw6]
    clear hw6 p5 p6 p7 q5 q6 q7 c0 c1
    have d0 : w6.cell? ⟨P, 0, none⟩ = _ := cell_of HX6.out 0
    have d1 : w6.cell? ⟨P, 1, none⟩ = _ := cell_of HX6.out 1
    have d2 : w6.cell? ⟨P, 2, none⟩ = _ := cell_of HX6.out 2
    have d3 : w6.cell? ⟨P, 3, none⟩ = _ := cell_of HX6.out 3
    have d4 : w6.cell? ⟨P, 4, none⟩ = _ := cell_of HX6.out 4
    have d5 : w6.cell? ⟨P, 5, none⟩ = _ := cell_of HX6.out 5
    have d6 : w6.cell? ⟨P, 6, none⟩ = _ := cell_of HX6.out 6
    have d7 : w6.cell? ⟨P, 7, none⟩ = _ := cell_of HX6.out 7
    have d8 : w6.cell? ⟨P, 8, none⟩ = _ := cell_of HX6.out 8
    have d9 : w6.cell? ⟨P, 9, none⟩ = _ := cell_of HX6.out 9
    have d10 : w6.cell? ⟨P, 10, none⟩ = _ := cell_of HX6.out 10
    go_wp2_with fail
    refine (HRH.out a b HIA.out HIB.out w6).mono ?_
    rintro e w7 ⟨rfl, B7⟩
    have HX7 := keepH (heap_below HX6.out B7)
    have HC7 := keepH (HC6.out.trans (chg_of_below (P := P) B7) (fun _ _ x => x) (fun _ _ x => x))
    clear B7 d0 d1 d2 d3 d4 d5 d6 d7 d8 d9 d10
    go_wp2_with fail
    go_ret
    exact ⟨_, 0, true, a, b, by simp, HX7.out, HD.out, HC7.out⟩
  · have HD := keepH (hd_noref HC.out hm)
    have HX4 := keepH (heap_below HX3.out B4)
    have HB4 := keepH (below_chain HB3.out B4)
    clear hm B4
    go_wp2_with fail
    go_ret
    exact ⟨false, 0, false, 0, 0, by simp, HX4.out, HD.out, chg_of_below HB4.out⟩
theorem readH_any (P k : Nat) (t : List UInt8) (ht : t.length ≤ 10000000) (W : World) (T : Tb W) (hX : W.heap[P]? = some (.cells (opR k 0 0 0 0 false 0 0 (.slice none 0 0) 0 0) 28 (0, 0))) :
    Calls Tryz.prog 76 #[.pointer (some ⟨P, 0, none⟩), .string (mkS t)] W (RdQ W P k t) := by
  by_cases hn : t.head? = some 64
  · match t, hn with
    | c :: r, hn =>
      simp at hn
      subst hn
      exact readH_ref P k r (by simp at ht; omega) W T hX
  · exact readH_nat P k t (by omega) hn W T hX
end Go.Proofs.YtmmaniolaljjlaaGreatDoor
