/- The kind with a word, by the program. (mkScj.py) -/
import Derived.Test.YtmmaniolaljjlaaGreatDoorSci
namespace Go.Proofs.YtmmaniolaljjlaaGreatDoor
open Go.RowKit Go.Shelf
set_option linter.unusedVariables false

theorem beq_mkS2 (a b : List UInt8) : ((mkS a).toList == (mkS b).toList) = decide (a = b) := by
  rw [mkS_toList, mkS_toList, Bool.eq_iff_iff]
  simp
theorem opW_inj : ∀ (j k : Nat), hasK j = true → hasK k = true → opW j = opW k → j = k := by
  intro j k hj hk e
  simp [hasK] at hj hk
  have h1 : j = 1 ∨ j = 2 ∨ j = 3 ∨ j = 4 ∨ j = 5 ∨ j = 6 ∨ j = 7 ∨ j = 8 ∨ j = 9 ∨ j = 10 := by omega
  have h2 : k = 1 ∨ k = 2 ∨ k = 3 ∨ k = 4 ∨ k = 5 ∨ k = 6 ∨ k = 7 ∨ k = 8 ∨ k = 9 ∨ k = 10 := by omega
  rcases h1 with rfl | rfl | rfl | rfl | rfl | rfl | rfl | rfl | rfl | rfl <;> rcases h2 with rfl | rfl | rfl | rfl | rfl | rfl | rfl | rfl | rfl | rfl <;> first | rfl | (exfalso; revert e; decide)
theorem wpList_index_run {P : Program} {ops : Array Oper} {rest : List Oper} {o : Oper} {a : Act} {w : World} {Q : Exit → Act → World → Prop} (hgd : o.guard = none) (t : TypeId) (x y : Operand) (ho : o.op = .index t x y) (v : Value)
    (hr : (Instr.index t (a.eval x) (a.eval y)).run P w = .ok v w) (h : wpList P ops Q rest (a.put o.dst v) w) : wpList P ops Q (o :: rest) a w := by
  refine wpList_plain hgd fun K hK => ?_
  unfold Oper.wp execOp
  simp only [ho, Sem.run_bind, hr, Result.andThen_ok, Sem.run_pure]
  exact hK _ _ h
def KindQ (t : List UInt8) (e : Ending) : Prop := (∃ k, hasK k = true ∧ t = opW k ∧ e = .returned (.tuple #[.int .u8 (k : Int), .bool true])) ∨ ((∀ k, hasK k = true → t ≠ opW k) ∧ e = .returned (.tuple #[.int .u8 0, .bool false]))
set_option maxRecDepth 100000 in
set_option maxHeartbeats 4000000 in
theorem kindOf_any (t : List UInt8) (W : World) (hW : Wd W) : Calls Tryz.prog 75 #[.string (mkS t)] W fun e W' => KindQ t e ∧ W' = W := by
  have c0 := hW.cell 0 (by omega)
  have e0 := beq_mkS2 (opW 0) t
  obtain ⟨s0, h0⟩ : ∃ s, s = mkS (opW 0) := ⟨_, rfl⟩
  rw [← h0] at c0 e0
  have z0 : s0.toList.isEmpty = true := by rw [h0, mkS_toList]; rfl
  have c1 := hW.cell 1 (by omega)
  have e1 := beq_mkS2 (opW 1) t
  obtain ⟨s1, h1⟩ : ∃ s, s = mkS (opW 1) := ⟨_, rfl⟩
  rw [← h1] at c1 e1
  have z1 : s1.toList.isEmpty = false := by rw [h1, mkS_toList]; rfl
  have c2 := hW.cell 2 (by omega)
  have e2 := beq_mkS2 (opW 2) t
  obtain ⟨s2, h2⟩ : ∃ s, s = mkS (opW 2) := ⟨_, rfl⟩
  rw [← h2] at c2 e2
  have z2 : s2.toList.isEmpty = false := by rw [h2, mkS_toList]; rfl
  have c3 := hW.cell 3 (by omega)
  have e3 := beq_mkS2 (opW 3) t
  obtain ⟨s3, h3⟩ : ∃ s, s = mkS (opW 3) := ⟨_, rfl⟩
  rw [← h3] at c3 e3
  have z3 : s3.toList.isEmpty = false := by rw [h3, mkS_toList]; rfl
  have c4 := hW.cell 4 (by omega)
  have e4 := beq_mkS2 (opW 4) t
  obtain ⟨s4, h4⟩ : ∃ s, s = mkS (opW 4) := ⟨_, rfl⟩
  rw [← h4] at c4 e4
  have z4 : s4.toList.isEmpty = false := by rw [h4, mkS_toList]; rfl
  have c5 := hW.cell 5 (by omega)
  have e5 := beq_mkS2 (opW 5) t
  obtain ⟨s5, h5⟩ : ∃ s, s = mkS (opW 5) := ⟨_, rfl⟩
  rw [← h5] at c5 e5
  have z5 : s5.toList.isEmpty = false := by rw [h5, mkS_toList]; rfl
  have c6 := hW.cell 6 (by omega)
  have e6 := beq_mkS2 (opW 6) t
  obtain ⟨s6, h6⟩ : ∃ s, s = mkS (opW 6) := ⟨_, rfl⟩
  rw [← h6] at c6 e6
  have z6 : s6.toList.isEmpty = false := by rw [h6, mkS_toList]; rfl
  have c7 := hW.cell 7 (by omega)
  have e7 := beq_mkS2 (opW 7) t
  obtain ⟨s7, h7⟩ : ∃ s, s = mkS (opW 7) := ⟨_, rfl⟩
  rw [← h7] at c7 e7
  have z7 : s7.toList.isEmpty = false := by rw [h7, mkS_toList]; rfl
  have c8 := hW.cell 8 (by omega)
  have e8 := beq_mkS2 (opW 8) t
  obtain ⟨s8, h8⟩ : ∃ s, s = mkS (opW 8) := ⟨_, rfl⟩
  rw [← h8] at c8 e8
  have z8 : s8.toList.isEmpty = false := by rw [h8, mkS_toList]; rfl
  have c9 := hW.cell 9 (by omega)
  have e9 := beq_mkS2 (opW 9) t
  obtain ⟨s9, h9⟩ : ∃ s, s = mkS (opW 9) := ⟨_, rfl⟩
  rw [← h9] at c9 e9
  have z9 : s9.toList.isEmpty = false := by rw [h9, mkS_toList]; rfl
  have c10 := hW.cell 10 (by omega)
  have e10 := beq_mkS2 (opW 10) t
  obtain ⟨s10, h10⟩ : ∃ s, s = mkS (opW 10) := ⟨_, rfl⟩
  rw [← h10] at c10 e10
  have z10 : s10.toList.isEmpty = false := by rw [h10, mkS_toList]; rfl
  obtain ⟨s, hs⟩ : ∃ s, s = mkS t := ⟨_, rfl⟩
  rw [← hs]
  rw [← hs] at e0
  obtain ⟨d0, g0⟩ : ∃ d, d = decide (opW 0 = t) := ⟨_, rfl⟩
  rw [← g0] at e0
  have G0 := keepH g0
  rw [← hs] at e1
  obtain ⟨d1, g1⟩ : ∃ d, d = decide (opW 1 = t) := ⟨_, rfl⟩
  rw [← g1] at e1
  have G1 := keepH g1
  rw [← hs] at e2
  obtain ⟨d2, g2⟩ : ∃ d, d = decide (opW 2 = t) := ⟨_, rfl⟩
  rw [← g2] at e2
  have G2 := keepH g2
  rw [← hs] at e3
  obtain ⟨d3, g3⟩ : ∃ d, d = decide (opW 3 = t) := ⟨_, rfl⟩
  rw [← g3] at e3
  have G3 := keepH g3
  rw [← hs] at e4
  obtain ⟨d4, g4⟩ : ∃ d, d = decide (opW 4 = t) := ⟨_, rfl⟩
  rw [← g4] at e4
  have G4 := keepH g4
  rw [← hs] at e5
  obtain ⟨d5, g5⟩ : ∃ d, d = decide (opW 5 = t) := ⟨_, rfl⟩
  rw [← g5] at e5
  have G5 := keepH g5
  rw [← hs] at e6
  obtain ⟨d6, g6⟩ : ∃ d, d = decide (opW 6 = t) := ⟨_, rfl⟩
  rw [← g6] at e6
  have G6 := keepH g6
  rw [← hs] at e7
  obtain ⟨d7, g7⟩ : ∃ d, d = decide (opW 7 = t) := ⟨_, rfl⟩
  rw [← g7] at e7
  have G7 := keepH g7
  rw [← hs] at e8
  obtain ⟨d8, g8⟩ : ∃ d, d = decide (opW 8 = t) := ⟨_, rfl⟩
  rw [← g8] at e8
  have G8 := keepH g8
  rw [← hs] at e9
  obtain ⟨d9, g9⟩ : ∃ d, d = decide (opW 9 = t) := ⟨_, rfl⟩
  rw [← g9] at e9
  have G9 := keepH g9
  rw [← hs] at e10
  obtain ⟨d10, g10⟩ : ∃ d, d = decide (opW 10 = t) := ⟨_, rfl⟩
  rw [← g10] at e10
  have G10 := keepH g10
  clear h0 g0 h1 g1 h2 g2 h3 g3 h4 g4 h5 g5 h6 g6 h7 g7 h8 g8 h9 g9 h10 g10 hs hW
  go_enter Tryz.func75, Tryz.ntmps75
  go_wp2_with fail
  clear c0 c1 c2 c3 c4 c5 c6 c7 c8 c9 c10
  go_loopw [7] (fun s wr => ∃ i : Nat, i ≤ 11 ∧ s = .int .i64 (i : Int) ∧ Hid (wr = W ∧ ∀ j, 1 ≤ j → j < i → t ≠ opW j)) (fun s _ => 11 - (intOf s).toNat)
  case atStart => exact ⟨0, by omega, rfl, keepH ⟨rfl, fun j _ h => by omega⟩⟩
  case round =>
    obtain ⟨i, hi, rfl, HK⟩ := hrel
    have hc : i = 0 ∨ i = 1 ∨ i = 2 ∨ i = 3 ∨ i = 4 ∨ i = 5 ∨ i = 6 ∨ i = 7 ∨ i = 8 ∨ i = 9 ∨ i = 10 ∨ i = 11 := by omega
    rcases hc with rfl | rfl | rfl | rfl | rfl | rfl | rfl | rfl | rfl | rfl | rfl | rfl
    · have hx : ∀ w, (Instr.index 119 (.agg #[.string s0, .string s1, .string s2, .string s3, .string s4, .string s5, .string s6, .string s7, .string s8, .string s9, .string s10]) (.int .i64 ((0 : Nat) : Int))).run Tryz.prog w = .ok (.string s0) w := fun w => by kernel_rfl
      clear e1 z1 e2 z2 e3 z3 e4 z4 e5 z5 e6 z6 e7 z7 e8 z8 e9 z9 e10 z10
      cases d0 with
      | false =>
        have HN : Hid (wr = W ∧ ∀ j, 1 ≤ j → j < 1 → t ≠ opW j) := keepH ⟨HK.out.1, fun j h1 h2 e => by
          have hg := G0.out
          by_cases q : j = 0
          · subst q; rw [e] at hg; simp at hg
          · exact HK.out.2 j h1 (by omega) e⟩
        go_wp2_with (first | (refine wpList_index_run rfl 119 _ _ rfl (.string s0) (hx _) ?_) | fail)
        go_roundw
        case rel => exact ⟨1, by omega, by first | rfl | go_num, HN⟩
        case measure => simp [intOf]
      | true =>
        have HN : Hid (wr = W ∧ ∀ j, 1 ≤ j → j < 1 → t ≠ opW j) := keepH ⟨HK.out.1, fun j h1 h2 e => by omega⟩
        go_wp2_with (first | (refine wpList_index_run rfl 119 _ _ rfl (.string s0) (hx _) ?_) | fail)
        go_roundw
        case rel => exact ⟨1, by omega, by first | rfl | go_num, HN⟩
        case measure => simp [intOf]
    · have hx : ∀ w, (Instr.index 119 (.agg #[.string s0, .string s1, .string s2, .string s3, .string s4, .string s5, .string s6, .string s7, .string s8, .string s9, .string s10]) (.int .i64 ((1 : Nat) : Int))).run Tryz.prog w = .ok (.string s1) w := fun w => by kernel_rfl
      clear e0 z0 e2 z2 e3 z3 e4 z4 e5 z5 e6 z6 e7 z7 e8 z8 e9 z9 e10 z10
      cases d1 with
      | false =>
        have HN : Hid (wr = W ∧ ∀ j, 1 ≤ j → j < 2 → t ≠ opW j) := keepH ⟨HK.out.1, fun j h1 h2 e => by
          have hg := G1.out
          by_cases q : j = 1
          · subst q; rw [e] at hg; simp at hg
          · exact HK.out.2 j h1 (by omega) e⟩
        go_wp2_with (first | (refine wpList_index_run rfl 119 _ _ rfl (.string s1) (hx _) ?_) | fail)
        go_roundw
        case rel => exact ⟨2, by omega, by first | rfl | go_num, HN⟩
        case measure => simp [intOf]
      | true =>
        go_wp2_with (first | (refine wpList_index_run rfl 119 _ _ rfl (.string s1) (hx _) ?_) | fail)
        go_ret2
        refine ⟨.inl ⟨1, rfl, ?_, by simp⟩, HK.out.1⟩
        have := G1.out
        simp at this
        exact this.symm
    · have hx : ∀ w, (Instr.index 119 (.agg #[.string s0, .string s1, .string s2, .string s3, .string s4, .string s5, .string s6, .string s7, .string s8, .string s9, .string s10]) (.int .i64 ((2 : Nat) : Int))).run Tryz.prog w = .ok (.string s2) w := fun w => by kernel_rfl
      clear e0 z0 e1 z1 e3 z3 e4 z4 e5 z5 e6 z6 e7 z7 e8 z8 e9 z9 e10 z10
      cases d2 with
      | false =>
        have HN : Hid (wr = W ∧ ∀ j, 1 ≤ j → j < 3 → t ≠ opW j) := keepH ⟨HK.out.1, fun j h1 h2 e => by
          have hg := G2.out
          by_cases q : j = 2
          · subst q; rw [e] at hg; simp at hg
          · exact HK.out.2 j h1 (by omega) e⟩
        go_wp2_with (first | (refine wpList_index_run rfl 119 _ _ rfl (.string s2) (hx _) ?_) | fail)
        go_roundw
        case rel => exact ⟨3, by omega, by first | rfl | go_num, HN⟩
        case measure => simp [intOf]
      | true =>
        go_wp2_with (first | (refine wpList_index_run rfl 119 _ _ rfl (.string s2) (hx _) ?_) | fail)
        go_ret2
        refine ⟨.inl ⟨2, rfl, ?_, by simp⟩, HK.out.1⟩
        have := G2.out
        simp at this
        exact this.symm
    · have hx : ∀ w, (Instr.index 119 (.agg #[.string s0, .string s1, .string s2, .string s3, .string s4, .string s5, .string s6, .string s7, .string s8, .string s9, .string s10]) (.int .i64 ((3 : Nat) : Int))).run Tryz.prog w = .ok (.string s3) w := fun w => by kernel_rfl
      clear e0 z0 e1 z1 e2 z2 e4 z4 e5 z5 e6 z6 e7 z7 e8 z8 e9 z9 e10 z10
      cases d3 with
      | false =>
        have HN : Hid (wr = W ∧ ∀ j, 1 ≤ j → j < 4 → t ≠ opW j) := keepH ⟨HK.out.1, fun j h1 h2 e => by
          have hg := G3.out
          by_cases q : j = 3
          · subst q; rw [e] at hg; simp at hg
          · exact HK.out.2 j h1 (by omega) e⟩
        go_wp2_with (first | (refine wpList_index_run rfl 119 _ _ rfl (.string s3) (hx _) ?_) | fail)
        go_roundw
        case rel => exact ⟨4, by omega, by first | rfl | go_num, HN⟩
        case measure => simp [intOf]
      | true =>
        go_wp2_with (first | (refine wpList_index_run rfl 119 _ _ rfl (.string s3) (hx _) ?_) | fail)
        go_ret2
        refine ⟨.inl ⟨3, rfl, ?_, by simp⟩, HK.out.1⟩
        have := G3.out
        simp at this
        exact this.symm
    · have hx : ∀ w, (Instr.index 119 (.agg #[.string s0, .string s1, .string s2, .string s3, .string s4, .string s5, .string s6, .string s7, .string s8, .string s9, .string s10]) (.int .i64 ((4 : Nat) : Int))).run Tryz.prog w = .ok (.string s4) w := fun w => by kernel_rfl
      clear e0 z0 e1 z1 e2 z2 e3 z3 e5 z5 e6 z6 e7 z7 e8 z8 e9 z9 e10 z10
      cases d4 with
      | false =>
        have HN : Hid (wr = W ∧ ∀ j, 1 ≤ j → j < 5 → t ≠ opW j) := keepH ⟨HK.out.1, fun j h1 h2 e => by
          have hg := G4.out
          by_cases q : j = 4
          · subst q; rw [e] at hg; simp at hg
          · exact HK.out.2 j h1 (by omega) e⟩
        go_wp2_with (first | (refine wpList_index_run rfl 119 _ _ rfl (.string s4) (hx _) ?_) | fail)
        go_roundw
        case rel => exact ⟨5, by omega, by first | rfl | go_num, HN⟩
        case measure => simp [intOf]
      | true =>
        go_wp2_with (first | (refine wpList_index_run rfl 119 _ _ rfl (.string s4) (hx _) ?_) | fail)
        go_ret2
        refine ⟨.inl ⟨4, rfl, ?_, by simp⟩, HK.out.1⟩
        have := G4.out
        simp at this
        exact this.symm
    · have hx : ∀ w, (Instr.index 119 (.agg #[.string s0, .string s1, .string s2, .string s3, .string s4, .string s5, .string s6, .string s7, .string s8, .string s9, .string s10]) (.int .i64 ((5 : Nat) : Int))).run Tryz.prog w = .ok (.string s5) w := fun w => by kernel_rfl
      clear e0 z0 e1 z1 e2 z2 e3 z3 e4 z4 e6 z6 e7 z7 e8 z8 e9 z9 e10 z10
      cases d5 with
      | false =>
        have HN : Hid (wr = W ∧ ∀ j, 1 ≤ j → j < 6 → t ≠ opW j) := keepH ⟨HK.out.1, fun j h1 h2 e => by
          have hg := G5.out
          by_cases q : j = 5
          · subst q; rw [e] at hg; simp at hg
          · exact HK.out.2 j h1 (by omega) e⟩
        go_wp2_with (first | (refine wpList_index_run rfl 119 _ _ rfl (.string s5) (hx _) ?_) | fail)
        go_roundw
        case rel => exact ⟨6, by omega, by first | rfl | go_num, HN⟩
        case measure => simp [intOf]
      | true =>
        go_wp2_with (first | (refine wpList_index_run rfl 119 _ _ rfl (.string s5) (hx _) ?_) | fail)
        go_ret2
        refine ⟨.inl ⟨5, rfl, ?_, by simp⟩, HK.out.1⟩
        have := G5.out
        simp at this
        exact this.symm
    · have hx : ∀ w, (Instr.index 119 (.agg #[.string s0, .string s1, .string s2, .string s3, .string s4, .string s5, .string s6, .string s7, .string s8, .string s9, .string s10]) (.int .i64 ((6 : Nat) : Int))).run Tryz.prog w = .ok (.string s6) w := fun w => by kernel_rfl
      clear e0 z0 e1 z1 e2 z2 e3 z3 e4 z4 e5 z5 e7 z7 e8 z8 e9 z9 e10 z10
      cases d6 with
      | false =>
        have HN : Hid (wr = W ∧ ∀ j, 1 ≤ j → j < 7 → t ≠ opW j) := keepH ⟨HK.out.1, fun j h1 h2 e => by
          have hg := G6.out
          by_cases q : j = 6
          · subst q; rw [e] at hg; simp at hg
          · exact HK.out.2 j h1 (by omega) e⟩
        go_wp2_with (first | (refine wpList_index_run rfl 119 _ _ rfl (.string s6) (hx _) ?_) | fail)
        go_roundw
        case rel => exact ⟨7, by omega, by first | rfl | go_num, HN⟩
        case measure => simp [intOf]
      | true =>
        go_wp2_with (first | (refine wpList_index_run rfl 119 _ _ rfl (.string s6) (hx _) ?_) | fail)
        go_ret2
        refine ⟨.inl ⟨6, rfl, ?_, by simp⟩, HK.out.1⟩
        have := G6.out
        simp at this
        exact this.symm
    · have hx : ∀ w, (Instr.index 119 (.agg #[.string s0, .string s1, .string s2, .string s3, .string s4, .string s5, .string s6, .string s7, .string s8, .string s9, .string s10]) (.int .i64 ((7 : Nat) : Int))).run Tryz.prog w = .ok (.string s7) w := fun w => by kernel_rfl
      clear e0 z0 e1 z1 e2 z2 e3 z3 e4 z4 e5 z5 e6 z6 e8 z8 e9 z9 e10 z10
      cases d7 with
      | false =>
        have HN : Hid (wr = W ∧ ∀ j, 1 ≤ j → j < 8 → t ≠ opW j) := keepH ⟨HK.out.1, fun j h1 h2 e => by
          have hg := G7.out
          by_cases q : j = 7
          · subst q; rw [e] at hg; simp at hg
          · exact HK.out.2 j h1 (by omega) e⟩
        go_wp2_with (first | (refine wpList_index_run rfl 119 _ _ rfl (.string s7) (hx _) ?_) | fail)
        go_roundw
        case rel => exact ⟨8, by omega, by first | rfl | go_num, HN⟩
        case measure => simp [intOf]
      | true =>
        go_wp2_with (first | (refine wpList_index_run rfl 119 _ _ rfl (.string s7) (hx _) ?_) | fail)
        go_ret2
        refine ⟨.inl ⟨7, rfl, ?_, by simp⟩, HK.out.1⟩
        have := G7.out
        simp at this
        exact this.symm
    · have hx : ∀ w, (Instr.index 119 (.agg #[.string s0, .string s1, .string s2, .string s3, .string s4, .string s5, .string s6, .string s7, .string s8, .string s9, .string s10]) (.int .i64 ((8 : Nat) : Int))).run Tryz.prog w = .ok (.string s8) w := fun w => by kernel_rfl
      clear e0 z0 e1 z1 e2 z2 e3 z3 e4 z4 e5 z5 e6 z6 e7 z7 e9 z9 e10 z10
      cases d8 with
      | false =>
        have HN : Hid (wr = W ∧ ∀ j, 1 ≤ j → j < 9 → t ≠ opW j) := keepH ⟨HK.out.1, fun j h1 h2 e => by
          have hg := G8.out
          by_cases q : j = 8
          · subst q; rw [e] at hg; simp at hg
          · exact HK.out.2 j h1 (by omega) e⟩
        go_wp2_with (first | (refine wpList_index_run rfl 119 _ _ rfl (.string s8) (hx _) ?_) | fail)
        go_roundw
        case rel => exact ⟨9, by omega, by first | rfl | go_num, HN⟩
        case measure => simp [intOf]
      | true =>
        go_wp2_with (first | (refine wpList_index_run rfl 119 _ _ rfl (.string s8) (hx _) ?_) | fail)
        go_ret2
        refine ⟨.inl ⟨8, rfl, ?_, by simp⟩, HK.out.1⟩
        have := G8.out
        simp at this
        exact this.symm
    · have hx : ∀ w, (Instr.index 119 (.agg #[.string s0, .string s1, .string s2, .string s3, .string s4, .string s5, .string s6, .string s7, .string s8, .string s9, .string s10]) (.int .i64 ((9 : Nat) : Int))).run Tryz.prog w = .ok (.string s9) w := fun w => by kernel_rfl
      clear e0 z0 e1 z1 e2 z2 e3 z3 e4 z4 e5 z5 e6 z6 e7 z7 e8 z8 e10 z10
      cases d9 with
      | false =>
        have HN : Hid (wr = W ∧ ∀ j, 1 ≤ j → j < 10 → t ≠ opW j) := keepH ⟨HK.out.1, fun j h1 h2 e => by
          have hg := G9.out
          by_cases q : j = 9
          · subst q; rw [e] at hg; simp at hg
          · exact HK.out.2 j h1 (by omega) e⟩
        go_wp2_with (first | (refine wpList_index_run rfl 119 _ _ rfl (.string s9) (hx _) ?_) | fail)
        go_roundw
        case rel => exact ⟨10, by omega, by first | rfl | go_num, HN⟩
        case measure => simp [intOf]
      | true =>
        go_wp2_with (first | (refine wpList_index_run rfl 119 _ _ rfl (.string s9) (hx _) ?_) | fail)
        go_ret2
        refine ⟨.inl ⟨9, rfl, ?_, by simp⟩, HK.out.1⟩
        have := G9.out
        simp at this
        exact this.symm
    · have hx : ∀ w, (Instr.index 119 (.agg #[.string s0, .string s1, .string s2, .string s3, .string s4, .string s5, .string s6, .string s7, .string s8, .string s9, .string s10]) (.int .i64 ((10 : Nat) : Int))).run Tryz.prog w = .ok (.string s10) w := fun w => by kernel_rfl
      clear e0 z0 e1 z1 e2 z2 e3 z3 e4 z4 e5 z5 e6 z6 e7 z7 e8 z8 e9 z9
      cases d10 with
      | false =>
        have HN : Hid (wr = W ∧ ∀ j, 1 ≤ j → j < 11 → t ≠ opW j) := keepH ⟨HK.out.1, fun j h1 h2 e => by
          have hg := G10.out
          by_cases q : j = 10
          · subst q; rw [e] at hg; simp at hg
          · exact HK.out.2 j h1 (by omega) e⟩
        go_wp2_with (first | (refine wpList_index_run rfl 119 _ _ rfl (.string s10) (hx _) ?_) | fail)
        go_roundw
        case rel => exact ⟨11, by omega, by first | rfl | go_num, HN⟩
        case measure => simp [intOf]
      | true =>
        go_wp2_with (first | (refine wpList_index_run rfl 119 _ _ rfl (.string s10) (hx _) ?_) | fail)
        go_ret2
        refine ⟨.inl ⟨10, rfl, ?_, by simp⟩, HK.out.1⟩
        have := G10.out
        simp at this
        exact this.symm
    · go_wp2_with fail
      go_ret2
      refine ⟨.inr ⟨fun k hk => HK.out.2 k ?_ ?_, by simp⟩, HK.out.1⟩
      · simp [hasK] at hk; omega
      · simp [hasK] at hk; omega
end Go.Proofs.YtmmaniolaljjlaaGreatDoor
