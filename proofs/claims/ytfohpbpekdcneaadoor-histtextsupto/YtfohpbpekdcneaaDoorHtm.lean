/- The document's Cut and Print. -/
import Derived.Test.YtfohpbpekdcneaaDoorHtl
import Derived.Test.YtfohpbpekdcneaaDoorHRRight
namespace Go.Proofs.YtfohpbpekdcneaaDoor
open Go.RowKit Go.Shelf
set_option linter.unusedVariables false

set_option maxRecDepth 100000 in
set_option maxHeartbeats 8000000 in
theorem r_cut (p : Option Addr) (c : Nat) (step : Int) (l : List Sp) (W : World) (h : SReads W p l) (hl : l.length ≤ 4398046511000) :
    Calls Tryd.prog 12 #[.slice p l.length c, .int .i64 step] W fun e W' => ∃ v, e = .returned v ∧ W'.ownsRow 0 38 4 v (cutN l step l.length).length (spRow (cutN l step l.length)) ∧ (∀ b, v.ownBlock = some b → W.heap.size ≤ b) ∧ Chg (fun _ => False) W W' := by
  obtain ⟨i0, hi, hz0, hz1, hz2⟩ := info_parts infoSpan
  have HP := keepH h
  have HI := keepH hi
  clear h hi
  go_enter Tryd.func12, Tryd.ntmps12
  go_wp2_with fail
  go_loopw [5, 6] (fun v s wr => ∃ k : Nat, k ≤ l.length ∧ s = .int .i64 (k : Int) ∧ Hid (CI l step W wr k v)) (fun _ s _ => l.length - (intOf s).toNat)
  case atStart => exact ⟨0, by omega, rfl, keepH ⟨World.ownsRow_nil _ _ _ _, Chg.refl _ _, fun b hb => by simp [Value.ownBlock] at hb⟩⟩
  case round =>
    obtain ⟨k, hk, rfl, HK⟩ := hrel
    by_cases hlt : k < l.length
    · have t1 : (k : Int) < (l.length : Int) := by omega
      have t0 : (0 : Int) ≤ (k : Int) := by omega
      have qw : IntKind.i64.wrap ((k : Int) + 1) = ((k + 1 : Nat) : Int) := by rw [IntKind.wrap_i64]; omega
      obtain ⟨s, hs⟩ : ∃ s, l[k]? = some s := ⟨l[k], List.getElem?_eq_getElem hlt⟩
      obtain ⟨bk, off, rfl, _, c0, c1, c2, c3⟩ := (HP.out.chg HK.out.chg (fun _ _ x => x)).get k s hs
      have HX := keepH hs
      have hfl : (cutN l step k).length ≤ 4398046511000 := by have := cutN_le l step k; omega
      obtain ⟨fl, hfl2⟩ : ∃ fl, fl = (cutN l step k).length := ⟨_, rfl⟩
      rw [← hfl2] at hfl
      have HFL := keepH hfl2
      have HRW : Hid (wr.ownsRow 0 38 4 u5 fl (spRow (cutN l step k))) := by rw [HFL.out]; exact HK.out.row
      clear hs hfl2
      by_cases h1 : step < s.fr
      · go_wp2_with fail
        go_roundw
        case rel => exact ⟨k + 1, by omega, by first | rfl | go_num, keepH ⟨by rw [cutN_no HX.out h1]; exact HK.out.row.alloc _, HK.out.chg.alloc _, HK.out.new⟩⟩
        case measure => simp [intOf]; omega
      · have hi := HI.out
        by_cases h2 : step < s.to
        · have HCS : Hid (cutS s step = ⟨s.th, s.ix, s.fr, -1⟩) := by show _ = _; unfold cutS; rw [if_pos h2]
          go_wp2_with (first | (at_builtin; refine wpList_append_own_at _ rfl (.tmp 27) (.tmp 29) 22 rfl 0 38 i0 (.agg #[.int .i64 0, .int .i64 0, .int .i64 0, .int .i64 0]) 4 32 Tryd.underlying22 hi hz0 hz1 hz2 rfl (by decide) u5 fl (spRow (cutN l step k)) rfl ((HRW.out.alloc _).alloc _) ⟨wr.heap.size + 1, 0, none⟩ 1 1 [.int .i64 s.th, .int .i64 s.ix, .int .i64 s.fr, .int .i64 (-1)] rfl rfl (cells_new _ _ (by simp) _ _) (by intro u hu; simp at hu; rcases hu with rfl | rfl | rfl | rfl <;> rfl) (by unfold maxLen; omega) (by omega) (Nat.zero_le _) ?_; intro v2 w2 r1 r2 r3 r4; have R1 := keepH r1; have R2 := keepH r2; have R4 := keepH r4; clear r1 r2 r3 r4) | go_in)
          go_roundw
          case rel => exact ⟨k + 1, by omega, by first | rfl | go_num, keepH (HK.out.more HX.out h1 ((Chg.refl _ _).alloc _) (by rw [HCS.out, ← HFL.out]; exact R1.out) R2.out R4.out)⟩
          case measure => simp [intOf]; omega
        · have HCS : Hid (cutS s step = s) := by show _ = _; unfold cutS; rw [if_neg h2]
          go_wp2_with (first | (at_builtin; refine wpList_append_own_at _ rfl (.tmp 27) (.tmp 29) 22 rfl 0 38 i0 (.agg #[.int .i64 0, .int .i64 0, .int .i64 0, .int .i64 0]) 4 32 Tryd.underlying22 hi hz0 hz1 hz2 rfl (by decide) u5 fl (spRow (cutN l step k)) rfl ((HRW.out.alloc _).alloc _) ⟨wr.heap.size + 1, 0, none⟩ 1 1 [.int .i64 s.th, .int .i64 s.ix, .int .i64 s.fr, .int .i64 s.to] rfl rfl (cells_new _ _ (by simp) _ _) (by intro u hu; simp at hu; rcases hu with rfl | rfl | rfl | rfl <;> rfl) (by unfold maxLen; omega) (by omega) (Nat.zero_le _) ?_; intro v2 w2 r1 r2 r3 r4; have R1 := keepH r1; have R2 := keepH r2; have R4 := keepH r4; clear r1 r2 r3 r4) | go_in)
          go_roundw
          case rel => exact ⟨k + 1, by omega, by first | rfl | go_num, keepH (HK.out.more HX.out h1 ((Chg.refl _ _).alloc _) (by rw [HCS.out, ← HFL.out]; exact R1.out) R2.out R4.out)⟩
          case measure => simp [intOf]; omega
    · obtain rfl : k = l.length := by omega
      have t1 : ¬ (l.length : Int) < (l.length : Int) := by omega
      go_wp2_with fail
      go_ret
      exact ⟨u5, by simp, HK.out.row, HK.out.new, HK.out.chg⟩
set_option maxRecDepth 100000 in
set_option maxHeartbeats 4000000 in
theorem rprint_yes (p : Option Addr) (c : Nat) (l : List Sp) (W : World) (h : SReads W p l) (hok : ∀ s ∈ l, s.Ok) (hl : l.length ≤ 200000000) (T : Tb W) (hr : RightP l) :
    Calls Tryd.prog 6 #[.slice p l.length c] W fun e W' => e = .returned (.tuple #[.string (mkS (printL l)), .int .i64 0]) ∧ Below W.heap.size W W' := by
  have hR := r_right p c l W h (by omega)
  obtain ⟨n, hn⟩ : ∃ n, n = l.length := ⟨_, rfl⟩
  have HN := keepH hn
  rw [← hn] at hR hl ⊢
  clear hn
  have HR := keepH h
  have HOK := keepH hok
  have HT := keepH T
  go_enter Tryd.func6, Tryd.ntmps6
  go_wp2_with fail
  refine hR.mono ?_
  rintro e w1 ⟨x, rfl, hx, C1⟩
  obtain rfl : x = 0 := by
    rcases hx with ⟨_, q⟩ | ⟨q, _⟩
    · exact q
    · exact absurd hr q
  have HB1 := keepH (chgB C1)
  clear hx C1
  clear h hok T hr hR
  go_wp2_with fail
  go_loopw [5, 6] (fun s5 s6 wr => ∃ i : Nat, i ≤ n ∧ s5 = .string (mkS (printL (l.take i))) ∧ s6 = .int .i64 (i : Int) ∧ Hid (Below W.heap.size W wr)) (fun _ s6 _ => n - (intOf s6).toNat)
  case atStart => exact ⟨0, by omega, by simp [printL], rfl, HB1⟩
  case round =>
    obtain ⟨i, hi, rfl, rfl, HI⟩ := hrel
    by_cases hlt : i < n
    · have q1 : (i : Int) < (n : Int) := by omega
      have q0 : (0 : Int) ≤ (i : Int) := by omega
      have qw : IntKind.i64.wrap ((i : Int) + 1) = ((i + 1 : Nat) : Int) := by rw [IntKind.wrap_i64]; omega
      obtain ⟨s, hs⟩ : ∃ s, l[i]? = some s := ⟨l[i]'(by rw [← HN.out]; exact hlt), List.getElem?_eq_getElem _⟩
      have hsok : s.Ok := HOK.out s (List.mem_of_getElem? hs)
      obtain ⟨bk, off, rfl, hbk, a0, a1, a2, a3⟩ := (HR.out.chg (belowC HI.out) (fun _ _ x => x)).get i s hs
      obtain ⟨s1, s2, s3, s4, s5, s6, j1, j2, j3, j4, j5, j6, j7⟩ := joinsL s hsok
      have j8 := add_str (printL (l.take i)) (lineL s) (by
        have u := lineL_len hsok
        have v := printL_len (l := l.take i) (fun x hx => HOK.out x (List.mem_of_mem_take hx))
        rw [List.length_take] at v
        have := HN.out
        have : min i l.length ≤ 200000000 := by omega
        omega)
      rw [show printL (l.take i) ++ lineL s = printL (l.take (i + 1)) by rw [List.take_add_one, hs]; simp only [Option.toList]; rw [printL_snoc]] at j8
      obtain ⟨sN, hsN⟩ : ∃ x, x = mkS (printL (l.take (i + 1))) := ⟨_, rfl⟩
      obtain ⟨sA, hsA⟩ : ∃ x, x = mkS (printL (l.take i)) := ⟨_, rfl⟩
      obtain ⟨sL, hsL⟩ : ∃ x, x = mkS (lineL s) := ⟨_, rfl⟩
      obtain ⟨c1, hc1⟩ : ∃ x, x = mkS (Lib.itoa s.th) := ⟨_, rfl⟩
      obtain ⟨c2, hc2⟩ : ∃ x, x = mkS (Lib.itoa s.ix) := ⟨_, rfl⟩
      obtain ⟨c3, hc3⟩ : ∃ x, x = mkS (Lib.itoa s.fr) := ⟨_, rfl⟩
      obtain ⟨c4, hc4⟩ : ∃ x, x = mkS (toL s.to) := ⟨_, rfl⟩
      rw [← hsN, ← hsA, ← hsL] at j8
      rw [← hsL] at j7
      rw [← hc1] at j1
      rw [← hc2] at j2
      rw [← hc3] at j4
      rw [← hc4] at j6
      rw [← hsA]
      have HSN := keepH hsN
      have HK1 : Hid (∀ w1, Below W.heap.size W w1 → Calls Tryd.prog 18 #[.int .i64 s.th] w1 fun e w' => e = .returned (.string c1) ∧ Below w1.heap.size w1 w') := keepH (fun w1 hb => by rw [hc1]; exact itoa_any s.th hsok.th w1 (HT.out.on hb))
      have HK2 : Hid (∀ w1, Below W.heap.size W w1 → Calls Tryd.prog 18 #[.int .i64 s.ix] w1 fun e w' => e = .returned (.string c2) ∧ Below w1.heap.size w1 w') := keepH (fun w1 hb => by rw [hc2]; exact itoa_any s.ix hsok.ix w1 (HT.out.on hb))
      have HK3 : Hid (∀ w1, Below W.heap.size W w1 → Calls Tryd.prog 18 #[.int .i64 s.fr] w1 fun e w' => e = .returned (.string c3) ∧ Below w1.heap.size w1 w') := keepH (fun w1 hb => by rw [hc3]; exact itoa_any s.fr hsok.fr w1 (HT.out.on hb))
      have HK4 : Hid (∀ w1, Below W.heap.size W w1 → Calls Tryd.prog 18 #[.int .i64 s.to] w1 fun e w' => e = .returned (.string (mkS (Lib.itoa s.to))) ∧ Below w1.heap.size w1 w') := keepH (fun w1 hb => itoa_any s.to hsok.to w1 (HT.out.on hb))
      by_cases q : s.to < 0
      · obtain rfl : c4 = ⟨#[45]⟩ := by rw [hc4]; unfold toL; rw [if_pos q]
        have q5 : ¬ (0 : Int) ≤ s.to := by omega
        clear hsN hsA hsL hc1 hc2 hc3 hc4 hs hsok q
        go_upto_region 11 with fail
        have e0 := cell_regrown a0
        have e1 := cell_regrown a1
        have e2 := cell_regrown a2
        have G1 := keepH (fun dd os => Calls.regrown_of (w := wr) (d := dd) (os := os) (HK1.out _ (below_chain HI.out (below_regrown wr dd os))))
        have G2 := keepH (fun dd os => Calls.regrown_of (w := wr) (d := dd) (os := os) (HK2.out _ (below_chain HI.out (below_regrown wr dd os))))
        have G3 := keepH (fun dd os => Calls.regrown_of (w := wr) (d := dd) (os := os) (HK3.out _ (below_chain HI.out (below_regrown wr dd os))))
        have HB : Hid (∀ dq osq, Below W.heap.size W (Sort.grow (redrawn wr dq) osq)) := keepH (fun dq osq => below_chain HI.out (below_regrown wr dq osq))
        clear a0 a1 a2 a3
        refine wp_region_quiet_below (by kernel_rfl) (by kernel_rfl) ?_
        repeat (go_big_quiet_step (first | exact G1.out _ _ | exact G2.out _ _ | exact G3.out _ _))
        refine wpQuiet_nil ?_
        intro _ hw'
        obtain ⟨⟨dq, osq⟩, hw''⟩ := hw'
        subst hw''
        go_wp2_with fail
        go_roundw
        case rel => exact ⟨i + 1, by omega, by rw [HSN.out], by first | rfl | go_num, keepH (HB.out _ _)⟩
        case measure => simp [intOf]; omega
      · have q5 : (0 : Int) ≤ s.to := by omega
        have e4 : mkS (Lib.itoa s.to) = c4 := by rw [hc4]; unfold toL; rw [if_neg q]
        rw [e4] at HK4
        clear hsN hsA hsL hc1 hc2 hc3 hc4 hs hsok q e4
        go_wp2_with fail
        refine (HK4.out wr HI.out).mono ?_
        rintro e w4 ⟨rfl, C4⟩
        have B4 := below_chain HI.out C4
        replace a0 := cell_below a0 C4
        replace a1 := cell_below a1 C4
        replace a2 := cell_below a2 C4
        clear C4
        go_upto_region 11 with fail
        have e0 := cell_regrown a0
        have e1 := cell_regrown a1
        have e2 := cell_regrown a2
        have G1 := keepH (fun dd os => Calls.regrown_of (w := w4) (d := dd) (os := os) (HK1.out _ (below_chain B4 (below_regrown w4 dd os))))
        have G2 := keepH (fun dd os => Calls.regrown_of (w := w4) (d := dd) (os := os) (HK2.out _ (below_chain B4 (below_regrown w4 dd os))))
        have G3 := keepH (fun dd os => Calls.regrown_of (w := w4) (d := dd) (os := os) (HK3.out _ (below_chain B4 (below_regrown w4 dd os))))
        have HB : Hid (∀ dq osq, Below W.heap.size W (Sort.grow (redrawn w4 dq) osq)) := keepH (fun dq osq => below_chain B4 (below_regrown w4 dq osq))
        clear a0 a1 a2 a3
        refine wp_region_quiet_below (by kernel_rfl) (by kernel_rfl) ?_
        repeat (go_big_quiet_step (first | exact G1.out _ _ | exact G2.out _ _ | exact G3.out _ _))
        refine wpQuiet_nil ?_
        intro _ hw'
        obtain ⟨⟨dq, osq⟩, hw''⟩ := hw'
        subst hw''
        go_wp2_with fail
        go_roundw
        case rel => exact ⟨i + 1, by omega, by rw [HSN.out], by first | rfl | go_num, keepH (HB.out _ _)⟩
        case measure => simp [intOf]; omega
    · have q1 : ¬ (i : Int) < (n : Int) := by omega
      have e := List.take_of_length_le (l := l) (i := i) (by rw [← HN.out]; omega)
      rw [e]
      go_wp2_with fail
      go_ret2
      exact ⟨rfl, HI.out⟩
theorem rprint_no (p : Option Addr) (c : Nat) (l : List Sp) (W : World) (h : SReads W p l) (hl : l.length ≤ 200000000) (hr : ¬ RightP l) :
    Calls Tryd.prog 6 #[.slice p l.length c] W fun e W' => e = .returned (.tuple #[.string (mkS []), .int .i64 50]) ∧ Below W.heap.size W W' := by
  have hR := r_right p c l W h (by omega)
  go_enter Tryd.func6, Tryd.ntmps6
  go_wp2_with fail
  refine hR.mono ?_
  rintro e w1 ⟨x, rfl, hx, C1⟩
  obtain rfl : x = 50 := by
    rcases hx with ⟨q, _⟩ | ⟨_, q⟩
    · exact absurd q hr
    · exact q
  have B1 := chgB C1
  clear hx
  go_wp2_with fail
  go_ret2
  exact ⟨rfl, B1⟩
end Go.Proofs.YtfohpbpekdcneaaDoor
