/- ProgressBounds and ProgressRises, walked. -/
import Derived.Test.YtdgockkcflhjoaaPe
namespace Go.Proofs.Ytdgockkcflhjoaa
open Go.RowKit
set_option linter.unusedVariables false

theorem plN_mono {a b c d : Nat} (h : a ≤ c) (k : b ≤ d) (hc : c ≤ mxA) (hd : d ≤ mxA) : plN a b ≤ plN c d := by unfold plN; split <;> split <;> omega
theorem tiN_mono {a b c d : Nat} (h : a ≤ c) (k : b ≤ d) : tiN a b ≤ tiN c d := by
  have := Nat.mul_le_mul h k
  unfold tiN; split <;> split <;> omega
theorem moN_mono {a b c d : Nat} (h : a ≤ c) (k : b ≤ d) : moN a b ≤ moN c d := by unfold moN; split <;> split <;> omega
theorem bouN_mono {a b c d e a' b' c' d' e' : Nat} (ha : a ≤ a') (hb : b ≤ b') (hc : c ≤ c') (hd : d ≤ d') (he : e ≤ e') (ma : a' ≤ mxA) (mc : c' ≤ mxA) (md : d' ≤ mxA) : bouN a b c d e ≤ bouN a' b' c' d' e' := by
  have N : ∀ n, n ≤ 1000 → n ≤ mxA := fun n h => n_le h
  have v : vN c ≤ vN c' := plN_mono hc (Nat.le_refl _) mc (N _ (by omega))
  have o : obN b ≤ obN b' := tiN_mono (Nat.le_refl _) hb
  have k : keyN c ≤ keyN c' := plN_mono (tiN_mono (Nat.le_refl _) (plN_mono (Nat.le_refl _) (tiN_mono (Nat.le_refl _) v) (N _ (by omega)) (tiN_le _ _))) (Nat.le_refl _) (tiN_le _ _) (N _ (by omega))
  have w : walkN b c ≤ walkN b' c' := tiN_mono o (plN_mono (Nat.le_refl _) (tiN_mono (Nat.le_refl _) v) (N _ (by omega)) (tiN_le _ _))
  have q : attN b c d e ≤ attN b' c' d' e' := by
    refine moN_mono (moN_mono (moN_mono (moN_mono (Nat.le_refl _) ?_) ?_) ?_) ?_
    · exact plN_mono (Nat.le_refl _) (tiN_mono he k) (N _ (by omega)) (tiN_le _ _)
    · exact plN_mono (plN_mono (Nat.le_refl _) w (N _ (by omega)) (tiN_le _ _)) (tiN_mono (Nat.le_refl _) o) (plN_le (N _ (by omega)) (tiN_le _ _)) (tiN_le _ _)
    · exact plN_mono (plN_mono (plN_mono hd (Nat.le_refl _) md (N _ (by omega))) w (plN_le md (N _ (by omega))) (tiN_le _ _)) (tiN_mono (Nat.le_refl _) o) (plN_le (plN_le md (N _ (by omega))) (tiN_le _ _)) (tiN_le _ _)
    · exact plN_mono (tiN_mono (Nat.le_refl _) hd) (Nat.le_refl _) (tiN_le _ _) (N _ (by omega))
  exact tiN_mono (tiN_mono ha (plN_mono ha (Nat.le_refl _) ma (N _ (by omega)))) q
theorem toN_le {b : Int} (h : b < 9223372036854775808) : b.toNat ≤ mxA := by unfold mxA; omega
set_option maxRecDepth 100000 in
set_option maxHeartbeats 4000000 in
theorem bounds_walk (b0 b1 b2 b3 b4 c0 c1 c2 c3 k : Int) (W : World) (h0 : b0 < 9223372036854775808) (h1 : b1 < 9223372036854775808) (h2 : b2 < 9223372036854775808) (h3 : b3 < 9223372036854775808) (h4 : b4 < 9223372036854775808) (hc : c1 < 9223372036854775808) (hc' : -9223372036854775808 ≤ c1) (hk0 : 0 ≤ k) (hk1 : k < 256) : Calls Try.prog 3 #[.agg (boL b0 b1 b2 b3 b4), .agg (coL c0 c1 c2 c3), .int .u8 k] W fun e w => e = .returned (.bool true) ∧ Chg (fun _ => False) W w := by
  obtain ⟨u, hu⟩ : ∃ u, u = bouN b0.toNat b1.toNat b2.toNat b3.toNat b4.toNat := ⟨_, rfl⟩
  obtain ⟨v, hv⟩ : ∃ v, v = conZ c1 k := ⟨_, rfl⟩
  have HB1 : Hid (∀ w, Calls Try.prog 6 #[.agg (boL b0 b1 b2 b3 b4)] w fun e w' => e = .returned (.int .i64 (u : Int)) ∧ Chg (fun _ => False) w w') := fun w => by rw [hu]; exact p_bound b0 b1 b2 b3 b4 _ _ _ _ _ w rfl rfl rfl rfl rfl (toN_le h0) (toN_le h1) (toN_le h2) (toN_le h3) (toN_le h4)
  have HB2 : Hid (∀ w, Calls Try.prog 7 #[.agg (boL b0 b1 b2 b3 b4)] w fun e w' => e = .returned (.int .i64 (u : Int)) ∧ Chg (fun _ => False) w w') := fun w => by rw [hu]; exact r_bound b0 b1 b2 b3 b4 _ _ _ _ _ w rfl rfl rfl rfl rfl (toN_le h0) (toN_le h1) (toN_le h2) (toN_le h3) (toN_le h4)
  have HB3 : Hid (∀ w, Calls Try.prog 8 #[.agg (coL c0 c1 c2 c3), .int .u8 k] w fun e w' => e = .returned (.int .i64 v) ∧ Chg (fun _ => False) w w') := fun w => by rw [hv]; exact p_const c0 c1 c2 c3 k w hc hc' hk0 hk1
  have HB4 : Hid (∀ w, Calls Try.prog 9 #[.agg (coL c0 c1 c2 c3), .int .u8 k] w fun e w' => e = .returned (.int .i64 v) ∧ Chg (fun _ => False) w w') := fun w => by rw [hv]; exact r_const c0 c1 c2 c3 k w hc hc' hk0 hk1
  clear hu hv h0 h1 h2 h3 h4 hc hc' hk0 hk1
  obtain ⟨W2, hW2⟩ : ∃ W2, W2 = (W.alloc (.cells (boL b0 b1 b2 b3 b4) 23)).alloc (.cells (coL c0 c1 c2 c3) 26) := ⟨_, rfl⟩
  have C0 : Hid (Chg (fun _ => False) W W2) := by rw [hW2]; exact ((Chg.refl _ _).alloc _).alloc _
  have HAt : Hid (∀ w i v, Chg (fun _ => False) W2 w → (boL b0 b1 b2 b3 b4)[i]? = some v → w.cell? ⟨W.heap.size, i, none⟩ = some v) := fun w i v h hv => box_at rfl (((Chg.refl _ _).alloc (.cells (coL c0 c1 c2 c3) 26)).falls (by rw [← hW2]; exact h)) i v hv
  have HAc : Hid (∀ w i v, Chg (fun _ => False) W2 w → (coL c0 c1 c2 c3)[i]? = some v → w.cell? ⟨W.heap.size + 1, i, none⟩ = some v) := fun w i v h hv => by
    have e : W2.heap[W.heap.size + 1]? = some (.cells (coL c0 c1 c2 c3) 26 (0, 0)) := by
      have e := heap_alloc_new (W.alloc (.cells (boL b0 b1 b2 b3 b4) 23)) (.cells (coL c0 c1 c2 c3) 26)
      rw [show (W.alloc (.cells (boL b0 b1 b2 b3 b4) 23)).heap.size = W.heap.size + 1 by simp] at e
      rw [hW2]; exact e
    rw [cell_of ((h.block _ (lt_of e) (fun x => x)).trans e) i]; exact hv
  unfold boL coL at hW2
  unfold boL coL
  go_enter Try.func3, Try.ntmps3
  go_upto_region 1 with fail
  rw [← hW2]
  clear hW2
  go_cut [6] from 7 to 23 (fun s6 wz => s6 = .bool true ∧ Hid (Chg (fun _ => False) W2 wz))
  case first =>
    have hS0 : Chg (fun _ => False) W2 W2.drew := (Chg.refl _ _).drew
    refine wp_region_held_drew (S := (fun wd => Chg (fun _ => False) W2 wd)) (by kernel_rfl) (hS0) ?_
    intro hHeld
    refine wpAnyH_ready (rs := [0]) (by kernel_rfl) (by simp) ?_
    refine AllReadyH.cons rfl (fun KK hKK => ?_) AllReadyH.nil
    go_simp
    go_at_call 5
    refine (l_live _).mono ?_
    rintro e w1 ⟨rfl, C1⟩
    have hS1 : Chg (fun _ => False) W2 w1 := hS0.falls C1
    clear C1
    try go_wp2_with fail
    refine hKK.out _ _ ?_ (fun hHeld => ?_)
    · exact hS1
    clear hKK KK
    (try simp only [Act.put]); (try simp only [List.setIfInBounds_toArray]); (repeat (first | simp only [List.set_cons_succ] | simp only [List.set_cons_zero]))
    refine wpAnyH_take (i := 1) (v := ?_) rfl (by kernel_rfl) (by kernel_rfl) (by kernel_rfl) (fun _ _ _ h => h) (Or.inl ⟨by rfl, ?_⟩) hHeld ?_
    rotate_left
    · intro w hSw
      (try dsimp only at hSw)
      go_simp
      try with_reducible rfl
    (try simp only [Act.put]); (try simp only [List.setIfInBounds_toArray]); (repeat (first | simp only [List.set_cons_succ] | simp only [List.set_cons_zero]))
    refine wpAnyH_take (i := 2) (v := ?_) rfl (by kernel_rfl) (by kernel_rfl) (by kernel_rfl) (fun _ _ _ h => h) (Or.inl ⟨by rfl, ?_⟩) hHeld ?_
    rotate_left
    · intro w hSw
      (try dsimp only at hSw)
      have y0 := HAt.out _ 0 _ hSw rfl
      have y1 := HAt.out _ 1 _ hSw rfl
      have y2 := HAt.out _ 2 _ hSw rfl
      have y3 := HAt.out _ 3 _ hSw rfl
      have y4 := HAt.out _ 4 _ hSw rfl
      go_simp
      try with_reducible rfl
    (try simp only [Act.put]); (try simp only [List.setIfInBounds_toArray]); (repeat (first | simp only [List.set_cons_succ] | simp only [List.set_cons_zero]))
    refine wpAnyH_take (i := 4) (v := ?_) rfl (by kernel_rfl) (by kernel_rfl) (by kernel_rfl) (fun _ _ _ h => h) (Or.inl ⟨by rfl, ?_⟩) hHeld ?_
    rotate_left
    · intro w hSw
      (try dsimp only at hSw)
      have y0 := HAt.out _ 0 _ hSw rfl
      have y1 := HAt.out _ 1 _ hSw rfl
      have y2 := HAt.out _ 2 _ hSw rfl
      have y3 := HAt.out _ 3 _ hSw rfl
      have y4 := HAt.out _ 4 _ hSw rfl
      go_simp
      try with_reducible rfl
    (try simp only [Act.put]); (try simp only [List.setIfInBounds_toArray]); (repeat (first | simp only [List.set_cons_succ] | simp only [List.set_cons_zero]))
    refine wpAnyH_ready (rs := [3]) (by kernel_rfl) (by simp) ?_
    refine AllReadyH.cons rfl (fun KK hKK => ?_) AllReadyH.nil
    go_simp
    go_at_call 6
    refine (HB1.out _).mono ?_
    rintro e w3 ⟨rfl, C3⟩
    have hS3 : Chg (fun _ => False) W2 w3 := hS1.falls C3
    clear C3
    try go_wp2_with fail
    refine hKK.out _ _ ?_ (fun hHeld => ?_)
    · exact hS3
    clear hKK KK
    (try simp only [Act.put]); (try simp only [List.setIfInBounds_toArray]); (repeat (first | simp only [List.set_cons_succ] | simp only [List.set_cons_zero]))
    refine wpAnyH_ready (rs := [5]) (by kernel_rfl) (by simp) ?_
    refine AllReadyH.cons rfl (fun KK hKK => ?_) AllReadyH.nil
    go_simp
    go_at_call 7
    refine (HB2.out _).mono ?_
    rintro e w5 ⟨rfl, C5⟩
    have hS5 : Chg (fun _ => False) W2 w5 := hS3.falls C5
    clear C5
    try go_wp2_with fail
    refine hKK.out _ _ ?_ (fun hHeld => ?_)
    · exact hS5
    clear hKK KK
    (try simp only [Act.put]); (try simp only [List.setIfInBounds_toArray]); (repeat (first | simp only [List.set_cons_succ] | simp only [List.set_cons_zero]))
    refine wpAnyH_take (i := 6) (v := ?_) rfl (by kernel_rfl) (by kernel_rfl) (by kernel_rfl) (fun _ _ _ h => h) (Or.inl ⟨by rfl, ?_⟩) hHeld ?_
    rotate_left
    · intro w hSw
      (try dsimp only at hSw)
      go_simp
      try with_reducible rfl
    (try simp only [Act.put]); (try simp only [List.setIfInBounds_toArray]); (repeat (first | simp only [List.set_cons_succ] | simp only [List.set_cons_zero]))
    refine wpAnyH_take (i := 7) (v := ?_) rfl (by kernel_rfl) (by kernel_rfl) (by kernel_rfl) (fun _ _ _ h => h) (Or.inl ⟨by rfl, ?_⟩) hHeld ?_
    rotate_left
    · intro w hSw
      (try dsimp only at hSw)
      go_simp
      try with_reducible rfl
    (try simp only [Act.put]); (try simp only [List.setIfInBounds_toArray]); (repeat (first | simp only [List.set_cons_succ] | simp only [List.set_cons_zero]))
    refine wpAnyH_take (i := 8) (v := ?_) rfl (by kernel_rfl) (by kernel_rfl) (by kernel_rfl) (fun _ _ _ h => h) (Or.inl ⟨by rfl, ?_⟩) hHeld ?_
    rotate_left
    · intro w hSw
      (try dsimp only at hSw)
      go_simp
      try with_reducible rfl
    (try simp only [Act.put]); (try simp only [List.setIfInBounds_toArray]); (repeat (first | simp only [List.set_cons_succ] | simp only [List.set_cons_zero]))
    refine wpAnyH_take (i := 9) (v := ?_) rfl (by kernel_rfl) (by kernel_rfl) (by kernel_rfl) (fun _ _ _ h => h) (Or.inl ⟨by rfl, ?_⟩) hHeld ?_
    rotate_left
    · intro w hSw
      (try dsimp only at hSw)
      have y0 := HAc.out _ 0 _ hSw rfl
      have y1 := HAc.out _ 1 _ hSw rfl
      have y2 := HAc.out _ 2 _ hSw rfl
      have y3 := HAc.out _ 3 _ hSw rfl
      go_simp
      try with_reducible rfl
    (try simp only [Act.put]); (try simp only [List.setIfInBounds_toArray]); (repeat (first | simp only [List.set_cons_succ] | simp only [List.set_cons_zero]))
    refine wpAnyH_take (i := 10) (v := ?_) rfl (by kernel_rfl) (by kernel_rfl) (by kernel_rfl) (fun _ _ _ h => h) (Or.inl ⟨by rfl, ?_⟩) hHeld ?_
    rotate_left
    · intro w hSw
      (try dsimp only at hSw)
      go_simp
      try with_reducible rfl
    (try simp only [Act.put]); (try simp only [List.setIfInBounds_toArray]); (repeat (first | simp only [List.set_cons_succ] | simp only [List.set_cons_zero]))
    refine wpAnyH_take (i := 12) (v := ?_) rfl (by kernel_rfl) (by kernel_rfl) (by kernel_rfl) (fun _ _ _ h => h) (Or.inl ⟨by rfl, ?_⟩) hHeld ?_
    rotate_left
    · intro w hSw
      (try dsimp only at hSw)
      have y0 := HAc.out _ 0 _ hSw rfl
      have y1 := HAc.out _ 1 _ hSw rfl
      have y2 := HAc.out _ 2 _ hSw rfl
      have y3 := HAc.out _ 3 _ hSw rfl
      go_simp
      try with_reducible rfl
    (try simp only [Act.put]); (try simp only [List.setIfInBounds_toArray]); (repeat (first | simp only [List.set_cons_succ] | simp only [List.set_cons_zero]))
    refine wpAnyH_take (i := 13) (v := ?_) rfl (by kernel_rfl) (by kernel_rfl) (by kernel_rfl) (fun _ _ _ h => h) (Or.inl ⟨by rfl, ?_⟩) hHeld ?_
    rotate_left
    · intro w hSw
      (try dsimp only at hSw)
      go_simp
      try with_reducible rfl
    (try simp only [Act.put]); (try simp only [List.setIfInBounds_toArray]); (repeat (first | simp only [List.set_cons_succ] | simp only [List.set_cons_zero]))
    refine wpAnyH_ready (rs := [11]) (by kernel_rfl) (by simp) ?_
    refine AllReadyH.cons rfl (fun KK hKK => ?_) AllReadyH.nil
    go_simp
    go_at_call 8
    refine (HB3.out _).mono ?_
    rintro e w7 ⟨rfl, C7⟩
    have hS7 : Chg (fun _ => False) W2 w7 := hS5.falls C7
    clear C7
    try go_wp2_with fail
    refine hKK.out _ _ ?_ (fun hHeld => ?_)
    · exact hS7
    clear hKK KK
    (try simp only [Act.put]); (try simp only [List.setIfInBounds_toArray]); (repeat (first | simp only [List.set_cons_succ] | simp only [List.set_cons_zero]))
    refine wpAnyH_ready (rs := [14]) (by kernel_rfl) (by simp) ?_
    refine AllReadyH.cons rfl (fun KK hKK => ?_) AllReadyH.nil
    go_simp
    go_at_call 9
    refine (HB4.out _).mono ?_
    rintro e w9 ⟨rfl, C9⟩
    have hS9 : Chg (fun _ => False) W2 w9 := hS7.falls C9
    clear C9
    try go_wp2_with fail
    refine hKK.out _ _ ?_ (fun hHeld => ?_)
    · exact hS9
    clear hKK KK
    (try simp only [Act.put]); (try simp only [List.setIfInBounds_toArray]); (repeat (first | simp only [List.set_cons_succ] | simp only [List.set_cons_zero]))
    refine wpAnyH_take (i := 15) (v := ?_) rfl (by kernel_rfl) (by kernel_rfl) (by kernel_rfl) (fun _ _ _ h => h) (Or.inl ⟨by rfl, ?_⟩) hHeld ?_
    rotate_left
    · intro w hSw
      (try dsimp only at hSw)
      go_simp
      try with_reducible rfl
    (try simp only [Act.put]); (try simp only [List.setIfInBounds_toArray]); (repeat (first | simp only [List.set_cons_succ] | simp only [List.set_cons_zero]))
    refine wpAnyH_take (i := 16) (v := ?_) rfl (by kernel_rfl) (by kernel_rfl) (by kernel_rfl) (fun _ _ _ h => h) (Or.inl ⟨by rfl, ?_⟩) hHeld ?_
    rotate_left
    · intro w hSw
      (try dsimp only at hSw)
      go_simp
      try with_reducible rfl
    (try simp only [Act.put]); (try simp only [List.setIfInBounds_toArray]); (repeat (first | simp only [List.set_cons_succ] | simp only [List.set_cons_zero]))
    refine wpAnyH_take (i := 17) (v := ?_) rfl (by kernel_rfl) (by kernel_rfl) (by kernel_rfl) (fun _ _ _ h => h) (Or.inl ⟨by rfl, ?_⟩) hHeld ?_
    rotate_left
    · intro w hSw
      (try dsimp only at hSw)
      go_simp
      try with_reducible rfl
    (try simp only [Act.put]); (try simp only [List.setIfInBounds_toArray]); (repeat (first | simp only [List.set_cons_succ] | simp only [List.set_cons_zero]))
    refine wpAnyH_done (by kernel_rfl) ?_ _
    go_simp
    try go_wp2_with fail
    go_meet
    exact ⟨by simp, keepH hS9⟩
  case rest =>
    obtain ⟨rfl, HK⟩ := hcut
    go_wp2_with fail
    go_ret
    exact ⟨by simp, C0.out.falls HK.out⟩
end Go.Proofs.Ytdgockkcflhjoaa
