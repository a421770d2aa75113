/- The bound, by the program and by the document; Constant. -/
import Derived.Test.YtmjjaadliebgoaaPc
namespace Go.Proofs.Ytmjjaadliebgoaa
open Go.RowKit
set_option linter.unusedVariables false

set_option maxRecDepth 100000 in
set_option maxHeartbeats 4000000 in
theorem p_bound (b0 b1 b2 b3 b4 : Int) (n0 n1 n2 n3 n4 : Nat) (W : World) (E0 : Hid (b0.toNat = n0)) (E1 : Hid (b1.toNat = n1)) (E2 : Hid (b2.toNat = n2)) (E3 : Hid (b3.toNat = n3)) (E4 : Hid (b4.toNat = n4)) (h0 : n0 ≤ mxA) (h1 : n1 ≤ mxA) (h2 : n2 ≤ mxA) (h3 : n3 ≤ mxA) (h4 : n4 ≤ mxA) : Calls Try.prog 11 #[.agg (boL b0 b1 b2 b3 b4)] W fun e w => e = .returned (.int .i64 ((bouN n0 n1 n2 n3 n4 : Nat) : Int)) ∧ Chg (fun _ => False) W w := by
  obtain ⟨W1, hW1⟩ : ∃ W1, W1 = W.alloc (.cells (boL b0 b1 b2 b3 b4) 39) := ⟨_, rfl⟩
  have C0 : Hid (Chg (fun _ => False) W W1) := by rw [hW1]; exact (Chg.refl _ _).alloc _
  obtain ⟨bx, hbx⟩ : ∃ bx, bx = W.heap.size := ⟨_, rfl⟩
  have HAt : Hid (∀ w i v, Chg (fun _ => False) W1 w → (boL b0 b1 b2 b3 b4)[i]? = some v → w.cell? ⟨bx, i, none⟩ = some v) := fun w i v h hv => by rw [hbx]; exact box_at hW1 h i v hv
  have y0 := HAt.out _ 0 _ (Chg.refl _ _) rfl
  have y1 := HAt.out _ 1 _ (Chg.refl _ _) rfl
  have y2 := HAt.out _ 2 _ (Chg.refl _ _) rfl
  have y3 := HAt.out _ 3 _ (Chg.refl _ _) rfl
  have y4 := HAt.out _ 4 _ (Chg.refl _ _) rfl
  unfold boL at hW1 ⊢
  go_enter Try.func11, Try.ntmps11
  go_wp2_with fail
  rw [← hW1, ← hbx]
  clear hW1 hbx
  refine (cnt_n b0 n0 _ E0.out).mono ?_
  rintro e w ⟨rfl, rfl⟩
  go_upto_region 2 with fail
  go_cut [2] from 7 to 14 (fun s2 wz => s2 = .int .i64 ((tiN (tiN n0 (plN n0 1)) (attN n1 n2 n3 n4) : Nat) : Int) ∧ Hid (Chg (fun _ => False) w wz))
  case first =>
    have hS0 : Chg (fun _ => False) w w.drew := (Chg.refl _ _).drew
    refine wp_region_held_drew (S := (fun wd => Chg (fun _ => False) w wd)) (by kernel_rfl) (hS0) ?_
    intro hHeld
    refine wpAnyH_take (i := 0) (v := ?_) rfl (by kernel_rfl) (by kernel_rfl) (by kernel_rfl) (fun _ _ _ h => h) (Or.inl ⟨by rfl, ?_⟩) hHeld ?_
    rotate_left
    · intro w hSw
      (try dsimp only at hSw)
      go_simp
      try with_reducible rfl
    (try simp only [Act.put]); (try simp only [List.setIfInBounds_toArray]); (repeat (first | simp only [List.set_cons_succ] | simp only [List.set_cons_zero]))
    refine wpAnyH_take (i := 1) (v := ?_) rfl (by kernel_rfl) (by kernel_rfl) (by kernel_rfl) (fun _ _ _ h => h) (Or.inl ⟨by rfl, ?_⟩) hHeld ?_
    rotate_left
    · intro w hSw
      (try dsimp only at hSw)
      go_simp
      try with_reducible rfl
    (try simp only [Act.put]); (try simp only [List.setIfInBounds_toArray]); (repeat (first | simp only [List.set_cons_succ] | simp only [List.set_cons_zero]))
    refine wpAnyH_take (i := 4) (v := ?_) rfl (by kernel_rfl) (by kernel_rfl) (by kernel_rfl) (fun _ _ _ h => h) (Or.inl ⟨by rfl, ?_⟩) hHeld ?_
    rotate_left
    · intro w hSw
      (try dsimp only at hSw)
      have y0 := HAt.out _ 0 _ hSw rfl
      have y1 := HAt.out _ 1 _ hSw rfl
      have y2 := HAt.out _ 2 _ hSw rfl
      have y3 := HAt.out _ 3 _ hSw rfl
      have y4 := HAt.out _ 4 _ hSw rfl
      go_simp
      try with_reducible rfl
    (try simp only [Act.put]); (try simp only [List.setIfInBounds_toArray]); (repeat (first | simp only [List.set_cons_succ] | simp only [List.set_cons_zero]))
    refine wpAnyH_ready (rs := [2]) (by kernel_rfl) (by simp) ?_
    refine AllReadyH.cons rfl (fun KK hKK => ?_) AllReadyH.nil
    go_simp
    try go_wp2_with fail
    refine hKK.out _ _ ?_ (fun hHeld => ?_)
    · exact hS0.alloc _
    clear hKK KK
    (try simp only [Act.put]); (try simp only [List.setIfInBounds_toArray]); (repeat (first | simp only [List.set_cons_succ] | simp only [List.set_cons_zero]))
    refine wpAnyH_ready (rs := [3]) (by kernel_rfl) (by simp) ?_
    refine AllReadyH.cons rfl (fun KK hKK => ?_) AllReadyH.nil
    go_simp
    go_at_call 21
    refine (new_plus1d _ _ n0 1 _ rfl rfl h0 (n_le (by omega))).mono ?_
    rintro e w3 ⟨rfl, C3⟩
    have hS3 : Chg (fun _ => False) w w3 := C3
    clear C3
    try go_wp2_with fail
    refine hKK.out _ _ ?_ (fun hHeld => ?_)
    · exact hS3
    clear hKK KK
    (try simp only [Act.put]); (try simp only [List.setIfInBounds_toArray]); (repeat (first | simp only [List.set_cons_succ] | simp only [List.set_cons_zero]))
    refine wpAnyH_ready (rs := [5]) (by kernel_rfl) (by simp) ?_
    refine AllReadyH.cons rfl (fun KK hKK => ?_) AllReadyH.nil
    go_simp
    go_at_call 22
    refine (p_attempt b0 b1 b2 b3 b4 n1 n2 n3 n4 _ E1 E2 E3 E4 h1 h2 h3 h4).mono ?_
    rintro e w5 ⟨rfl, C5⟩
    have hS5 : Chg (fun _ => False) w w5 := hS3.falls C5
    clear C5
    try go_wp2_with fail
    refine hKK.out _ _ ?_ (fun hHeld => ?_)
    · exact hS5
    clear hKK KK
    (try simp only [Act.put]); (try simp only [List.setIfInBounds_toArray]); (repeat (first | simp only [List.set_cons_succ] | simp only [List.set_cons_zero]))
    refine wpAnyH_ready (rs := [6]) (by kernel_rfl) (by simp) ?_
    refine AllReadyH.cons rfl (fun KK hKK => ?_) AllReadyH.nil
    go_simp
    try go_wp2_with fail
    refine hKK.out _ _ ?_ (fun hHeld => ?_)
    · exact hS5.alloc _
    clear hKK KK
    (try simp only [Act.put]); (try simp only [List.setIfInBounds_toArray]); (repeat (first | simp only [List.set_cons_succ] | simp only [List.set_cons_zero]))
    refine wpAnyH_ready (rs := [7]) (by kernel_rfl) (by simp) ?_
    refine AllReadyH.cons rfl (fun KK hKK => ?_) AllReadyH.nil
    go_simp
    go_at_call 20
    refine (new_times2 _ _ _ n0 (plN n0 1) (attN n1 n2 n3 n4) _ rfl rfl rfl h0 (plN_le h0 (n_le (by omega))) (attN_le h2 h3)).mono ?_
    rintro e w7 ⟨rfl, C7⟩
    have hS7 : Chg (fun _ => False) w w7 := hS5.falls C7
    clear C7
    try go_wp2_with fail
    refine hKK.out _ _ ?_ (fun hHeld => ?_)
    · exact hS7
    clear hKK KK
    (try simp only [Act.put]); (try simp only [List.setIfInBounds_toArray]); (repeat (first | simp only [List.set_cons_succ] | simp only [List.set_cons_zero]))
    refine wpAnyH_take (i := 8) (v := ?_) rfl (by kernel_rfl) (by kernel_rfl) (by kernel_rfl) (fun _ _ _ h => h) (Or.inl ⟨by rfl, ?_⟩) hHeld ?_
    rotate_left
    · intro w hSw
      (try dsimp only at hSw)
      go_simp
      try with_reducible rfl
    (try simp only [Act.put]); (try simp only [List.setIfInBounds_toArray]); (repeat (first | simp only [List.set_cons_succ] | simp only [List.set_cons_zero]))
    refine wpAnyH_done (by kernel_rfl) ?_ _
    go_simp
    try go_wp2_with fail
    go_meet
    exact ⟨rfl, keepH hS7⟩
  case rest =>
    obtain ⟨rfl, HK⟩ := hcut
    go_wp2_with fail
    go_ret
    exact ⟨by simp [bouN], C0.out.falls HK.out⟩
theorem r_mostN (a' b' : Int) (a b : Nat) (W : World) (ea : a' = (a : Int)) (eb : b' = (b : Int)) : Calls Try.prog 18 #[.int .i64 a', .int .i64 b'] W fun e w => e = .returned (.int .i64 ((moN a b : Nat) : Int)) ∧ w = W := by subst ea eb; exact r_most a b W
end Go.Proofs.Ytmjjaadliebgoaa
