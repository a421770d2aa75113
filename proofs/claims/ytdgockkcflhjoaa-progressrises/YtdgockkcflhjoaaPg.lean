/- ProgressRises, walked. -/
import Derived.Test.YtdgockkcflhjoaaPf
namespace Go.Proofs.Ytdgockkcflhjoaa
open Go.RowKit
set_option linter.unusedVariables false

set_option maxRecDepth 100000 in
set_option maxHeartbeats 8000000 in
theorem rises_walk (b0 b1 b2 b3 b4 m0 m1 m2 m3 m4 : Int) (W : World) (h0 : b0 < 9223372036854775808) (h1 : b1 < 9223372036854775808) (h2 : b2 < 9223372036854775808) (h3 : b3 < 9223372036854775808) (h4 : b4 < 9223372036854775808) (k0 : m0 < 9223372036854775808) (k1 : m1 < 9223372036854775808) (k2 : m2 < 9223372036854775808) (k3 : m3 < 9223372036854775808) (k4 : m4 < 9223372036854775808) : Calls Try.prog 4 #[.agg (boL b0 b1 b2 b3 b4), .agg (boL m0 m1 m2 m3 m4)] W fun e w => e = .returned (.bool true) ∧ Chg (fun _ => False) W w := by
  obtain ⟨g0, hg0⟩ : ∃ g, g = max b0 m0 := ⟨_, rfl⟩
  have HU0 : Hid (∀ w, Calls Try.prog 10 #[.int .i64 b0, .int .i64 m0] w fun e w' => e = .returned (.int .i64 g0) ∧ w' = w) := fun w => by rw [hg0]; exact l_up b0 m0 w
  obtain ⟨g1, hg1⟩ : ∃ g, g = max b1 m1 := ⟨_, rfl⟩
  have HU1 : Hid (∀ w, Calls Try.prog 10 #[.int .i64 b1, .int .i64 m1] w fun e w' => e = .returned (.int .i64 g1) ∧ w' = w) := fun w => by rw [hg1]; exact l_up b1 m1 w
  obtain ⟨g2, hg2⟩ : ∃ g, g = max b2 m2 := ⟨_, rfl⟩
  have HU2 : Hid (∀ w, Calls Try.prog 10 #[.int .i64 b2, .int .i64 m2] w fun e w' => e = .returned (.int .i64 g2) ∧ w' = w) := fun w => by rw [hg2]; exact l_up b2 m2 w
  obtain ⟨g3, hg3⟩ : ∃ g, g = max b3 m3 := ⟨_, rfl⟩
  have HU3 : Hid (∀ w, Calls Try.prog 10 #[.int .i64 b3, .int .i64 m3] w fun e w' => e = .returned (.int .i64 g3) ∧ w' = w) := fun w => by rw [hg3]; exact l_up b3 m3 w
  obtain ⟨g4, hg4⟩ : ∃ g, g = max b4 m4 := ⟨_, rfl⟩
  have HU4 : Hid (∀ w, Calls Try.prog 10 #[.int .i64 b4, .int .i64 m4] w fun e w' => e = .returned (.int .i64 g4) ∧ w' = w) := fun w => by rw [hg4]; exact l_up b4 m4 w
  obtain ⟨u, hu⟩ : ∃ u, u = bouN b0.toNat b1.toNat b2.toNat b3.toNat b4.toNat := ⟨_, rfl⟩
  obtain ⟨v, hv⟩ : ∃ v, v = bouN g0.toNat g1.toNat g2.toNat g3.toNat g4.toNat := ⟨_, rfl⟩
  have huv : u ≤ v := by rw [hu, hv]; exact bouN_mono (by omega) (by omega) (by omega) (by omega) (by omega) (toN_le (by omega)) (toN_le (by omega)) (toN_le (by omega))
  have HB1 : Hid (∀ w, Calls Try.prog 6 #[.agg (boL b0 b1 b2 b3 b4)] w fun e w' => e = .returned (.int .i64 (u : Int)) ∧ Chg (fun _ => False) w w') := fun w => by rw [hu]; exact p_bound b0 b1 b2 b3 b4 _ _ _ _ _ w rfl rfl rfl rfl rfl (toN_le h0) (toN_le h1) (toN_le h2) (toN_le h3) (toN_le h4)
  have HB2 : Hid (∀ w, Calls Try.prog 6 #[.agg (boL g0 g1 g2 g3 g4)] w fun e w' => e = .returned (.int .i64 (v : Int)) ∧ Chg (fun _ => False) w w') := fun w => by rw [hv]; exact p_bound g0 g1 g2 g3 g4 _ _ _ _ _ w rfl rfl rfl rfl rfl (toN_le (by omega)) (toN_le (by omega)) (toN_le (by omega)) (toN_le (by omega)) (toN_le (by omega))
  have tuv : (u : Int) ≤ (v : Int) := by omega
  have tu0 : (0 : Int) ≤ (u : Int) := by omega
  clear hu hv h0 h1 h2 h3 h4 k0 k1 k2 k3 k4 hg0 hg1 hg2 hg3 hg4 huv
  obtain ⟨W2, hW2⟩ : ∃ W2, W2 = (W.alloc (.cells (boL b0 b1 b2 b3 b4) 23)).alloc (.cells (boL m0 m1 m2 m3 m4) 23) := ⟨_, rfl⟩
  have C0 : Hid (Chg (fun _ => False) W W2) := by rw [hW2]; exact ((Chg.refl _ _).alloc _).alloc _
  have HAt : Hid (∀ w i v, Chg (fun _ => False) W2 w → (boL b0 b1 b2 b3 b4)[i]? = some v → w.cell? ⟨W.heap.size, i, none⟩ = some v) := fun w i v h hv => box_at rfl (((Chg.refl _ _).alloc (.cells (boL m0 m1 m2 m3 m4) 23)).falls (by rw [← hW2]; exact h)) i v hv
  have HAm : Hid (∀ w i v, Chg (fun _ => False) W2 w → (boL m0 m1 m2 m3 m4)[i]? = some v → w.cell? ⟨W.heap.size + 1, i, none⟩ = some v) := fun w i v h hv => by
    have e : W2.heap[W.heap.size + 1]? = some (.cells (boL m0 m1 m2 m3 m4) 23 (0, 0)) := by
      have e := heap_alloc_new (W.alloc (.cells (boL b0 b1 b2 b3 b4) 23)) (.cells (boL m0 m1 m2 m3 m4) 23)
      rw [show (W.alloc (.cells (boL b0 b1 b2 b3 b4) 23)).heap.size = W.heap.size + 1 by simp] at e
      rw [hW2]; exact e
    rw [cell_of ((h.block _ (lt_of e) (fun x => x)).trans e) i]; exact hv
  have HNew : Hid (Chg (fun _ => False) W2 (W2.alloc (.cells (boL g0 g1 g2 g3 g4) 23)).drew ∧ (W2.alloc (.cells (boL g0 g1 g2 g3 g4) 23)).drew.heap[W2.heap.size]? = some (.cells (boL g0 g1 g2 g3 g4) 23 (0, 0))) := ⟨((Chg.refl _ _).alloc _).drew, heap_alloc_new _ _⟩
  unfold boL at hW2
  unfold boL
  go_enter Try.func4, Try.ntmps4
  go_upto_region 1 with fail
  rw [← hW2]
  clear hW2
  go_cut [5] from 6 to 31 (fun s5 wz => ∃ q : Nat, s5 = .pointer (some ⟨q, 0, none⟩) ∧ wz.heap[q]? = some (.cells (boL g0 g1 g2 g3 g4) 23 (0, 0)) ∧ Hid (Chg (fun _ => False) W2 wz))
  case first =>
    have hS : Chg (fun _ => False) W2 W2.drew := (Chg.refl _ _).drew
    refine wp_region_held_drew (S := (fun wd => Chg (fun _ => False) W2 wd)) (by kernel_rfl) (hS) ?_
    intro hHeld
    refine wpAnyH_take (i := 0) (v := ?_) rfl (by kernel_rfl) (by kernel_rfl) (by kernel_rfl) (fun _ _ _ h => h) (Or.inl ⟨by rfl, ?_⟩) hHeld ?_
    rotate_left
    · intro w hSw
      (try dsimp only at hSw)
      go_simp
      try with_reducible rfl
    (try simp only [Act.put]); (try simp only [List.setIfInBounds_toArray]); (repeat (first | simp only [List.set_cons_succ] | simp only [List.set_cons_zero]))
    refine wpAnyH_take (i := 1) (v := ?_) rfl (by kernel_rfl) (by kernel_rfl) (by kernel_rfl) (fun _ _ _ h => h) (Or.inl ⟨by rfl, ?_⟩) hHeld ?_
    rotate_left
    · intro w hSw
      (try dsimp only at hSw)
      have y := HAt.out _ 0 _ hSw rfl
      go_simp
      try with_reducible rfl
    (try simp only [Act.put]); (try simp only [List.setIfInBounds_toArray]); (repeat (first | simp only [List.set_cons_succ] | simp only [List.set_cons_zero]))
    refine wpAnyH_take (i := 2) (v := ?_) rfl (by kernel_rfl) (by kernel_rfl) (by kernel_rfl) (fun _ _ _ h => h) (Or.inl ⟨by rfl, ?_⟩) hHeld ?_
    rotate_left
    · intro w hSw
      (try dsimp only at hSw)
      go_simp
      try with_reducible rfl
    (try simp only [Act.put]); (try simp only [List.setIfInBounds_toArray]); (repeat (first | simp only [List.set_cons_succ] | simp only [List.set_cons_zero]))
    refine wpAnyH_take (i := 3) (v := ?_) rfl (by kernel_rfl) (by kernel_rfl) (by kernel_rfl) (fun _ _ _ h => h) (Or.inl ⟨by rfl, ?_⟩) hHeld ?_
    rotate_left
    · intro w hSw
      (try dsimp only at hSw)
      have y := HAm.out _ 0 _ hSw rfl
      go_simp
      try with_reducible rfl
    (try simp only [Act.put]); (try simp only [List.setIfInBounds_toArray]); (repeat (first | simp only [List.set_cons_succ] | simp only [List.set_cons_zero]))
    refine wpAnyH_take (i := 5) (v := ?_) rfl (by kernel_rfl) (by kernel_rfl) (by kernel_rfl) (fun _ _ _ h => h) (Or.inl ⟨by rfl, ?_⟩) hHeld ?_
    rotate_left
    · intro w hSw
      (try dsimp only at hSw)
      go_simp
      try with_reducible rfl
    (try simp only [Act.put]); (try simp only [List.setIfInBounds_toArray]); (repeat (first | simp only [List.set_cons_succ] | simp only [List.set_cons_zero]))
    refine wpAnyH_take (i := 6) (v := ?_) rfl (by kernel_rfl) (by kernel_rfl) (by kernel_rfl) (fun _ _ _ h => h) (Or.inl ⟨by rfl, ?_⟩) hHeld ?_
    rotate_left
    · intro w hSw
      (try dsimp only at hSw)
      have y := HAt.out _ 1 _ hSw rfl
      go_simp
      try with_reducible rfl
    (try simp only [Act.put]); (try simp only [List.setIfInBounds_toArray]); (repeat (first | simp only [List.set_cons_succ] | simp only [List.set_cons_zero]))
    refine wpAnyH_take (i := 7) (v := ?_) rfl (by kernel_rfl) (by kernel_rfl) (by kernel_rfl) (fun _ _ _ h => h) (Or.inl ⟨by rfl, ?_⟩) hHeld ?_
    rotate_left
    · intro w hSw
      (try dsimp only at hSw)
      go_simp
      try with_reducible rfl
    (try simp only [Act.put]); (try simp only [List.setIfInBounds_toArray]); (repeat (first | simp only [List.set_cons_succ] | simp only [List.set_cons_zero]))
    refine wpAnyH_take (i := 8) (v := ?_) rfl (by kernel_rfl) (by kernel_rfl) (by kernel_rfl) (fun _ _ _ h => h) (Or.inl ⟨by rfl, ?_⟩) hHeld ?_
    rotate_left
    · intro w hSw
      (try dsimp only at hSw)
      have y := HAm.out _ 1 _ hSw rfl
      go_simp
      try with_reducible rfl
    (try simp only [Act.put]); (try simp only [List.setIfInBounds_toArray]); (repeat (first | simp only [List.set_cons_succ] | simp only [List.set_cons_zero]))
    refine wpAnyH_take (i := 10) (v := ?_) rfl (by kernel_rfl) (by kernel_rfl) (by kernel_rfl) (fun _ _ _ h => h) (Or.inl ⟨by rfl, ?_⟩) hHeld ?_
    rotate_left
    · intro w hSw
      (try dsimp only at hSw)
      go_simp
      try with_reducible rfl
    (try simp only [Act.put]); (try simp only [List.setIfInBounds_toArray]); (repeat (first | simp only [List.set_cons_succ] | simp only [List.set_cons_zero]))
    refine wpAnyH_take (i := 11) (v := ?_) rfl (by kernel_rfl) (by kernel_rfl) (by kernel_rfl) (fun _ _ _ h => h) (Or.inl ⟨by rfl, ?_⟩) hHeld ?_
    rotate_left
    · intro w hSw
      (try dsimp only at hSw)
      have y := HAt.out _ 2 _ hSw rfl
      go_simp
      try with_reducible rfl
    (try simp only [Act.put]); (try simp only [List.setIfInBounds_toArray]); (repeat (first | simp only [List.set_cons_succ] | simp only [List.set_cons_zero]))
    refine wpAnyH_take (i := 12) (v := ?_) rfl (by kernel_rfl) (by kernel_rfl) (by kernel_rfl) (fun _ _ _ h => h) (Or.inl ⟨by rfl, ?_⟩) hHeld ?_
    rotate_left
    · intro w hSw
      (try dsimp only at hSw)
      go_simp
      try with_reducible rfl
    (try simp only [Act.put]); (try simp only [List.setIfInBounds_toArray]); (repeat (first | simp only [List.set_cons_succ] | simp only [List.set_cons_zero]))
    refine wpAnyH_take (i := 13) (v := ?_) rfl (by kernel_rfl) (by kernel_rfl) (by kernel_rfl) (fun _ _ _ h => h) (Or.inl ⟨by rfl, ?_⟩) hHeld ?_
    rotate_left
    · intro w hSw
      (try dsimp only at hSw)
      have y := HAm.out _ 2 _ hSw rfl
      go_simp
      try with_reducible rfl
    (try simp only [Act.put]); (try simp only [List.setIfInBounds_toArray]); (repeat (first | simp only [List.set_cons_succ] | simp only [List.set_cons_zero]))
    refine wpAnyH_take (i := 15) (v := ?_) rfl (by kernel_rfl) (by kernel_rfl) (by kernel_rfl) (fun _ _ _ h => h) (Or.inl ⟨by rfl, ?_⟩) hHeld ?_
    rotate_left
    · intro w hSw
      (try dsimp only at hSw)
      go_simp
      try with_reducible rfl
    (try simp only [Act.put]); (try simp only [List.setIfInBounds_toArray]); (repeat (first | simp only [List.set_cons_succ] | simp only [List.set_cons_zero]))
    refine wpAnyH_take (i := 16) (v := ?_) rfl (by kernel_rfl) (by kernel_rfl) (by kernel_rfl) (fun _ _ _ h => h) (Or.inl ⟨by rfl, ?_⟩) hHeld ?_
    rotate_left
    · intro w hSw
      (try dsimp only at hSw)
      have y := HAt.out _ 3 _ hSw rfl
      go_simp
      try with_reducible rfl
    (try simp only [Act.put]); (try simp only [List.setIfInBounds_toArray]); (repeat (first | simp only [List.set_cons_succ] | simp only [List.set_cons_zero]))
    refine wpAnyH_take (i := 17) (v := ?_) rfl (by kernel_rfl) (by kernel_rfl) (by kernel_rfl) (fun _ _ _ h => h) (Or.inl ⟨by rfl, ?_⟩) hHeld ?_
    rotate_left
    · intro w hSw
      (try dsimp only at hSw)
      go_simp
      try with_reducible rfl
    (try simp only [Act.put]); (try simp only [List.setIfInBounds_toArray]); (repeat (first | simp only [List.set_cons_succ] | simp only [List.set_cons_zero]))
    refine wpAnyH_take (i := 18) (v := ?_) rfl (by kernel_rfl) (by kernel_rfl) (by kernel_rfl) (fun _ _ _ h => h) (Or.inl ⟨by rfl, ?_⟩) hHeld ?_
    rotate_left
    · intro w hSw
      (try dsimp only at hSw)
      have y := HAm.out _ 3 _ hSw rfl
      go_simp
      try with_reducible rfl
    (try simp only [Act.put]); (try simp only [List.setIfInBounds_toArray]); (repeat (first | simp only [List.set_cons_succ] | simp only [List.set_cons_zero]))
    refine wpAnyH_take (i := 20) (v := ?_) rfl (by kernel_rfl) (by kernel_rfl) (by kernel_rfl) (fun _ _ _ h => h) (Or.inl ⟨by rfl, ?_⟩) hHeld ?_
    rotate_left
    · intro w hSw
      (try dsimp only at hSw)
      go_simp
      try with_reducible rfl
    (try simp only [Act.put]); (try simp only [List.setIfInBounds_toArray]); (repeat (first | simp only [List.set_cons_succ] | simp only [List.set_cons_zero]))
    refine wpAnyH_take (i := 21) (v := ?_) rfl (by kernel_rfl) (by kernel_rfl) (by kernel_rfl) (fun _ _ _ h => h) (Or.inl ⟨by rfl, ?_⟩) hHeld ?_
    rotate_left
    · intro w hSw
      (try dsimp only at hSw)
      have y := HAt.out _ 4 _ hSw rfl
      go_simp
      try with_reducible rfl
    (try simp only [Act.put]); (try simp only [List.setIfInBounds_toArray]); (repeat (first | simp only [List.set_cons_succ] | simp only [List.set_cons_zero]))
    refine wpAnyH_take (i := 22) (v := ?_) rfl (by kernel_rfl) (by kernel_rfl) (by kernel_rfl) (fun _ _ _ h => h) (Or.inl ⟨by rfl, ?_⟩) hHeld ?_
    rotate_left
    · intro w hSw
      (try dsimp only at hSw)
      go_simp
      try with_reducible rfl
    (try simp only [Act.put]); (try simp only [List.setIfInBounds_toArray]); (repeat (first | simp only [List.set_cons_succ] | simp only [List.set_cons_zero]))
    refine wpAnyH_take (i := 23) (v := ?_) rfl (by kernel_rfl) (by kernel_rfl) (by kernel_rfl) (fun _ _ _ h => h) (Or.inl ⟨by rfl, ?_⟩) hHeld ?_
    rotate_left
    · intro w hSw
      (try dsimp only at hSw)
      have y := HAm.out _ 4 _ hSw rfl
      go_simp
      try with_reducible rfl
    (try simp only [Act.put]); (try simp only [List.setIfInBounds_toArray]); (repeat (first | simp only [List.set_cons_succ] | simp only [List.set_cons_zero]))
    refine wpAnyH_ready (rs := [4, 26]) (by kernel_rfl) (by simp) ?_
    refine AllReadyH.cons rfl (fun KK hKK => ?_) (AllReadyH.cons rfl (fun KK hKK => ?_) AllReadyH.nil)
    · skip
      go_simp
      go_at_call 10
      refine (HU0.out _).mono ?_
      rintro e w1 ⟨rfl, rfl⟩
      try go_wp2_with fail
      refine hKK.out _ _ ?_ (fun hHeld => ?_)
      · exact hS
      clear hKK KK
      (try simp only [Act.put]); (try simp only [List.setIfInBounds_toArray]); (repeat (first | simp only [List.set_cons_succ] | simp only [List.set_cons_zero]))
      refine wpAnyH_ready (rs := [9, 26]) (by kernel_rfl) (by simp) ?_
      refine AllReadyH.cons rfl (fun KK hKK => ?_) (AllReadyH.cons rfl (fun KK hKK => ?_) AllReadyH.nil)
      · skip
        go_simp
        go_at_call 10
        refine (HU1.out _).mono ?_
        rintro e w1 ⟨rfl, rfl⟩
        try go_wp2_with fail
        refine hKK.out _ _ ?_ (fun hHeld => ?_)
        · exact hS
        clear hKK KK
        (try simp only [Act.put]); (try simp only [List.setIfInBounds_toArray]); (repeat (first | simp only [List.set_cons_succ] | simp only [List.set_cons_zero]))
        refine wpAnyH_ready (rs := [14, 26]) (by kernel_rfl) (by simp) ?_
        refine AllReadyH.cons rfl (fun KK hKK => ?_) (AllReadyH.cons rfl (fun KK hKK => ?_) AllReadyH.nil)
        · skip
          go_simp
          go_at_call 10
          refine (HU2.out _).mono ?_
          rintro e w1 ⟨rfl, rfl⟩
          try go_wp2_with fail
          refine hKK.out _ _ ?_ (fun hHeld => ?_)
          · exact hS
          clear hKK KK
          (try simp only [Act.put]); (try simp only [List.setIfInBounds_toArray]); (repeat (first | simp only [List.set_cons_succ] | simp only [List.set_cons_zero]))
          refine wpAnyH_ready (rs := [19, 26]) (by kernel_rfl) (by simp) ?_
          refine AllReadyH.cons rfl (fun KK hKK => ?_) (AllReadyH.cons rfl (fun KK hKK => ?_) AllReadyH.nil)
          · skip
            go_simp
            go_at_call 10
            refine (HU3.out _).mono ?_
            rintro e w1 ⟨rfl, rfl⟩
            try go_wp2_with fail
            refine hKK.out _ _ ?_ (fun hHeld => ?_)
            · exact hS
            clear hKK KK
            (try simp only [Act.put]); (try simp only [List.setIfInBounds_toArray]); (repeat (first | simp only [List.set_cons_succ] | simp only [List.set_cons_zero]))
            refine wpAnyH_ready (rs := [24, 26]) (by kernel_rfl) (by simp) ?_
            refine AllReadyH.cons rfl (fun KK hKK => ?_) (AllReadyH.cons rfl (fun KK hKK => ?_) AllReadyH.nil)
            · skip
              go_simp
              go_at_call 10
              refine (HU4.out _).mono ?_
              rintro e w1 ⟨rfl, rfl⟩
              try go_wp2_with fail
              refine hKK.out _ _ ?_ (fun hHeld => ?_)
              · exact hS
              clear hKK KK
              (try simp only [Act.put]); (try simp only [List.setIfInBounds_toArray]); (repeat (first | simp only [List.set_cons_succ] | simp only [List.set_cons_zero]))
              refine wpAnyH_take (i := 25) (v := ?_) rfl (by kernel_rfl) (by kernel_rfl) (by kernel_rfl) (fun _ _ _ h => h) (Or.inl ⟨by rfl, ?_⟩) hHeld ?_
              rotate_left
              · intro w hSw
                (try dsimp only at hSw)
                go_simp
                try with_reducible rfl
              (try simp only [Act.put]); (try simp only [List.setIfInBounds_toArray]); (repeat (first | simp only [List.set_cons_succ] | simp only [List.set_cons_zero]))
              refine wpAnyH_ready (rs := [26]) (by kernel_rfl) (by simp) ?_
              refine AllReadyH.cons rfl (fun KK hKK => ?_) AllReadyH.nil
              go_simp
              try go_wp2_with fail
              refine hKK.out _ _ ?_ (fun hHeld => ?_)
              · exact hS.alloc _
              clear hKK KK
              (try simp only [Act.put]); (try simp only [List.setIfInBounds_toArray]); (repeat (first | simp only [List.set_cons_succ] | simp only [List.set_cons_zero]))
              have hS := hS.alloc (.cells #[.int .i64 0, .int .i64 0, .int .i64 0, .int .i64 0, .int .i64 0] 23)
              refine wpAnyH_ready (rs := [27]) (by kernel_rfl) (by simp) ?_
              refine AllReadyH.cons rfl (fun KK hKK => ?_) AllReadyH.nil
              go_simp
              try go_wp2_with fail
              refine hKK.out _ _ ?_ (fun hHeld => ?_)
              · exact HNew.out.1
              clear hKK KK
              (try simp only [Act.put]); (try simp only [List.setIfInBounds_toArray]); (repeat (first | simp only [List.set_cons_succ] | simp only [List.set_cons_zero]))
              refine wpAnyH_done (by kernel_rfl) ?_ _
              go_simp
              try go_wp2_with fail
              go_meet
              exact ⟨_, rfl, HNew.out.2, keepH HNew.out.1⟩
            · skip
              go_simp
              try go_wp2_with fail
              refine hKK.out _ _ ?_ (fun hHeld => ?_)
              · exact hS.alloc _
              clear hKK KK
              (try simp only [Act.put]); (try simp only [List.setIfInBounds_toArray]); (repeat (first | simp only [List.set_cons_succ] | simp only [List.set_cons_zero]))
              have hS := hS.alloc (.cells #[.int .i64 0, .int .i64 0, .int .i64 0, .int .i64 0, .int .i64 0] 23)
              refine wpAnyH_ready (rs := [24]) (by kernel_rfl) (by simp) ?_
              refine AllReadyH.cons rfl (fun KK hKK => ?_) AllReadyH.nil
              go_simp
              go_at_call 10
              refine (HU4.out _).mono ?_
              rintro e w1 ⟨rfl, rfl⟩
              try go_wp2_with fail
              refine hKK.out _ _ ?_ (fun hHeld => ?_)
              · exact hS
              clear hKK KK
              (try simp only [Act.put]); (try simp only [List.setIfInBounds_toArray]); (repeat (first | simp only [List.set_cons_succ] | simp only [List.set_cons_zero]))
              refine wpAnyH_take (i := 25) (v := ?_) rfl (by kernel_rfl) (by kernel_rfl) (by kernel_rfl) (fun _ _ _ h => h) (Or.inl ⟨by rfl, ?_⟩) hHeld ?_
              rotate_left
              · intro w hSw
                (try dsimp only at hSw)
                go_simp
                try with_reducible rfl
              (try simp only [Act.put]); (try simp only [List.setIfInBounds_toArray]); (repeat (first | simp only [List.set_cons_succ] | simp only [List.set_cons_zero]))
              refine wpAnyH_ready (rs := [27]) (by kernel_rfl) (by simp) ?_
              refine AllReadyH.cons rfl (fun KK hKK => ?_) AllReadyH.nil
              go_simp
              try go_wp2_with fail
              refine hKK.out _ _ ?_ (fun hHeld => ?_)
              · exact HNew.out.1
              clear hKK KK
              (try simp only [Act.put]); (try simp only [List.setIfInBounds_toArray]); (repeat (first | simp only [List.set_cons_succ] | simp only [List.set_cons_zero]))
              refine wpAnyH_done (by kernel_rfl) ?_ _
              go_simp
              try go_wp2_with fail
              go_meet
              exact ⟨_, rfl, HNew.out.2, keepH HNew.out.1⟩
          · skip
            go_simp
            try go_wp2_with fail
            refine hKK.out _ _ ?_ (fun hHeld => ?_)
            · exact hS.alloc _
            clear hKK KK
            (try simp only [Act.put]); (try simp only [List.setIfInBounds_toArray]); (repeat (first | simp only [List.set_cons_succ] | simp only [List.set_cons_zero]))
            have hS := hS.alloc (.cells #[.int .i64 0, .int .i64 0, .int .i64 0, .int .i64 0, .int .i64 0] 23)
            refine wpAnyH_ready (rs := [19]) (by kernel_rfl) (by simp) ?_
            refine AllReadyH.cons rfl (fun KK hKK => ?_) AllReadyH.nil
            go_simp
            go_at_call 10
            refine (HU3.out _).mono ?_
            rintro e w1 ⟨rfl, rfl⟩
            try go_wp2_with fail
            refine hKK.out _ _ ?_ (fun hHeld => ?_)
            · exact hS
            clear hKK KK
            (try simp only [Act.put]); (try simp only [List.setIfInBounds_toArray]); (repeat (first | simp only [List.set_cons_succ] | simp only [List.set_cons_zero]))
            refine wpAnyH_ready (rs := [24]) (by kernel_rfl) (by simp) ?_
            refine AllReadyH.cons rfl (fun KK hKK => ?_) AllReadyH.nil
            go_simp
            go_at_call 10
            refine (HU4.out _).mono ?_
            rintro e w1 ⟨rfl, rfl⟩
            try go_wp2_with fail
            refine hKK.out _ _ ?_ (fun hHeld => ?_)
            · exact hS
            clear hKK KK
            (try simp only [Act.put]); (try simp only [List.setIfInBounds_toArray]); (repeat (first | simp only [List.set_cons_succ] | simp only [List.set_cons_zero]))
            refine wpAnyH_take (i := 25) (v := ?_) rfl (by kernel_rfl) (by kernel_rfl) (by kernel_rfl) (fun _ _ _ h => h) (Or.inl ⟨by rfl, ?_⟩) hHeld ?_
            rotate_left
            · intro w hSw
              (try dsimp only at hSw)
              go_simp
              try with_reducible rfl
            (try simp only [Act.put]); (try simp only [List.setIfInBounds_toArray]); (repeat (first | simp only [List.set_cons_succ] | simp only [List.set_cons_zero]))
            refine wpAnyH_ready (rs := [27]) (by kernel_rfl) (by simp) ?_
            refine AllReadyH.cons rfl (fun KK hKK => ?_) AllReadyH.nil
            go_simp
            try go_wp2_with fail
            refine hKK.out _ _ ?_ (fun hHeld => ?_)
            · exact HNew.out.1
            clear hKK KK
            (try simp only [Act.put]); (try simp only [List.setIfInBounds_toArray]); (repeat (first | simp only [List.set_cons_succ] | simp only [List.set_cons_zero]))
            refine wpAnyH_done (by kernel_rfl) ?_ _
            go_simp
            try go_wp2_with fail
            go_meet
            exact ⟨_, rfl, HNew.out.2, keepH HNew.out.1⟩
        · skip
          go_simp
          try go_wp2_with fail
          refine hKK.out _ _ ?_ (fun hHeld => ?_)
          · exact hS.alloc _
          clear hKK KK
          (try simp only [Act.put]); (try simp only [List.setIfInBounds_toArray]); (repeat (first | simp only [List.set_cons_succ] | simp only [List.set_cons_zero]))
          have hS := hS.alloc (.cells #[.int .i64 0, .int .i64 0, .int .i64 0, .int .i64 0, .int .i64 0] 23)
          refine wpAnyH_ready (rs := [14]) (by kernel_rfl) (by simp) ?_
          refine AllReadyH.cons rfl (fun KK hKK => ?_) AllReadyH.nil
          go_simp
          go_at_call 10
          refine (HU2.out _).mono ?_
          rintro e w1 ⟨rfl, rfl⟩
          try go_wp2_with fail
          refine hKK.out _ _ ?_ (fun hHeld => ?_)
          · exact hS
          clear hKK KK
          (try simp only [Act.put]); (try simp only [List.setIfInBounds_toArray]); (repeat (first | simp only [List.set_cons_succ] | simp only [List.set_cons_zero]))
          refine wpAnyH_ready (rs := [19]) (by kernel_rfl) (by simp) ?_
          refine AllReadyH.cons rfl (fun KK hKK => ?_) AllReadyH.nil
          go_simp
          go_at_call 10
          refine (HU3.out _).mono ?_
          rintro e w1 ⟨rfl, rfl⟩
          try go_wp2_with fail
          refine hKK.out _ _ ?_ (fun hHeld => ?_)
          · exact hS
          clear hKK KK
          (try simp only [Act.put]); (try simp only [List.setIfInBounds_toArray]); (repeat (first | simp only [List.set_cons_succ] | simp only [List.set_cons_zero]))
          refine wpAnyH_ready (rs := [24]) (by kernel_rfl) (by simp) ?_
          refine AllReadyH.cons rfl (fun KK hKK => ?_) AllReadyH.nil
          go_simp
          go_at_call 10
          refine (HU4.out _).mono ?_
          rintro e w1 ⟨rfl, rfl⟩
          try go_wp2_with fail
          refine hKK.out _ _ ?_ (fun hHeld => ?_)
          · exact hS
          clear hKK KK
          (try simp only [Act.put]); (try simp only [List.setIfInBounds_toArray]); (repeat (first | simp only [List.set_cons_succ] | simp only [List.set_cons_zero]))
          refine wpAnyH_take (i := 25) (v := ?_) rfl (by kernel_rfl) (by kernel_rfl) (by kernel_rfl) (fun _ _ _ h => h) (Or.inl ⟨by rfl, ?_⟩) hHeld ?_
          rotate_left
          · intro w hSw
            (try dsimp only at hSw)
            go_simp
            try with_reducible rfl
          (try simp only [Act.put]); (try simp only [List.setIfInBounds_toArray]); (repeat (first | simp only [List.set_cons_succ] | simp only [List.set_cons_zero]))
          refine wpAnyH_ready (rs := [27]) (by kernel_rfl) (by simp) ?_
          refine AllReadyH.cons rfl (fun KK hKK => ?_) AllReadyH.nil
          go_simp
          try go_wp2_with fail
          refine hKK.out _ _ ?_ (fun hHeld => ?_)
          · exact HNew.out.1
          clear hKK KK
          (try simp only [Act.put]); (try simp only [List.setIfInBounds_toArray]); (repeat (first | simp only [List.set_cons_succ] | simp only [List.set_cons_zero]))
          refine wpAnyH_done (by kernel_rfl) ?_ _
          go_simp
          try go_wp2_with fail
          go_meet
          exact ⟨_, rfl, HNew.out.2, keepH HNew.out.1⟩
      · skip
        go_simp
        try go_wp2_with fail
        refine hKK.out _ _ ?_ (fun hHeld => ?_)
        · exact hS.alloc _
        clear hKK KK
        (try simp only [Act.put]); (try simp only [List.setIfInBounds_toArray]); (repeat (first | simp only [List.set_cons_succ] | simp only [List.set_cons_zero]))
        have hS := hS.alloc (.cells #[.int .i64 0, .int .i64 0, .int .i64 0, .int .i64 0, .int .i64 0] 23)
        refine wpAnyH_ready (rs := [9]) (by kernel_rfl) (by simp) ?_
        refine AllReadyH.cons rfl (fun KK hKK => ?_) AllReadyH.nil
        go_simp
        go_at_call 10
        refine (HU1.out _).mono ?_
        rintro e w1 ⟨rfl, rfl⟩
        try go_wp2_with fail
        refine hKK.out _ _ ?_ (fun hHeld => ?_)
        · exact hS
        clear hKK KK
        (try simp only [Act.put]); (try simp only [List.setIfInBounds_toArray]); (repeat (first | simp only [List.set_cons_succ] | simp only [List.set_cons_zero]))
        refine wpAnyH_ready (rs := [14]) (by kernel_rfl) (by simp) ?_
        refine AllReadyH.cons rfl (fun KK hKK => ?_) AllReadyH.nil
        go_simp
        go_at_call 10
        refine (HU2.out _).mono ?_
        rintro e w1 ⟨rfl, rfl⟩
        try go_wp2_with fail
        refine hKK.out _ _ ?_ (fun hHeld => ?_)
        · exact hS
        clear hKK KK
        (try simp only [Act.put]); (try simp only [List.setIfInBounds_toArray]); (repeat (first | simp only [List.set_cons_succ] | simp only [List.set_cons_zero]))
        refine wpAnyH_ready (rs := [19]) (by kernel_rfl) (by simp) ?_
        refine AllReadyH.cons rfl (fun KK hKK => ?_) AllReadyH.nil
        go_simp
        go_at_call 10
        refine (HU3.out _).mono ?_
        rintro e w1 ⟨rfl, rfl⟩
        try go_wp2_with fail
        refine hKK.out _ _ ?_ (fun hHeld => ?_)
        · exact hS
        clear hKK KK
        (try simp only [Act.put]); (try simp only [List.setIfInBounds_toArray]); (repeat (first | simp only [List.set_cons_succ] | simp only [List.set_cons_zero]))
        refine wpAnyH_ready (rs := [24]) (by kernel_rfl) (by simp) ?_
        refine AllReadyH.cons rfl (fun KK hKK => ?_) AllReadyH.nil
        go_simp
        go_at_call 10
        refine (HU4.out _).mono ?_
        rintro e w1 ⟨rfl, rfl⟩
        try go_wp2_with fail
        refine hKK.out _ _ ?_ (fun hHeld => ?_)
        · exact hS
        clear hKK KK
        (try simp only [Act.put]); (try simp only [List.setIfInBounds_toArray]); (repeat (first | simp only [List.set_cons_succ] | simp only [List.set_cons_zero]))
        refine wpAnyH_take (i := 25) (v := ?_) rfl (by kernel_rfl) (by kernel_rfl) (by kernel_rfl) (fun _ _ _ h => h) (Or.inl ⟨by rfl, ?_⟩) hHeld ?_
        rotate_left
        · intro w hSw
          (try dsimp only at hSw)
          go_simp
          try with_reducible rfl
        (try simp only [Act.put]); (try simp only [List.setIfInBounds_toArray]); (repeat (first | simp only [List.set_cons_succ] | simp only [List.set_cons_zero]))
        refine wpAnyH_ready (rs := [27]) (by kernel_rfl) (by simp) ?_
        refine AllReadyH.cons rfl (fun KK hKK => ?_) AllReadyH.nil
        go_simp
        try go_wp2_with fail
        refine hKK.out _ _ ?_ (fun hHeld => ?_)
        · exact HNew.out.1
        clear hKK KK
        (try simp only [Act.put]); (try simp only [List.setIfInBounds_toArray]); (repeat (first | simp only [List.set_cons_succ] | simp only [List.set_cons_zero]))
        refine wpAnyH_done (by kernel_rfl) ?_ _
        go_simp
        try go_wp2_with fail
        go_meet
        exact ⟨_, rfl, HNew.out.2, keepH HNew.out.1⟩
    · skip
      go_simp
      try go_wp2_with fail
      refine hKK.out _ _ ?_ (fun hHeld => ?_)
      · exact hS.alloc _
      clear hKK KK
      (try simp only [Act.put]); (try simp only [List.setIfInBounds_toArray]); (repeat (first | simp only [List.set_cons_succ] | simp only [List.set_cons_zero]))
      have hS := hS.alloc (.cells #[.int .i64 0, .int .i64 0, .int .i64 0, .int .i64 0, .int .i64 0] 23)
      refine wpAnyH_ready (rs := [4]) (by kernel_rfl) (by simp) ?_
      refine AllReadyH.cons rfl (fun KK hKK => ?_) AllReadyH.nil
      go_simp
      go_at_call 10
      refine (HU0.out _).mono ?_
      rintro e w1 ⟨rfl, rfl⟩
      try go_wp2_with fail
      refine hKK.out _ _ ?_ (fun hHeld => ?_)
      · exact hS
      clear hKK KK
      (try simp only [Act.put]); (try simp only [List.setIfInBounds_toArray]); (repeat (first | simp only [List.set_cons_succ] | simp only [List.set_cons_zero]))
      refine wpAnyH_ready (rs := [9]) (by kernel_rfl) (by simp) ?_
      refine AllReadyH.cons rfl (fun KK hKK => ?_) AllReadyH.nil
      go_simp
      go_at_call 10
      refine (HU1.out _).mono ?_
      rintro e w1 ⟨rfl, rfl⟩
      try go_wp2_with fail
      refine hKK.out _ _ ?_ (fun hHeld => ?_)
      · exact hS
      clear hKK KK
      (try simp only [Act.put]); (try simp only [List.setIfInBounds_toArray]); (repeat (first | simp only [List.set_cons_succ] | simp only [List.set_cons_zero]))
      refine wpAnyH_ready (rs := [14]) (by kernel_rfl) (by simp) ?_
      refine AllReadyH.cons rfl (fun KK hKK => ?_) AllReadyH.nil
      go_simp
      go_at_call 10
      refine (HU2.out _).mono ?_
      rintro e w1 ⟨rfl, rfl⟩
      try go_wp2_with fail
      refine hKK.out _ _ ?_ (fun hHeld => ?_)
      · exact hS
      clear hKK KK
      (try simp only [Act.put]); (try simp only [List.setIfInBounds_toArray]); (repeat (first | simp only [List.set_cons_succ] | simp only [List.set_cons_zero]))
      refine wpAnyH_ready (rs := [19]) (by kernel_rfl) (by simp) ?_
      refine AllReadyH.cons rfl (fun KK hKK => ?_) AllReadyH.nil
      go_simp
      go_at_call 10
      refine (HU3.out _).mono ?_
      rintro e w1 ⟨rfl, rfl⟩
      try go_wp2_with fail
      refine hKK.out _ _ ?_ (fun hHeld => ?_)
      · exact hS
      clear hKK KK
      (try simp only [Act.put]); (try simp only [List.setIfInBounds_toArray]); (repeat (first | simp only [List.set_cons_succ] | simp only [List.set_cons_zero]))
      refine wpAnyH_ready (rs := [24]) (by kernel_rfl) (by simp) ?_
      refine AllReadyH.cons rfl (fun KK hKK => ?_) AllReadyH.nil
      go_simp
      go_at_call 10
      refine (HU4.out _).mono ?_
      rintro e w1 ⟨rfl, rfl⟩
      try go_wp2_with fail
      refine hKK.out _ _ ?_ (fun hHeld => ?_)
      · exact hS
      clear hKK KK
      (try simp only [Act.put]); (try simp only [List.setIfInBounds_toArray]); (repeat (first | simp only [List.set_cons_succ] | simp only [List.set_cons_zero]))
      refine wpAnyH_take (i := 25) (v := ?_) rfl (by kernel_rfl) (by kernel_rfl) (by kernel_rfl) (fun _ _ _ h => h) (Or.inl ⟨by rfl, ?_⟩) hHeld ?_
      rotate_left
      · intro w hSw
        (try dsimp only at hSw)
        go_simp
        try with_reducible rfl
      (try simp only [Act.put]); (try simp only [List.setIfInBounds_toArray]); (repeat (first | simp only [List.set_cons_succ] | simp only [List.set_cons_zero]))
      refine wpAnyH_ready (rs := [27]) (by kernel_rfl) (by simp) ?_
      refine AllReadyH.cons rfl (fun KK hKK => ?_) AllReadyH.nil
      go_simp
      try go_wp2_with fail
      refine hKK.out _ _ ?_ (fun hHeld => ?_)
      · exact HNew.out.1
      clear hKK KK
      (try simp only [Act.put]); (try simp only [List.setIfInBounds_toArray]); (repeat (first | simp only [List.set_cons_succ] | simp only [List.set_cons_zero]))
      refine wpAnyH_done (by kernel_rfl) ?_ _
      go_simp
      try go_wp2_with fail
      go_meet
      exact ⟨_, rfl, HNew.out.2, keepH HNew.out.1⟩
  case rest =>
    obtain ⟨q, rfl, hq, HK⟩ := hcut
    obtain ⟨W3, hW3⟩ : ∃ W3, W3 = wc := ⟨_, rfl⟩
    subst hW3
    have HBt : Hid (∀ w i v, Chg (fun _ => False) W3 w → (boL b0 b1 b2 b3 b4)[i]? = some v → w.cell? ⟨W.heap.size, i, none⟩ = some v) := fun w i v h hv => HAt.out w i v (HK.out.falls h) hv
    have HGt : Hid (∀ w i v, Chg (fun _ => False) W3 w → (boL g0 g1 g2 g3 g4)[i]? = some v → w.cell? ⟨q, i, none⟩ = some v) := fun w i v h hv => by rw [cell_of ((h.block _ (lt_of hq) (fun x => x)).trans hq) i]; exact hv
    clear hq
    go_upto_region 2 with fail
    go_cut [4] from 32 to 44 (fun s4 wz => s4 = .bool true ∧ Hid (Chg (fun _ => False) W3 wz))
    case first =>
      have hS0 : Chg (fun _ => False) W3 W3.drew := (Chg.refl _ _).drew
      refine wp_region_held_drew (S := (fun wd => Chg (fun _ => False) W3 wd)) (by kernel_rfl) (hS0) ?_
      intro hHeld
      refine wpAnyH_ready (rs := [0]) (by kernel_rfl) (by simp) ?_
      refine AllReadyH.cons rfl (fun KK hKK => ?_) AllReadyH.nil
      go_simp
      go_at_call 5
      refine (l_live _).mono ?_
      rintro e w1 ⟨rfl, C1⟩
      have hS1 : Chg (fun _ => False) W3 w1 := hS0.falls C1
      clear C1
      try go_wp2_with fail
      refine hKK.out _ _ ?_ (fun hHeld => ?_)
      · exact hS1
      clear hKK KK
      (try simp only [Act.put]); (try simp only [List.setIfInBounds_toArray]); (repeat (first | simp only [List.set_cons_succ] | simp only [List.set_cons_zero]))
      refine wpAnyH_take (i := 1) (v := ?_) rfl (by kernel_rfl) (by kernel_rfl) (by kernel_rfl) (fun _ _ _ h => h) (Or.inl ⟨by rfl, ?_⟩) hHeld ?_
      rotate_left
      · intro w hSw
        (try dsimp only at hSw)
        go_simp
        try with_reducible rfl
      (try simp only [Act.put]); (try simp only [List.setIfInBounds_toArray]); (repeat (first | simp only [List.set_cons_succ] | simp only [List.set_cons_zero]))
      refine wpAnyH_take (i := 2) (v := ?_) rfl (by kernel_rfl) (by kernel_rfl) (by kernel_rfl) (fun _ _ _ h => h) (Or.inl ⟨by rfl, ?_⟩) hHeld ?_
      rotate_left
      · intro w hSw
        (try dsimp only at hSw)
        have y0 := HBt.out _ 0 _ hSw rfl
        have y1 := HBt.out _ 1 _ hSw rfl
        have y2 := HBt.out _ 2 _ hSw rfl
        have y3 := HBt.out _ 3 _ hSw rfl
        have y4 := HBt.out _ 4 _ hSw rfl
        go_simp
        try with_reducible rfl
      (try simp only [Act.put]); (try simp only [List.setIfInBounds_toArray]); (repeat (first | simp only [List.set_cons_succ] | simp only [List.set_cons_zero]))
      refine wpAnyH_take (i := 4) (v := ?_) rfl (by kernel_rfl) (by kernel_rfl) (by kernel_rfl) (fun _ _ _ h => h) (Or.inl ⟨by rfl, ?_⟩) hHeld ?_
      rotate_left
      · intro w hSw
        (try dsimp only at hSw)
        have y0 := HGt.out _ 0 _ hSw rfl
        have y1 := HGt.out _ 1 _ hSw rfl
        have y2 := HGt.out _ 2 _ hSw rfl
        have y3 := HGt.out _ 3 _ hSw rfl
        have y4 := HGt.out _ 4 _ hSw rfl
        go_simp
        try with_reducible rfl
      (try simp only [Act.put]); (try simp only [List.setIfInBounds_toArray]); (repeat (first | simp only [List.set_cons_succ] | simp only [List.set_cons_zero]))
      refine wpAnyH_ready (rs := [3]) (by kernel_rfl) (by simp) ?_
      refine AllReadyH.cons rfl (fun KK hKK => ?_) AllReadyH.nil
      go_simp
      go_at_call 6
      refine (HB1.out _).mono ?_
      rintro e w3 ⟨rfl, C3⟩
      have hS3 : Chg (fun _ => False) W3 w3 := hS1.falls C3
      clear C3
      try go_wp2_with fail
      refine hKK.out _ _ ?_ (fun hHeld => ?_)
      · exact hS3
      clear hKK KK
      (try simp only [Act.put]); (try simp only [List.setIfInBounds_toArray]); (repeat (first | simp only [List.set_cons_succ] | simp only [List.set_cons_zero]))
      refine wpAnyH_ready (rs := [5]) (by kernel_rfl) (by simp) ?_
      refine AllReadyH.cons rfl (fun KK hKK => ?_) AllReadyH.nil
      go_simp
      go_at_call 6
      refine (HB2.out _).mono ?_
      rintro e w5 ⟨rfl, C5⟩
      have hS5 : Chg (fun _ => False) W3 w5 := hS3.falls C5
      clear C5
      try go_wp2_with fail
      refine hKK.out _ _ ?_ (fun hHeld => ?_)
      · exact hS5
      clear hKK KK
      (try simp only [Act.put]); (try simp only [List.setIfInBounds_toArray]); (repeat (first | simp only [List.set_cons_succ] | simp only [List.set_cons_zero]))
      refine wpAnyH_take (i := 6) (v := ?_) rfl (by kernel_rfl) (by kernel_rfl) (by kernel_rfl) (fun _ _ _ h => h) (Or.inl ⟨by rfl, ?_⟩) hHeld ?_
      rotate_left
      · intro w hSw
        (try dsimp only at hSw)
        go_simp
        try with_reducible rfl
      (try simp only [Act.put]); (try simp only [List.setIfInBounds_toArray]); (repeat (first | simp only [List.set_cons_succ] | simp only [List.set_cons_zero]))
      refine wpAnyH_take (i := 7) (v := ?_) rfl (by kernel_rfl) (by kernel_rfl) (by kernel_rfl) (fun _ _ _ h => h) (Or.inl ⟨by rfl, ?_⟩) hHeld ?_
      rotate_left
      · intro w hSw
        (try dsimp only at hSw)
        go_simp
        try with_reducible rfl
      (try simp only [Act.put]); (try simp only [List.setIfInBounds_toArray]); (repeat (first | simp only [List.set_cons_succ] | simp only [List.set_cons_zero]))
      refine wpAnyH_take (i := 8) (v := ?_) rfl (by kernel_rfl) (by kernel_rfl) (by kernel_rfl) (fun _ _ _ h => h) (Or.inl ⟨by rfl, ?_⟩) hHeld ?_
      rotate_left
      · intro w hSw
        (try dsimp only at hSw)
        go_simp
        try with_reducible rfl
      (try simp only [Act.put]); (try simp only [List.setIfInBounds_toArray]); (repeat (first | simp only [List.set_cons_succ] | simp only [List.set_cons_zero]))
      refine wpAnyH_take (i := 9) (v := ?_) rfl (by kernel_rfl) (by kernel_rfl) (by kernel_rfl) (fun _ _ _ h => h) (Or.inl ⟨by rfl, ?_⟩) hHeld ?_
      rotate_left
      · intro w hSw
        (try dsimp only at hSw)
        have y0 := HBt.out _ 0 _ hSw rfl
        have y1 := HBt.out _ 1 _ hSw rfl
        have y2 := HBt.out _ 2 _ hSw rfl
        have y3 := HBt.out _ 3 _ hSw rfl
        have y4 := HBt.out _ 4 _ hSw rfl
        go_simp
        try with_reducible rfl
      (try simp only [Act.put]); (try simp only [List.setIfInBounds_toArray]); (repeat (first | simp only [List.set_cons_succ] | simp only [List.set_cons_zero]))
      refine wpAnyH_ready (rs := [10]) (by kernel_rfl) (by simp) ?_
      refine AllReadyH.cons rfl (fun KK hKK => ?_) AllReadyH.nil
      go_simp
      go_at_call 6
      refine (HB1.out _).mono ?_
      rintro e w7 ⟨rfl, C7⟩
      have hS7 : Chg (fun _ => False) W3 w7 := hS5.falls C7
      clear C7
      try go_wp2_with fail
      refine hKK.out _ _ ?_ (fun hHeld => ?_)
      · exact hS7
      clear hKK KK
      (try simp only [Act.put]); (try simp only [List.setIfInBounds_toArray]); (repeat (first | simp only [List.set_cons_succ] | simp only [List.set_cons_zero]))
      refine wpAnyH_take (i := 11) (v := ?_) rfl (by kernel_rfl) (by kernel_rfl) (by kernel_rfl) (fun _ _ _ h => h) (Or.inl ⟨by rfl, ?_⟩) hHeld ?_
      rotate_left
      · intro w hSw
        (try dsimp only at hSw)
        go_simp
        try with_reducible rfl
      (try simp only [Act.put]); (try simp only [List.setIfInBounds_toArray]); (repeat (first | simp only [List.set_cons_succ] | simp only [List.set_cons_zero]))
      refine wpAnyH_take (i := 12) (v := ?_) rfl (by kernel_rfl) (by kernel_rfl) (by kernel_rfl) (fun _ _ _ h => h) (Or.inl ⟨by rfl, ?_⟩) hHeld ?_
      rotate_left
      · intro w hSw
        (try dsimp only at hSw)
        go_simp
        try with_reducible rfl
      (try simp only [Act.put]); (try simp only [List.setIfInBounds_toArray]); (repeat (first | simp only [List.set_cons_succ] | simp only [List.set_cons_zero]))
      refine wpAnyH_take (i := 13) (v := ?_) rfl (by kernel_rfl) (by kernel_rfl) (by kernel_rfl) (fun _ _ _ h => h) (Or.inl ⟨by rfl, ?_⟩) hHeld ?_
      rotate_left
      · intro w hSw
        (try dsimp only at hSw)
        go_simp
        try with_reducible rfl
      (try simp only [Act.put]); (try simp only [List.setIfInBounds_toArray]); (repeat (first | simp only [List.set_cons_succ] | simp only [List.set_cons_zero]))
      refine wpAnyH_done (by kernel_rfl) ?_ _
      go_simp
      try go_wp2_with fail
      go_meet
      exact ⟨by simp, keepH hS7⟩
    case rest =>
      obtain ⟨rfl, HK2⟩ := hcut
      go_wp2_with fail
      go_ret
      exact ⟨by simp, (C0.out.falls HK.out).falls HK2.out⟩
end Go.Proofs.Ytdgockkcflhjoaa
