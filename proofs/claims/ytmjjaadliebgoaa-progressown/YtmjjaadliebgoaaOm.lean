/- ProgressOwn, walked. -/
import Derived.Test.YtmjjaadliebgoaaOh
namespace Go.Proofs.Ytmjjaadliebgoaa
open Go.RowKit
set_option linter.unusedVariables false

set_option maxRecDepth 100000 in
set_option maxHeartbeats 2000000 in
theorem r_sameI (p q : Option Addr) (c d : Nat) (la : List Int) (W : World) (ha : IReads W p la) (hb : IReads W q la) (hla : la.length ≤ 17592186044416) :
    Calls Try.prog 5 #[.slice p la.length c, .slice q la.length d] W fun e W' => e = .returned (.bool true) ∧ Chg (fun _ => False) W W' := by
  have HA := keepH ha
  have HB := keepH hb
  clear ha hb
  go_enter Try.func5, Try.ntmps5
  go_wp2_with fail
  go_loopw [5] (fun s wr => ∃ k : Nat, k ≤ la.length ∧ s = .int .i64 (k : Int) ∧ Hid (Chg (fun _ => False) W wr)) (fun s _ => la.length - (intOf s).toNat)
  case atStart => exact ⟨0, by omega, rfl, keepH (Chg.refl _ _)⟩
  case round =>
    obtain ⟨k, hk, rfl, HK⟩ := hrel
    by_cases hlt : k < la.length
    · have t1 : (k : Int) < (la.length : Int) := by omega
      obtain ⟨x, hx⟩ : ∃ x, la[k]? = some x := ⟨la[k], List.getElem?_eq_getElem hlt⟩
      obtain ⟨bk, off, rfl, _, c0⟩ := (HA.out.chg HK.out).get k x hx
      obtain ⟨bk', off', rfl, _, d0⟩ := (HB.out.chg HK.out).get k x hx
      clear hx
      go_wp2_with fail
      go_quiet (fail)
      go_wp2_with fail
      go_roundw
      case rel => exact ⟨k + 1, by omega, by first | rfl | go_num, keepH (HK.out.trans (H := fun _ => False) ⟨rfl, rfl, rfl, Nat.le_refl _, fun _ _ _ => rfl⟩ (fun _ _ x => x) (fun _ _ x => x))⟩
      case measure => simp [intOf]; omega
    · obtain rfl : k = la.length := by omega
      have t1 : ¬ (la.length : Int) < (la.length : Int) := by omega
      go_wp2_with fail
      go_ret
      exact ⟨by simp, HK.out⟩
theorem ownL_len (r : ResA) : (ownL r r.ds.length).length = r.ds.length := by unfold ownL; simp
set_option maxRecDepth 100000 in
set_option maxHeartbeats 4000000 in
theorem own_walk (r : ResA) (W : World) (h : r.At W) : Calls Try.prog 3 #[.agg r.cells.toArray] W fun e w => e = .returned (.bool true) ∧ Chg (fun _ => False) W w := by
  have hnd := h.nd
  obtain ⟨W2, hW2⟩ : ∃ W2, W2 = W.alloc (.cells r.cells.toArray 26) := ⟨_, rfl⟩
  have C0 : Hid (Chg (fun _ => False) W W2) := by rw [hW2]; exact (Chg.refl _ _).alloc _
  have k0 : W2.heap[W.heap.size]? = some (.cells r.cells.toArray 26 (0, 0)) := by rw [hW2]; exact heap_alloc_new _ _
  have HR : Hid (r.At W2) := h.chg C0.out
  have HAt : Hid (∀ w i v, Chg (fun _ => False) W2 w → r.cells.toArray[i]? = some v → w.cell? ⟨W.heap.size, i, none⟩ = some v) := fun w i v h hv => by
    rw [cell_of ((h.block _ (lt_of k0) (fun x => x)).trans k0) i]; exact hv
  clear h k0
  go_enter Try.func3, Try.ntmps3
  go_upto_region 1 with fail
  rw [← hW2]
  clear hW2
  go_cut [2] from 3 to 17 (fun s2 wz => s2 = .bool true ∧ Hid (Chg (fun _ => False) W2 wz))
  case first =>
    have hS0 : Chg (fun _ => False) W2 W2.drew := (Chg.refl _ _).drew
    refine wp_region_held_drew (S := (fun wd => Chg (fun _ => False) W2 wd)) (by kernel_rfl) (hS0) ?_
    intro hHeld
    refine wpAnyH_ready (rs := [0]) (by kernel_rfl) (by simp) ?_
    refine AllReadyH.cons rfl (fun KK hKK => ?_) AllReadyH.nil
    go_simp
    go_at_call 4
    refine (l_live _).mono ?_
    rintro e w1 ⟨rfl, C1⟩
    have hS1 : Chg (fun _ => False) W2 w1 := hS0.falls C1
    clear C1
    try go_wp2_with fail
    refine hKK.out _ _ ?_ (fun hHeld => ?_)
    · exact hS1
    clear hKK KK
    (try simp only [Act.put]); (try simp only [List.setIfInBounds_toArray]); (repeat (first | simp only [List.set_cons_succ] | simp only [List.set_cons_zero]))
    refine wpAnyH_take (i := 1) (v := ?_) rfl (by kernel_rfl) (by kernel_rfl) (by kernel_rfl) (fun _ _ _ h => h) (Or.inl ⟨by rfl, ?_⟩) hHeld ?_
    rotate_left
    · intro w hSw
      (try dsimp only at hSw)
      go_simp
      try with_reducible rfl
    (try simp only [Act.put]); (try simp only [List.setIfInBounds_toArray]); (repeat (first | simp only [List.set_cons_succ] | simp only [List.set_cons_zero]))
    refine wpAnyH_take (i := 2) (v := ?_) rfl (by kernel_rfl) (by kernel_rfl) (by kernel_rfl) (fun _ _ _ h => h) (Or.inl ⟨by rfl, ?_⟩) hHeld ?_
    rotate_left
    · intro w hSw
      (try dsimp only at hSw)
      have y0 := HAt.out _ 0 _ hSw rfl
      have y1 := HAt.out _ 1 _ hSw rfl
      have y2 := HAt.out _ 2 _ hSw rfl
      go_simp
      try with_reducible rfl
    (try simp only [Act.put]); (try simp only [List.setIfInBounds_toArray]); (repeat (first | simp only [List.set_cons_succ] | simp only [List.set_cons_zero]))
    refine wpAnyH_take (i := 4) (v := ?_) rfl (by kernel_rfl) (by kernel_rfl) (by kernel_rfl) (fun _ _ _ h => h) (Or.inl ⟨by rfl, ?_⟩) hHeld ?_
    rotate_left
    · intro w hSw
      (try dsimp only at hSw)
      have y0 := HAt.out _ 0 _ hSw rfl
      have y1 := HAt.out _ 1 _ hSw rfl
      have y2 := HAt.out _ 2 _ hSw rfl
      go_simp
      try with_reducible rfl
    (try simp only [Act.put]); (try simp only [List.setIfInBounds_toArray]); (repeat (first | simp only [List.set_cons_succ] | simp only [List.set_cons_zero]))
    refine wpAnyH_ready (rs := [3]) (by kernel_rfl) (by simp) ?_
    refine AllReadyH.cons rfl (fun KK hKK => ?_) AllReadyH.nil
    go_simp
    go_at_call 6
    refine (p_own r w1 (HR.out.chg hS1)).mono ?_
    rintro e w3 ⟨v3, rfl, hr3, C3⟩
    obtain ⟨q3, c3, rfl, ir3⟩ := row_reads hr3 (ownL_len r).symm
    have HI3 := keepH ir3
    have hS3 : Chg (fun _ => False) W2 w3 := hS1.falls C3
    clear hr3 ir3
    clear C3
    try go_wp2_with fail
    refine hKK.out _ _ ?_ (fun hHeld => ?_)
    · exact hS3
    clear hKK KK
    (try simp only [Act.put]); (try simp only [List.setIfInBounds_toArray]); (repeat (first | simp only [List.set_cons_succ] | simp only [List.set_cons_zero]))
    refine wpAnyH_ready (rs := [5]) (by kernel_rfl) (by simp) ?_
    refine AllReadyH.cons rfl (fun KK hKK => ?_) AllReadyH.nil
    go_simp
    go_at_call 7
    refine (r_own r w3 (HR.out.chg hS3)).mono ?_
    rintro e w5 ⟨v5, rfl, hr5, C5⟩
    obtain ⟨q5, c5, rfl, ir5⟩ := row_reads hr5 (ownL_len r).symm
    have HI5 := keepH ir5
    have HI35 := keepH (HI3.out.chg C5)
    have hS5 : Chg (fun _ => False) W2 w5 := hS3.falls C5
    clear hr5 ir5
    clear C5
    try go_wp2_with fail
    refine hKK.out _ _ ?_ (fun hHeld => ?_)
    · exact hS5
    clear hKK KK
    (try simp only [Act.put]); (try simp only [List.setIfInBounds_toArray]); (repeat (first | simp only [List.set_cons_succ] | simp only [List.set_cons_zero]))
    refine wpAnyH_ready (rs := [6]) (by kernel_rfl) (by simp) ?_
    refine AllReadyH.cons rfl (fun KK hKK => ?_) AllReadyH.nil
    go_simp
    go_at_call 5
    refine (r_sameI q3 q5 c3 c5 (ownL r r.ds.length) w5 HI35.out HI5.out (by rw [ownL_len]; omega)).mono ?_
    rintro e w6 ⟨rfl, C6⟩
    have hS6 : Chg (fun _ => False) W2 w6 := hS5.falls C6
    clear C6
    try go_wp2_with fail
    refine hKK.out _ _ ?_ (fun hHeld => ?_)
    · exact hS6
    clear hKK KK
    (try simp only [Act.put]); (try simp only [List.setIfInBounds_toArray]); (repeat (first | simp only [List.set_cons_succ] | simp only [List.set_cons_zero]))
    refine wpAnyH_take (i := 7) (v := ?_) rfl (by kernel_rfl) (by kernel_rfl) (by kernel_rfl) (fun _ _ _ h => h) (Or.inl ⟨by rfl, ?_⟩) hHeld ?_
    rotate_left
    · intro w hSw
      (try dsimp only at hSw)
      go_simp
      try with_reducible rfl
    (try simp only [Act.put]); (try simp only [List.setIfInBounds_toArray]); (repeat (first | simp only [List.set_cons_succ] | simp only [List.set_cons_zero]))
    refine wpAnyH_take (i := 8) (v := ?_) rfl (by kernel_rfl) (by kernel_rfl) (by kernel_rfl) (fun _ _ _ h => h) (Or.inl ⟨by rfl, ?_⟩) hHeld ?_
    rotate_left
    · intro w hSw
      (try dsimp only at hSw)
      go_simp
      try with_reducible rfl
    (try simp only [Act.put]); (try simp only [List.setIfInBounds_toArray]); (repeat (first | simp only [List.set_cons_succ] | simp only [List.set_cons_zero]))
    refine wpAnyH_take (i := 9) (v := ?_) rfl (by kernel_rfl) (by kernel_rfl) (by kernel_rfl) (fun _ _ _ h => h) (Or.inl ⟨by rfl, ?_⟩) hHeld ?_
    rotate_left
    · intro w hSw
      (try dsimp only at hSw)
      have y0 := HAt.out _ 0 _ hSw rfl
      have y1 := HAt.out _ 1 _ hSw rfl
      have y2 := HAt.out _ 2 _ hSw rfl
      go_simp
      try with_reducible rfl
    (try simp only [Act.put]); (try simp only [List.setIfInBounds_toArray]); (repeat (first | simp only [List.set_cons_succ] | simp only [List.set_cons_zero]))
    refine wpAnyH_take (i := 11) (v := ?_) rfl (by kernel_rfl) (by kernel_rfl) (by kernel_rfl) (fun _ _ _ h => h) (Or.inl ⟨by rfl, ?_⟩) hHeld ?_
    rotate_left
    · intro w hSw
      (try dsimp only at hSw)
      have y0 := HAt.out _ 0 _ hSw rfl
      have y1 := HAt.out _ 1 _ hSw rfl
      have y2 := HAt.out _ 2 _ hSw rfl
      go_simp
      try with_reducible rfl
    (try simp only [Act.put]); (try simp only [List.setIfInBounds_toArray]); (repeat (first | simp only [List.set_cons_succ] | simp only [List.set_cons_zero]))
    refine wpAnyH_ready (rs := [10]) (by kernel_rfl) (by simp) ?_
    refine AllReadyH.cons rfl (fun KK hKK => ?_) AllReadyH.nil
    go_simp
    go_at_call 8
    refine (p_longest r w6 (HR.out.chg hS6)).mono ?_
    rintro e w7 ⟨rfl, C10⟩
    have hS10 : Chg (fun _ => False) W2 w7 := hS6.falls C10
    clear C10
    try go_wp2_with fail
    refine hKK.out _ _ ?_ (fun hHeld => ?_)
    · exact hS10
    clear hKK KK
    (try simp only [Act.put]); (try simp only [List.setIfInBounds_toArray]); (repeat (first | simp only [List.set_cons_succ] | simp only [List.set_cons_zero]))
    refine wpAnyH_ready (rs := [12]) (by kernel_rfl) (by simp) ?_
    refine AllReadyH.cons rfl (fun KK hKK => ?_) AllReadyH.nil
    go_simp
    go_at_call 9
    refine (r_longest r w7 (HR.out.chg hS10)).mono ?_
    rintro e w8 ⟨rfl, C12⟩
    have hS12 : Chg (fun _ => False) W2 w8 := hS10.falls C12
    clear C12
    try go_wp2_with fail
    refine hKK.out _ _ ?_ (fun hHeld => ?_)
    · exact hS12
    clear hKK KK
    (try simp only [Act.put]); (try simp only [List.setIfInBounds_toArray]); (repeat (first | simp only [List.set_cons_succ] | simp only [List.set_cons_zero]))
    refine wpAnyH_take (i := 13) (v := ?_) rfl (by kernel_rfl) (by kernel_rfl) (by kernel_rfl) (fun _ _ _ h => h) (Or.inl ⟨by rfl, ?_⟩) hHeld ?_
    rotate_left
    · intro w hSw
      (try dsimp only at hSw)
      go_simp
      try with_reducible rfl
    (try simp only [Act.put]); (try simp only [List.setIfInBounds_toArray]); (repeat (first | simp only [List.set_cons_succ] | simp only [List.set_cons_zero]))
    refine wpAnyH_take (i := 14) (v := ?_) rfl (by kernel_rfl) (by kernel_rfl) (by kernel_rfl) (fun _ _ _ h => h) (Or.inl ⟨by rfl, ?_⟩) hHeld ?_
    rotate_left
    · intro w hSw
      (try dsimp only at hSw)
      go_simp
      try with_reducible rfl
    (try simp only [Act.put]); (try simp only [List.setIfInBounds_toArray]); (repeat (first | simp only [List.set_cons_succ] | simp only [List.set_cons_zero]))
    refine wpAnyH_take (i := 15) (v := ?_) rfl (by kernel_rfl) (by kernel_rfl) (by kernel_rfl) (fun _ _ _ h => h) (Or.inl ⟨by rfl, ?_⟩) hHeld ?_
    rotate_left
    · intro w hSw
      (try dsimp only at hSw)
      go_simp
      try with_reducible rfl
    (try simp only [Act.put]); (try simp only [List.setIfInBounds_toArray]); (repeat (first | simp only [List.set_cons_succ] | simp only [List.set_cons_zero]))
    refine wpAnyH_done (by kernel_rfl) ?_ _
    go_simp
    try go_wp2_with fail
    go_meet
    exact ⟨by simp, keepH hS12⟩
  case rest =>
    obtain ⟨rfl, HK⟩ := hcut
    go_wp2_with fail
    go_ret
    exact ⟨by simp, C0.out.falls HK.out⟩
end Go.Proofs.Ytmjjaadliebgoaa
