/- What an attempt takes, and the bound. -/
import Derived.Test.YtmjjaadliebgoaaPb
import Derived.Deep.RegionHeld3
import Derived.BigQuiet
import Derived.Deep.CutRange
namespace Go.Proofs.Ytmjjaadliebgoaa
open Go.RowKit
set_option linter.unusedVariables false

theorem Chg.falls {a b c : World} (h : Chg (fun _ => False) a b) (k : Chg (fun _ => False) b c) : Chg (fun _ => False) a c := h.trans k (fun _ _ x => x) (fun _ _ x => x)
def vN (ve : Nat) : Nat := plN ve 1
def obN (br : Nat) : Nat := tiN 64 br
def keyN (ve : Nat) : Nat := plN (tiN 11 (plN 4 (tiN 2 (vN ve)))) 2
def walkN (br ve : Nat) : Nat := tiN (obN br) (plN 6 (tiN 3 (vN ve)))
def attN (br ve sl mu : Nat) : Nat := moN (moN (moN (moN 96 (plN 2 (tiN mu (keyN ve)))) (plN (plN 2 (walkN br ve)) (tiN 2 (obN br)))) (plN (plN (plN sl 1) (walkN br ve)) (tiN 5 (obN br)))) (plN (tiN 2 sl) 5)
def bouN (th br ve sl mu : Nat) : Nat := tiN (tiN th (plN th 1)) (attN br ve sl mu)
theorem n_le {n : Nat} (h : n ≤ 1000) : n ≤ mxA := by unfold mxA; omega
theorem vN_le {ve : Nat} (h : ve ≤ mxA) : vN ve ≤ mxA := plN_le h (n_le (by omega))
theorem keyN_le {ve : Nat} (h : ve ≤ mxA) : keyN ve ≤ mxA := plN_le (tiN_le _ _) (n_le (by omega))
theorem attN_le {br ve sl mu : Nat} (h : ve ≤ mxA) (hs : sl ≤ mxA) : attN br ve sl mu ≤ mxA :=
  moN_le (moN_le (moN_le (moN_le (n_le (by omega)) (plN_le (n_le (by omega)) (tiN_le _ _))) (plN_le (plN_le (n_le (by omega)) (tiN_le _ _)) (tiN_le _ _))) (plN_le (plN_le (plN_le hs (n_le (by omega))) (tiN_le _ _)) (tiN_le _ _))) (plN_le (tiN_le _ _) (n_le (by omega)))
theorem cnt_n (b : Int) (n : Nat) (W : World) (h : b.toNat = n) : Calls Try.prog 19 #[.int .i64 b] W fun e w => e = .returned (.int .i64 (n : Int)) ∧ w = W := by rw [← h]; exact am_counted b W
/-- The cells of a Bounds. -/
def boL (b0 b1 b2 b3 b4 : Int) : Array Value := #[.int .i64 b0, .int .i64 b1, .int .i64 b2, .int .i64 b3, .int .i64 b4]
theorem new_times1d (a' x0' : Int) (a x0 : Nat) (W : World) (ea : a' = (a : Int)) (ex0 : x0' = (x0 : Int)) (ha : a ≤ mxA) (hx0 : x0 ≤ mxA) : Calls Try.prog 20 #[.int .i64 a', .slice (some ⟨W.heap.size, 0, none⟩) 1 1] (W.alloc (.cells #[.int .i64 x0'] 66)).drew fun e w => e = .returned (.int .i64 ((tiN a x0 : Nat) : Int)) ∧ Chg (fun _ => False) W w := by
  subst ea ex0
  refine (row_times a W.heap.size [x0] _ ha (by simp; omega) (by simp) (fun i x hx => ?_)).mono ?_
  · rw [cell_of (show (W.alloc _).drew.heap[W.heap.size]? = some _ from heap_alloc_new _ _) i]
    rcases i with _ | _
    · simp at hx; subst hx; rfl
    · simp at hx
  · rintro e w ⟨rfl, rfl⟩
    exact ⟨rfl, ((Chg.refl _ _).alloc _).drew⟩
theorem new_times2d (a' x0' x1' : Int) (a x0 x1 : Nat) (W : World) (ea : a' = (a : Int)) (ex0 : x0' = (x0 : Int)) (ex1 : x1' = (x1 : Int)) (ha : a ≤ mxA) (hx0 : x0 ≤ mxA) (hx1 : x1 ≤ mxA) : Calls Try.prog 20 #[.int .i64 a', .slice (some ⟨W.heap.size, 0, none⟩) 2 2] (W.alloc (.cells #[.int .i64 x0', .int .i64 x1'] 66)).drew fun e w => e = .returned (.int .i64 ((tiN (tiN a x0) x1 : Nat) : Int)) ∧ Chg (fun _ => False) W w := by
  subst ea ex0 ex1
  refine (row_times a W.heap.size [x0, x1] _ ha (by simp; omega) (by simp) (fun i x hx => ?_)).mono ?_
  · rw [cell_of (show (W.alloc _).drew.heap[W.heap.size]? = some _ from heap_alloc_new _ _) i]
    rcases i with _ | _ | _
    · simp at hx; subst hx; rfl
    · simp at hx; subst hx; rfl
    · simp at hx
  · rintro e w ⟨rfl, rfl⟩
    exact ⟨rfl, ((Chg.refl _ _).alloc _).drew⟩
theorem new_plus1d (a' x0' : Int) (a x0 : Nat) (W : World) (ea : a' = (a : Int)) (ex0 : x0' = (x0 : Int)) (ha : a ≤ mxA) (hx0 : x0 ≤ mxA) : Calls Try.prog 21 #[.int .i64 a', .slice (some ⟨W.heap.size, 0, none⟩) 1 1] (W.alloc (.cells #[.int .i64 x0'] 66)).drew fun e w => e = .returned (.int .i64 ((plN a x0 : Nat) : Int)) ∧ Chg (fun _ => False) W w := by
  subst ea ex0
  refine (row_plus a W.heap.size [x0] _ ha (by simp; omega) (by simp) (fun i x hx => ?_)).mono ?_
  · rw [cell_of (show (W.alloc _).drew.heap[W.heap.size]? = some _ from heap_alloc_new _ _) i]
    rcases i with _ | _
    · simp at hx; subst hx; rfl
    · simp at hx
  · rintro e w ⟨rfl, rfl⟩
    exact ⟨rfl, ((Chg.refl _ _).alloc _).drew⟩
theorem new_plus1 (a' x0' : Int) (a x0 : Nat) (W : World) (ea : a' = (a : Int)) (ex0 : x0' = (x0 : Int)) (ha : a ≤ mxA) (hx0 : x0 ≤ mxA) : Calls Try.prog 21 #[.int .i64 a', .slice (some ⟨W.heap.size, 0, none⟩) 1 1] (W.alloc (.cells #[.int .i64 x0'] 66)) fun e w => e = .returned (.int .i64 ((plN a x0 : Nat) : Int)) ∧ Chg (fun _ => False) W w := by
  subst ea ex0
  refine (row_plus a W.heap.size [x0] _ ha (by simp; omega) (by simp) (fun i x hx => ?_)).mono ?_
  · rw [cell_of (show (W.alloc _).heap[W.heap.size]? = some _ from heap_alloc_new _ _) i]
    rcases i with _ | _
    · simp at hx; subst hx; rfl
    · simp at hx
  · rintro e w ⟨rfl, rfl⟩
    exact ⟨rfl, ((Chg.refl _ _).alloc _)⟩
theorem new_plus2 (a' x0' x1' : Int) (a x0 x1 : Nat) (W : World) (ea : a' = (a : Int)) (ex0 : x0' = (x0 : Int)) (ex1 : x1' = (x1 : Int)) (ha : a ≤ mxA) (hx0 : x0 ≤ mxA) (hx1 : x1 ≤ mxA) : Calls Try.prog 21 #[.int .i64 a', .slice (some ⟨W.heap.size, 0, none⟩) 2 2] (W.alloc (.cells #[.int .i64 x0', .int .i64 x1'] 66)) fun e w => e = .returned (.int .i64 ((plN (plN a x0) x1 : Nat) : Int)) ∧ Chg (fun _ => False) W w := by
  subst ea ex0 ex1
  refine (row_plus a W.heap.size [x0, x1] _ ha (by simp; omega) (by simp) (fun i x hx => ?_)).mono ?_
  · rw [cell_of (show (W.alloc _).heap[W.heap.size]? = some _ from heap_alloc_new _ _) i]
    rcases i with _ | _ | _
    · simp at hx; subst hx; rfl
    · simp at hx; subst hx; rfl
    · simp at hx
  · rintro e w ⟨rfl, rfl⟩
    exact ⟨rfl, ((Chg.refl _ _).alloc _)⟩
theorem new_plus3 (a' x0' x1' x2' : Int) (a x0 x1 x2 : Nat) (W : World) (ea : a' = (a : Int)) (ex0 : x0' = (x0 : Int)) (ex1 : x1' = (x1 : Int)) (ex2 : x2' = (x2 : Int)) (ha : a ≤ mxA) (hx0 : x0 ≤ mxA) (hx1 : x1 ≤ mxA) (hx2 : x2 ≤ mxA) : Calls Try.prog 21 #[.int .i64 a', .slice (some ⟨W.heap.size, 0, none⟩) 3 3] (W.alloc (.cells #[.int .i64 x0', .int .i64 x1', .int .i64 x2'] 66)) fun e w => e = .returned (.int .i64 ((plN (plN (plN a x0) x1) x2 : Nat) : Int)) ∧ Chg (fun _ => False) W w := by
  subst ea ex0 ex1 ex2
  refine (row_plus a W.heap.size [x0, x1, x2] _ ha (by simp; omega) (by simp) (fun i x hx => ?_)).mono ?_
  · rw [cell_of (show (W.alloc _).heap[W.heap.size]? = some _ from heap_alloc_new _ _) i]
    rcases i with _ | _ | _ | _
    · simp at hx; subst hx; rfl
    · simp at hx; subst hx; rfl
    · simp at hx; subst hx; rfl
    · simp at hx
  · rintro e w ⟨rfl, rfl⟩
    exact ⟨rfl, ((Chg.refl _ _).alloc _)⟩
theorem new_times1 (a' x0' : Int) (a x0 : Nat) (W : World) (ea : a' = (a : Int)) (ex0 : x0' = (x0 : Int)) (ha : a ≤ mxA) (hx0 : x0 ≤ mxA) : Calls Try.prog 20 #[.int .i64 a', .slice (some ⟨W.heap.size, 0, none⟩) 1 1] (W.alloc (.cells #[.int .i64 x0'] 66)) fun e w => e = .returned (.int .i64 ((tiN a x0 : Nat) : Int)) ∧ Chg (fun _ => False) W w := by
  subst ea ex0
  refine (row_times a W.heap.size [x0] _ ha (by simp; omega) (by simp) (fun i x hx => ?_)).mono ?_
  · rw [cell_of (show (W.alloc _).heap[W.heap.size]? = some _ from heap_alloc_new _ _) i]
    rcases i with _ | _
    · simp at hx; subst hx; rfl
    · simp at hx
  · rintro e w ⟨rfl, rfl⟩
    exact ⟨rfl, ((Chg.refl _ _).alloc _)⟩
theorem new_times2 (a' x0' x1' : Int) (a x0 x1 : Nat) (W : World) (ea : a' = (a : Int)) (ex0 : x0' = (x0 : Int)) (ex1 : x1' = (x1 : Int)) (ha : a ≤ mxA) (hx0 : x0 ≤ mxA) (hx1 : x1 ≤ mxA) : Calls Try.prog 20 #[.int .i64 a', .slice (some ⟨W.heap.size, 0, none⟩) 2 2] (W.alloc (.cells #[.int .i64 x0', .int .i64 x1'] 66)) fun e w => e = .returned (.int .i64 ((tiN (tiN a x0) x1 : Nat) : Int)) ∧ Chg (fun _ => False) W w := by
  subst ea ex0 ex1
  refine (row_times a W.heap.size [x0, x1] _ ha (by simp; omega) (by simp) (fun i x hx => ?_)).mono ?_
  · rw [cell_of (show (W.alloc _).heap[W.heap.size]? = some _ from heap_alloc_new _ _) i]
    rcases i with _ | _ | _
    · simp at hx; subst hx; rfl
    · simp at hx; subst hx; rfl
    · simp at hx
  · rintro e w ⟨rfl, rfl⟩
    exact ⟨rfl, ((Chg.refl _ _).alloc _)⟩
theorem new_more4 (a' x0' x1' x2' x3' : Int) (a x0 x1 x2 x3 : Nat) (W : World) (ea : a' = (a : Int)) (ex0 : x0' = (x0 : Int)) (ex1 : x1' = (x1 : Int)) (ex2 : x2' = (x2 : Int)) (ex3 : x3' = (x3 : Int)) (ha : a ≤ mxA) (hx0 : x0 ≤ mxA) (hx1 : x1 ≤ mxA) (hx2 : x2 ≤ mxA) (hx3 : x3 ≤ mxA) : Calls Try.prog 30 #[.int .i64 a', .slice (some ⟨W.heap.size, 0, none⟩) 4 4] (W.alloc (.cells #[.int .i64 x0', .int .i64 x1', .int .i64 x2', .int .i64 x3'] 66)) fun e w => e = .returned (.int .i64 ((moN (moN (moN (moN a x0) x1) x2) x3 : Nat) : Int)) ∧ Chg (fun _ => False) W w := by
  subst ea ex0 ex1 ex2 ex3
  refine (row_more a W.heap.size [x0, x1, x2, x3] _ ha (by simp; omega) (by simp) (fun i x hx => ?_)).mono ?_
  · rw [cell_of (show (W.alloc _).heap[W.heap.size]? = some _ from heap_alloc_new _ _) i]
    rcases i with _ | _ | _ | _ | _
    · simp at hx; subst hx; rfl
    · simp at hx; subst hx; rfl
    · simp at hx; subst hx; rfl
    · simp at hx; subst hx; rfl
    · simp at hx
  · rintro e w ⟨rfl, rfl⟩
    exact ⟨rfl, ((Chg.refl _ _).alloc _)⟩
theorem box_kept {W W1 w : World} {b0 b1 b2 b3 b4 : Int} (hW1 : W1 = W.alloc (.cells (boL b0 b1 b2 b3 b4) 39)) (h : Chg (fun _ => False) W1 w) : w.heap[W.heap.size]? = some (.cells (boL b0 b1 b2 b3 b4) 39 (0, 0)) := by
  have e : W1.heap[W.heap.size]? = some (.cells (boL b0 b1 b2 b3 b4) 39 (0, 0)) := by rw [hW1]; exact heap_alloc_new _ _
  exact (h.block _ (lt_of e) (fun x => x)).trans e
theorem box_at {W W1 w : World} {b0 b1 b2 b3 b4 : Int} (hW1 : W1 = W.alloc (.cells (boL b0 b1 b2 b3 b4) 39)) (h : Chg (fun _ => False) W1 w) (i : Nat) (v : Value) (hv : (boL b0 b1 b2 b3 b4)[i]? = some v) : w.cell? ⟨W.heap.size, i, none⟩ = some v := by
  rw [cell_of (box_kept hW1 h) i]; exact hv
set_option maxRecDepth 100000 in
set_option maxHeartbeats 4000000 in
theorem p_attempt (b0 b1 b2 b3 b4 : Int) (n1 n2 n3 n4 : Nat) (W : World) (E1 : Hid (b1.toNat = n1)) (E2 : Hid (b2.toNat = n2)) (E3 : Hid (b3.toNat = n3)) (E4 : Hid (b4.toNat = n4)) (h1 : n1 ≤ mxA) (h2 : n2 ≤ mxA) (h3 : n3 ≤ mxA) (h4 : n4 ≤ mxA) : Calls Try.prog 22 #[.agg (boL b0 b1 b2 b3 b4)] W fun e w => e = .returned (.int .i64 ((attN n1 n2 n3 n4 : Nat) : Int)) ∧ Chg (fun _ => False) W w := by
  obtain ⟨W1, hW1⟩ : ∃ W1, W1 = W.alloc (.cells (boL b0 b1 b2 b3 b4) 39) := ⟨_, rfl⟩
  have C0 : Hid (Chg (fun _ => False) W W1) := by rw [hW1]; exact (Chg.refl _ _).alloc _
  have HW1 := keepH hW1
  unfold boL at hW1 ⊢
  go_enter Try.func22, Try.ntmps22
  go_upto_region 1 with fail
  rw [← hW1]
  clear hW1
  obtain ⟨bx, hbx⟩ : ∃ bx, bx = W.heap.size := ⟨_, rfl⟩
  have HAt : Hid (∀ w i v, Chg (fun _ => False) W1 w → (boL b0 b1 b2 b3 b4)[i]? = some v → w.cell? ⟨bx, i, none⟩ = some v) := fun w i v h hv => by rw [hbx]; exact box_at HW1.out h i v hv
  rw [← hbx]
  clear hbx HW1
  go_cut [3, 4] from 8 to 15 (fun s3 s4 wz => s3 = .int .i64 ((n3 : Nat) : Int) ∧ s4 = .int .i64 ((tiN 64 n1 : Nat) : Int) ∧ Hid (Chg (fun _ => False) W1 wz))
  case first =>
    have hS0 : Chg (fun _ => False) W1 W1.drew := (Chg.refl _ _).drew
    refine wp_region_held_drew (S := (fun wd => Chg (fun _ => False) W1 wd)) (by kernel_rfl) (hS0) ?_
    intro hHeld
    refine wpAnyH_take (i := 0) (v := ?_) rfl (by kernel_rfl) (by kernel_rfl) (by kernel_rfl) (fun _ _ _ h => h) (Or.inl ⟨by rfl, ?_⟩) hHeld ?_
    rotate_left
    · intro w hSw
      (try dsimp only at hSw)
      go_simp
      try with_reducible rfl
    (try simp only [Act.put]); (try simp only [List.setIfInBounds_toArray]); (repeat (first | simp only [List.set_cons_succ] | simp only [List.set_cons_zero]))
    refine wpAnyH_take (i := 1) (v := ?_) rfl (by kernel_rfl) (by kernel_rfl) (by kernel_rfl) (fun _ _ _ h => h) (Or.inl ⟨by rfl, ?_⟩) hHeld ?_
    rotate_left
    · intro w hSw
      (try dsimp only at hSw)
      have y3 := HAt.out _ 3 _ hSw rfl
      go_simp
      try with_reducible rfl
    (try simp only [Act.put]); (try simp only [List.setIfInBounds_toArray]); (repeat (first | simp only [List.set_cons_succ] | simp only [List.set_cons_zero]))
    refine wpAnyH_take (i := 3) (v := ?_) rfl (by kernel_rfl) (by kernel_rfl) (by kernel_rfl) (fun _ _ _ h => h) (Or.inl ⟨by rfl, ?_⟩) hHeld ?_
    rotate_left
    · intro w hSw
      (try dsimp only at hSw)
      go_simp
      try with_reducible rfl
    (try simp only [Act.put]); (try simp only [List.setIfInBounds_toArray]); (repeat (first | simp only [List.set_cons_succ] | simp only [List.set_cons_zero]))
    refine wpAnyH_take (i := 4) (v := ?_) rfl (by kernel_rfl) (by kernel_rfl) (by kernel_rfl) (fun _ _ _ h => h) (Or.inl ⟨by rfl, ?_⟩) hHeld ?_
    rotate_left
    · intro w hSw
      (try dsimp only at hSw)
      have y1 := HAt.out _ 1 _ hSw rfl
      go_simp
      try with_reducible rfl
    (try simp only [Act.put]); (try simp only [List.setIfInBounds_toArray]); (repeat (first | simp only [List.set_cons_succ] | simp only [List.set_cons_zero]))
    refine wpAnyH_ready (rs := [2]) (by kernel_rfl) (by simp) ?_
    refine AllReadyH.cons rfl (fun KK hKK => ?_) AllReadyH.nil
    go_simp
    go_at_call 19
    refine (cnt_n b3 n3 _ E3.out).mono ?_
    rintro e w1 ⟨rfl, rfl⟩
    try go_wp2_with fail
    refine hKK.out _ _ ?_ (fun hHeld => ?_)
    · exact hS0
    clear hKK KK
    (try simp only [Act.put]); (try simp only [List.setIfInBounds_toArray]); (repeat (first | simp only [List.set_cons_succ] | simp only [List.set_cons_zero]))
    refine wpAnyH_ready (rs := [5]) (by kernel_rfl) (by simp) ?_
    refine AllReadyH.cons rfl (fun KK hKK => ?_) AllReadyH.nil
    go_simp
    go_at_call 19
    refine (cnt_n b1 n1 _ E1.out).mono ?_
    rintro e w1 ⟨rfl, rfl⟩
    try go_wp2_with fail
    refine hKK.out _ _ ?_ (fun hHeld => ?_)
    · exact hS0
    clear hKK KK
    (try simp only [Act.put]); (try simp only [List.setIfInBounds_toArray]); (repeat (first | simp only [List.set_cons_succ] | simp only [List.set_cons_zero]))
    refine wpAnyH_ready (rs := [6]) (by kernel_rfl) (by simp) ?_
    refine AllReadyH.cons rfl (fun KK hKK => ?_) AllReadyH.nil
    go_simp
    try go_wp2_with fail
    refine hKK.out _ _ ?_ (fun hHeld => ?_)
    · exact hS0.alloc _
    clear hKK KK
    (try simp only [Act.put]); (try simp only [List.setIfInBounds_toArray]); (repeat (first | simp only [List.set_cons_succ] | simp only [List.set_cons_zero]))
    refine wpAnyH_ready (rs := [7]) (by kernel_rfl) (by simp) ?_
    refine AllReadyH.cons rfl (fun KK hKK => ?_) AllReadyH.nil
    go_simp
    go_at_call 20
    refine (new_times1d _ _ 64 n1 _ rfl rfl (n_le (by omega)) h1).mono ?_
    rintro e w9 ⟨rfl, C9⟩
    have hS9 : Chg (fun _ => False) W1 w9 := C9
    try go_wp2_with fail
    refine hKK.out _ _ ?_ (fun hHeld => ?_)
    · exact hS9
    clear hKK KK
    (try simp only [Act.put]); (try simp only [List.setIfInBounds_toArray]); (repeat (first | simp only [List.set_cons_succ] | simp only [List.set_cons_zero]))
    refine wpAnyH_take (i := 8) (v := ?_) rfl (by kernel_rfl) (by kernel_rfl) (by kernel_rfl) (fun _ _ _ h => h) (Or.inl ⟨by rfl, ?_⟩) hHeld ?_
    rotate_left
    · intro w hSw
      (try dsimp only at hSw)
      go_simp
      try with_reducible rfl
    (try simp only [Act.put]); (try simp only [List.setIfInBounds_toArray]); (repeat (first | simp only [List.set_cons_succ] | simp only [List.set_cons_zero]))
    refine wpAnyH_take (i := 9) (v := ?_) rfl (by kernel_rfl) (by kernel_rfl) (by kernel_rfl) (fun _ _ _ h => h) (Or.inl ⟨by rfl, ?_⟩) hHeld ?_
    rotate_left
    · intro w hSw
      (try dsimp only at hSw)
      go_simp
      try with_reducible rfl
    (try simp only [Act.put]); (try simp only [List.setIfInBounds_toArray]); (repeat (first | simp only [List.set_cons_succ] | simp only [List.set_cons_zero]))
    refine wpAnyH_done (by kernel_rfl) ?_ _
    go_simp
    try go_wp2_with fail
    go_meet
    exact ⟨rfl, rfl, keepH hS9⟩
  case rest =>
    obtain ⟨rfl, rfl, HK⟩ := hcut
    have y2 := HAt.out _ 2 _ HK.out rfl
    go_wp2_with fail
    refine (cnt_n b2 n2 _ E2.out).mono ?_
    rintro e w ⟨rfl, rfl⟩
    go_wp2_with fail
    refine (new_plus1 _ _ n2 1 _ rfl rfl h2 (n_le (by omega))).mono ?_
    rintro e w1 ⟨rfl, C⟩
    have HK := keepH (HK.out.falls C)
    clear C
    go_wp2_with fail
    refine (new_times1 _ _ 2 (plN n2 1) _ rfl rfl (n_le (by omega)) (plN_le h2 (n_le (by omega)))).mono ?_
    rintro e w2 ⟨rfl, C⟩
    have HK := keepH (HK.out.falls C)
    clear C
    go_wp2_with fail
    refine (new_plus1 _ _ 4 (tiN 2 (plN n2 1)) _ rfl rfl (n_le (by omega)) (tiN_le _ _)).mono ?_
    rintro e w3 ⟨rfl, C⟩
    have HK := keepH (HK.out.falls C)
    clear C
    go_wp2_with fail
    refine (new_times1 _ _ 11 (plN 4 (tiN 2 (plN n2 1))) _ rfl rfl (n_le (by omega)) (plN_le (n_le (by omega)) (tiN_le _ _))).mono ?_
    rintro e w4 ⟨rfl, C⟩
    have HK := keepH (HK.out.falls C)
    clear C
    go_wp2_with fail
    refine (new_plus1 _ _ (tiN 11 (plN 4 (tiN 2 (plN n2 1)))) 2 _ rfl rfl (tiN_le _ _) (n_le (by omega))).mono ?_
    rintro e w5 ⟨rfl, C⟩
    have HK := keepH (HK.out.falls C)
    clear C
    go_wp2_with fail
    refine (new_times1 _ _ 3 (plN n2 1) _ rfl rfl (n_le (by omega)) (plN_le h2 (n_le (by omega)))).mono ?_
    rintro e w6 ⟨rfl, C⟩
    have HK := keepH (HK.out.falls C)
    clear C
    go_wp2_with fail
    refine (new_plus1 _ _ 6 (tiN 3 (plN n2 1)) _ rfl rfl (n_le (by omega)) (tiN_le _ _)).mono ?_
    rintro e w7 ⟨rfl, C⟩
    have HK := keepH (HK.out.falls C)
    clear C
    go_wp2_with fail
    refine (new_times1 _ _ (tiN 64 n1) (plN 6 (tiN 3 (plN n2 1))) _ rfl rfl (tiN_le _ _) (plN_le (n_le (by omega)) (tiN_le _ _))).mono ?_
    rintro e w8 ⟨rfl, C⟩
    have HK := keepH (HK.out.falls C)
    clear C
    have y4 := HAt.out _ 4 _ HK.out rfl
    go_wp2_with fail
    refine (cnt_n b4 n4 _ E4.out).mono ?_
    rintro e w ⟨rfl, rfl⟩
    go_wp2_with fail
    refine (new_times1 _ _ n4 (plN (tiN 11 (plN 4 (tiN 2 (plN n2 1)))) 2) _ rfl rfl h4 (plN_le (tiN_le _ _) (n_le (by omega)))).mono ?_
    rintro e w9 ⟨rfl, C⟩
    have HK := keepH (HK.out.falls C)
    clear C
    go_wp2_with fail
    refine (new_plus1 _ _ 2 (tiN n4 (plN (tiN 11 (plN 4 (tiN 2 (plN n2 1)))) 2)) _ rfl rfl (n_le (by omega)) (tiN_le _ _)).mono ?_
    rintro e w10 ⟨rfl, C⟩
    have HK := keepH (HK.out.falls C)
    clear C
    go_wp2_with fail
    refine (new_times1 _ _ 2 (tiN 64 n1) _ rfl rfl (n_le (by omega)) (tiN_le _ _)).mono ?_
    rintro e w11 ⟨rfl, C⟩
    have HK := keepH (HK.out.falls C)
    clear C
    go_wp2_with fail
    refine (new_plus2 _ _ _ 2 (tiN (tiN 64 n1) (plN 6 (tiN 3 (plN n2 1)))) (tiN 2 (tiN 64 n1)) _ rfl rfl rfl (n_le (by omega)) (tiN_le _ _) (tiN_le _ _)).mono ?_
    rintro e w12 ⟨rfl, C⟩
    have HK := keepH (HK.out.falls C)
    clear C
    go_wp2_with fail
    refine (new_times1 _ _ 5 (tiN 64 n1) _ rfl rfl (n_le (by omega)) (tiN_le _ _)).mono ?_
    rintro e w13 ⟨rfl, C⟩
    have HK := keepH (HK.out.falls C)
    clear C
    go_wp2_with fail
    refine (new_plus3 _ _ _ _ n3 1 (tiN (tiN 64 n1) (plN 6 (tiN 3 (plN n2 1)))) (tiN 5 (tiN 64 n1)) _ rfl rfl rfl rfl h3 (n_le (by omega)) (tiN_le _ _) (tiN_le _ _)).mono ?_
    rintro e w14 ⟨rfl, C⟩
    have HK := keepH (HK.out.falls C)
    clear C
    go_wp2_with fail
    refine (new_times1 _ _ 2 n3 _ rfl rfl (n_le (by omega)) h3).mono ?_
    rintro e w15 ⟨rfl, C⟩
    have HK := keepH (HK.out.falls C)
    clear C
    go_wp2_with fail
    refine (new_plus1 _ _ (tiN 2 n3) 5 _ rfl rfl (tiN_le _ _) (n_le (by omega))).mono ?_
    rintro e w16 ⟨rfl, C⟩
    have HK := keepH (HK.out.falls C)
    clear C
    go_wp2_with fail
    refine (new_more4 _ _ _ _ _ 96 (plN 2 (tiN n4 (plN (tiN 11 (plN 4 (tiN 2 (plN n2 1)))) 2))) (plN (plN 2 (tiN (tiN 64 n1) (plN 6 (tiN 3 (plN n2 1))))) (tiN 2 (tiN 64 n1))) (plN (plN (plN n3 1) (tiN (tiN 64 n1) (plN 6 (tiN 3 (plN n2 1))))) (tiN 5 (tiN 64 n1))) (plN (tiN 2 n3) 5) _ rfl rfl rfl rfl rfl (n_le (by omega)) (plN_le (n_le (by omega)) (tiN_le _ _)) (plN_le (plN_le (n_le (by omega)) (tiN_le _ _)) (tiN_le _ _)) (plN_le (plN_le (plN_le h3 (n_le (by omega))) (tiN_le _ _)) (tiN_le _ _)) (plN_le (tiN_le _ _) (n_le (by omega)))).mono ?_
    rintro e w17 ⟨rfl, C⟩
    have HK := keepH (HK.out.falls C)
    clear C
    go_wp2_with fail
    go_ret
    exact ⟨by simp [attN, walkN, keyN, obN, vN], C0.out.falls HK.out⟩
end Go.Proofs.Ytmjjaadliebgoaa
