/- The document's own: did a call return at a step; the longest row without a return. -/
import Derived.Test.YtmjjaadliebgoaaOa
namespace Go.Proofs.Ytmjjaadliebgoaa
open Go.RowKit
set_option linter.unusedVariables false

def retAt (ds : List DidA) (z : Int) : Bool := ds.any fun d => decide (0 ≤ d.tz) && decide (d.tz = z)
theorem retAt_take (ds : List DidA) (k : Nat) (d : DidA) (z : Int) (h : ds[k]? = some d) : retAt (ds.take (k + 1)) z = (retAt (ds.take k) z || (decide (0 ≤ d.tz) && decide (d.tz = z))) := by
  unfold retAt
  rw [List.take_add_one, h]
  simp
theorem retAt_of (ds : List DidA) (k : Nat) (d : DidA) (z : Int) (h : ds[k]? = some d) (h0 : 0 ≤ d.tz) (h1 : d.tz = z) : retAt ds z = true := by
  unfold retAt
  rw [List.any_eq_true]
  exact ⟨d, List.mem_of_getElem? h, by subst h1; simp [h0]⟩

set_option maxRecDepth 100000 in
set_option maxHeartbeats 2000000 in
theorem r_returns (r : ResA) (z : Int) (W : World) (h : r.At W) : Calls Try.prog 17 #[.agg r.cells.toArray, .int .i64 z] W fun e w => e = .returned (.bool (retAt r.ds z)) ∧ Chg (fun _ => False) W w := by
  have HR := keepH h
  have hn := h.nd
  clear h
  obtain ⟨W1, hW1⟩ : ∃ W1, W1 = W.alloc (.cells r.cells.toArray 26) := ⟨_, rfl⟩
  have C1 : Chg (fun _ => False) W W1 := by rw [hW1]; exact (Chg.refl _ _).alloc _
  have b0 : W1.cell? ⟨W.heap.size, 0, none⟩ = some (.slice r.pd r.ds.length r.cd) := by rw [hW1]; exact cell_of (heap_alloc_new _ _) 0
  have HC := keepH C1
  have HB := keepH b0
  go_enter Try.func17, Try.ntmps17
  go_wp2_with (first | (rw [← hW1]; clear hW1) | fail)
  go_loopw [5] (fun s wr => ∃ k : Nat, k ≤ r.ds.length ∧ s = .int .i64 (k : Int) ∧ wr = W1 ∧ Hid (retAt (r.ds.take k) z = false)) (fun s _ => r.ds.length - (intOf s).toNat)
  case atStart => exact ⟨0, by omega, rfl, by first | rfl | exact hW1.symm, keepH (by simp [retAt])⟩
  case round =>
    obtain ⟨k, hk, rfl, rfl, HK⟩ := hrel
    by_cases hlt : k < r.ds.length
    · have t1 : (k : Int) < (r.ds.length : Int) := by omega
      obtain ⟨d, hd⟩ : ∃ d, r.ds[k]? = some d := ⟨r.ds[k], List.getElem?_eq_getElem hlt⟩
      obtain ⟨bk, off, e, hb, c0⟩ := (HR.out.ds.chg HC.out).get k d.cells (by simp [hd])
      have c3 : wr.cell? ⟨bk, off + k * 22 + 3, none⟩ = some (.int .i64 d.tz) := c0 3 _ rfl
      have b1 := HB.out
      rw [e] at b1
      have HD := keepH hd
      clear hd c0
      by_cases h0 : 0 ≤ d.tz
      · by_cases h1 : d.tz = z
        · go_wp2_with fail
          go_ret
          exact ⟨by simp [retAt_of r.ds k d z HD.out h0 h1], HC.out⟩
        · go_wp2_with fail
          go_roundw
          case rel => exact ⟨k + 1, by omega, by first | rfl | go_num, by first | trivial | rfl, keepH (by rw [retAt_take _ _ d _ HD.out, HK.out]; simp [h1])⟩
          case measure => simp [intOf]; omega
      · go_wp2_with fail
        go_roundw
        case rel => exact ⟨k + 1, by omega, by first | rfl | go_num, by first | trivial | rfl, keepH (by rw [retAt_take _ _ d _ HD.out, HK.out]; simp [h0])⟩
        case measure => simp [intOf]; omega
    · obtain rfl : k = r.ds.length := by omega
      have t1 : ¬ (r.ds.length : Int) < (r.ds.length : Int) := by omega
      have b1 := HB.out
      have q := HK.out
      rw [List.take_length] at q
      have HQ := keepH q
      clear q
      go_wp2_with fail
      go_ret
      exact ⟨by simp [HQ.out], HC.out⟩
/-- The longest row and the row by now, behind k accesses. -/
def longN (r : ResA) : Nat → Nat × Nat
  | 0 => (0, 0)
  | k + 1 => let n := if retAt r.ds (stp r.ss k) then 0 else (longN r k).2 + 1; (max (longN r k).1 n, n)
theorem longN_le (r : ResA) (k : Nat) : (longN r k).1 ≤ k ∧ (longN r k).2 ≤ k := by
  induction k with
  | zero => simp [longN]
  | succ k ih =>
    simp only [longN]
    split <;> omega

set_option maxRecDepth 100000 in
set_option maxHeartbeats 2000000 in
theorem r_longest (r : ResA) (W : World) (h : r.At W) : Calls Try.prog 9 #[.agg r.cells.toArray] W fun e w => e = .returned (.int .i64 (((longN r r.ts.length).1 : Nat) : Int)) ∧ Chg (fun _ => False) W w := by
  have HR := keepH h
  have hn := h.nt
  clear h
  obtain ⟨W1, hW1⟩ : ∃ W1, W1 = W.alloc (.cells r.cells.toArray 26) := ⟨_, rfl⟩
  have C1 : Chg (fun _ => False) W W1 := by rw [hW1]; exact (Chg.refl _ _).alloc _
  have k1 : W1.heap[W.heap.size]? = some (.cells r.cells.toArray 26 (0, 0)) := by rw [hW1]; exact heap_alloc_new _ _
  have s1 : W.heap.size < W1.heap.size := by rw [hW1]; simp
  have HC := keepH C1
  have HB := keepH k1
  clear C1 k1
  go_enter Try.func9, Try.ntmps9
  go_wp2_with (first | (rw [← hW1]; clear hW1) | fail)
  go_loopw [3, 4, 5] (fun x y s wr => ∃ k : Nat, k ≤ r.ts.length ∧ s = .int .i64 (k : Int) ∧ x = .int .i64 (((longN r k).1 : Nat) : Int) ∧ y = .int .i64 (((longN r k).2 : Nat) : Int) ∧ Hid (Chg (fun _ => False) W1 wr)) (fun _ _ s _ => r.ts.length - (intOf s).toNat)
  case atStart => exact ⟨0, by omega, rfl, rfl, rfl, keepH (by first | exact Chg.refl _ _ | (rw [hW1]; exact Chg.refl _ _))⟩
  case round =>
    obtain ⟨k, hk, rfl, rfl, rfl, HK⟩ := hrel
    have bb : wr.heap[W.heap.size]? = some (.cells r.cells.toArray 26 (0, 0)) := (HK.out.block _ s1 (fun x => x)).trans HB.out
    have b0 : wr.cell? ⟨W.heap.size, 0, none⟩ = some (.slice r.pd r.ds.length r.cd) := cell_of bb 0
    have b1 : wr.cell? ⟨W.heap.size, 1, none⟩ = some (.slice r.pt r.ts.length r.ct) := cell_of bb 1
    have b2 : wr.cell? ⟨W.heap.size, 2, none⟩ = some (.slice r.ps r.ss.length r.cs) := cell_of bb 2
    have HBB := keepH bb
    clear bb
    by_cases hlt : k < r.ts.length
    · have t1 : (k : Int) < (r.ts.length : Int) := by omega
      have hl := longN_le r k
      have AT := HR.out.chg (HC.out.falls HK.out)
      have HAT := keepH AT
      clear AT
      obtain ⟨m, hm⟩ : ∃ m, m = (longN r k).1 := ⟨_, rfl⟩
      obtain ⟨n, hn2⟩ : ∃ n, n = (longN r k).2 := ⟨_, rfl⟩
      rw [← hm, ← hn2] at hl ⊢
      have HM := keepH hm
      have HN := keepH hn2
      clear hm hn2
      obtain ⟨hl1, hl2⟩ := hl
      obtain ⟨q, hq⟩ : ∃ q, q = retAt r.ds (stp r.ss k) := ⟨_, rfl⟩
      have HQ := keepH hq
      clear hq
      have HAt : Hid (∀ w i v, Chg (fun _ => False) wr w → r.cells.toArray[i]? = some v → w.cell? ⟨W.heap.size, i, none⟩ = some v) := fun w i v h hv => by
        rw [cell_of ((h.block _ (lt_of HBB.out) (fun x => x)).trans HBB.out) i]; exact hv
      have z0 : retAt r.ds (stp r.ss k) = q := HQ.out.symm
      have HZ := keepH z0
      clear z0
      go_upto_region 6 with fail
      go_cut [19] from 6 to 22 (fun s19 wz => s19 = .bool q ∧ Hid (Chg (fun _ => False) wr wz))
      case first =>
        have hS0 : Chg (fun _ => False) wr wr.drew := (Chg.refl _ _).drew
        refine wp_region_held_drew (S := (fun wd => Chg (fun _ => False) wr wd)) (by kernel_rfl) (hS0) ?_
        intro hHeld
        refine wpAnyH_take (i := 0) (v := ?_) rfl (by kernel_rfl) (by kernel_rfl) (by kernel_rfl) (fun _ _ _ h => h) (Or.inl ⟨by rfl, ?_⟩) hHeld ?_
        rotate_left
        · intro w hSw
          (try dsimp only at hSw)
          have y0 := HAt.out _ 0 _ hSw rfl
          have y1 := HAt.out _ 1 _ hSw rfl
          have y2 := HAt.out _ 2 _ hSw rfl
          go_simp
          try with_reducible rfl
        (try simp only [Act.put]); (try simp only [List.setIfInBounds_toArray]); (repeat (first | simp only [List.set_cons_succ] | simp only [List.set_cons_zero]))
        refine wpAnyH_take (i := 1) (v := ?_) rfl (by kernel_rfl) (by kernel_rfl) (by kernel_rfl) (fun _ _ _ h => h) (Or.inl ⟨by rfl, ?_⟩) hHeld ?_
        rotate_left
        · intro w hSw
          (try dsimp only at hSw)
          have y0 := HAt.out _ 0 _ hSw rfl
          have y1 := HAt.out _ 1 _ hSw rfl
          have y2 := HAt.out _ 2 _ hSw rfl
          go_simp
          try with_reducible rfl
        (try simp only [Act.put]); (try simp only [List.setIfInBounds_toArray]); (repeat (first | simp only [List.set_cons_succ] | simp only [List.set_cons_zero]))
        refine wpAnyH_take (i := 2) (v := ?_) rfl (by kernel_rfl) (by kernel_rfl) (by kernel_rfl) (fun _ _ _ h => h) (Or.inl ⟨by rfl, ?_⟩) hHeld ?_
        rotate_left
        · intro w hSw
          (try dsimp only at hSw)
          go_simp
          try with_reducible rfl
        (try simp only [Act.put]); (try simp only [List.setIfInBounds_toArray]); (repeat (first | simp only [List.set_cons_succ] | simp only [List.set_cons_zero]))
        refine wpAnyH_ready (rs := [3]) (by kernel_rfl) (by simp) ?_
        refine AllReadyH.cons rfl (fun KK hKK => ?_) AllReadyH.nil
        go_simp
        go_at_call 15
        refine (r_step r k _ (HAT.out.chg hS0) (by omega)).mono ?_
        rintro e w1 ⟨rfl, C1⟩
        have hS1 : Chg (fun _ => False) wr w1 := hS0.falls C1
        clear C1
        try go_wp2_with fail
        refine hKK.out _ _ ?_ (fun hHeld => ?_)
        · exact hS1
        clear hKK KK
        (try simp only [Act.put]); (try simp only [List.setIfInBounds_toArray]); (repeat (first | simp only [List.set_cons_succ] | simp only [List.set_cons_zero]))
        refine wpAnyH_ready (rs := [4]) (by kernel_rfl) (by simp) ?_
        refine AllReadyH.cons rfl (fun KK hKK => ?_) AllReadyH.nil
        go_simp
        go_at_call 17
        refine (r_returns r _ _ (HAT.out.chg hS1)).mono ?_
        rintro e w2 ⟨rfl, C2⟩
        have hS2 : Chg (fun _ => False) wr w2 := hS1.falls C2
        clear C2
        try go_wp2_with fail
        refine hKK.out _ _ ?_ (fun hHeld => ?_)
        · exact hS2
        clear hKK KK
        (try simp only [Act.put]); (try simp only [List.setIfInBounds_toArray]); (repeat (first | simp only [List.set_cons_succ] | simp only [List.set_cons_zero]))
        refine wpAnyH_done (by kernel_rfl) ?_ _
        go_simp
        try go_wp2_with fail
        go_meet
        exact ⟨by rw [HZ.out], keepH hS2⟩
      case rest =>
        obtain ⟨rfl, HL⟩ := hcut
        have HT := keepH (HK.out.falls HL.out)
        cases q with
        | true =>
          go_wp2_with fail
          refine (l_most _ _ _).mono ?_
          rintro e w5 ⟨rfl, rfl⟩
          go_wp2_with fail
          go_roundw
          case rel => exact ⟨k + 1, by omega, by first | rfl | go_num, by simp only [longN, HZ.out, ← HM.out]; simp; try omega, by simp only [longN, HZ.out]; simp, HT⟩
          case measure => simp [intOf]; omega
        | false =>
          go_wp2_with fail
          refine (l_most _ _ _).mono ?_
          rintro e w5 ⟨rfl, rfl⟩
          go_wp2_with fail
          go_roundw
          case rel => exact ⟨k + 1, by omega, by first | rfl | go_num, by simp only [longN, HZ.out, ← HM.out, ← HN.out]; simp; try omega, by simp only [longN, HZ.out, ← HN.out]; simp, HT⟩
          case measure => simp [intOf]; omega
    · obtain rfl : k = r.ts.length := by omega
      have t1 : ¬ (r.ts.length : Int) < (r.ts.length : Int) := by omega
      go_wp2_with fail
      go_ret
      exact ⟨by simp, HC.out.falls HK.out⟩
end Go.Proofs.Ytmjjaadliebgoaa
