/- An order whose first two have changed places. -/
import Derived.Test.YtnlkdibalhgipaaXd
namespace Go.Proofs.Ytnlkdibalhgipaa
open Go.RowKit Go.Maps
set_option linter.unusedVariables false

theorem infoIx : (Try.prog.info? 3).map (fun i => (i.zero, i.size, i.bytes)) = some (some (.int .i64 0), 1, 8) := by kernel_rfl
set_option maxRecDepth 100000 in
set_option maxHeartbeats 4000000 in
theorem sw_any {W : World} {B : Nat} {v : Value} {n : Nat} (h : W.ownsRow B 3 1 v n ((ordB n).map (Value.int .i64))) (h2 : 2 ≤ n) (hn : n ≤ 2000) :
    Calls Try.prog 12 #[v] W fun e W' => (∃ p c, e = .returned (.slice p n c) ∧ IReads W' p (swB n)) ∧ Chg (fun _ => False) W W' := by
  obtain ⟨i0, hi, hz0, hz1, hz2⟩ := info_parts infoIx
  rcases h.2 with ⟨rfl, rfl⟩ | ⟨g, cap, cur, rfl, _⟩
  · omega
  · have H := keepH h
    have hxl := h.1
    clear h
    go_enter Try.func12, Try.ntmps12
    go_upto_region 2 with (at_builtin; refine wpList_append_own_at _ rfl _ _ 28 rfl W.heap.size 3 i0 (.int .i64 0) 1 8 Try.underlying28 hi hz0 hz1 hz2 rfl (by decide) (.slice (some ⟨W.heap.size, 0, none⟩) 0 0) 0 [] rfl ⟨rfl, .inr ⟨W.heap.size, 0, #[], rfl, Nat.le_refl _, heap_alloc_new _ _, Nat.le_refl _, by unfold maxLen; omega, rfl, rfl⟩⟩ ⟨g, 0, none⟩ n cap ((ordB n).map (Value.int .i64)) rfl hxl (fun j u hj => ((H.out.alloc _).cells (g := g) rfl j u hj)) (by intro u hu; simp at hu; obtain ⟨x, _, rfl⟩ := hu; rfl) (by unfold maxLen; omega) (by omega) (by simp) ?_; intro v' w1 r1 r2 r3 r4; have R1 := keepH r1; have R2 := keepH r2; clear r1 r2 r3 r4)
    have hr1 := R1.out
    rw [Nat.zero_add, List.nil_append] at hr1
    rcases hr1.2 with ⟨rfl, h0⟩ | ⟨k, cap', cur', rfl, hB, hk, s1, s2, s3, s4⟩
    · omega
    · have HCG : Hid (Chg (fun _ => False) W w1) := ((Chg.refl _ W).alloc _).grown R2.out (fun k e hk => by simp [Value.ownBlock] at e; omega)
      have HB := keepH hB
      have HK := keepH hk
      rw [Nat.mul_one] at s4
      have HT := keepH s4
      have g0 : w1.cell? ⟨k, 0, none⟩ = some (.int .i64 0) := by
        have e : (cur'.toList.take n)[0]? = some (.int .i64 0) := by rw [s4]; simp [ordB_at (show 0 < n by omega)]
        rw [List.getElem?_take_of_lt (by omega)] at e
        rw [cell_of hk]; simpa using e
      have g1 : w1.cell? ⟨k, 1, none⟩ = some (.int .i64 1) := by
        have e : (cur'.toList.take n)[1]? = some (.int .i64 1) := by rw [s4]; simp [ordB_at (show 1 < n by omega)]
        rw [List.getElem?_take_of_lt (by omega)] at e
        rw [cell_of hk]; simpa using e
      have fr0 : ∀ i, w1.frozen? ⟨k, i, none⟩ = false := fun i => free_of hk i
      have f0 := fr0 0
      have hs0 := set_of hk 0 (.int .i64 1)
      have f1 : (w1.setCell ⟨k, 0, none⟩ (.int .i64 1)).frozen? ⟨k, 1, none⟩ = false := free_of hs0 1
      have g1' : (w1.setCell ⟨k, 0, none⟩ (.int .i64 1)).cell? ⟨k, 1, none⟩ = some (.int .i64 1) := by
        rw [cell_of hs0, Array.getElem?_setIfInBounds_ne (by omega), ← cell_of hk]
        exact g1
      obtain ⟨w9, hw9⟩ : ∃ w9, w9 = ((w1.setCell ⟨k, 0, none⟩ (.int .i64 1)).setCell ⟨k, 1, none⟩ (.int .i64 0)).drew := ⟨_, rfl⟩
      have H9 : Hid (IReads w9 (some ⟨k, 0, none⟩) (swB n) ∧ Chg (fun _ => False) W w9) := by
        have hs1 := set_of hs0 1 (.int .i64 0)
        have h9 : w9.heap[k]? = some (.cells ((cur'.setIfInBounds 0 (.int .i64 1)).setIfInBounds 1 (.int .i64 0)) 3 (0, 0)) := by rw [hw9]; exact hs1
        refine ⟨.inr ⟨k, 0, rfl, lt_of h9, fun i x hx => ?_⟩, ?_⟩
        · have hl : i < n := by have := (List.getElem?_eq_some_iff.1 hx).1; simpa [swB, ordB_length] using this
          rw [Nat.zero_add, cell_of h9]
          have e1 : (cur'.toList.take n)[i]? = some (.int .i64 (i : Int)) := by rw [s4]; simp [ordB_at hl]
          rw [List.getElem?_take_of_lt hl] at e1
          have hcl : cur'.size = cap' := by simpa using s3
          unfold swB at hx
          rw [Array.getElem?_setIfInBounds, Array.getElem?_setIfInBounds]
          rw [List.getElem?_set, List.getElem?_set] at hx
          simp only [Array.size_setIfInBounds, List.length_set, ordB_length] at hx ⊢
          by_cases i1 : 1 = i
          · subst i1
            rw [if_pos rfl, if_pos (by omega)] at hx
            rw [if_pos rfl, if_pos (by omega)]
            simp at hx
            rw [hx]
          · rw [if_neg i1] at hx ⊢
            by_cases i0 : 0 = i
            · subst i0
              rw [if_pos rfl, if_pos (by omega)] at hx
              rw [if_pos rfl, if_pos (by omega)]
              simp at hx
              rw [hx]
            · rw [if_neg i0] at hx ⊢
              obtain ⟨_, rfl⟩ := ordB_get hx
              simpa using e1
        · rw [hw9]
          exact ((HCG.out.setCell (p := ⟨k, 0, none⟩) (fun hlt => absurd hlt (by show ¬ k < _; have := HB.out; omega)) _).setCell (p := ⟨k, 1, none⟩) (fun hlt => absurd hlt (by show ¬ k < _; have := HB.out; omega)) _).drew
      clear fr0 hs0 hk hB s1 s2 s3 s4 hr1 R1 R2 H hxl
      have t1 : (1 : Int) < (n : Int) := by omega
      have t0 : (0 : Int) < (n : Int) := by omega
      have u1 : 1 < n := by omega
      have u0 : 0 < n := by omega
      go_region
      all_goals (
        rw [← hw9]
        clear hw9 g0 g1 f0 f1 g1'
        go_wp2_with fail
        go_ret
        exact ⟨⟨_, cap', by simp, H9.out.1⟩, H9.out.2⟩)
end Go.Proofs.Ytnlkdibalhgipaa
