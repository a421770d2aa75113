/- The pivot. -/
import Derived.Test.YtomdnmmghdmpgaaUg
namespace Go.Proofs.Ytomdnmmghdmpgaa
open Go.RowKit
set_option linter.unusedVariables false

set_option maxRecDepth 100000 in
set_option maxHeartbeats 8000000 in
/-- The pivot of a part of more than twelve: it lies in the part; nothing that was there is changed. -/
theorem pivot_g {W : World} {g c a b : Nat} {zs : List Nat} (hr : RowU W g zs) (hb : b ≤ zs.length) (hz : zs.length ≤ 1152921504606846976) (ha : a + 12 < b) :
    Calls Try.prog 43 #[.slice (some ⟨g, 0, none⟩) zs.length c, .int .i64 (a : Int), .int .i64 (b : Int)] W fun e W' => (∃ (p : Nat) (t : Int), e = .returned (.tuple #[.int .i64 (p : Int), .int .i64 t]) ∧ a ≤ p ∧ p < b) ∧ Chg (fun _ => False) W W' := by
  obtain ⟨n, hn⟩ : ∃ n, n = zs.length := ⟨_, rfl⟩
  rw [← hn] at hz hb ⊢
  obtain ⟨sb, hsb⟩ : ∃ sb, sb = W.heap.size := ⟨_, rfl⟩
  obtain ⟨w0, hw0⟩ : ∃ w0, w0 = W.alloc (.cells #[.int .i64 0] 3) := ⟨_, rfl⟩
  have H0 : Hid (PV w0 w0 g zs sb) := by
    have lt : g < W.heap.size := by obtain ⟨rest, B⟩ := hr; exact lt_of B
    refine ⟨?_, ⟨0, ?_⟩, by omega, Chg.refl _ _⟩
    · rw [hw0]; exact hr.chg (F := fun _ => False) ((Chg.refl _ _).alloc _) (fun x => x)
    · rw [hw0, hsb]; exact heap_alloc_new _ _
  have HC : Hid (∀ w, Chg (fun k => k = sb) w0 w → Chg (fun _ => False) W w) := fun w c => by
    have c0 : Chg (fun _ => False) W w0 := by rw [hw0]; exact (Chg.refl _ _).alloc _
    exact c0.trans c (fun _ _ x => x) (fun i hi e => by omega)
  have HN := keepH hn
  obtain ⟨l, hl⟩ : ∃ l, l = b - a := ⟨_, rfl⟩
  obtain ⟨q, hq⟩ : ∃ q, q = l / 4 := ⟨_, rfl⟩
  obtain ⟨q2, hq2⟩ : ∃ q2, q2 = q * 2 := ⟨_, rfl⟩
  obtain ⟨q3, hq3⟩ : ∃ q3, q3 = q * 3 := ⟨_, rfl⟩
  obtain ⟨i, hi⟩ : ∃ i, i = a + q := ⟨_, rfl⟩
  obtain ⟨j, hj⟩ : ∃ j, j = a + q2 := ⟨_, rfl⟩
  obtain ⟨k, hk⟩ : ∃ k, k = a + q3 := ⟨_, rfl⟩
  have w1 : IntKind.i64.wrap ((b : Int) - (a : Int)) = (l : Int) := by rw [IntKind.wrap_i64]; omega
  have d1 : ((l : Int).tdiv 4) = (q : Int) := by rw [Int.tdiv_eq_ediv_of_nonneg (by omega)]; omega
  have d2 : IntKind.i64.wrap (q : Int) = (q : Int) := by rw [IntKind.wrap_i64]; omega
  have d3 : IntKind.i64.wrap ((q : Int) * 2) = (q2 : Int) := by rw [IntKind.wrap_i64]; omega
  have d4 : IntKind.i64.wrap ((q : Int) * 3) = (q3 : Int) := by rw [IntKind.wrap_i64]; omega
  have d5 : IntKind.i64.wrap ((a : Int) + (q : Int)) = (i : Int) := by rw [IntKind.wrap_i64]; omega
  have d6 : IntKind.i64.wrap ((a : Int) + (q2 : Int)) = (j : Int) := by rw [IntKind.wrap_i64]; omega
  have d7 : IntKind.i64.wrap ((a : Int) + (q3 : Int)) = (k : Int) := by rw [IntKind.wrap_i64]; omega
  have t8 : (8 : Int) ≤ (l : Int) := by omega
  have HB : Hid (a + 3 ≤ i ∧ i + 3 ≤ j ∧ j + 3 ≤ k ∧ k + 2 < b + 0 + 2 ∧ k < b ∧ (50 ≤ l → a + 12 ≤ i ∧ k + 1 < b)) := ⟨by omega, by omega, by omega, by omega, by omega, fun h => ⟨by omega, by omega⟩⟩
  clear hr hn hl hq hq2 hq3 hi hj hk
  by_cases h50 : 50 ≤ l
  · have t50 : (50 : Int) ≤ (l : Int) := by omega
    go_enter Try.func43, Try.ntmps43
    go_wp2_with fail
    rw [← hw0, ← hsb]
    clear hw0 hsb
    refine (medadj_g H0.out HN.out (by have := HB.out; omega) (by have := HB.out; omega) hz).mono ?_
    rintro e w1 ⟨⟨i', rfl, hi1, hi2⟩, k1⟩
    have H1 := keepH k1
    have HI : Hid (i' ≤ i + 1 ∧ i ≤ i' + 1) := ⟨hi1, hi2⟩
    clear k1 hi1 hi2
    go_wp2_with fail
    refine (medadj_g H1.out HN.out (by have := HB.out; omega) (by have := HB.out; omega) hz).mono ?_
    rintro e w2 ⟨⟨j', rfl, hj1, hj2⟩, k2⟩
    have H2 := keepH k2
    have HJ : Hid (j' ≤ j + 1 ∧ j ≤ j' + 1) := ⟨hj1, hj2⟩
    clear k2 hj1 hj2
    go_wp2_with fail
    refine (medadj_g H2.out HN.out (by have := HB.out.2.2.2.2.2 h50; omega) (by have := HB.out; omega) hz).mono ?_
    rintro e w3 ⟨⟨k', rfl, hk1, hk2⟩, k3⟩
    have H3 := keepH k3
    have HKK : Hid (k' ≤ k + 1 ∧ k ≤ k' + 1) := ⟨hk1, hk2⟩
    clear k3 hk1 hk2
    go_wp2_with fail
    refine (med_g H3.out HN.out (by have := HB.out; have := HI.out; omega) (by have := HB.out; have := HJ.out; omega) (by have := HB.out.2.2.2.2.2 h50; have := HKK.out; omega)).mono ?_
    rintro e w4 ⟨⟨p, rfl, hp⟩, k4⟩
    have H4 := keepH k4
    have HP : Hid (a ≤ p ∧ p < b) := by have := HB.out; have := HB.out.2.2.2.2.2 h50; have := HI.out; have := HJ.out; have := HKK.out; exact ⟨by omega, by omega⟩
    clear k4 hp
    obtain ⟨z, hz4⟩ := H4.out.blk
    have s1 : w4.cell? ⟨sb, 0, none⟩ = some (.int .i64 z) := hz4.cell 0
    clear hz4
    by_cases z0 : z = 0
    · have y0 : (z == 0) = true := by simp [z0]
      clear z0
      go_wp2_with fail
      exact bodyPost_ret (results_tmp2 rfl _ _ _) rfl ⟨⟨p, _, rfl, HP.out.1, HP.out.2⟩, HC.out _ H4.out.chg⟩
    · have y0 : (z == 0) = false := by simpa using z0
      by_cases z1 : z = 12
      · have y1 : (z == 12) = true := by simp [z1]
        clear z0 z1
        go_wp2_with fail
        exact bodyPost_ret (results_tmp2 rfl _ _ _) rfl ⟨⟨p, _, rfl, HP.out.1, HP.out.2⟩, HC.out _ H4.out.chg⟩
      · have y1 : (z == 12) = false := by simpa using z1
        clear z0 z1
        go_wp2_with fail
        exact bodyPost_ret (results_tmp2 rfl _ _ _) rfl ⟨⟨p, _, rfl, HP.out.1, HP.out.2⟩, HC.out _ H4.out.chg⟩
  · have t50 : ¬ (50 : Int) ≤ (l : Int) := by omega
    go_enter Try.func43, Try.ntmps43
    go_wp2_with fail
    rw [← hw0, ← hsb]
    clear hw0 hsb
    refine (med_g H0.out HN.out (by have := HB.out; omega) (by have := HB.out; omega) (by have := HB.out; omega)).mono ?_
    rintro e w4 ⟨⟨p, rfl, hp⟩, k4⟩
    have H4 := keepH k4
    have HP : Hid (a ≤ p ∧ p < b) := by have := HB.out; exact ⟨by omega, by omega⟩
    clear k4 hp
    obtain ⟨z, hz4⟩ := H4.out.blk
    have s1 : w4.cell? ⟨sb, 0, none⟩ = some (.int .i64 z) := hz4.cell 0
    clear hz4
    by_cases z0 : z = 0
    · have y0 : (z == 0) = true := by simp [z0]
      clear z0
      go_wp2_with fail
      exact bodyPost_ret (results_tmp2 rfl _ _ _) rfl ⟨⟨p, _, rfl, HP.out.1, HP.out.2⟩, HC.out _ H4.out.chg⟩
    · have y0 : (z == 0) = false := by simpa using z0
      by_cases z1 : z = 12
      · have y1 : (z == 12) = true := by simp [z1]
        clear z0 z1
        go_wp2_with fail
        exact bodyPost_ret (results_tmp2 rfl _ _ _) rfl ⟨⟨p, _, rfl, HP.out.1, HP.out.2⟩, HC.out _ H4.out.chg⟩
      · have y1 : (z == 12) = false := by simpa using z1
        clear z0 z1
        go_wp2_with fail
        exact bodyPost_ret (results_tmp2 rfl _ _ _) rfl ⟨⟨p, _, rfl, HP.out.1, HP.out.2⟩, HC.out _ H4.out.chg⟩
end Go.Proofs.Ytomdnmmghdmpgaa
