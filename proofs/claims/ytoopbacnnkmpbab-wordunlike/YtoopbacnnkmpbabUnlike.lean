/- The law WordUnlike (P1.6), walked case by case: two slots, and two handles. -/
import Derived.Test.YtoopbacnnkmpbabWord
import Derived.ProofKit
namespace Go.Proofs.Ytoopbacnnkmpbab
open Go.RowKit

def Parted (h i : Int) : Prop := (unE h != 0) = true ∨ ((unE h != 0) = false ∧ (unE i != 0) = true) ∨ ((unE h != 0) = false ∧ h = i) ∨ ((unE h != 0) = false ∧ (unE i != 0) = false ∧ (unS h == unS i) = false ∧ (h == i) = false) ∨ ((unE h != 0) = false ∧ (unE i != 0) = false ∧ (unS h == unS i) = true ∧ (unG h == unG i) = false ∧ (h == i) = false)
theorem un_ok (h : Int) (e : unE h = 0) : unS h = h % 65536 - 1 ∧ unG h = h / 65536 := by
  have c1 : ¬ h % 65536 = 0 := by intro c; unfold unE at e; rw [if_pos c] at e; omega
  have c2 : ¬ 256 < h % 65536 := by intro c; unfold unE at e; rw [if_neg c1, if_pos c] at e; omega
  have c3 : ¬ 1048576 ≤ h / 65536 := by intro c; unfold unE at e; rw [if_neg c1, if_neg c2, if_pos c] at e; omega
  unfold unS unG
  rw [if_neg c1, if_neg c2, if_neg c3, if_neg c1, if_neg c2, if_neg c3]
  exact ⟨rfl, rfl⟩
theorem parted (h i : Int) : Parted h i := by
  unfold Parted
  by_cases c1 : (unE h != 0) = true
  · exact .inl c1
  · have d1 : (unE h != 0) = false := by simpa using c1
    by_cases c2 : (unE i != 0) = true
    · exact .inr (.inl ⟨d1, c2⟩)
    · have d2 : (unE i != 0) = false := by simpa using c2
      by_cases c3 : h = i
      · exact .inr (.inr (.inl ⟨d1, c3⟩))
      · have e1 : unE h = 0 := by simpa using d1
        have e2 : unE i = 0 := by simpa using d2
        by_cases c4 : unS h = unS i
        · refine .inr (.inr (.inr (.inr ⟨d1, d2, by simp [c4], ?_, by simp [c3]⟩)))
          rw [beq_eq_false_iff_ne]
          intro c5
          have u1 := un_ok h e1
          have u2 := un_ok i e2
          omega
        · exact .inr (.inr (.inr (.inl ⟨d1, d2, by simp [c4], by simp [c3]⟩)))

set_option maxHeartbeats 2000000 in
theorem unlike_a (a0x0 a0x1 a0x2 a1x0 a1x1 a1x2 h i : Int) (b0 : 0 ≤ a0x0 ∧ a0x0 ≤ 255) (b1 : 0 ≤ a0x1 ∧ a0x1 ≤ 18446744073709551615) (b2 : 0 ≤ a0x2 ∧ a0x2 ≤ 18446744073709551615) (b3 : 0 ≤ a1x0 ∧ a1x0 ≤ 255) (b4 : 0 ≤ a1x1 ∧ a1x1 ≤ 18446744073709551615) (b5 : 0 ≤ a1x2 ∧ a1x2 ≤ 18446744073709551615) (c0 : 0 ≤ h ∧ h ≤ 18446744073709551615) (c1 : 0 ≤ i ∧ i ≤ 18446744073709551615) (k1 : (packE a0x0 a0x1 a0x2 == 0) = false) (hp : Parted h i) (w : World) :
    Calls Try.prog 3 #[.agg #[.int .u8 a0x0, .int .u64 a0x1, .int .u64 a0x2], .agg #[.int .u8 a1x0, .int .u64 a1x1, .int .u64 a1x2], .agg #[.int .u64 h, .int .u64 i]] w fun e w' => e = .returned (.bool true) ∧ Grown w w' := by
  have z : unE 0 = 33 := rfl
  rcases hp with q1 | ⟨q1, q2⟩ | ⟨q1, rfl⟩ | ⟨q1, q2, q3, q4⟩ | ⟨q1, q2, q3, q4, q5⟩
  all_goals
    go_enter Try.func3, Try.ntmps3
    go_wp2_with fail
    refine (pack_any a0x0 a0x1 a0x2 _ (by omega) (by omega) (by omega) (by omega) (by omega) (by omega)).mono ?_
    rintro e w' ⟨rfl, rfl⟩
    go_wp2_with fail
    refine (pack_any a1x0 a1x1 a1x2 _ (by omega) (by omega) (by omega) (by omega) (by omega) (by omega)).mono ?_
    rintro e w' ⟨rfl, rfl⟩
    go_wp2_with fail
    refine (unhandle_any h _ (by omega) (by omega)).mono ?_
    rintro e w' ⟨rfl, rfl⟩
    go_wp2_with fail
    refine (unhandle_any _ _ (by omega) (by omega)).mono ?_
    rintro e w' ⟨rfl, rfl⟩
    go_wp2_with fail
    refine (unhandle_any 0 _ (by omega) (by omega)).mono ?_
    rintro e w' ⟨rfl, rfl⟩
    go_wp2_with fail
    refine (live_any _).mono ?_
    rintro e w' ⟨rfl, rfl⟩
    go_wp2
    go_ret
    exact ⟨by simp, by repeat (first | exact Grown.refl _ | apply Grown.drew | apply Grown.alloc)⟩

set_option maxHeartbeats 2000000 in
theorem unlike_b (a0x0 a0x1 a0x2 a1x0 a1x1 a1x2 h i : Int) (b0 : 0 ≤ a0x0 ∧ a0x0 ≤ 255) (b1 : 0 ≤ a0x1 ∧ a0x1 ≤ 18446744073709551615) (b2 : 0 ≤ a0x2 ∧ a0x2 ≤ 18446744073709551615) (b3 : 0 ≤ a1x0 ∧ a1x0 ≤ 255) (b4 : 0 ≤ a1x1 ∧ a1x1 ≤ 18446744073709551615) (b5 : 0 ≤ a1x2 ∧ a1x2 ≤ 18446744073709551615) (c0 : 0 ≤ h ∧ h ≤ 18446744073709551615) (c1 : 0 ≤ i ∧ i ≤ 18446744073709551615) (k1 : (packE a0x0 a0x1 a0x2 == 0) = true) (k2 : (packE a1x0 a1x1 a1x2 == 0) = false) (hp : Parted h i) (w : World) :
    Calls Try.prog 3 #[.agg #[.int .u8 a0x0, .int .u64 a0x1, .int .u64 a0x2], .agg #[.int .u8 a1x0, .int .u64 a1x1, .int .u64 a1x2], .agg #[.int .u64 h, .int .u64 i]] w fun e w' => e = .returned (.bool true) ∧ Grown w w' := by
  have z : unE 0 = 33 := rfl
  rcases hp with q1 | ⟨q1, q2⟩ | ⟨q1, rfl⟩ | ⟨q1, q2, q3, q4⟩ | ⟨q1, q2, q3, q4, q5⟩
  all_goals
    go_enter Try.func3, Try.ntmps3
    go_wp2_with fail
    refine (pack_any a0x0 a0x1 a0x2 _ (by omega) (by omega) (by omega) (by omega) (by omega) (by omega)).mono ?_
    rintro e w' ⟨rfl, rfl⟩
    go_wp2_with fail
    refine (pack_any a1x0 a1x1 a1x2 _ (by omega) (by omega) (by omega) (by omega) (by omega) (by omega)).mono ?_
    rintro e w' ⟨rfl, rfl⟩
    go_wp2_with fail
    refine (unhandle_any h _ (by omega) (by omega)).mono ?_
    rintro e w' ⟨rfl, rfl⟩
    go_wp2_with fail
    refine (unhandle_any _ _ (by omega) (by omega)).mono ?_
    rintro e w' ⟨rfl, rfl⟩
    go_wp2_with fail
    refine (unhandle_any 0 _ (by omega) (by omega)).mono ?_
    rintro e w' ⟨rfl, rfl⟩
    go_wp2_with fail
    refine (live_any _).mono ?_
    rintro e w' ⟨rfl, rfl⟩
    go_wp2
    go_ret
    exact ⟨by simp, by repeat (first | exact Grown.refl _ | apply Grown.drew | apply Grown.alloc)⟩

set_option maxHeartbeats 2000000 in
theorem unlike_c (a0x0 a0x1 a0x2 h i : Int) (b0 : 0 ≤ a0x0 ∧ a0x0 ≤ 255) (b1 : 0 ≤ a0x1 ∧ a0x1 ≤ 18446744073709551615) (b2 : 0 ≤ a0x2 ∧ a0x2 ≤ 18446744073709551615) (c0 : 0 ≤ h ∧ h ≤ 18446744073709551615) (c1 : 0 ≤ i ∧ i ≤ 18446744073709551615) (k1 : (packE a0x0 a0x1 a0x2 == 0) = true) (hp : Parted h i) (w : World) :
    Calls Try.prog 3 #[.agg #[.int .u8 a0x0, .int .u64 a0x1, .int .u64 a0x2], .agg #[.int .u8 a0x0, .int .u64 a0x1, .int .u64 a0x2], .agg #[.int .u64 h, .int .u64 i]] w fun e w' => e = .returned (.bool true) ∧ Grown w w' := by
  have z : unE 0 = 33 := rfl
  rcases hp with q1 | ⟨q1, q2⟩ | ⟨q1, rfl⟩ | ⟨q1, q2, q3, q4⟩ | ⟨q1, q2, q3, q4, q5⟩
  all_goals
    go_enter Try.func3, Try.ntmps3
    go_wp2_with fail
    refine (pack_any a0x0 a0x1 a0x2 _ (by omega) (by omega) (by omega) (by omega) (by omega) (by omega)).mono ?_
    rintro e w' ⟨rfl, rfl⟩
    go_wp2_with fail
    refine (pack_any a0x0 a0x1 a0x2 _ (by omega) (by omega) (by omega) (by omega) (by omega) (by omega)).mono ?_
    rintro e w' ⟨rfl, rfl⟩
    go_wp2_with fail
    refine (unhandle_any h _ (by omega) (by omega)).mono ?_
    rintro e w' ⟨rfl, rfl⟩
    go_wp2_with fail
    refine (unhandle_any _ _ (by omega) (by omega)).mono ?_
    rintro e w' ⟨rfl, rfl⟩
    go_wp2_with fail
    refine (unhandle_any 0 _ (by omega) (by omega)).mono ?_
    rintro e w' ⟨rfl, rfl⟩
    go_wp2_with fail
    refine (live_any _).mono ?_
    rintro e w' ⟨rfl, rfl⟩
    go_wp2
    go_ret
    exact ⟨by simp, by repeat (first | exact Grown.refl _ | apply Grown.drew | apply Grown.alloc)⟩

set_option maxHeartbeats 2000000 in
theorem unlike_d (a0x0 a0x1 a0x2 a1x0 a1x1 a1x2 h i : Int) (b0 : 0 ≤ a0x0 ∧ a0x0 ≤ 255) (b1 : 0 ≤ a0x1 ∧ a0x1 ≤ 18446744073709551615) (b2 : 0 ≤ a0x2 ∧ a0x2 ≤ 18446744073709551615) (b3 : 0 ≤ a1x0 ∧ a1x0 ≤ 255) (b4 : 0 ≤ a1x1 ∧ a1x1 ≤ 18446744073709551615) (b5 : 0 ≤ a1x2 ∧ a1x2 ≤ 18446744073709551615) (c0 : 0 ≤ h ∧ h ≤ 18446744073709551615) (c1 : 0 ≤ i ∧ i ≤ 18446744073709551615) (k1 : (packE a0x0 a0x1 a0x2 == 0) = true) (k2 : (packE a1x0 a1x1 a1x2 == 0) = true) (k3 : (packW a0x0 a0x1 a0x2 == packW a1x0 a1x1 a1x2) = false) (k4 : ¬ a0x0 = a1x0) (hp : Parted h i) (w : World) :
    Calls Try.prog 3 #[.agg #[.int .u8 a0x0, .int .u64 a0x1, .int .u64 a0x2], .agg #[.int .u8 a1x0, .int .u64 a1x1, .int .u64 a1x2], .agg #[.int .u64 h, .int .u64 i]] w fun e w' => e = .returned (.bool true) ∧ Grown w w' := by
  have z : unE 0 = 33 := rfl
  rcases hp with q1 | ⟨q1, q2⟩ | ⟨q1, rfl⟩ | ⟨q1, q2, q3, q4⟩ | ⟨q1, q2, q3, q4, q5⟩
  all_goals
    go_enter Try.func3, Try.ntmps3
    go_wp2_with fail
    refine (pack_any a0x0 a0x1 a0x2 _ (by omega) (by omega) (by omega) (by omega) (by omega) (by omega)).mono ?_
    rintro e w' ⟨rfl, rfl⟩
    go_wp2_with fail
    refine (pack_any a1x0 a1x1 a1x2 _ (by omega) (by omega) (by omega) (by omega) (by omega) (by omega)).mono ?_
    rintro e w' ⟨rfl, rfl⟩
    go_wp2_with fail
    refine (unhandle_any h _ (by omega) (by omega)).mono ?_
    rintro e w' ⟨rfl, rfl⟩
    go_wp2_with fail
    refine (unhandle_any _ _ (by omega) (by omega)).mono ?_
    rintro e w' ⟨rfl, rfl⟩
    go_wp2_with fail
    refine (unhandle_any 0 _ (by omega) (by omega)).mono ?_
    rintro e w' ⟨rfl, rfl⟩
    go_wp2_with fail
    refine (live_any _).mono ?_
    rintro e w' ⟨rfl, rfl⟩
    go_wp2
    go_ret
    exact ⟨by simp, by repeat (first | exact Grown.refl _ | apply Grown.drew | apply Grown.alloc)⟩

set_option maxHeartbeats 2000000 in
theorem unlike_e (a0x0 a0x1 a0x2 a1x1 a1x2 h i : Int) (b0 : 0 ≤ a0x0 ∧ a0x0 ≤ 255) (b1 : 0 ≤ a0x1 ∧ a0x1 ≤ 18446744073709551615) (b2 : 0 ≤ a0x2 ∧ a0x2 ≤ 18446744073709551615) (b3 : 0 ≤ a1x1 ∧ a1x1 ≤ 18446744073709551615) (b4 : 0 ≤ a1x2 ∧ a1x2 ≤ 18446744073709551615) (c0 : 0 ≤ h ∧ h ≤ 18446744073709551615) (c1 : 0 ≤ i ∧ i ≤ 18446744073709551615) (k1 : (packE a0x0 a0x1 a0x2 == 0) = true) (k2 : (packE a0x0 a1x1 a1x2 == 0) = true) (k3 : (packW a0x0 a0x1 a0x2 == packW a0x0 a1x1 a1x2) = false) (k4 : ¬ a0x1 = a1x1) (hp : Parted h i) (w : World) :
    Calls Try.prog 3 #[.agg #[.int .u8 a0x0, .int .u64 a0x1, .int .u64 a0x2], .agg #[.int .u8 a0x0, .int .u64 a1x1, .int .u64 a1x2], .agg #[.int .u64 h, .int .u64 i]] w fun e w' => e = .returned (.bool true) ∧ Grown w w' := by
  have z : unE 0 = 33 := rfl
  rcases hp with q1 | ⟨q1, q2⟩ | ⟨q1, rfl⟩ | ⟨q1, q2, q3, q4⟩ | ⟨q1, q2, q3, q4, q5⟩
  all_goals
    go_enter Try.func3, Try.ntmps3
    go_wp2_with fail
    refine (pack_any a0x0 a0x1 a0x2 _ (by omega) (by omega) (by omega) (by omega) (by omega) (by omega)).mono ?_
    rintro e w' ⟨rfl, rfl⟩
    go_wp2_with fail
    refine (pack_any a0x0 a1x1 a1x2 _ (by omega) (by omega) (by omega) (by omega) (by omega) (by omega)).mono ?_
    rintro e w' ⟨rfl, rfl⟩
    go_wp2_with fail
    refine (unhandle_any h _ (by omega) (by omega)).mono ?_
    rintro e w' ⟨rfl, rfl⟩
    go_wp2_with fail
    refine (unhandle_any _ _ (by omega) (by omega)).mono ?_
    rintro e w' ⟨rfl, rfl⟩
    go_wp2_with fail
    refine (unhandle_any 0 _ (by omega) (by omega)).mono ?_
    rintro e w' ⟨rfl, rfl⟩
    go_wp2_with fail
    refine (live_any _).mono ?_
    rintro e w' ⟨rfl, rfl⟩
    go_wp2
    go_ret
    exact ⟨by simp, by repeat (first | exact Grown.refl _ | apply Grown.drew | apply Grown.alloc)⟩

set_option maxHeartbeats 2000000 in
theorem unlike_f (a0x0 a0x1 a0x2 a1x2 h i : Int) (b0 : 0 ≤ a0x0 ∧ a0x0 ≤ 255) (b1 : 0 ≤ a0x1 ∧ a0x1 ≤ 18446744073709551615) (b2 : 0 ≤ a0x2 ∧ a0x2 ≤ 18446744073709551615) (b3 : 0 ≤ a1x2 ∧ a1x2 ≤ 18446744073709551615) (c0 : 0 ≤ h ∧ h ≤ 18446744073709551615) (c1 : 0 ≤ i ∧ i ≤ 18446744073709551615) (k1 : (packE a0x0 a0x1 a0x2 == 0) = true) (k2 : (packE a0x0 a0x1 a1x2 == 0) = true) (k3 : (packW a0x0 a0x1 a0x2 == packW a0x0 a0x1 a1x2) = false) (k4 : ¬ a0x2 = a1x2) (hp : Parted h i) (w : World) :
    Calls Try.prog 3 #[.agg #[.int .u8 a0x0, .int .u64 a0x1, .int .u64 a0x2], .agg #[.int .u8 a0x0, .int .u64 a0x1, .int .u64 a1x2], .agg #[.int .u64 h, .int .u64 i]] w fun e w' => e = .returned (.bool true) ∧ Grown w w' := by
  have z : unE 0 = 33 := rfl
  rcases hp with q1 | ⟨q1, q2⟩ | ⟨q1, rfl⟩ | ⟨q1, q2, q3, q4⟩ | ⟨q1, q2, q3, q4, q5⟩
  all_goals
    go_enter Try.func3, Try.ntmps3
    go_wp2_with fail
    refine (pack_any a0x0 a0x1 a0x2 _ (by omega) (by omega) (by omega) (by omega) (by omega) (by omega)).mono ?_
    rintro e w' ⟨rfl, rfl⟩
    go_wp2_with fail
    refine (pack_any a0x0 a0x1 a1x2 _ (by omega) (by omega) (by omega) (by omega) (by omega) (by omega)).mono ?_
    rintro e w' ⟨rfl, rfl⟩
    go_wp2_with fail
    refine (unhandle_any h _ (by omega) (by omega)).mono ?_
    rintro e w' ⟨rfl, rfl⟩
    go_wp2_with fail
    refine (unhandle_any _ _ (by omega) (by omega)).mono ?_
    rintro e w' ⟨rfl, rfl⟩
    go_wp2_with fail
    refine (unhandle_any 0 _ (by omega) (by omega)).mono ?_
    rintro e w' ⟨rfl, rfl⟩
    go_wp2_with fail
    refine (live_any _).mono ?_
    rintro e w' ⟨rfl, rfl⟩
    go_wp2
    go_ret
    exact ⟨by simp, by repeat (first | exact Grown.refl _ | apply Grown.drew | apply Grown.alloc)⟩

end Go.Proofs.Ytoopbacnnkmpbab
