/- For every word and handle the law WordWords (P1.5) returns true and leaves its arguments as they were; no condition. -/
import Derived.Test.YtoopbacnnkmpbaaRows
import Derived.WalkKit
import Derived.ProofKit
import Derived.OpenShut
import Derived.Test.YtoopbacnnkmpbaaParts
import Derived.Test.YtoopbacnnkmpbaaTwo
namespace Go.Proofs.Ytoopbacnnkmpbaa.wordWords
open Go.ChangeShapes Go.WideShapes Go.ChangeAt Go.RowKit
set_option linter.unusedVariables false

theorem own : ownKnob Try.prog.godebug = none := by kernel_rfl

theorem walk (a0 : Int) (a1 : Int) (w0 : (Lit.int .u64 a0).wf = true) (w1 : (Lit.int .u64 a1).wf = true) (w : World) :
    Calls Try.prog 6 #[.int .u64 a0, .int .u64 a1] w fun e w' => e = .returned (.bool true) ∧ Grown w w' := by
  have b0 := bounds_u64 w0
  have b1 := bounds_u64 w1
  have main : (∃ s g : Int, unS a1 = s ∧ unG a1 = g ∧ unE a1 = 33 ∧ s = 0 ∧ g = 0) ∨ (∃ s g : Int, unS a1 = s ∧ unG a1 = g ∧ unE a1 = 0 ∧ 0 ≤ s ∧ s < 256 ∧ 0 ≤ g ∧ g < 1048576 ∧ handleW s g = a1 ∧ handleE s g = 0) := by
    by_cases c : a1 % 65536 = 0 ∨ 256 < a1 % 65536 ∨ 1048576 ≤ a1 / 65536
    · refine .inl ⟨_, _, rfl, rfl, ?_, ?_, ?_⟩
      · unfold unE; (repeat' split) <;> omega
      · unfold unS; (repeat' split) <;> omega
      · unfold unG; (repeat' split) <;> omega
    · have e1 : unS a1 = a1 % 65536 - 1 := by unfold unS; (repeat' split) <;> omega
      have e2 : unG a1 = a1 / 65536 := by unfold unG; (repeat' split) <;> omega
      refine .inr ⟨a1 % 65536 - 1, a1 / 65536, e1, e2, ?_, by omega, by omega, by omega, by omega, ?_, ?_⟩
      · unfold unE; (repeat' split) <;> omega
      · unfold handleW; (repeat' split) <;> omega
      · unfold handleE; (repeat' split) <;> omega
  have child : (∃ x e : Int, childW (splitK a0) (a0 / 2) = x ∧ childE (splitK a0) (a0 / 2) = e ∧ (e == 0) = true ∧ (x != a0) = false ∧ (a0 != 1) = true ∧ a0 / 2 ≤ 4611686018427387904) ∨ (∃ x e : Int, childW (splitK a0) (a0 / 2) = x ∧ childE (splitK a0) (a0 / 2) = e ∧ (e == 0) = false ∧ ((a0 != 1) = false ∨ (a0 != 1) = true ∧ ¬ a0 / 2 ≤ 4611686018427387904)) := by
    by_cases c : a0 = 1 ∨ 4611686018427387904 < a0 / 2
    · refine .inr ⟨_, _, rfl, rfl, ?_, ?_⟩
      · have : childE (splitK a0) (a0 / 2) = 2 := by unfold childE splitK; (repeat' split) <;> omega
        rw [this]; rfl
      · by_cases d : a0 = 1
        · exact .inl (by simp [d])
        · exact .inr ⟨by simp [d], by omega⟩
    · refine .inl ⟨_, _, rfl, rfl, ?_, ?_, ?_, by omega⟩
      · have : childE (splitK a0) (a0 / 2) = 0 := by unfold childE splitK; (repeat' split) <;> omega
        rw [this]; rfl
      · have : childW (splitK a0) (a0 / 2) = a0 := by unfold childW splitK; (repeat' split) <;> omega
        rw [this]; simp
      · have : a0 ≠ 1 := by omega
        simp [this]
  have walkTwo : ∀ (x e s g f : Int), (∀ w, Calls Try.prog 7 #[.int .u8 (splitK a0), .int .u64 (a0 / 2)] w fun r w' => r = .returned (.tuple #[.int .u64 x, .int .i64 e]) ∧ w' = w) → (∀ w, Calls Try.prog 18 #[.int .u64 a1] w fun r w' => r = .returned (.tuple #[.int .i64 s, .int .u64 g, .int .i64 f]) ∧ w' = w) →
      ((e == 0) = true ∧ (x != a0) = false ∧ (a0 != 1) = true ∧ a0 / 2 ≤ 4611686018427387904 ∨ (e == 0) = false ∧ (a0 != 1) = false ∨ (e == 0) = false ∧ (a0 != 1) = true ∧ ¬ a0 / 2 ≤ 4611686018427387904) →
      ((f != 0) = true ∧ s = 0 ∧ g = 0 ∨ (f != 0) = false ∧ 0 ≤ s ∧ s < 256 ∧ 0 ≤ g ∧ g < 1048576 ∧ (handleW s g == a1) = true ∧ (handleE s g == 0) = true) →
      Calls Try.prog 6 #[.int .u64 a0, .int .u64 a1] w fun r w' => r = .returned (.bool true) ∧ Grown w w' := by
    intro x e s g f hc hu hk hm
    have Hc := keep hc
    have Hu := keep hu
    clear hc hu child main
    rcases hm with ⟨m1, rfl, rfl⟩ | ⟨m1, m2, m3, m4, m5, m6, m7⟩
    · rcases hk with ⟨k1, k2, k3, k4⟩ | ⟨k1, k2⟩ | ⟨k1, k2, k3⟩
      all_goals
        go_enter Try.func6, Try.ntmps6
        go_wp2_with fail
        refine (split_any a0 _ (by omega) (by omega)).mono ?_
        rintro e w' ⟨rfl, rfl⟩
        go_wp2_with fail
        refine (Hc.out _).mono ?_
        rintro e w' ⟨rfl, rfl⟩
        go_wp2_with fail
        refine (Hu.out _).mono ?_
        rintro e w' ⟨rfl, rfl⟩
        go_wp2_with fail
        refine (live_any _).mono ?_
        rintro e w' ⟨rfl, rfl⟩
        go_wp2
        go_ret
        exact ⟨by simp, Grown.refl _⟩
    · rcases hk with ⟨k1, k2, k3, k4⟩ | ⟨k1, k2⟩ | ⟨k1, k2, k3⟩
      all_goals
        go_enter Try.func6, Try.ntmps6
        go_wp2_with fail
        refine (split_any a0 _ (by omega) (by omega)).mono ?_
        rintro e w' ⟨rfl, rfl⟩
        go_wp2_with fail
        refine (Hc.out _).mono ?_
        rintro e w' ⟨rfl, rfl⟩
        go_wp2_with fail
        refine (Hu.out _).mono ?_
        rintro e w' ⟨rfl, rfl⟩
        go_wp2_with fail
        refine (handle_any _ _ _ (by omega) (by omega) (by omega) (by omega)).mono ?_
        rintro e w' ⟨rfl, rfl⟩
        go_wp2_with fail
        refine (live_any _).mono ?_
        rintro e w' ⟨rfl, rfl⟩
        go_wp2
        go_ret
        exact ⟨by simp, Grown.refl _⟩
  have hs : ∃ x e : Int, childW (splitK a0) (a0 / 2) = x ∧ childE (splitK a0) (a0 / 2) = e ∧ ((e == 0) = true ∧ (x != a0) = false ∧ (a0 != 1) = true ∧ a0 / 2 ≤ 4611686018427387904 ∨ (e == 0) = false ∧ (a0 != 1) = false ∨ (e == 0) = false ∧ (a0 != 1) = true ∧ ¬ a0 / 2 ≤ 4611686018427387904) := by
    rcases child with ⟨x, e, k1, k2, k3, k4, k5, k6⟩ | ⟨x, e, k1, k2, k3, k4 | ⟨k4, k5⟩⟩
    · exact ⟨x, e, k1, k2, .inl ⟨k3, k4, k5, k6⟩⟩
    · exact ⟨x, e, k1, k2, .inr (.inl ⟨k3, k4⟩)⟩
    · exact ⟨x, e, k1, k2, .inr (.inr ⟨k3, k4, k5⟩)⟩
  obtain ⟨x, e, k1, k2, k3⟩ := hs
  have hc : ∀ w, Calls Try.prog 7 #[.int .u8 (splitK a0), .int .u64 (a0 / 2)] w fun r w' => r = .returned (.tuple #[.int .u64 x, .int .i64 e]) ∧ w' = w := by
    intro w
    have := child_any (splitK a0) (a0 / 2) w (by omega) (by omega)
    rwa [k1, k2] at this
  rcases main with ⟨s, g, m1, m2, m3, m4, m5⟩ | ⟨s, g, m1, m2, m3, m4, m5, m6, m7, m8, m9⟩
  · refine walkTwo x e s g 33 hc ?_ k3 (.inl ⟨by decide, m4, m5⟩)
    intro w
    have := unhandle_any a1 w (by omega) (by omega)
    rwa [m1, m2, m3] at this
  · refine walkTwo x e s g 0 hc ?_ k3 (.inr ⟨by decide, m4, m5, m6, m7, by simp [m8], by simp [m9]⟩)
    intro w
    have := unhandle_any a1 w (by omega) (by omega)
    rwa [m1, m2, m3] at this

set_option maxRecDepth 100000 in
theorem lifted (os : Os) (started : os.Started) (H : Type) (enc : TypeId × Value → H) :
    ReturnsInHanded {} Try.checked os 6 .any (Rows.wordWordsSpec.pre6 enc Try.prog Try.f6 Rows.wordWordsRow.domain false) (Rows.wordWordsSpec.post enc Try.prog Try.f6 false true false false) := by
  refine returnsInHanded_of_change (C := Try.checked) own started (by kernel_rfl) Try.func6
    (ChangeSpec.witness6 (enc := enc) (C := Try.checked) false ⟨#[], #[.int .u64 0, .int .u64 0], []⟩ 8 (by kernel_rfl) (by kernel_rfl) (by kernel_rfl) (by kernel_rfl)) ?_
  intro W base args ds gs before hval0 hW hcnd _
  have hval : ∀ (j : Nat) t v, Try.f6.params[j]? = some t → args[j]? = some v → Value.okWide Try.prog W .any base t v := hval0
  have hW' := hW
  obtain ⟨p, q, hA0, hV, rfl, hfz, hnd⟩ := hW
  have hA : DataW.TrodAll enc Try.prog W 0 (fun _ => true) true Try.f6.params.toList args.toList ds p := hA0
  rw [Try.params6] at hA hval
  obtain ⟨v0, vs0, d0, ds0, p0, q0, hargs, rfl, rfl, h0, r0⟩ := trodAll_cons hA
  obtain ⟨v1, vs1, d1, ds1, p1, q1, rfl, rfl, rfl, h1, r1⟩ := trodAll_cons r0
  obtain ⟨rfl, rfl, rfl⟩ := trodAll_nil r1
  obtain rfl : args = #[v0, v1] := by cases args; simp_all
  obtain ⟨rfl, rfl⟩ := trodVars_none hV
  obtain ⟨a0, rfl, rfl, rfl, w0⟩ := open_int Try.underlying23 (hval 0 23 v0 rfl rfl) h0
  obtain ⟨a1, rfl, rfl, rfl, w1⟩ := open_int Try.underlying23 (hval 1 23 v1 rfl rfl) h1
  clear hA0 hval0
  simp only [List.append_nil] at hW'
  refine (walk a0 a1 w0 w1 W).mono fun e W' ⟨he, hg⟩ => ?_
  subst he
  exact ⟨_, rfl, post_of_same (pa := []) (pv := []) hW' (fun _ _ _ => (trodAll_cons_mk (shut_bool Try.underlying4 _) trodAll_mk0)) (fun sp _ => (trodAll_cons_mk (shut_int Try.underlying23 w0) (trodAll_cons_mk (shut_int Try.underlying23 w1) trodAll_mk0))) (fun _ _ => rfl) rfl
    (hg.frame _) hg.2.1 (ok_one (by kernel_rfl) rfl (okWide_bool_mk Try.underlying4 _))⟩

theorem over : Rows.wordWordsRow.holds Try.pinned (OpenSpec.ofChange Rows.wordWordsSpec) :=
  OpenClaim.holds_of_wide 6 Try.f6 rfl rfl rfl rfl rfl rfl rfl ⟨rfl, rfl, rfl, rfl, rfl⟩ rfl rfl rfl rfl rfl (by kernel_rfl) Try.func6 (by kernel_rfl)
    (of_decide_eq_true (by kernel_rfl)) (by unfold Func.isWrapper; first | (rw [if_pos (by decide +kernel)]; kernel_rfl) | (rw [if_neg (by decide +kernel)]; exact ⟨rfl, rfl⟩))
    (fun os started H enc _ => lifted os started H enc)

theorem proved : Rows.WordWordsSaid :=
  over
end Go.Proofs.Ytoopbacnnkmpbaa.wordWords
namespace Go.Proofs.Ytoopbacnnkmpbaa
theorem wordWords_holds : Rows.WordWordsSaid := wordWords.proved
end Go.Proofs.Ytoopbacnnkmpbaa
