/- Constant, by the program and by the document; what must be. -/
import Derived.Test.YtmjjaadliebgoaaPd
namespace Go.Proofs.Ytmjjaadliebgoaa
open Go.RowKit
set_option linter.unusedVariables false

/-- The cells of a Config. -/
def coL (c0 c1 c2 c3 : Int) : Array Value := #[.int .i64 c0, .int .i64 c1, .int .u64 c2, .int .i64 c3]
def conZ (c k : Int) : Int := if k = 5 then (if c < 0 then 5 else if 256 < c then 517 else 2 * c + 5) else if k = 6 then 2 else if 1 ≤ k ∧ k ≤ 10 then -1 else 1
set_option maxRecDepth 100000 in
theorem p_const (c0 c1 c2 c3 k : Int) (W : World) (hc : c1 < 9223372036854775808) (hc' : -9223372036854775808 ≤ c1) (h0 : 0 ≤ k) (h1 : k < 256) : Calls Try.prog 10 #[.agg (coL c0 c1 c2 c3), .int .u8 k] W fun e w => e = .returned (.int .i64 (conZ c1 k)) ∧ Chg (fun _ => False) W w := by
  have C0 : Hid (Chg (fun _ => False) W (W.alloc (.cells #[.int .i64 c0, .int .i64 c1, .int .u64 c2, .int .i64 c3] 34))) := (Chg.refl _ _).alloc _
  unfold coL
  by_cases k5 : k = 5
  · subst k5
    by_cases a : c1 < 0
    · have e : conZ c1 5 = 5 := by unfold conZ; rw [if_pos rfl, if_pos a]
      go_enter Try.func10, Try.ntmps10
      go_wp2_with fail
      all_goals go_ret
      all_goals (refine ⟨?_, C0.out⟩; first | (rw [e]; simp; done) | (simp; done))
    · by_cases b : 256 < c1
      · have e : conZ c1 5 = 517 := by unfold conZ; rw [if_pos rfl, if_neg a, if_pos b]
        go_enter Try.func10, Try.ntmps10
        go_wp2_with fail
        all_goals go_ret
        all_goals (refine ⟨?_, C0.out⟩; first | (rw [e]; simp; done) | (simp; done))
      · have e : conZ c1 5 = 2 * c1 + 5 := by unfold conZ; rw [if_pos rfl, if_neg a, if_neg b]
        have w1 : IntKind.i64.wrap (2 * c1) = 2 * c1 := by rw [IntKind.wrap_i64]; omega
        have w2 : IntKind.i64.wrap (2 * c1 + 5) = 2 * c1 + 5 := by rw [IntKind.wrap_i64]; omega
        go_enter Try.func10, Try.ntmps10
        go_wp2_with fail
        all_goals go_ret
        all_goals (refine ⟨?_, C0.out⟩; first | (rw [e]; simp; done) | (simp; done))
  · by_cases k6 : k = 6
    · subst k6
      have e : conZ c1 6 = 2 := by unfold conZ; rw [if_neg k5, if_pos rfl]
      go_enter Try.func10, Try.ntmps10
      go_wp2_with fail
      all_goals go_ret
      all_goals (refine ⟨?_, C0.out⟩; first | (rw [e]; simp; done) | (simp; done))
    · by_cases kk : 1 ≤ k
      · by_cases kl : k ≤ 10
        · have e : conZ c1 k = -1 := by unfold conZ; rw [if_neg k5, if_neg k6, if_pos ⟨kk, kl⟩]
          go_enter Try.func10, Try.ntmps10
          go_wp2_with fail
          all_goals go_ret
          all_goals (refine ⟨?_, C0.out⟩; first | (rw [e]; simp; done) | (simp; done))
        · have e : conZ c1 k = 1 := by unfold conZ; rw [if_neg k5, if_neg k6, if_neg (fun z => kl z.2)]
          go_enter Try.func10, Try.ntmps10
          go_wp2_with fail
          all_goals go_ret
          all_goals (refine ⟨?_, C0.out⟩; first | (rw [e]; simp; done) | (simp; done))
      · have e : conZ c1 k = 1 := by unfold conZ; rw [if_neg k5, if_neg k6, if_neg (fun z => kk z.1)]
        go_enter Try.func10, Try.ntmps10
        go_wp2_with fail
        all_goals go_ret
        all_goals (refine ⟨?_, C0.out⟩; first | (rw [e]; simp; done) | (simp; done))
theorem bou_first : bouN 1 1 0 0 0 = 1794 := by decide
set_option maxRecDepth 100000 in
theorem l_live (W : World) : Calls Try.prog 4 #[] W fun e w => e = .returned (.bool true) ∧ Chg (fun _ => False) W w := by
  have C0 : Hid (∀ o, Chg (fun _ => False) W (W.alloc o)) := fun o => (Chg.refl _ _).alloc _
  go_enter Try.func4, Try.ntmps4
  go_wp2_with fail
  refine (p_const 2000 2 100 4 5 _ (by omega) (by omega) (by omega) (by omega)).mono ?_
  rintro e w1 ⟨rfl, C1⟩
  have HC1 := keepH ((C0.out _).falls C1)
  clear C1
  have z : conZ 2 5 = 9 := by decide
  rw [z]
  go_wp2_with fail
  refine (p_bound 1 1 0 0 0 1 1 0 0 0 _ rfl rfl rfl rfl rfl (n_le (by omega)) (n_le (by omega)) (n_le (by omega)) (n_le (by omega)) (n_le (by omega))).mono ?_
  rintro e w2 ⟨rfl, C2⟩
  have HC2 := keepH (HC1.out.falls C2)
  clear C2
  rw [bou_first]
  go_wp2_with fail
  go_ret
  exact ⟨by simp, HC2.out⟩
end Go.Proofs.Ytmjjaadliebgoaa
