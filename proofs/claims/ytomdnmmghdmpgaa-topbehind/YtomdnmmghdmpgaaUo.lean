/- slices.Sort of numbers: the same numbers. -/
import Derived.Test.YtomdnmmghdmpgaaUn
namespace Go.Proofs.Ytomdnmmghdmpgaa
open Go.RowKit Go.Lib
set_option linter.unusedVariables false

set_option maxRecDepth 100000 in
set_option maxHeartbeats 4000000 in
theorem sort_g {W : World} {g c : Nat} {zs : List Nat} (hr : RowU W g zs) (hz : zs.length ≤ 60000) :
    Calls Try.prog 28 #[.slice (some ⟨g, 0, none⟩) zs.length c] W fun e W' => e = .returned (.tuple #[]) ∧ Same W g zs W' := by
  have HP : Hid (∀ z : Int, Calls Try.prog 36 #[.slice (some ⟨g, 0, none⟩) zs.length c, .int .i64 0, .int .i64 (zs.length : Int), .int .i64 z] W fun e W' => e = .returned (.tuple #[]) ∧ Same W g zs W') := fun z => pdq_g (a := 0) (b := zs.length) zs.length (by omega) hr (Nat.le_refl _) (by omega) hz
  clear hr
  obtain ⟨n, hn⟩ : ∃ n, n = zs.length := ⟨_, rfl⟩
  rw [← hn] at hz HP ⊢
  clear hn
  have w1 := wu64 n (by omega)
  go_enter Try.func28, Try.ntmps28
  go_wp2_with fail
  refine (len_s (by omega) _).mono ?_
  rintro e W' ⟨⟨k, rfl, hk⟩, rfl⟩
  clear hk
  go_wp2_with fail
  refine (HP.out k).mono ?_
  rintro e W' ⟨rfl, S⟩
  have HS := keepH S
  clear S HP
  go_wp2_with fail
  go_end0
  exact ⟨rfl, HS.out⟩
end Go.Proofs.Ytomdnmmghdmpgaa
