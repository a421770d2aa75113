/- How many digits two keys have in common, as a number that is known ahead. -/
import Derived.Test.YtoopbacnnkmpbacLev
import Derived.Test.YtoopbacnnkmpbacNum3
namespace Go.Proofs.Ytoopbacnnkmpbac
open Go.RowKit Go.Shelf

theorem comm_ex (a b : Int) : ∃ c, Comm a b c := by
  have h : ∀ k : Nat, k ≤ 11 → (∃ c, Comm a b c) ∨ ∀ j : Nat, j < k → dig a (j : Int) = dig b (j : Int) := by
    intro k
    induction k with
    | zero => exact fun _ => .inr fun j hj => by omega
    | succ k ih =>
      intro hk
      rcases ih (by omega) with h | h
      · exact .inl h
      · by_cases e : dig a (k : Int) = dig b (k : Int)
        · refine .inr fun j hj => ?_
          by_cases f : j = k
          · subst f; exact e
          · exact h j (by omega)
        · exact .inl ⟨k, by omega, h, fun _ => e⟩
  rcases h 11 (by omega) with h | h
  · exact h
  · exact ⟨11, by omega, h, fun h => by omega⟩
theorem comm_symm {a b : Int} {c : Nat} (h : Comm a b c) : Comm b a c := ⟨h.1, fun j hj => (h.2.1 j hj).symm, fun k e => h.2.2 k e.symm⟩
theorem comm_tri {a b c : Int} {x y z : Nat} (h : Comm a b x) (k : Comm b c y) (l : Comm a c z) : x ≤ z ∨ y ≤ z := by
  by_cases e : z < x
  · by_cases f : z < y
    · have hx := h.1
      exact absurd ((h.2.1 z e).trans (k.2.1 z f)) (l.2.2 (by omega))
    · exact .inr (by omega)
  · exact .inl (by omega)
theorem hv_congr {f g : Nat → Int} (h : ∀ j : Nat, j < 11 → f j = g j) : hv f 11 = hv g 11 := by
  have r : ∀ k : Nat, k ≤ 10 → rv f k = rv g k := by
    intro k
    induction k with
    | zero => exact fun _ => rfl
    | succ k ih =>
      intro hk
      simp only [rv]
      rw [ih (by omega), h k (by omega)]
  unfold hv
  rw [if_pos rfl, if_pos rfl, r 10 (by omega), h 10 (by omega)]
theorem comm_all {a b : Int} (a0 : 0 ≤ a) (a1 : a < 18446744073709551616) (b0 : 0 ≤ b) (b1 : b < 18446744073709551616) (h : Comm a b 11) : a = b := by
  rw [← hv_dig a a0 a1, ← hv_dig b b0 b1]
  exact hv_congr h.2.1
theorem common_at (a b : Int) (c : Nat) (hc : Comm a b c) (a0 : 0 ≤ a) (a1 : a < 18446744073709551616) (b0 : 0 ≤ b) (b1 : b < 18446744073709551616) (w : World) :
    Calls Try.prog 8 #[.int .u64 a, .int .u64 b] w fun e W' => e = .returned (.int .i64 (c : Int)) ∧ Below w.heap.size w W' := by
  refine (common_any a b a0 a1 b0 b1 w).mono ?_
  rintro e w' ⟨⟨d, rfl, hd⟩, hb⟩
  obtain rfl := comm_one hc hd
  exact ⟨rfl, hb⟩
end Go.Proofs.Ytoopbacnnkmpbac
