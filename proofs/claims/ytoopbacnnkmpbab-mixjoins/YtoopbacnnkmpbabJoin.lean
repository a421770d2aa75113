/- The number with these digits: contracts of Join and of its reference. -/
import Derived.Test.YtoopbacnnkmpbabRefs
import Derived.Test.YtoopbacnnkmpbabNum3
namespace Go.Proofs.Ytoopbacnnkmpbab
open Go.RowKit Go.Shelf

theorem top_lt {k : Nat} (h : ¬ k = 10) : topN k = 63 := if_neg h
theorem top_ten : topN 10 = 15 := if_pos rfl

def Joined (zs : Nat → Int) (e : Ending) : Prop := e = .returned (.tuple #[.int .u64 (hv zs 11), .bool true]) ∧ Good zs 11 ∨ e = .returned (.tuple #[.int .u64 0, .bool false]) ∧ ¬ Good zs 11

set_option maxHeartbeats 1000000 in
theorem join_any (g o c : Nat) (zs : Nat → Int) (w : World) (hu : ∀ j, j < 11 → w.cell? ⟨g, o + j, none⟩ = some (.int .i64 (zs j))) (hb : ∀ j, j < 11 → -9223372036854775808 ≤ zs j ∧ zs j ≤ 9223372036854775807) :
    Calls Try.prog 25 #[.slice (some ⟨g, o, none⟩) 11 c] w fun e W' => Joined zs e ∧ W' = w := by
  have HU := keepH hu
  have HB := keepH hb
  clear hu hb
  go_enter Try.func25, Try.ntmps25
  go_wp2
  go_loop [4, 14] (fun h i => ∃ k : Nat, k ≤ 11 ∧ i = .int .i64 (k : Int) ∧ h = .int .u64 (hv zs k) ∧ Hid (Good zs k)) (fun _ i => 11 - (intOf i).toNat)
  case atStart => exact ⟨0, by omega, rfl, rfl, fun j hj => by omega⟩
  case round =>
    obtain ⟨k, hk, rfl, rfl, HG⟩ := hrel
    by_cases hlt : k < 11
    · have x1 := HU.out k hlt
      have x2 := HB.out k hlt
      have i1 : (k : Int) < 11 := by omega
      by_cases h10 : k = 10
      · subst h10
        by_cases z0 : zs 10 < 0
        · go_wp2_with (go_at_call 37; refine (place_last _).mono ?_; rintro e w' ⟨rfl, rfl⟩)
          go_ret2
          exact ⟨.inr ⟨rfl, fun hg => by have := hg 10 (by omega); omega⟩, rfl⟩
        · by_cases z1 : 15 < zs 10
          · go_wp2_with (go_at_call 37; refine (place_last _).mono ?_; rintro e w' ⟨rfl, rfl⟩)
            go_ret2
            exact ⟨.inr ⟨rfl, fun hg => by have := hg 10 (by omega); rw [top_ten] at this; omega⟩, rfl⟩
          · have o1 := or_last zs HG.out (by omega) (by omega)
            go_wp2_with (go_at_call 37; refine (place_last _).mono ?_; rintro e w' ⟨rfl, rfl⟩)
            exact ⟨⟨11, by omega, rfl, rfl, good_succ HG.out (by omega) (by rw [top_ten]; omega)⟩, by simp [intOf]⟩
      · by_cases z0 : zs k < 0
        · go_wp2_with (go_at_call 37; refine (place_any (k : Int) _ (by omega) (by omega)).mono ?_; rintro e w' ⟨rfl, rfl⟩)
          go_ret2
          exact ⟨.inr ⟨rfl, fun hg => by have := hg k (by omega); omega⟩, rfl⟩
        · by_cases z1 : 63 < zs k
          · go_wp2_with (go_at_call 37; refine (place_any (k : Int) _ (by omega) (by omega)).mono ?_; rintro e w' ⟨rfl, rfl⟩)
            go_ret2
            exact ⟨.inr ⟨rfl, fun hg => by have := hg k (by omega); rw [top_lt h10] at this; omega⟩, rfl⟩
          · have o1 := or_dig zs k (by omega) HG.out (by omega) (by omega)
            go_wp2_with (go_at_call 37; refine (place_any (k : Int) _ (by omega) (by omega)).mono ?_; rintro e w' ⟨rfl, rfl⟩)
            exact ⟨⟨k + 1, by omega, by go_num, rfl, good_succ HG.out (by omega) (by rw [top_lt h10]; omega)⟩, by simp [intOf]; omega⟩
    · obtain rfl : k = 11 := by omega
      go_wp2
      go_ret2
      exact ⟨.inl ⟨rfl, HG.out⟩, rfl⟩
end Go.Proofs.Ytoopbacnnkmpbab
