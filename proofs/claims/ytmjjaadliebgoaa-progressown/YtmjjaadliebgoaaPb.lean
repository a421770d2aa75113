/- Sums, products and the greatest of amounts in a row. -/
import Derived.Test.YtmjjaadliebgoaaPa
namespace Go.Proofs.Ytmjjaadliebgoaa
open Go.RowKit
set_option linter.unusedVariables false

/-- A row of amounts. -/
def AmAt (W : World) (k : Nat) (xs : List Nat) : Prop := ∀ (i x : Nat), xs[i]? = some x → W.cell? ⟨k, i, none⟩ = some (.int .i64 (x : Int))
theorem foldl_le {op : Nat → Nat → Nat} (hle : ∀ a b, a ≤ mxA → b ≤ mxA → op a b ≤ mxA) (xs : List Nat) (a : Nat) (ha : a ≤ mxA) (hx : ∀ x ∈ xs, x ≤ mxA) : xs.foldl op a ≤ mxA := by
  induction xs generalizing a with
  | nil => exact ha
  | cons y r ih => exact ih _ (hle _ _ ha (hx y (by simp))) (fun x h => hx x (by simp [h]))
theorem foldl_more (op : Nat → Nat → Nat) (xs : List Nat) (a n y : Nat) (h : xs[n]? = some y) : (xs.take (n + 1)).foldl op a = op ((xs.take n).foldl op a) y := by
  rw [List.take_add_one, h, List.foldl_append]; rfl
set_option maxRecDepth 100000 in
theorem fold_plus (a k : Nat) (xs : List Nat) (W : World) (ha : a ≤ mxA) (hx : ∀ x ∈ xs, x ≤ mxA) (hl : xs.length ≤ 100) (hc : AmAt W k xs) : Calls Try.prog 27 #[.func (.func 29) #[] #[], .int .i64 (a : Int), .slice (some ⟨k, 0, none⟩) xs.length xs.length] W fun e w => e = .returned (.int .i64 ((xs.foldl plN a : Nat) : Int)) ∧ w = W := by
  have HC := keepH hc
  have HX := keepH hx
  have HA := keepH ha
  clear hc hx ha
  go_enter Try.func27, Try.ntmps27
  go_wp2_with fail
  go_loopw [1, 11] (fun s1 s11 wr => ∃ n : Nat, n ≤ xs.length ∧ s1 = .int .i64 (((xs.take n).foldl plN a : Nat) : Int) ∧ s11 = .int .i64 (n : Int) ∧ wr = W) (fun _ s11 _ => xs.length - (intOf s11).toNat)
  case atStart => exact ⟨0, by omega, rfl, rfl, rfl⟩
  case round =>
    obtain ⟨n, hn, rfl, rfl, rfl⟩ := hrel
    by_cases hlt : n < xs.length
    · have t1 : (n : Int) < (xs.length : Int) := by omega
      obtain ⟨y, hy⟩ : ∃ y, xs[n]? = some y := ⟨xs[n], List.getElem?_eq_getElem hlt⟩
      have cy := HC.out n y hy
      have ym : y ≤ mxA := HX.out y (List.mem_of_getElem? hy)
      have HM := keepH (foldl_more plN xs a n y hy)
      obtain ⟨u, hu⟩ : ∃ u, u = (xs.take n).foldl plN a := ⟨_, rfl⟩
      have um : u ≤ mxA := by rw [hu]; exact foldl_le (fun _ _ => plN_le) _ _ HA.out (fun x h => HX.out x (List.mem_of_mem_take h))
      rw [← hu] at HM ⊢
      clear hu hy
      go_wp2_with fail
      refine (am_plus u y _ um ym).mono ?_
      rintro e w ⟨rfl, rfl⟩
      go_wp2_with fail
      exact ⟨⟨n + 1, by omega, by rw [HM.out], by simp, by first | rfl | trivial⟩, by simp [intOf]; omega⟩
    · have t1 : ¬ (n : Int) < (xs.length : Int) := by omega
      obtain rfl : n = xs.length := by omega
      rw [List.take_length]
      go_wp2_with fail
      go_ret
      exact ⟨by simp, rfl⟩
set_option maxRecDepth 100000 in
theorem row_plus (a k : Nat) (xs : List Nat) (W : World) (ha : a ≤ mxA) (hx : ∀ x ∈ xs, x ≤ mxA) (hl : xs.length ≤ 100) (hc : AmAt W k xs) : Calls Try.prog 21 #[.int .i64 (a : Int), .slice (some ⟨k, 0, none⟩) xs.length xs.length] W fun e w => e = .returned (.int .i64 ((xs.foldl plN a : Nat) : Int)) ∧ w = W := by
  go_enter Try.func21, Try.ntmps21
  go_wp2_with fail
  refine (fold_plus a k xs W ha hx hl hc).mono ?_
  rintro e w ⟨rfl, rfl⟩
  go_wp2_with fail
  go_ret
  exact ⟨by simp, rfl⟩
set_option maxRecDepth 100000 in
theorem fold_times (a k : Nat) (xs : List Nat) (W : World) (ha : a ≤ mxA) (hx : ∀ x ∈ xs, x ≤ mxA) (hl : xs.length ≤ 100) (hc : AmAt W k xs) : Calls Try.prog 27 #[.func (.func 28) #[] #[], .int .i64 (a : Int), .slice (some ⟨k, 0, none⟩) xs.length xs.length] W fun e w => e = .returned (.int .i64 ((xs.foldl tiN a : Nat) : Int)) ∧ w = W := by
  have HC := keepH hc
  have HX := keepH hx
  have HA := keepH ha
  clear hc hx ha
  go_enter Try.func27, Try.ntmps27
  go_wp2_with fail
  go_loopw [1, 11] (fun s1 s11 wr => ∃ n : Nat, n ≤ xs.length ∧ s1 = .int .i64 (((xs.take n).foldl tiN a : Nat) : Int) ∧ s11 = .int .i64 (n : Int) ∧ wr = W) (fun _ s11 _ => xs.length - (intOf s11).toNat)
  case atStart => exact ⟨0, by omega, rfl, rfl, rfl⟩
  case round =>
    obtain ⟨n, hn, rfl, rfl, rfl⟩ := hrel
    by_cases hlt : n < xs.length
    · have t1 : (n : Int) < (xs.length : Int) := by omega
      obtain ⟨y, hy⟩ : ∃ y, xs[n]? = some y := ⟨xs[n], List.getElem?_eq_getElem hlt⟩
      have cy := HC.out n y hy
      have ym : y ≤ mxA := HX.out y (List.mem_of_getElem? hy)
      have HM := keepH (foldl_more tiN xs a n y hy)
      obtain ⟨u, hu⟩ : ∃ u, u = (xs.take n).foldl tiN a := ⟨_, rfl⟩
      have um : u ≤ mxA := by rw [hu]; exact foldl_le (fun a b _ _ => tiN_le a b) _ _ HA.out (fun x h => HX.out x (List.mem_of_mem_take h))
      rw [← hu] at HM ⊢
      clear hu hy
      go_wp2_with fail
      refine (am_times u y _ um ym).mono ?_
      rintro e w ⟨rfl, rfl⟩
      go_wp2_with fail
      exact ⟨⟨n + 1, by omega, by rw [HM.out], by simp, by first | rfl | trivial⟩, by simp [intOf]; omega⟩
    · have t1 : ¬ (n : Int) < (xs.length : Int) := by omega
      obtain rfl : n = xs.length := by omega
      rw [List.take_length]
      go_wp2_with fail
      go_ret
      exact ⟨by simp, rfl⟩
set_option maxRecDepth 100000 in
theorem row_times (a k : Nat) (xs : List Nat) (W : World) (ha : a ≤ mxA) (hx : ∀ x ∈ xs, x ≤ mxA) (hl : xs.length ≤ 100) (hc : AmAt W k xs) : Calls Try.prog 20 #[.int .i64 (a : Int), .slice (some ⟨k, 0, none⟩) xs.length xs.length] W fun e w => e = .returned (.int .i64 ((xs.foldl tiN a : Nat) : Int)) ∧ w = W := by
  go_enter Try.func20, Try.ntmps20
  go_wp2_with fail
  refine (fold_times a k xs W ha hx hl hc).mono ?_
  rintro e w ⟨rfl, rfl⟩
  go_wp2_with fail
  go_ret
  exact ⟨by simp, rfl⟩
set_option maxRecDepth 100000 in
theorem fold_more (a k : Nat) (xs : List Nat) (W : World) (ha : a ≤ mxA) (hx : ∀ x ∈ xs, x ≤ mxA) (hl : xs.length ≤ 100) (hc : AmAt W k xs) : Calls Try.prog 27 #[.func (.func 45) #[] #[], .int .i64 (a : Int), .slice (some ⟨k, 0, none⟩) xs.length xs.length] W fun e w => e = .returned (.int .i64 ((xs.foldl moN a : Nat) : Int)) ∧ w = W := by
  have HC := keepH hc
  have HX := keepH hx
  have HA := keepH ha
  clear hc hx ha
  go_enter Try.func27, Try.ntmps27
  go_wp2_with fail
  go_loopw [1, 11] (fun s1 s11 wr => ∃ n : Nat, n ≤ xs.length ∧ s1 = .int .i64 (((xs.take n).foldl moN a : Nat) : Int) ∧ s11 = .int .i64 (n : Int) ∧ wr = W) (fun _ s11 _ => xs.length - (intOf s11).toNat)
  case atStart => exact ⟨0, by omega, rfl, rfl, rfl⟩
  case round =>
    obtain ⟨n, hn, rfl, rfl, rfl⟩ := hrel
    by_cases hlt : n < xs.length
    · have t1 : (n : Int) < (xs.length : Int) := by omega
      obtain ⟨y, hy⟩ : ∃ y, xs[n]? = some y := ⟨xs[n], List.getElem?_eq_getElem hlt⟩
      have cy := HC.out n y hy
      have ym : y ≤ mxA := HX.out y (List.mem_of_getElem? hy)
      have HM := keepH (foldl_more moN xs a n y hy)
      obtain ⟨u, hu⟩ : ∃ u, u = (xs.take n).foldl moN a := ⟨_, rfl⟩
      have um : u ≤ mxA := by rw [hu]; exact foldl_le (fun _ _ => moN_le) _ _ HA.out (fun x h => HX.out x (List.mem_of_mem_take h))
      rw [← hu] at HM ⊢
      clear hu hy
      go_wp2_with fail
      refine (am_more u y _ um ym).mono ?_
      rintro e w ⟨rfl, rfl⟩
      go_wp2_with fail
      exact ⟨⟨n + 1, by omega, by rw [HM.out], by simp, by first | rfl | trivial⟩, by simp [intOf]; omega⟩
    · have t1 : ¬ (n : Int) < (xs.length : Int) := by omega
      obtain rfl : n = xs.length := by omega
      rw [List.take_length]
      go_wp2_with fail
      go_ret
      exact ⟨by simp, rfl⟩
set_option maxRecDepth 100000 in
theorem row_more (a k : Nat) (xs : List Nat) (W : World) (ha : a ≤ mxA) (hx : ∀ x ∈ xs, x ≤ mxA) (hl : xs.length ≤ 100) (hc : AmAt W k xs) : Calls Try.prog 30 #[.int .i64 (a : Int), .slice (some ⟨k, 0, none⟩) xs.length xs.length] W fun e w => e = .returned (.int .i64 ((xs.foldl moN a : Nat) : Int)) ∧ w = W := by
  go_enter Try.func30, Try.ntmps30
  go_wp2_with fail
  refine (fold_more a k xs W ha hx hl hc).mono ?_
  rintro e w ⟨rfl, rfl⟩
  go_wp2_with fail
  go_ret
  exact ⟨by simp, rfl⟩
end Go.Proofs.Ytmjjaadliebgoaa
