/- Heap sort: the same numbers. -/
import Derived.Test.YtomdnmmghdmpgaaUc
namespace Go.Proofs.Ytomdnmmghdmpgaa
open Go.RowKit
set_option linter.unusedVariables false

theorem Same.call {W w : World} {g : Nat} {zs : List Nat} (h : Same W g zs w) {f : Nat} {av : Array Value} {v : Ending} (k : ∀ zs' : List Nat, zs'.length = zs.length → RowU w g zs' → Calls Try.prog f av w fun e w' => e = v ∧ Same w g zs' w') : Calls Try.prog f av w fun e w' => e = v ∧ Same W g zs w' := by
  obtain ⟨zs', P, R, C⟩ := h
  refine (k zs' P.length_eq R).mono ?_
  rintro e w' ⟨rfl, zt, P2, R2, C2⟩
  exact ⟨rfl, zt, P2.trans P, R2, C.p C2⟩
theorem sift_s {W w : World} {g c lo hi first n : Nat} {zs : List Nat} (h : Same W g zs w) (hn : n = zs.length) (hb : first + hi ≤ n) (hz : n ≤ 1152921504606846976) (hlo : lo ≤ 1152921504606846976) :
    Calls Try.prog 60 #[.slice (some ⟨g, 0, none⟩) n c, .int .i64 (lo : Int), .int .i64 (hi : Int), .int .i64 (first : Int)] w fun e W' => e = .returned (.tuple #[]) ∧ Same W g zs W' :=
  h.call fun zs' hl R => by
    have e : n = zs'.length := by omega
    rw [e] at hb hz ⊢
    exact sift_g R hb hz hlo
set_option maxRecDepth 100000 in
set_option maxHeartbeats 8000000 in
theorem heap_g {W : World} {g c a b : Nat} {zs : List Nat} (hr : RowU W g zs) (hb : b ≤ zs.length) (hz : zs.length ≤ 1152921504606846976) (ha : a < b) :
    Calls Try.prog 41 #[.slice (some ⟨g, 0, none⟩) zs.length c, .int .i64 (a : Int), .int .i64 (b : Int)] W fun e W' => e = .returned (.tuple #[]) ∧ Same W g zs W' := by
  have HS := keepH (Same.refl hr)
  clear hr
  obtain ⟨n, hn⟩ : ∃ n, n = zs.length := ⟨_, rfl⟩
  rw [← hn] at hz hb ⊢
  have HN := keepH hn
  clear hn
  obtain ⟨hi, hhi⟩ : ∃ hi, hi = b - a := ⟨_, rfl⟩
  obtain ⟨h1, hh1⟩ : ∃ h1, hi = h1 + 1 := ⟨hi - 1, by omega⟩
  have w0 : IntKind.i64.wrap ((b : Int) - (a : Int)) = (hi : Int) := by rw [IntKind.wrap_i64]; omega
  have w1 : IntKind.i64.wrap ((hi : Int) - 1) = (h1 : Int) := by rw [IntKind.wrap_i64]; omega
  obtain ⟨h2, hh2⟩ : ∃ h2, h2 = h1 / 2 := ⟨_, rfl⟩
  have d1 : ((h1 : Int).tdiv 2) = (h2 : Int) := by rw [Int.tdiv_eq_ediv_of_nonneg (by omega)]; omega
  have d2 : ((h1 : Int) / 2) = (h2 : Int) := by omega
  have d3 : IntKind.i64.wrap (h2 : Int) = (h2 : Int) := by rw [IntKind.wrap_i64]; omega
  have HH : Hid (hi = b - a ∧ hi = h1 + 1 ∧ h2 ≤ n) := ⟨hhi, hh1, by omega⟩
  have hfb : a + hi ≤ n := by omega
  have h1n : h1 < n := by omega
  clear hhi hh1 hh2
  go_enter Try.func41, Try.ntmps41
  go_wp2_with fail
  clear w0 d1 d2 d3
  go_loopw [9] (fun s9 wr => ∃ z : Int, -1 ≤ z ∧ z ≤ n ∧ s9 = .int .i64 z ∧ Hid (Same W g zs wr)) (fun s9 _ => ((intOf s9) + 1).toNat)
  case atStart => exact ⟨h2, by omega, by have := HH.out; omega, by first | rfl | go_num, HS⟩
  case round =>
    obtain ⟨z, hz1, hz2, rfl, HI⟩ := hrel
    by_cases hz0 : 0 ≤ z
    · obtain ⟨i, rfl⟩ : ∃ i : Nat, z = (i : Int) := ⟨z.toNat, by omega⟩
      have t1 : (0 : Int) ≤ (i : Int) := by omega
      have wi : IntKind.i64.wrap ((i : Int) - 1) = (i : Int) - 1 := by rw [IntKind.wrap_i64]; omega
      go_wp2_with fail
      refine (sift_s HI.out HN.out hfb hz (by omega)).mono ?_
      rintro e w5 ⟨rfl, S5⟩
      have H5 := keepH S5
      clear S5
      go_wp2_with fail
      go_roundw
      case rel => exact ⟨(i : Int) - 1, by omega, by omega, by first | rfl | go_num, H5⟩
      case measure => simp [intOf]
    · have t1 : ¬ (0 : Int) ≤ z := hz0
      go_wp2_with fail
      obtain ⟨wb, hwb⟩ : ∃ wb : World, wb = wr := ⟨_, rfl⟩
      rw [← hwb] at HI ⊢
      clear hwb
      go_loopw [10] (fun s10 wr => ∃ z : Int, -1 ≤ z ∧ z ≤ h1 ∧ s10 = .int .i64 z ∧ Hid (Same W g zs wr)) (fun s10 _ => ((intOf s10) + 1).toNat)
      case atStart => exact ⟨h1, by omega, by omega, by first | rfl | go_num, HI⟩
      case round =>
        obtain ⟨z, hy1, hy2, rfl, HJ⟩ := hrel
        by_cases hy0 : 0 ≤ z
        · obtain ⟨i, rfl⟩ : ∃ i : Nat, z = (i : Int) := ⟨z.toNat, by omega⟩
          have t2 : (0 : Int) ≤ (i : Int) := by omega
          have wi : IntKind.i64.wrap ((i : Int) - 1) = (i : Int) - 1 := by rw [IntKind.wrap_i64]; omega
          obtain ⟨q, hq⟩ : ∃ q, q = a + i := ⟨_, rfl⟩
          have wq : IntKind.i64.wrap ((a : Int) + (i : Int)) = (q : Int) := by rw [IntKind.wrap_i64]; omega
          have an : a < n := by omega
          have qn : q < n := by have := HH.out; omega
          have hib : a + i ≤ n := by have := HH.out; omega
          by_cases hi0 : i = 0
          · have heq : a = q := by omega
            have HEQ := keepH heq
            clear hi0 hq heq
            obtain ⟨x, y, hT⟩ := HJ.out.two (i := a) (j := q) (by rw [← HN.out]; omega) (by rw [← HN.out]; omega)
            obtain ⟨k1, k2, k3, k4, k5, k6, k7⟩ : _ := (hT wr (Chg.refl _ _)).out
            have k4 := k4 (.int .u64 (y : Int))
            have k5 := k6 HEQ.out (.int .u64 (y : Int))
            obtain ⟨w9, hw9⟩ : ∃ w9, w9 = ((wr.setCell ⟨g, a, none⟩ (.int .u64 (y : Int))).setCell ⟨g, q, none⟩ (.int .u64 (x : Int))).drew := ⟨_, rfl⟩
            have H9 : Hid (Same W g zs w9) := by rw [hw9]; exact k7.quiet (Chg.refl _ _).drew
            clear hT k6 k7 HJ 
            go_upto_region 10 with fail
            go_region
            all_goals (
              rw [← hw9]
              clear hw9 k1 k2 k3 k4 k5
              go_wp2_with fail
              refine (sift_s (hi := i) (lo := 0) H9.out HN.out hib hz (by omega)).mono ?_
              rintro e w10 ⟨rfl, S10⟩
              have H10 := keepH S10
              clear S10
              go_wp2_with fail
              go_roundw
              case rel => exact ⟨(i : Int) - 1, by omega, by omega, by first | rfl | go_num, H10⟩
              case measure => simp [intOf])
          · have hne : a ≠ q := by omega
            clear hi0 hq
            obtain ⟨x, y, hT⟩ := HJ.out.two (i := a) (j := q) (by rw [← HN.out]; omega) (by rw [← HN.out]; omega)
            obtain ⟨k1, k2, k3, k4, k5, k6, k7⟩ : _ := (hT wr (Chg.refl _ _)).out
            have k4 := k4 (.int .u64 (y : Int))
            have k5 := k5 hne (.int .u64 (y : Int))
            obtain ⟨w9, hw9⟩ : ∃ w9, w9 = ((wr.setCell ⟨g, a, none⟩ (.int .u64 (y : Int))).setCell ⟨g, q, none⟩ (.int .u64 (x : Int))).drew := ⟨_, rfl⟩
            have H9 : Hid (Same W g zs w9) := by rw [hw9]; exact k7.quiet (Chg.refl _ _).drew
            clear hT k6 k7 HJ 
            go_upto_region 10 with fail
            go_region
            all_goals (
              rw [← hw9]
              clear hw9 k1 k2 k3 k4 k5
              go_wp2_with fail
              refine (sift_s (hi := i) (lo := 0) H9.out HN.out hib hz (by omega)).mono ?_
              rintro e w10 ⟨rfl, S10⟩
              have H10 := keepH S10
              clear S10
              go_wp2_with fail
              go_roundw
              case rel => exact ⟨(i : Int) - 1, by omega, by omega, by first | rfl | go_num, H10⟩
              case measure => simp [intOf])
        · have t2 : ¬ (0 : Int) ≤ z := hy0
          go_wp2_with fail
          go_end0
          exact ⟨rfl, HJ.out⟩
end Go.Proofs.Ytomdnmmghdmpgaa
