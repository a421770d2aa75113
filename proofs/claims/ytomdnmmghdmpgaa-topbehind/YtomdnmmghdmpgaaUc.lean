/- A row turned round, and heaps in it: the same numbers. -/
import Derived.Test.YtomdnmmghdmpgaaUb
namespace Go.Proofs.Ytomdnmmghdmpgaa
open Go.RowKit
set_option linter.unusedVariables false

set_option maxRecDepth 100000 in
set_option maxHeartbeats 4000000 in
theorem rev_g {W : World} {g c a b : Nat} {zs : List Nat} (hr : RowU W g zs) (hb : b ≤ zs.length) (hz : zs.length ≤ 1152921504606846976) (ha : a < b) :
    Calls Try.prog 44 #[.slice (some ⟨g, 0, none⟩) zs.length c, .int .i64 (a : Int), .int .i64 (b : Int)] W fun e W' => e = .returned (.tuple #[]) ∧ Same W g zs W' := by
  have HS := keepH (Same.refl hr)
  clear hr
  obtain ⟨n, hn⟩ : ∃ n, n = zs.length := ⟨_, rfl⟩
  rw [← hn] at hz hb ⊢
  have HN := keepH hn
  clear hn
  obtain ⟨b1, hb1⟩ : ∃ b1, b = b1 + 1 := ⟨b - 1, by omega⟩
  have wb : IntKind.i64.wrap ((b : Int) - 1) = (b1 : Int) := by rw [IntKind.wrap_i64]; omega
  have HB : Hid (b = b1 + 1) := hb1
  clear hb1
  go_enter Try.func44, Try.ntmps44
  go_wp2_with fail
  clear wb
  go_loopw [6, 7] (fun s6 s7 wr => ∃ i j : Nat, i ≤ j + 1 ∧ j < n ∧ s6 = .int .i64 (i : Int) ∧ s7 = .int .i64 (j : Int) ∧ Hid (Same W g zs wr)) (fun _ s7 _ => (intOf s7).toNat)
  case atStart => exact ⟨a, b1, by have := HB.out; omega, by have := HB.out; omega, rfl, rfl, HS⟩
  case round =>
    obtain ⟨i, j, hij, hjn, rfl, rfl, HI⟩ := hrel
    by_cases hin : i < j
    · have t1 : (i : Int) < (j : Int) := by omega
      obtain ⟨j0, hj0⟩ : ∃ j0, j = j0 + 1 := ⟨j - 1, by omega⟩
      have wi : IntKind.i64.wrap ((i : Int) + 1) = ((i + 1 : Nat) : Int) := by rw [IntKind.wrap_i64]; omega
      have wj : IntKind.i64.wrap ((j : Int) - 1) = (j0 : Int) := by rw [IntKind.wrap_i64]; omega
      have b1' : i < n := by omega
      have hne : i ≠ j := by omega
      have HJ0 : Hid (j = j0 + 1) := hj0
      clear hj0
      obtain ⟨x, y, hT⟩ := HI.out.two (i := i) (j := j) (by rw [← HN.out]; omega) (by rw [← HN.out]; omega)
      obtain ⟨k1, k2, k3, k4, k5, k6, k7⟩ : _ := (hT wr (Chg.refl _ _)).out
      have k4 := k4 (.int .u64 (y : Int))
      have k5 := k5 hne (.int .u64 (y : Int))
      obtain ⟨w9, hw9⟩ : ∃ w9, w9 = ((wr.setCell ⟨g, i, none⟩ (.int .u64 (y : Int))).setCell ⟨g, j, none⟩ (.int .u64 (x : Int))).drew := ⟨_, rfl⟩
      have H9 : Hid (Same W g zs w9) := by rw [hw9]; exact k7.quiet (Chg.refl _ _).drew
      clear hT k6 k7 HI 
      go_upto_region 3 with fail
      go_region
      all_goals (
        rw [← hw9]
        clear hw9 k1 k2 k3 k4 k5
        go_wp2_with fail
        go_roundw
        case rel => exact ⟨i + 1, j0, by have := HJ0.out; omega, by have := HJ0.out; omega, by first | rfl | go_num, by first | rfl | go_num, H9⟩
        case measure => have := HJ0.out; simp [intOf]; omega)
    · have t1 : ¬ (i : Int) < (j : Int) := by omega
      go_wp2_with fail
      go_end0
      exact ⟨rfl, HI.out⟩
set_option maxRecDepth 100000 in
set_option maxHeartbeats 8000000 in
theorem sift_g {W : World} {g c lo hi first : Nat} {zs : List Nat} (hr : RowU W g zs) (hb : first + hi ≤ zs.length) (hz : zs.length ≤ 1152921504606846976) (hlo : lo ≤ 1152921504606846976) :
    Calls Try.prog 60 #[.slice (some ⟨g, 0, none⟩) zs.length c, .int .i64 (lo : Int), .int .i64 (hi : Int), .int .i64 (first : Int)] W fun e W' => e = .returned (.tuple #[]) ∧ Same W g zs W' := by
  have HS := keepH (Same.refl hr)
  clear hr
  obtain ⟨n, hn⟩ : ∃ n, n = zs.length := ⟨_, rfl⟩
  rw [← hn] at hz hb ⊢
  have HN := keepH hn
  clear hn
  go_enter Try.func60, Try.ntmps60
  go_wp2_with fail
  go_loopw [8] (fun s8 wr => ∃ root : Nat, root ≤ 1152921504606846976 ∧ s8 = .int .i64 (root : Int) ∧ Hid (Same W g zs wr)) (fun s8 _ => hi - (intOf s8).toNat)
  case atStart => exact ⟨lo, hlo, rfl, HS⟩
  case round =>
    obtain ⟨root, hroot, rfl, HI⟩ := hrel
    obtain ⟨c0, hc0⟩ : ∃ c0, c0 = 2 * root := ⟨_, rfl⟩
    obtain ⟨ch, hch⟩ : ∃ ch, ch = c0 + 1 := ⟨_, rfl⟩
    have w0 : IntKind.i64.wrap (2 * (root : Int)) = (c0 : Int) := by rw [IntKind.wrap_i64]; omega
    have w1 : IntKind.i64.wrap ((c0 : Int) + 1) = (ch : Int) := by rw [IntKind.wrap_i64]; omega
    by_cases hc : hi ≤ ch
    · have t1 : (hi : Int) ≤ (ch : Int) := by omega
      clear hc0 hch
      go_wp2_with fail
      go_end0
      exact ⟨rfl, HI.out⟩
    · have t1 : ¬ (hi : Int) ≤ (ch : Int) := by omega
      obtain ⟨c1, hc1⟩ : ∃ c1, c1 = ch + 1 := ⟨_, rfl⟩
      have w2 : IntKind.i64.wrap ((ch : Int) + 1) = (c1 : Int) := by rw [IntKind.wrap_i64]; omega
      by_cases hd : c1 < hi
      · have t2 : (c1 : Int) < (hi : Int) := by omega
        obtain ⟨p, hp⟩ : ∃ p, p = first + ch := ⟨_, rfl⟩
        obtain ⟨p1, hp1⟩ : ∃ p1, p1 = p + 1 := ⟨_, rfl⟩
        have wp1 : IntKind.i64.wrap ((first : Int) + (ch : Int)) = (p : Int) := by rw [IntKind.wrap_i64]; omega
        have wp2 : IntKind.i64.wrap ((p : Int) + 1) = (p1 : Int) := by rw [IntKind.wrap_i64]; omega
        have pn : p < n := by omega
        have p1n : p1 < n := by omega
        obtain ⟨x, y, hT⟩ := HI.out.two (i := p) (j := p1) (by rw [← HN.out]; omega) (by rw [← HN.out]; omega)
        have cx := (hT wr (Chg.refl _ _)).out.1
        have cy := (hT wr (Chg.refl _ _)).out.2.1
        clear hT hp hp1
        cases hlt : decide (x < y) with
        | true =>
          have HLS := keepH (less_is hlt)
          have HK : Hid (root < c1 ∧ c1 < hi ∧ c1 ≤ 1152921504606846976) := ⟨by omega, hd, by omega⟩
          have ne1 : root < c1 := by omega
          clear hlt hc0 hch hc1
          go_upto_region 3 with fail
          go_quiet (first | (go_at_call 46; refine (HLS.out _).mono ?_; rintro q r ⟨rfl, rfl⟩; exact ⟨rfl, _, rfl⟩))
          obtain ⟨w3, hw3⟩ : ∃ z : World, z = wr.drewN nq := ⟨_, rfl⟩
          have Hw3 : Hid (Same W g zs w3) := by rw [hw3]; exact HI.out.quiet (drewN_chg wr nq)
          rw [← hw3]
          clear hw3 HI cx cy HLS wp1 wp2 pn p1n
          obtain ⟨r, hr⟩ : ∃ r, r = first + root := ⟨_, rfl⟩
          obtain ⟨q, hq⟩ : ∃ q, q = first + c1 := ⟨_, rfl⟩
          have wr1 : IntKind.i64.wrap ((first : Int) + (root : Int)) = (r : Int) := by rw [IntKind.wrap_i64]; omega
          have wq1 : IntKind.i64.wrap ((first : Int) + (c1 : Int)) = (q : Int) := by rw [IntKind.wrap_i64]; omega
          have rn : r < n := by omega
          have qn : q < n := by omega
          have rq : r ≠ q := by omega
          have HRQ : Hid (r = first + root ∧ q = first + c1) := ⟨hr, hq⟩
          clear hr hq
          obtain ⟨x, y, hT⟩ := Hw3.out.two (i := r) (j := q) (by rw [← HN.out]; omega) (by rw [← HN.out]; omega)
          have cx := (hT w3 (Chg.refl _ _)).out.1
          have cy := (hT w3 (Chg.refl _ _)).out.2.1
          clear hT
          cases hlt : decide (x < y) with
          | false =>
            have HLS := keepH (less_is hlt)
            clear hlt
            go_upto_region 5 with fail
            go_quiet (first | (go_at_call 46; refine (HLS.out _).mono ?_; rintro q r ⟨rfl, rfl⟩; exact ⟨rfl, _, rfl⟩))
            obtain ⟨w5, hw5⟩ : ∃ z : World, z = w3.drewN nq := ⟨_, rfl⟩
            have Hw5 : Hid (Same W g zs w5) := by rw [hw5]; exact Hw3.out.quiet (drewN_chg w3 nq)
            rw [← hw5]
            clear hw5 Hw3 cx cy HLS
            go_wp2_with fail
            exact bodyPost_ret (results_none rfl _ _ _) rfl ⟨rfl, Hw5.out⟩
          | true =>
            have HLS := keepH (less_is hlt)
            clear hlt
            go_upto_region 5 with fail
            go_quiet (first | (go_at_call 46; refine (HLS.out _).mono ?_; rintro q r ⟨rfl, rfl⟩; exact ⟨rfl, _, rfl⟩))
            obtain ⟨w5, hw5⟩ : ∃ z : World, z = w3.drewN nq := ⟨_, rfl⟩
            have Hw5 : Hid (Same W g zs w5) := by rw [hw5]; exact Hw3.out.quiet (drewN_chg w3 nq)
            rw [← hw5]
            clear hw5 Hw3 cx cy HLS
            obtain ⟨x, y, hT⟩ := Hw5.out.two (i := r) (j := q) (by rw [← HN.out]; omega) (by rw [← HN.out]; omega)
            obtain ⟨k1, k2, k3, k4, k5, k6, k7⟩ : _ := (hT w5 (Chg.refl _ _)).out
            have k4 := k4 (.int .u64 (y : Int))
            have k5 := k5 rq (.int .u64 (y : Int))
            obtain ⟨w9, hw9⟩ : ∃ w9, w9 = ((w5.setCell ⟨g, r, none⟩ (.int .u64 (y : Int))).setCell ⟨g, q, none⟩ (.int .u64 (x : Int))).drew := ⟨_, rfl⟩
            have H9 : Hid (Same W g zs w9) := by rw [hw9]; exact k7.quiet (Chg.refl _ _).drew
            clear hT k6 k7 Hw5 
            go_upto_region 6 with fail
            go_region
            all_goals (
              rw [← hw9]
              clear hw9 k1 k2 k3 k4 k5
              go_wp2_with fail
              go_roundw
              case rel => exact ⟨c1, by have := HK.out; omega, by first | rfl | go_num, H9⟩
              case measure => have := HK.out; simp [intOf]; omega)
        | false =>
          have HLS := keepH (less_is hlt)
          have HK : Hid (root < ch ∧ ch < hi ∧ ch ≤ 1152921504606846976) := ⟨by omega, by omega, by omega⟩
          have ne1 : root < ch := by omega
          clear hlt hc0 hch hc1
          go_upto_region 3 with fail
          go_quiet (first | (go_at_call 46; refine (HLS.out _).mono ?_; rintro q r ⟨rfl, rfl⟩; exact ⟨rfl, _, rfl⟩))
          obtain ⟨w3, hw3⟩ : ∃ z : World, z = wr.drewN nq := ⟨_, rfl⟩
          have Hw3 : Hid (Same W g zs w3) := by rw [hw3]; exact HI.out.quiet (drewN_chg wr nq)
          rw [← hw3]
          clear hw3 HI cx cy HLS wp1 wp2 pn p1n
          obtain ⟨r, hr⟩ : ∃ r, r = first + root := ⟨_, rfl⟩
          obtain ⟨q, hq⟩ : ∃ q, q = first + ch := ⟨_, rfl⟩
          have wr1 : IntKind.i64.wrap ((first : Int) + (root : Int)) = (r : Int) := by rw [IntKind.wrap_i64]; omega
          have wq1 : IntKind.i64.wrap ((first : Int) + (ch : Int)) = (q : Int) := by rw [IntKind.wrap_i64]; omega
          have rn : r < n := by omega
          have qn : q < n := by omega
          have rq : r ≠ q := by omega
          have HRQ : Hid (r = first + root ∧ q = first + ch) := ⟨hr, hq⟩
          clear hr hq
          obtain ⟨x, y, hT⟩ := Hw3.out.two (i := r) (j := q) (by rw [← HN.out]; omega) (by rw [← HN.out]; omega)
          have cx := (hT w3 (Chg.refl _ _)).out.1
          have cy := (hT w3 (Chg.refl _ _)).out.2.1
          clear hT
          cases hlt : decide (x < y) with
          | false =>
            have HLS := keepH (less_is hlt)
            clear hlt
            go_upto_region 5 with fail
            go_quiet (first | (go_at_call 46; refine (HLS.out _).mono ?_; rintro q r ⟨rfl, rfl⟩; exact ⟨rfl, _, rfl⟩))
            obtain ⟨w5, hw5⟩ : ∃ z : World, z = w3.drewN nq := ⟨_, rfl⟩
            have Hw5 : Hid (Same W g zs w5) := by rw [hw5]; exact Hw3.out.quiet (drewN_chg w3 nq)
            rw [← hw5]
            clear hw5 Hw3 cx cy HLS
            go_wp2_with fail
            exact bodyPost_ret (results_none rfl _ _ _) rfl ⟨rfl, Hw5.out⟩
          | true =>
            have HLS := keepH (less_is hlt)
            clear hlt
            go_upto_region 5 with fail
            go_quiet (first | (go_at_call 46; refine (HLS.out _).mono ?_; rintro q r ⟨rfl, rfl⟩; exact ⟨rfl, _, rfl⟩))
            obtain ⟨w5, hw5⟩ : ∃ z : World, z = w3.drewN nq := ⟨_, rfl⟩
            have Hw5 : Hid (Same W g zs w5) := by rw [hw5]; exact Hw3.out.quiet (drewN_chg w3 nq)
            rw [← hw5]
            clear hw5 Hw3 cx cy HLS
            obtain ⟨x, y, hT⟩ := Hw5.out.two (i := r) (j := q) (by rw [← HN.out]; omega) (by rw [← HN.out]; omega)
            obtain ⟨k1, k2, k3, k4, k5, k6, k7⟩ : _ := (hT w5 (Chg.refl _ _)).out
            have k4 := k4 (.int .u64 (y : Int))
            have k5 := k5 rq (.int .u64 (y : Int))
            obtain ⟨w9, hw9⟩ : ∃ w9, w9 = ((w5.setCell ⟨g, r, none⟩ (.int .u64 (y : Int))).setCell ⟨g, q, none⟩ (.int .u64 (x : Int))).drew := ⟨_, rfl⟩
            have H9 : Hid (Same W g zs w9) := by rw [hw9]; exact k7.quiet (Chg.refl _ _).drew
            clear hT k6 k7 Hw5 
            go_upto_region 6 with fail
            go_region
            all_goals (
              rw [← hw9]
              clear hw9 k1 k2 k3 k4 k5
              go_wp2_with fail
              go_roundw
              case rel => exact ⟨ch, by have := HK.out; omega, by first | rfl | go_num, H9⟩
              case measure => have := HK.out; simp [intOf]; omega)
      · have t2 : ¬ (c1 : Int) < (hi : Int) := by omega
        have HK : Hid (root < ch ∧ ch < hi ∧ ch ≤ 1152921504606846976) := ⟨by omega, by omega, by omega⟩
        have ne1 : root < ch := by omega
        clear hc0 hch hc1
        go_upto_region 3 with fail
        go_quiet (fail)
        obtain ⟨w3, hw3⟩ : ∃ z : World, z = wr.drewN nq := ⟨_, rfl⟩
        have Hw3 : Hid (Same W g zs w3) := by rw [hw3]; exact HI.out.quiet (drewN_chg wr nq)
        rw [← hw3]
        clear hw3 HI
        obtain ⟨r, hr⟩ : ∃ r, r = first + root := ⟨_, rfl⟩
        obtain ⟨q, hq⟩ : ∃ q, q = first + ch := ⟨_, rfl⟩
        have wr1 : IntKind.i64.wrap ((first : Int) + (root : Int)) = (r : Int) := by rw [IntKind.wrap_i64]; omega
        have wq1 : IntKind.i64.wrap ((first : Int) + (ch : Int)) = (q : Int) := by rw [IntKind.wrap_i64]; omega
        have rn : r < n := by omega
        have qn : q < n := by omega
        have rq : r ≠ q := by omega
        have HRQ : Hid (r = first + root ∧ q = first + ch) := ⟨hr, hq⟩
        clear hr hq
        obtain ⟨x, y, hT⟩ := Hw3.out.two (i := r) (j := q) (by rw [← HN.out]; omega) (by rw [← HN.out]; omega)
        have cx := (hT w3 (Chg.refl _ _)).out.1
        have cy := (hT w3 (Chg.refl _ _)).out.2.1
        clear hT
        cases hlt : decide (x < y) with
        | false =>
          have HLS := keepH (less_is hlt)
          clear hlt
          go_upto_region 5 with fail
          go_quiet (first | (go_at_call 46; refine (HLS.out _).mono ?_; rintro q r ⟨rfl, rfl⟩; exact ⟨rfl, _, rfl⟩))
          obtain ⟨w5, hw5⟩ : ∃ z : World, z = w3.drewN nq := ⟨_, rfl⟩
          have Hw5 : Hid (Same W g zs w5) := by rw [hw5]; exact Hw3.out.quiet (drewN_chg w3 nq)
          rw [← hw5]
          clear hw5 Hw3 cx cy HLS
          go_wp2_with fail
          exact bodyPost_ret (results_none rfl _ _ _) rfl ⟨rfl, Hw5.out⟩
        | true =>
          have HLS := keepH (less_is hlt)
          clear hlt
          go_upto_region 5 with fail
          go_quiet (first | (go_at_call 46; refine (HLS.out _).mono ?_; rintro q r ⟨rfl, rfl⟩; exact ⟨rfl, _, rfl⟩))
          obtain ⟨w5, hw5⟩ : ∃ z : World, z = w3.drewN nq := ⟨_, rfl⟩
          have Hw5 : Hid (Same W g zs w5) := by rw [hw5]; exact Hw3.out.quiet (drewN_chg w3 nq)
          rw [← hw5]
          clear hw5 Hw3 cx cy HLS
          obtain ⟨x, y, hT⟩ := Hw5.out.two (i := r) (j := q) (by rw [← HN.out]; omega) (by rw [← HN.out]; omega)
          obtain ⟨k1, k2, k3, k4, k5, k6, k7⟩ : _ := (hT w5 (Chg.refl _ _)).out
          have k4 := k4 (.int .u64 (y : Int))
          have k5 := k5 rq (.int .u64 (y : Int))
          obtain ⟨w9, hw9⟩ : ∃ w9, w9 = ((w5.setCell ⟨g, r, none⟩ (.int .u64 (y : Int))).setCell ⟨g, q, none⟩ (.int .u64 (x : Int))).drew := ⟨_, rfl⟩
          have H9 : Hid (Same W g zs w9) := by rw [hw9]; exact k7.quiet (Chg.refl _ _).drew
          clear hT k6 k7 Hw5 
          go_upto_region 6 with fail
          go_region
          all_goals (
            rw [← hw9]
            clear hw9 k1 k2 k3 k4 k5
            go_wp2_with fail
            go_roundw
            case rel => exact ⟨ch, by have := HK.out; omega, by first | rfl | go_num, H9⟩
            case measure => have := HK.out; simp [intOf]; omega)
end Go.Proofs.Ytomdnmmghdmpgaa
