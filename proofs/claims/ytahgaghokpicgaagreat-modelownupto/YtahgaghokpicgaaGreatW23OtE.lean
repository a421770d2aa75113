/- A row turned round, and heaps in it, told whole. -/
import Derived.Test.YtahgaghokpicgaaGreatW22OtB
namespace Go.Proofs.YtahgaghokpicgaaGreat
open Go.RowKit Go.Sort
set_option linter.unusedVariables false
set_option maxHeartbeats 16000000
set_option maxRecDepth 100000 in
theorem rev_o {W : World} {g c a b : Nat} {d0 : Array Nat} (hr : RowU W g d0.toList) (hb : b ≤ d0.size) (hz : d0.size ≤ 1152921504606846976) (ha : a < b) :
    Calls Tryz.prog 108 #[.slice (some ⟨g, 0, none⟩) d0.size c, .int .i64 a, .int .i64 b] W fun e W' => e = .returned (.tuple #[]) ∧ St W g d0.size (fun d => PermIn a b d0 d) W' := by
 have HS : Hid (St W g d0.size (fun d => PermIn a b d0 d) W) := ⟨d0, rfl, permIn_refl _ _ _, Ar.refl hr⟩
 clear hr
 obtain ⟨n, hn⟩ : ∃ n, n = d0.size := ⟨_, rfl⟩
 rw [← hn] at hz hb HS ⊢
 clear hn
 obtain ⟨b1, hb1⟩ : ∃ b1, b = b1 + 1 := ⟨b - 1, by omega⟩
 have wb : IntKind.i64.wrap ((b : Int) - 1) = (b1 : Int) := by rw [IntKind.wrap_i64]; omega
 have HB : Hid (b = b1 + 1) := hb1
 clear hb1
 go_enter Tryz.func108, Tryz.ntmps108
 go_wp2_with fail
 clear wb
 go_loopw [6, 7] (fun s6 s7 wr => ∃ i j : Nat, a ≤ i ∧ i ≤ j + 1 ∧ j < b ∧ s6 = .int .i64 i ∧ s7 = .int .i64 j ∧ Hid (St W g n (fun d => PermIn a b d0 d) wr)) (fun _ s7 _ => (intOf s7).toNat)
 case atStart => exact ⟨a, b1, by omega, by have := HB.out; omega, by have := HB.out; omega, rfl, rfl, HS⟩
 case round =>
  obtain ⟨i, j, hai, hij, hjn, rfl, rfl, HI⟩ := hrel
  by_cases hin : i < j
  ·have t1 : (i : Int) < (j : Int) := by omega
   obtain ⟨j0, hj0⟩ : ∃ j0, j = j0 + 1 := ⟨j - 1, by omega⟩
   have wi : IntKind.i64.wrap ((i : Int) + 1) = ((i + 1 : Nat) : Int) := by rw [IntKind.wrap_i64]; omega
   have wj : IntKind.i64.wrap ((j : Int) - 1) = (j0 : Int) := by rw [IntKind.wrap_i64]; omega
   have b1' : i < n := by omega
   have b2' : j < n := by omega
   have hne : i ≠ j := by omega
   have HJ0 : Hid (j = j0 + 1) := hj0
   clear hj0
   obtain ⟨d, hd, hR, hA⟩ := HI.out
   have HP : Hid (PermIn a b d0 (swp d i j)) := pi_swap hR (by omega) (by omega) (by omega) (by omega) (by omega)
   have HD : Hid ((swp d i j).size = n) := swp_size' _ _ _ _ hd
   obtain ⟨x, y, hx, hy, hT⟩ := hA.two (i := i) (j := j) (by omega) (by omega)
   obtain ⟨k1, k2, k3, k4, k5, k6, k7⟩ : _ := (hT wr (Chg.refl _ _)).out
   have k4 := k4 (.int .u64 y)
   have k5 := k5 hne (.int .u64 y)
   obtain ⟨w9, hw9⟩ : ∃ w9, w9 = ((wr.setCell ⟨g, i, none⟩ (.int .u64 y)).setCell ⟨g, j, none⟩ (.int .u64 x)).drew := ⟨_, rfl⟩
   have H9 : Hid (St W g n (fun d => PermIn a b d0 d) w9) := by rw [hw9]; exact ⟨_, HD.out, HP.out, k7.quiet (Chg.refl _ _).drew⟩
   clear hT k6 k7 HI hx hy hR hA HP HD hd
   go_upto_region 3 with fail
   go_region
   all_goals (
    rw [← hw9]
    clear hw9 k1 k2 k3 k4 k5
    go_wp2_with fail
    go_roundw
    case rel => exact ⟨i + 1, j0, by omega, by have := HJ0.out; omega, by have := HJ0.out; omega, by first | rfl | go_num, by first | rfl | go_num, H9⟩
    case measure => have := HJ0.out; simp [intOf]; omega)
  ·have t1 : ¬ (i : Int) < (j : Int) := by omega
   go_wp2_with fail
   go_end0
   exact ⟨rfl, HI.out⟩
set_option maxRecDepth 100000 in
theorem sift_o {W w : World} {g c lo hi first : Nat} {d0 : Array Nat} (hr : Ar W g d0 w) (hb : first + hi ≤ d0.size) (hz : d0.size ≤ 1152921504606846976) (hlo : lo ≤ 1152921504606846976) :
    Calls Tryz.prog 124 #[.slice (some ⟨g, 0, none⟩) d0.size c, .int .i64 lo, .int .i64 hi, .int .i64 first] w fun e W' => e = .returned (.tuple #[]) ∧ Ar W g (siftDown ltN hi first lo d0) W' := by
 obtain ⟨D, hD⟩ : ∃ D, D = siftDown ltN hi first lo d0 := ⟨_, rfl⟩
 have HS : Hid (St W g d0.size (fun d => siftDown ltN hi first lo d = D) w) := ⟨d0, rfl, hD.symm, hr⟩
 rw [← hD]
 clear hr hD
 obtain ⟨n, hn⟩ : ∃ n, n = d0.size := ⟨_, rfl⟩
 rw [← hn] at hz hb HS ⊢
 clear hn
 go_enter Tryz.func124, Tryz.ntmps124
 go_wp2_with fail
 go_loopw [8] (fun s8 wr => ∃ root : Nat, root ≤ 1152921504606846976 ∧ s8 = .int .i64 root ∧ Hid (St W g n (fun d => siftDown ltN hi first root d = D) wr)) (fun s8 _ => hi - (intOf s8).toNat)
 case atStart => exact ⟨lo, hlo, rfl, HS⟩
 case round =>
  obtain ⟨root, hroot, rfl, HI⟩ := hrel
  obtain ⟨d, hd, hR, hA⟩ := HI.out
  have HD := keepH hd
  have HR := keepH hR
  have HA := keepH hA
  clear hd hR hA HI
  obtain ⟨c0, hc0⟩ : ∃ c0, c0 = 2 * root := ⟨_, rfl⟩
  obtain ⟨ch, hch⟩ : ∃ ch, ch = c0 + 1 := ⟨_, rfl⟩
  have HC : Hid (ch = 2 * root + 1) := by show ch = _; omega
  have w0 : IntKind.i64.wrap (2 * (root : Int)) = (c0 : Int) := by rw [IntKind.wrap_i64]; omega
  have w1 : IntKind.i64.wrap ((c0 : Int) + 1) = (ch : Int) := by rw [IntKind.wrap_i64]; omega
  by_cases hc : hi ≤ ch
  ·have t1 : (hi : Int) ≤ (ch : Int) := by omega
   have HE : Hid (Ar W g D wr) := by
    have e := HR.out
    rw [sd_end (by omega)] at e
    rw [← e]
    exact HA.out
   clear hc0 hch
   go_wp2_with fail
   go_end0
   exact ⟨rfl, HE.out⟩
  ·have t1 : ¬ (hi : Int) ≤ (ch : Int) := by omega
   obtain ⟨c1, hc1⟩ : ∃ c1, c1 = ch + 1 := ⟨_, rfl⟩
   have w2 : IntKind.i64.wrap ((ch : Int) + 1) = (c1 : Int) := by rw [IntKind.wrap_i64]; omega
   have HC1 : Hid (c1 = ch + 1) := hc1
   by_cases hd : c1 < hi
   ·have t2 : (c1 : Int) < (hi : Int) := by omega
    obtain ⟨p, hp⟩ : ∃ p, p = first + ch := ⟨_, rfl⟩
    obtain ⟨p1, hp1⟩ : ∃ p1, p1 = p + 1 := ⟨_, rfl⟩
    have HP : Hid (p = first + ch ∧ p1 = first + ch + 1) := ⟨hp, by omega⟩
    have wp1 : IntKind.i64.wrap ((first : Int) + (ch : Int)) = (p : Int) := by rw [IntKind.wrap_i64]; omega
    have wp2 : IntKind.i64.wrap ((p : Int) + 1) = (p1 : Int) := by rw [IntKind.wrap_i64]; omega
    have pn : p < n := by omega
    have p1n : p1 < n := by omega
    obtain ⟨x, y, hx, hy, hT⟩ := HA.out.two (i := p) (j := p1) (by rw [HD.out]; omega) (by rw [HD.out]; omega)
    have cx := (hT wr (Chg.refl _ _)).out.1
    have cy := (hT wr (Chg.refl _ _)).out.2.1
    clear hT hp hp1
    cases hlt : decide (x < y) with
    | true =>
     have HLS := keepH (less_is hlt)
     have HL1 : Hid (d[first + ch]! < d[first + ch + 1]!) := by
      have e1 := HP.out.1
      have e2 := HP.out.2
      rw [e1] at hx
      rw [e2] at hy
      rw [← hx, ← hy]
      exact ltN_true.1 hlt
     have HK : Hid (root < c1 ∧ c1 < hi ∧ c1 ≤ 1152921504606846976) := ⟨by omega, by omega, by omega⟩
     have ne1 : root < c1 := by omega
     have HHI : Hid (c1 = ch + 1 ∧ c1 < hi) := by show c1 = ch + 1 ∧ c1 < hi; exact ⟨HC1.out, hd⟩
     clear hlt hx hy hc0 hch hc1
     go_upto_region 3 with fail
     go_quiet (first | (go_at_call 110; refine (HLS.out _).mono ?_; rintro q r ⟨rfl, rfl⟩; exact ⟨rfl, _, rfl⟩))
     obtain ⟨w3, hw3⟩ : ∃ z : World, z = wr.drewN nq := ⟨_, rfl⟩
     have Hw3 : Hid (Ar W g d w3) := by rw [hw3]; exact HA.out.quiet (drewN_chg wr nq)
     rw [← hw3]
     clear hw3 HA cx cy HLS wp1 wp2 pn p1n
     obtain ⟨r, hr⟩ : ∃ r, r = first + root := ⟨_, rfl⟩
     obtain ⟨q, hq⟩ : ∃ q, q = first + c1 := ⟨_, rfl⟩
     have wr1 : IntKind.i64.wrap ((first : Int) + (root : Int)) = (r : Int) := by rw [IntKind.wrap_i64]; omega
     have wq1 : IntKind.i64.wrap ((first : Int) + (c1 : Int)) = (q : Int) := by rw [IntKind.wrap_i64]; omega
     have rn : r < n := by omega
     have qn : q < n := by omega
     have rq : r ≠ q := by omega
     have HRQ : Hid (r = first + root ∧ q = first + c1) := ⟨hr, hq⟩
     clear hr hq
     obtain ⟨x, y, hx, hy, hT⟩ := Hw3.out.two (i := r) (j := q) (by rw [HD.out]; omega) (by rw [HD.out]; omega)
     have cx := (hT w3 (Chg.refl _ _)).out.1
     have cy := (hT w3 (Chg.refl _ _)).out.2.1
     clear hT
     cases hlt : decide (x < y) with
     | false =>
      have HLS := keepH (less_is hlt)
      have HE : Hid (d = D) := by
       have e1 := HRQ.out.1
       have e2 := HRQ.out.2
       have hl : ¬ d[first + root]! < d[first + c1]! := by rw [← e1, ← e2, ← hx, ← hy]; have := ltN_false.1 hlt; omega
       have e := HR.out
       have hh := HHI.out
       have hc1 := hh.1
       rw [hc1] at hl hh
       rw [sd_rstop HC.out hh.2 HL1.out hl] at e
       exact e
      clear hlt hx hy
      go_upto_region 5 with fail
      go_quiet (first | (go_at_call 110; refine (HLS.out _).mono ?_; rintro q r ⟨rfl, rfl⟩; exact ⟨rfl, _, rfl⟩))
      obtain ⟨w5, hw5⟩ : ∃ z : World, z = w3.drewN nq := ⟨_, rfl⟩
      have Hw5 : Hid (Ar W g D w5) := by rw [hw5, ← HE.out]; exact Hw3.out.quiet (drewN_chg w3 nq)
      rw [← hw5]
      clear hw5 Hw3 cx cy HLS
      go_wp2_with fail
      exact bodyPost_ret (results_none rfl _ _ _) rfl ⟨rfl, Hw5.out⟩
     | true =>
      have HLS := keepH (less_is hlt)
      have HE : Hid (siftDown ltN hi first c1 (swp d r q) = D) := by
       have e1 := HRQ.out.1
       have e2 := HRQ.out.2
       have hl : d[first + root]! < d[first + c1]! := by rw [← e1, ← e2, ← hx, ← hy]; exact ltN_true.1 hlt
       have e := HR.out
       have hh := HHI.out
       have hc1 := hh.1
       rw [hc1] at hl hh
       rw [sd_rgo HC.out hh.2 HL1.out hl] at e
       rw [e1, e2, hc1]
       exact e
      clear hlt hx hy
      go_upto_region 5 with fail
      go_quiet (first | (go_at_call 110; refine (HLS.out _).mono ?_; rintro q r ⟨rfl, rfl⟩; exact ⟨rfl, _, rfl⟩))
      obtain ⟨w5, hw5⟩ : ∃ z : World, z = w3.drewN nq := ⟨_, rfl⟩
      have Hw5 : Hid (Ar W g d w5) := by rw [hw5]; exact Hw3.out.quiet (drewN_chg w3 nq)
      rw [← hw5]
      clear hw5 Hw3 cx cy HLS
      obtain ⟨x, y, hx, hy, hT⟩ := Hw5.out.two (i := r) (j := q) (by rw [HD.out]; omega) (by rw [HD.out]; omega)
      obtain ⟨k1, k2, k3, k4, k5, k6, k7⟩ : _ := (hT w5 (Chg.refl _ _)).out
      have k4 := k4 (.int .u64 y)
      have k5 := k5 rq (.int .u64 y)
      obtain ⟨w9, hw9⟩ : ∃ w9, w9 = ((w5.setCell ⟨g, r, none⟩ (.int .u64 y)).setCell ⟨g, q, none⟩ (.int .u64 x)).drew := ⟨_, rfl⟩
      have H9 : Hid (St W g n (fun d => siftDown ltN hi first c1 d = D) w9) := by rw [hw9]; exact ⟨_, swp_size' _ _ _ _ HD.out, HE.out, k7.quiet (Chg.refl _ _).drew⟩
      clear hT k6 k7 Hw5 hx hy HE HR
      go_upto_region 6 with fail
      go_region
      all_goals (
       rw [← hw9]
       clear hw9 k1 k2 k3 k4 k5
       go_wp2_with fail
       go_roundw
       case rel => exact ⟨c1, by have := HK.out; omega, by first | rfl | go_num, H9⟩
       case measure => have := HK.out; simp [intOf]; omega)
    | false =>
     have HLS := keepH (less_is hlt)
     have HL1 : Hid (¬ d[first + ch]! < d[first + ch + 1]!) := by
      have e1 := HP.out.1
      have e2 := HP.out.2
      show ¬ _
      rw [e1] at hx
      rw [e2] at hy
      rw [← hx, ← hy]
      have := ltN_false.1 hlt
      omega
     have HK : Hid (root < ch ∧ ch < hi ∧ ch ≤ 1152921504606846976) := ⟨by omega, by omega, by omega⟩
     have ne1 : root < ch := by omega
     have HHI : Hid (ch < hi ∧ (ch + 1 < hi → ¬ d[first + ch]! < d[first + ch + 1]!)) := by show ch < hi ∧ (ch + 1 < hi → ¬ d[first + ch]! < d[first + ch + 1]!); exact ⟨by omega, fun _ => HL1.out⟩
     clear hlt hx hy hc0 hch hc1
     go_upto_region 3 with fail
     go_quiet (first | (go_at_call 110; refine (HLS.out _).mono ?_; rintro q r ⟨rfl, rfl⟩; exact ⟨rfl, _, rfl⟩))
     obtain ⟨w3, hw3⟩ : ∃ z : World, z = wr.drewN nq := ⟨_, rfl⟩
     have Hw3 : Hid (Ar W g d w3) := by rw [hw3]; exact HA.out.quiet (drewN_chg wr nq)
     rw [← hw3]
     clear hw3 HA cx cy HLS wp1 wp2 pn p1n
     obtain ⟨r, hr⟩ : ∃ r, r = first + root := ⟨_, rfl⟩
     obtain ⟨q, hq⟩ : ∃ q, q = first + ch := ⟨_, rfl⟩
     have wr1 : IntKind.i64.wrap ((first : Int) + (root : Int)) = (r : Int) := by rw [IntKind.wrap_i64]; omega
     have wq1 : IntKind.i64.wrap ((first : Int) + (ch : Int)) = (q : Int) := by rw [IntKind.wrap_i64]; omega
     have rn : r < n := by omega
     have qn : q < n := by omega
     have rq : r ≠ q := by omega
     have HRQ : Hid (r = first + root ∧ q = first + ch) := ⟨hr, hq⟩
     clear hr hq
     obtain ⟨x, y, hx, hy, hT⟩ := Hw3.out.two (i := r) (j := q) (by rw [HD.out]; omega) (by rw [HD.out]; omega)
     have cx := (hT w3 (Chg.refl _ _)).out.1
     have cy := (hT w3 (Chg.refl _ _)).out.2.1
     clear hT
     cases hlt : decide (x < y) with
     | false =>
      have HLS := keepH (less_is hlt)
      have HE : Hid (d = D) := by
       have e1 := HRQ.out.1
       have e2 := HRQ.out.2
       have hl : ¬ d[first + root]! < d[first + ch]! := by rw [← e1, ← e2, ← hx, ← hy]; have := ltN_false.1 hlt; omega
       have e := HR.out
       rw [sd_lstop HC.out HHI.out.1 HHI.out.2 hl] at e
       exact e
      clear hlt hx hy
      go_upto_region 5 with fail
      go_quiet (first | (go_at_call 110; refine (HLS.out _).mono ?_; rintro q r ⟨rfl, rfl⟩; exact ⟨rfl, _, rfl⟩))
      obtain ⟨w5, hw5⟩ : ∃ z : World, z = w3.drewN nq := ⟨_, rfl⟩
      have Hw5 : Hid (Ar W g D w5) := by rw [hw5, ← HE.out]; exact Hw3.out.quiet (drewN_chg w3 nq)
      rw [← hw5]
      clear hw5 Hw3 cx cy HLS
      go_wp2_with fail
      exact bodyPost_ret (results_none rfl _ _ _) rfl ⟨rfl, Hw5.out⟩
     | true =>
      have HLS := keepH (less_is hlt)
      have HE : Hid (siftDown ltN hi first ch (swp d r q) = D) := by
       have e1 := HRQ.out.1
       have e2 := HRQ.out.2
       have hl : d[first + root]! < d[first + ch]! := by rw [← e1, ← e2, ← hx, ← hy]; exact ltN_true.1 hlt
       have e := HR.out
       rw [sd_lgo HC.out HHI.out.1 HHI.out.2 hl] at e
       rw [e1, e2]
       exact e
      clear hlt hx hy
      go_upto_region 5 with fail
      go_quiet (first | (go_at_call 110; refine (HLS.out _).mono ?_; rintro q r ⟨rfl, rfl⟩; exact ⟨rfl, _, rfl⟩))
      obtain ⟨w5, hw5⟩ : ∃ z : World, z = w3.drewN nq := ⟨_, rfl⟩
      have Hw5 : Hid (Ar W g d w5) := by rw [hw5]; exact Hw3.out.quiet (drewN_chg w3 nq)
      rw [← hw5]
      clear hw5 Hw3 cx cy HLS
      obtain ⟨x, y, hx, hy, hT⟩ := Hw5.out.two (i := r) (j := q) (by rw [HD.out]; omega) (by rw [HD.out]; omega)
      obtain ⟨k1, k2, k3, k4, k5, k6, k7⟩ : _ := (hT w5 (Chg.refl _ _)).out
      have k4 := k4 (.int .u64 y)
      have k5 := k5 rq (.int .u64 y)
      obtain ⟨w9, hw9⟩ : ∃ w9, w9 = ((w5.setCell ⟨g, r, none⟩ (.int .u64 y)).setCell ⟨g, q, none⟩ (.int .u64 x)).drew := ⟨_, rfl⟩
      have H9 : Hid (St W g n (fun d => siftDown ltN hi first ch d = D) w9) := by rw [hw9]; exact ⟨_, swp_size' _ _ _ _ HD.out, HE.out, k7.quiet (Chg.refl _ _).drew⟩
      clear hT k6 k7 Hw5 hx hy HE HR
      go_upto_region 6 with fail
      go_region
      all_goals (
       rw [← hw9]
       clear hw9 k1 k2 k3 k4 k5
       go_wp2_with fail
       go_roundw
       case rel => exact ⟨ch, by have := HK.out; omega, by first | rfl | go_num, H9⟩
       case measure => have := HK.out; simp [intOf]; omega)
   ·have t2 : ¬ (c1 : Int) < (hi : Int) := by omega
    have HK : Hid (root < ch ∧ ch < hi ∧ ch ≤ 1152921504606846976) := ⟨by omega, by omega, by omega⟩
    have ne1 : root < ch := by omega
    have HHI : Hid (ch < hi ∧ (ch + 1 < hi → ¬ d[first + ch]! < d[first + ch + 1]!)) := by show ch < hi ∧ (ch + 1 < hi → ¬ d[first + ch]! < d[first + ch + 1]!); exact ⟨by omega, fun h => by omega⟩
    clear hc0 hch hc1
    go_upto_region 3 with fail
    go_quiet (fail)
    obtain ⟨w3, hw3⟩ : ∃ z : World, z = wr.drewN nq := ⟨_, rfl⟩
    have Hw3 : Hid (Ar W g d w3) := by rw [hw3]; exact HA.out.quiet (drewN_chg wr nq)
    rw [← hw3]
    clear hw3 HA 
    obtain ⟨r, hr⟩ : ∃ r, r = first + root := ⟨_, rfl⟩
    obtain ⟨q, hq⟩ : ∃ q, q = first + ch := ⟨_, rfl⟩
    have wr1 : IntKind.i64.wrap ((first : Int) + (root : Int)) = (r : Int) := by rw [IntKind.wrap_i64]; omega
    have wq1 : IntKind.i64.wrap ((first : Int) + (ch : Int)) = (q : Int) := by rw [IntKind.wrap_i64]; omega
    have rn : r < n := by omega
    have qn : q < n := by omega
    have rq : r ≠ q := by omega
    have HRQ : Hid (r = first + root ∧ q = first + ch) := ⟨hr, hq⟩
    clear hr hq
    obtain ⟨x, y, hx, hy, hT⟩ := Hw3.out.two (i := r) (j := q) (by rw [HD.out]; omega) (by rw [HD.out]; omega)
    have cx := (hT w3 (Chg.refl _ _)).out.1
    have cy := (hT w3 (Chg.refl _ _)).out.2.1
    clear hT
    cases hlt : decide (x < y) with
    | false =>
     have HLS := keepH (less_is hlt)
     have HE : Hid (d = D) := by
      have e1 := HRQ.out.1
      have e2 := HRQ.out.2
      have hl : ¬ d[first + root]! < d[first + ch]! := by rw [← e1, ← e2, ← hx, ← hy]; have := ltN_false.1 hlt; omega
      have e := HR.out
      rw [sd_lstop HC.out HHI.out.1 HHI.out.2 hl] at e
      exact e
     clear hlt hx hy
     go_upto_region 5 with fail
     go_quiet (first | (go_at_call 110; refine (HLS.out _).mono ?_; rintro q r ⟨rfl, rfl⟩; exact ⟨rfl, _, rfl⟩))
     obtain ⟨w5, hw5⟩ : ∃ z : World, z = w3.drewN nq := ⟨_, rfl⟩
     have Hw5 : Hid (Ar W g D w5) := by rw [hw5, ← HE.out]; exact Hw3.out.quiet (drewN_chg w3 nq)
     rw [← hw5]
     clear hw5 Hw3 cx cy HLS
     go_wp2_with fail
     exact bodyPost_ret (results_none rfl _ _ _) rfl ⟨rfl, Hw5.out⟩
    | true =>
     have HLS := keepH (less_is hlt)
     have HE : Hid (siftDown ltN hi first ch (swp d r q) = D) := by
      have e1 := HRQ.out.1
      have e2 := HRQ.out.2
      have hl : d[first + root]! < d[first + ch]! := by rw [← e1, ← e2, ← hx, ← hy]; exact ltN_true.1 hlt
      have e := HR.out
      rw [sd_lgo HC.out HHI.out.1 HHI.out.2 hl] at e
      rw [e1, e2]
      exact e
     clear hlt hx hy
     go_upto_region 5 with fail
     go_quiet (first | (go_at_call 110; refine (HLS.out _).mono ?_; rintro q r ⟨rfl, rfl⟩; exact ⟨rfl, _, rfl⟩))
     obtain ⟨w5, hw5⟩ : ∃ z : World, z = w3.drewN nq := ⟨_, rfl⟩
     have Hw5 : Hid (Ar W g d w5) := by rw [hw5]; exact Hw3.out.quiet (drewN_chg w3 nq)
     rw [← hw5]
     clear hw5 Hw3 cx cy HLS
     obtain ⟨x, y, hx, hy, hT⟩ := Hw5.out.two (i := r) (j := q) (by rw [HD.out]; omega) (by rw [HD.out]; omega)
     obtain ⟨k1, k2, k3, k4, k5, k6, k7⟩ : _ := (hT w5 (Chg.refl _ _)).out
     have k4 := k4 (.int .u64 y)
     have k5 := k5 rq (.int .u64 y)
     obtain ⟨w9, hw9⟩ : ∃ w9, w9 = ((w5.setCell ⟨g, r, none⟩ (.int .u64 y)).setCell ⟨g, q, none⟩ (.int .u64 x)).drew := ⟨_, rfl⟩
     have H9 : Hid (St W g n (fun d => siftDown ltN hi first ch d = D) w9) := by rw [hw9]; exact ⟨_, swp_size' _ _ _ _ HD.out, HE.out, k7.quiet (Chg.refl _ _).drew⟩
     clear hT k6 k7 Hw5 hx hy HE HR
     go_upto_region 6 with fail
     go_region
     all_goals (
      rw [← hw9]
      clear hw9 k1 k2 k3 k4 k5
      go_wp2_with fail
      go_roundw
      case rel => exact ⟨ch, by have := HK.out; omega, by first | rfl | go_num, H9⟩
      case measure => have := HK.out; simp [intOf]; omega)
theorem hb_go {hi a k : Nat} {d : Array Nat} : heapBuild ltN hi a (k + 1) d = heapBuild ltN hi a k (siftDown ltN hi a k d) := by rw [heapBuild]
theorem hb_0 {hi a : Nat} {d : Array Nat} : heapBuild ltN hi a 0 d = d := by rw [heapBuild]
theorem hp_go {a k : Nat} {d : Array Nat} : heapPop ltN a (k + 1) d = heapPop ltN a k (siftDown ltN k a 0 (swp d a (a + k))) := by rw [heapPop]
theorem hp_0 {a : Nat} {d : Array Nat} : heapPop ltN a 0 d = d := by rw [heapPop]
theorem sd_size (hi first lo : Nat) : ∀ (m root : Nat) (d : Array Nat), hi - root ≤ m → (siftDown ltN hi first root d).size = d.size := by
 intro m
 induction m with
 | zero => intro root d h; rw [sd_end (by omega)]
 | succ m ih =>
  intro root d h
  by_cases h0 : hi ≤ 2 * root + 1
  ·rw [sd_end h0]
  ·by_cases h1 : 2 * root + 1 + 1 < hi ∧ d[first + (2 * root + 1)]! < d[first + (2 * root + 1) + 1]!
   ·by_cases h2 : d[first + root]! < d[first + (2 * root + 1 + 1)]!
    ·rw [sd_rgo rfl h1.1 h1.2 h2, ih _ _ (by omega), size_swp]
    ·rw [sd_rstop rfl h1.1 h1.2 h2]
   ·have h3 : 2 * root + 1 + 1 < hi → ¬ d[first + (2 * root + 1)]! < d[first + (2 * root + 1) + 1]! := fun x y => h1 ⟨x, y⟩
    by_cases h2 : d[first + root]! < d[first + (2 * root + 1)]!
    ·rw [sd_lgo rfl (by omega) h3 h2, ih _ _ (by omega), size_swp]
    ·rw [sd_lstop rfl (by omega) h3 h2]
theorem sd_size' {hi first root n : Nat} {d : Array Nat} (h : d.size = n) : (siftDown ltN hi first root d).size = n := by rw [sd_size hi first 0 (hi - root) root d (Nat.le_refl _)]; exact h
theorem sift_n {W w : World} {g c lo hi first n : Nat} {d : Array Nat} (h : Ar W g d w) (hn : d.size = n) (hb : first + hi ≤ n) (hz : n ≤ 1152921504606846976) (hlo : lo ≤ 1152921504606846976) :
    Calls Tryz.prog 124 #[.slice (some ⟨g, 0, none⟩) n c, .int .i64 lo, .int .i64 hi, .int .i64 first] w fun e W' => e = .returned (.tuple #[]) ∧ Ar W g (siftDown ltN hi first lo d) W' := by
 subst hn
 exact sift_o h hb hz hlo
set_option maxRecDepth 100000 in
theorem heap_o {W : World} {g c a b : Nat} {d0 : Array Nat} (hr : RowU W g d0.toList) (hb : b ≤ d0.size) (hz : d0.size ≤ 1152921504606846976) (ha : a < b) :
    Calls Tryz.prog 105 #[.slice (some ⟨g, 0, none⟩) d0.size c, .int .i64 a, .int .i64 b] W fun e W' => e = .returned (.tuple #[]) ∧ Ar W g (heapSort ltN d0 a b) W' := by
 obtain ⟨D, hD⟩ : ∃ D, D = heapSort ltN d0 a b := ⟨_, rfl⟩
 obtain ⟨n, hn⟩ : ∃ n, n = d0.size := ⟨_, rfl⟩
 obtain ⟨hi, hhi⟩ : ∃ hi, hi = b - a := ⟨_, rfl⟩
 obtain ⟨h1, hh1⟩ : ∃ h1, hi = h1 + 1 := ⟨hi - 1, by omega⟩
 have w0 : IntKind.i64.wrap ((b : Int) - (a : Int)) = (hi : Int) := by rw [IntKind.wrap_i64]; omega
 have w1 : IntKind.i64.wrap ((hi : Int) - 1) = (h1 : Int) := by rw [IntKind.wrap_i64]; omega
 obtain ⟨h2, hh2⟩ : ∃ h2, h2 = h1 / 2 := ⟨_, rfl⟩
 have d1 : ((h1 : Int).tdiv 2) = (h2 : Int) := by rw [Int.tdiv_eq_ediv_of_nonneg (by omega)]; omega
 have d2 : ((h1 : Int) / 2) = (h2 : Int) := by omega
 have d3 : IntKind.i64.wrap (h2 : Int) = (h2 : Int) := by rw [IntKind.wrap_i64]; omega
 have HS : Hid (St W g n (fun d => heapPop ltN a hi (heapBuild ltN hi a (h2 + 1) d) = D) W) := by
  refine ⟨d0, hn.symm, ?_, Ar.refl hr⟩
  rw [hD, heapSort, ← hhi, show (hi - 1) / 2 = h2 by omega]
 rw [← hD]
 rw [← hn] at hz hb ⊢
 have HH : Hid (hi = b - a ∧ hi = h1 + 1 ∧ h2 ≤ n) := ⟨hhi, hh1, by omega⟩
 have hfb : a + hi ≤ n := by omega
 have h1n : h1 < n := by omega
 clear hhi hh1 hh2 hr hn hD
 go_enter Tryz.func105, Tryz.ntmps105
 go_wp2_with fail
 clear w0 d1 d2 d3
 go_loopw [9] (fun s9 wr => ∃ (z : Int) (k : Nat), z + 1 = k ∧ z ≤ n ∧ s9 = .int .i64 z ∧ Hid (St W g n (fun d => heapPop ltN a hi (heapBuild ltN hi a k d) = D) wr)) (fun s9 _ => ((intOf s9) + 1).toNat)
 case atStart => exact ⟨h2, h2 + 1, by omega, by have := HH.out; omega, by first | rfl | go_num, HS⟩
 case round =>
  obtain ⟨z, k, hz1, hz2, rfl, HI⟩ := hrel
  by_cases hz0 : 0 ≤ z
  ·obtain ⟨i, rfl⟩ : ∃ i : Nat, z = (i : Int) := ⟨z.toNat, by omega⟩
   obtain rfl : k = i + 1 := by omega
   have t1 : (0 : Int) ≤ (i : Int) := by omega
   have wi : IntKind.i64.wrap ((i : Int) - 1) = (i : Int) - 1 := by rw [IntKind.wrap_i64]; omega
   obtain ⟨d, hd, hR, hA⟩ := HI.out
   rw [hb_go] at hR
   have HC := keepH (sift_n (c := c) (lo := i) hA hd hfb hz (by omega))
   have HD : Hid ((siftDown ltN hi a i d).size = n) := sd_size' hd
   have HR := keepH hR
   clear hd hR hA HI
   go_wp2_with fail
   refine HC.out.mono ?_
   rintro e w5 ⟨rfl, S5⟩
   have H5 : Hid (St W g n (fun d => heapPop ltN a hi (heapBuild ltN hi a i d) = D) w5) := ⟨_, HD.out, HR.out, S5⟩
   clear S5 HC HD HR
   go_wp2_with fail
   go_roundw
   case rel => exact ⟨(i : Int) - 1, i, by omega, by omega, by first | rfl | go_num, H5⟩
   case measure => simp [intOf]
  ·have t1 : ¬ (0 : Int) ≤ z := hz0
   obtain rfl : k = 0 := by omega
   have HI2 : Hid (St W g n (fun d => heapPop ltN a hi d = D) wr) := HI.out.mono fun d _ e => by rw [hb_0] at e; exact e
   clear HI
   go_wp2_with fail
   obtain ⟨wb, hwb⟩ : ∃ wb : World, wb = wr := ⟨_, rfl⟩
   rw [← hwb] at HI2 ⊢
   clear hwb
   go_loopw [10] (fun s10 wr => ∃ (z : Int) (k : Nat), z + 1 = k ∧ z ≤ h1 ∧ s10 = .int .i64 z ∧ Hid (St W g n (fun d => heapPop ltN a k d = D) wr)) (fun s10 _ => ((intOf s10) + 1).toNat)
   case atStart => exact ⟨h1, hi, by have := HH.out; omega, by omega, by first | rfl | go_num, HI2⟩
   case round =>
    obtain ⟨z, k, hy1, hy2, rfl, HJ⟩ := hrel
    clear HI2
    by_cases hy0 : 0 ≤ z
    ·obtain ⟨i, rfl⟩ : ∃ i : Nat, z = (i : Int) := ⟨z.toNat, by omega⟩
     obtain rfl : k = i + 1 := by omega
     have t2 : (0 : Int) ≤ (i : Int) := by omega
     have wi : IntKind.i64.wrap ((i : Int) - 1) = (i : Int) - 1 := by rw [IntKind.wrap_i64]; omega
     obtain ⟨q, hq⟩ : ∃ q, q = a + i := ⟨_, rfl⟩
     have wq : IntKind.i64.wrap ((a : Int) + (i : Int)) = (q : Int) := by rw [IntKind.wrap_i64]; omega
     have an : a < n := by omega
     have qn : q < n := by have := HH.out; omega
     have hib : a + i ≤ n := by have := HH.out; omega
     obtain ⟨d, hd, hR, hA⟩ := HJ.out
     rw [hp_go, ← hq] at hR
     have HD : Hid ((swp d a q).size = n) := swp_size' _ _ _ _ hd
     have HR := keepH hR
     obtain ⟨x, y, hx, hy, hT⟩ := hA.two (i := a) (j := q) (by omega) (by omega)
     clear hR hA HJ hd hx hy
     by_cases hi0 : i = 0
     ·have heq : a = q := by omega
      have HEQ := keepH heq
      clear hi0 hq heq
      obtain ⟨k1, k2, k3, k4, k5, k6, k7⟩ : _ := (hT wr (Chg.refl _ _)).out
      have k4 := k4 (.int .u64 y)
      have k5 := k6 HEQ.out (.int .u64 y)
      obtain ⟨w9, hw9⟩ : ∃ w9, w9 = ((wr.setCell ⟨g, a, none⟩ (.int .u64 y)).setCell ⟨g, q, none⟩ (.int .u64 x)).drew := ⟨_, rfl⟩
      have H9 : Hid (Ar W g (swp d a q) w9) := by rw [hw9]; exact k7.quiet (Chg.refl _ _).drew
      clear hT k6 k7
      go_upto_region 10 with fail
      go_region
      all_goals (
       rw [← hw9]
       clear hw9 k1 k2 k3 k4 k5
       go_wp2_with fail
       refine (sift_n (hi := i) (lo := 0) H9.out HD.out hib hz (by omega)).mono ?_
       rintro e w10 ⟨rfl, S10⟩
       have H10 : Hid (St W g n (fun d => heapPop ltN a i d = D) w10) := ⟨_, sd_size' HD.out, HR.out, S10⟩
       clear S10
       go_wp2_with fail
       go_roundw
       case rel => exact ⟨(i : Int) - 1, i, by omega, by omega, by first | rfl | go_num, H10⟩
       case measure => simp [intOf])
     ·have hne : a ≠ q := by omega
      clear hi0 hq
      obtain ⟨k1, k2, k3, k4, k5, k6, k7⟩ : _ := (hT wr (Chg.refl _ _)).out
      have k4 := k4 (.int .u64 y)
      have k5 := k5 hne (.int .u64 y)
      obtain ⟨w9, hw9⟩ : ∃ w9, w9 = ((wr.setCell ⟨g, a, none⟩ (.int .u64 y)).setCell ⟨g, q, none⟩ (.int .u64 x)).drew := ⟨_, rfl⟩
      have H9 : Hid (Ar W g (swp d a q) w9) := by rw [hw9]; exact k7.quiet (Chg.refl _ _).drew
      clear hT k6 k7
      go_upto_region 10 with fail
      go_region
      all_goals (
       rw [← hw9]
       clear hw9 k1 k2 k3 k4 k5
       go_wp2_with fail
       refine (sift_n (hi := i) (lo := 0) H9.out HD.out hib hz (by omega)).mono ?_
       rintro e w10 ⟨rfl, S10⟩
       have H10 : Hid (St W g n (fun d => heapPop ltN a i d = D) w10) := ⟨_, sd_size' HD.out, HR.out, S10⟩
       clear S10
       go_wp2_with fail
       go_roundw
       case rel => exact ⟨(i : Int) - 1, i, by omega, by omega, by first | rfl | go_num, H10⟩
       case measure => simp [intOf])
    ·have t2 : ¬ (0 : Int) ≤ z := hy0
     obtain rfl : k = 0 := by omega
     have HE : Hid (Ar W g D wr) := by
      obtain ⟨d, hd, hR, hA⟩ := HJ.out
      rw [hp_0] at hR
      rw [← hR]
      exact hA
     clear HJ
     go_wp2_with fail
     go_end0
     exact ⟨rfl, HE.out⟩
set_option maxRecDepth 100000 in
theorem peq_o {W : World} {g c a b pv : Nat} {d0 : Array Nat} (hr : RowU W g d0.toList) (hb : b ≤ d0.size) (hz : d0.size ≤ 1152921504606846976) (ha : a < b) (hp : pv < b) (hpa : a ≤ pv) :
    Calls Tryz.prog 111 #[.slice (some ⟨g, 0, none⟩) d0.size c, .int .i64 a, .int .i64 b, .int .i64 pv] W fun e W' => ∃ m : Nat, e = .returned (.int .i64 m) ∧ St W g d0.size (fun d => PartedE a b m d0[pv]! d0 d) W' := by
 obtain ⟨pp, hpp⟩ : ∃ pp, pp = d0[pv]! := ⟨_, rfl⟩
 have HPP := keepH hpp
 rw [← hpp]
 clear hpp
 have HA := keepH (Ar.refl hr)
 clear hr
 obtain ⟨n, hn⟩ : ∃ n, n = d0.size := ⟨_, rfl⟩
 rw [← hn] at hz hb ⊢
 have HN := keepH hn
 have HBS : Hid (b ≤ d0.size) := by show b ≤ _; omega
 clear hn
 obtain ⟨b1, hb1⟩ : ∃ b1, b = b1 + 1 := ⟨b - 1, by omega⟩
 have wb : IntKind.i64.wrap ((b : Int) - 1) = (b1 : Int) := by rw [IntKind.wrap_i64]; omega
 have wa : IntKind.i64.wrap ((a : Int) + 1) = ((a + 1 : Nat) : Int) := by rw [IntKind.wrap_i64]; omega
 have hbb : b1 + 1 = b := by omega
 have HBB : Hid (b1 + 1 = b) := hbb
 have pvn : pv < n := by omega
 have an0 : a < n := by omega
 clear hb1 hbb
 go_enter Tryz.func111, Tryz.ntmps111
 go_upto_region 1 with fail
 obtain ⟨x, y, hx, hy, hT⟩ := HA.out.any (i := a) (j := pv) (by rw [← HN.out]; omega) (by rw [← HN.out]; omega)
 have HT := keepH hT
 clear hT hx hy
 go_cut [] from 11 to 28 (fun wz => Hid (St W g n (fun d => PE a b pp d0 d (a + 1) (b - 1)) wz))
 case first =>
  obtain ⟨k1, k2, k3, k4, k5, k7⟩ : _ := (HT.out W (Chg.refl _ _)).out
  have k4 := k4 (.int .u64 y)
  obtain ⟨u, k5⟩ := k5 (.int .u64 y)
  obtain ⟨w9, hw9⟩ : ∃ w9, w9 = ((W.setCell ⟨g, a, none⟩ (.int .u64 y)).setCell ⟨g, pv, none⟩ (.int .u64 x)).drew := ⟨_, rfl⟩
  have H9 : Hid (St W g n (fun d => PE a b pp d0 d (a + 1) (b - 1)) w9) := by rw [hw9]; exact ⟨_, by rw [size_swp]; exact HN.out.symm, (by rw [HPP.out]; exact PE.start HBS.out hpa hp), k7.quiet (Chg.refl _ _).drew⟩
  clear k7 HT HA
  go_region
  all_goals (
   rw [← hw9]
   clear hw9 k1 k2 k3 k4 k5
   go_wp2_with fail
   go_meet
   exact H9)
 case rest =>
  have Hs1 := hcut
  clear hcut HT HA
  have hbb := HBB.out
  have Hs2 : Hid (St W g n (fun d => PE a b pp d0 d (a + 1) b1) _) := Hs1.out.mono fun d _ e => by rw [show b1 = b - 1 by omega]; exact e
  clear Hs1
  go_wp2_with fail
  clear wb wa
  go_loopw [9, 10] (fun sI sJ wr => ∃ i j : Nat, a + 1 ≤ i ∧ i ≤ b ∧ a ≤ j ∧ j < b ∧ sI = .int .i64 i ∧ sJ = .int .i64 j ∧ Hid (St W g n (fun d => PE a b pp d0 d i j) wr)) (fun sI _ _ => n + 1 - (intOf sI).toNat)
  case atStart => exact ⟨a + 1, b1, by omega, by omega, by omega, by omega, by first | rfl | go_num, by first | rfl | go_num, Hs2⟩
  case round =>
   obtain ⟨i0, j1, hi01, hi02, hj11, hj12, rfl, rfl, HO⟩ := hrel
   clear Hs2
   go_wp2_with fail
   go_loopw [9] (fun sI wr => ∃ i : Nat, i0 ≤ i ∧ i ≤ b ∧ sI = .int .i64 i ∧ Hid (St W g n (fun d => PE a b pp d0 d i j1) wr)) (fun sI _ => n + 1 - (intOf sI).toNat)
   case atStart => exact ⟨i0, by omega, by omega, by first | rfl | go_num, HO⟩
   case round =>
    obtain ⟨i, hi1, hi2, rfl, HI⟩ := hrel
    clear HO
    go_upto_region 3 with fail
    go_cut [43] from 29 to 45 (fun sr wz => ∃ t : Bool, sr = .bool t ∧ (t = true → i ≤ j1) ∧ Hid (St W g n (fun d => PE a b pp d0 d i j1 ∧ (t = true → d[i]! ≤ d[a]!) ∧ (t = false → j1 < i ∨ d[a]! < d[i]!)) wz))
    case first =>
     by_cases hij : i ≤ j1
     ·have t1 : (i : Int) ≤ (j1 : Int) := by omega
      have pn : i < n := by omega
      have qn : a < n := by omega
      obtain ⟨d, hd, hR, hA⟩ := HI.out
      have HD := keepH hd
      have HR := keepH hR
      have HA := keepH hA
      clear hd hR hA HI
      obtain ⟨x, y, hx, hy, hT⟩ := HA.out.any (i := a) (j := i) (by rw [HD.out]; omega) (by rw [HD.out]; omega)
      have cx := (hT wr (Chg.refl _ _)).out.1
      have cy := (hT wr (Chg.refl _ _)).out.2.1
      clear hT
      cases hlt : decide (x < y) with
      | true =>
       have HLS := keepH (less_is hlt)
       have HLT : Hid (d[a]! < d[i]!) := by rw [← hx, ← hy]; exact ltN_true.1 hlt
       clear hlt hx hy
       go_quiet (first | (go_at_call 110; refine (HLS.out _).mono ?_; rintro q r ⟨rfl, rfl⟩; exact ⟨rfl, _, rfl⟩))
       obtain ⟨w9, hw9⟩ : ∃ z : World, z = wr.drewN nq := ⟨_, rfl⟩
       have H9 : Hid (Ar W g d w9) := by rw [hw9]; exact HA.out.quiet (drewN_chg wr nq)
       rw [← hw9]
       clear hw9 cx cy HLS HA
       go_wp2_with fail
       go_meet
       exact ⟨false, rfl, fun _ => hij, d, HD.out, ⟨HR.out, ⟨fun e => by simp at e, fun _ => .inr HLT.out⟩⟩, H9.out⟩
      | false =>
       have HLS := keepH (less_is hlt)
       have HLT : Hid (d[i]! ≤ d[a]!) := by rw [← hx, ← hy]; exact ltN_false.1 hlt
       clear hlt hx hy
       go_quiet (first | (go_at_call 110; refine (HLS.out _).mono ?_; rintro q r ⟨rfl, rfl⟩; exact ⟨rfl, _, rfl⟩))
       obtain ⟨w9, hw9⟩ : ∃ z : World, z = wr.drewN nq := ⟨_, rfl⟩
       have H9 : Hid (Ar W g d w9) := by rw [hw9]; exact HA.out.quiet (drewN_chg wr nq)
       rw [← hw9]
       clear hw9 cx cy HLS HA
       go_wp2_with fail
       go_meet
       exact ⟨true, rfl, fun _ => hij, d, HD.out, ⟨HR.out, ⟨fun _ => HLT.out, fun e => by simp at e⟩⟩, H9.out⟩
     ·have t1 : ¬ (i : Int) ≤ (j1 : Int) := by omega
      obtain ⟨d, hd, hR, hA⟩ := HI.out
      have HD := keepH hd
      have HR := keepH hR
      have HA := keepH hA
      clear hd hR hA HI
      go_quiet (fail)
      obtain ⟨w9, hw9⟩ : ∃ z : World, z = wr.drewN nq := ⟨_, rfl⟩
      have H9 : Hid (Ar W g d w9) := by rw [hw9]; exact HA.out.quiet (drewN_chg wr nq)
      rw [← hw9]
      clear hw9 HA
      go_wp2_with fail
      go_meet
      exact ⟨false, rfl, fun h => by simp at h, d, HD.out, ⟨HR.out, ⟨fun e => by simp at e, fun _ => .inl (by omega)⟩⟩, H9.out⟩
    case rest =>
     clear HI
     obtain ⟨t, rfl, hij, Hs3⟩ := hcut
     cases t with
     | true =>
      have hij : i ≤ j1 := hij rfl
      have wi : IntKind.i64.wrap ((i : Int) + 1) = ((i + 1 : Nat) : Int) := by rw [IntKind.wrap_i64]; omega
      have Hs4 : Hid (St W g n (fun d => PE a b pp d0 d ((i + 1)) j1) _) := Hs3.out.mono fun d _ e => e.1.up (e.2.1 rfl)
      clear Hs3
      go_wp2_with fail
      go_roundw
      case rel => exact ⟨i + 1, by omega, by omega, by first | rfl | go_num, Hs4⟩
      case measure => simp [intOf]; omega
     | false =>
      clear hij
      have Hs4 : Hid (St W g n (fun d => PE a b pp d0 d i j1 ∧ (j1 < i ∨ d[a]! < d[i]!)) _) := Hs3.out.mono fun d _ e => ⟨e.1, e.2.2 rfl⟩
      clear Hs3
      go_wp2_with fail
      go_loopw [10] (fun sJ wr => ∃ j : Nat, a ≤ j ∧ j ≤ j1 ∧ sJ = .int .i64 j ∧ Hid (St W g n (fun d => PE a b pp d0 d i j ∧ (j1 < i ∨ d[a]! < d[i]!)) wr)) (fun sJ _ => (intOf sJ).toNat)
      case atStart => exact ⟨j1, by omega, by omega, by first | rfl | go_num, Hs4⟩
      case round =>
       obtain ⟨j, hj1, hj2, rfl, HJ⟩ := hrel
       clear Hs4
       go_upto_region 5 with fail
       go_cut [59] from 46 to 61 (fun sr wz => ∃ t : Bool, sr = .bool t ∧ (t = true → i ≤ j) ∧ Hid (St W g n (fun d => (PE a b pp d0 d i j ∧ (j1 < i ∨ d[a]! < d[i]!)) ∧ (t = true → d[a]! < d[j]!) ∧ (t = false → j < i ∨ d[j]! ≤ d[a]!)) wz))
       case first =>
        by_cases hij : i ≤ j
        ·have t1 : (i : Int) ≤ (j : Int) := by omega
         have pn : j < n := by omega
         have qn : a < n := by omega
         obtain ⟨d, hd, hR, hA⟩ := HJ.out
         have HD := keepH hd
         have HR := keepH hR
         have HA := keepH hA
         clear hd hR hA HJ
         obtain ⟨x, y, hx, hy, hT⟩ := HA.out.any (i := a) (j := j) (by rw [HD.out]; omega) (by rw [HD.out]; omega)
         have cx := (hT wr (Chg.refl _ _)).out.1
         have cy := (hT wr (Chg.refl _ _)).out.2.1
         clear hT
         cases hlt : decide (x < y) with
         | true =>
          have HLS := keepH (less_is hlt)
          have HLT : Hid (d[a]! < d[j]!) := by rw [← hx, ← hy]; exact ltN_true.1 hlt
          clear hlt hx hy
          go_quiet (first | (go_at_call 110; refine (HLS.out _).mono ?_; rintro q r ⟨rfl, rfl⟩; exact ⟨rfl, _, rfl⟩))
          obtain ⟨w9, hw9⟩ : ∃ z : World, z = wr.drewN nq := ⟨_, rfl⟩
          have H9 : Hid (Ar W g d w9) := by rw [hw9]; exact HA.out.quiet (drewN_chg wr nq)
          rw [← hw9]
          clear hw9 cx cy HLS HA
          go_wp2_with fail
          go_meet
          exact ⟨true, rfl, fun _ => hij, d, HD.out, ⟨HR.out, ⟨fun _ => HLT.out, fun e => by simp at e⟩⟩, H9.out⟩
         | false =>
          have HLS := keepH (less_is hlt)
          have HLT : Hid (d[j]! ≤ d[a]!) := by rw [← hx, ← hy]; exact ltN_false.1 hlt
          clear hlt hx hy
          go_quiet (first | (go_at_call 110; refine (HLS.out _).mono ?_; rintro q r ⟨rfl, rfl⟩; exact ⟨rfl, _, rfl⟩))
          obtain ⟨w9, hw9⟩ : ∃ z : World, z = wr.drewN nq := ⟨_, rfl⟩
          have H9 : Hid (Ar W g d w9) := by rw [hw9]; exact HA.out.quiet (drewN_chg wr nq)
          rw [← hw9]
          clear hw9 cx cy HLS HA
          go_wp2_with fail
          go_meet
          exact ⟨false, rfl, fun _ => hij, d, HD.out, ⟨HR.out, ⟨fun e => by simp at e, fun _ => .inr HLT.out⟩⟩, H9.out⟩
        ·have t1 : ¬ (i : Int) ≤ (j : Int) := by omega
         obtain ⟨d, hd, hR, hA⟩ := HJ.out
         have HD := keepH hd
         have HR := keepH hR
         have HA := keepH hA
         clear hd hR hA HJ
         go_quiet (fail)
         obtain ⟨w9, hw9⟩ : ∃ z : World, z = wr.drewN nq := ⟨_, rfl⟩
         have H9 : Hid (Ar W g d w9) := by rw [hw9]; exact HA.out.quiet (drewN_chg wr nq)
         rw [← hw9]
         clear hw9 HA
         go_wp2_with fail
         go_meet
         exact ⟨false, rfl, fun h => by simp at h, d, HD.out, ⟨HR.out, ⟨fun e => by simp at e, fun _ => .inl (by omega)⟩⟩, H9.out⟩
       case rest =>
        clear HJ
        obtain ⟨t, rfl, hij, Hs5⟩ := hcut
        cases t with
        | true =>
         have hij : i ≤ j := hij rfl
         obtain ⟨j0, hj0⟩ : ∃ j0, j = j0 + 1 := ⟨j - 1, by omega⟩
         have wj : IntKind.i64.wrap ((j : Int) - 1) = (j0 : Int) := by rw [IntKind.wrap_i64]; omega
         have HJ0 : Hid (j = j0 + 1) := hj0
         have Hs6 : Hid (St W g n (fun d => PE a b pp d0 d i j0 ∧ (j1 < i ∨ d[a]! < d[i]!)) _) := Hs5.out.mono fun d _ e => by
          have e1 := e.2.1 rfl
          have e2 := e.1.1
          rw [hj0] at e1 e2
          exact ⟨e2.dn e1, e.1.2⟩
         clear hj0 Hs5
         go_wp2_with fail
         go_roundw
         case rel => exact ⟨j0, by have := HJ0.out; omega, by have := HJ0.out; omega, by first | rfl | go_num, Hs6⟩
         case measure => have := HJ0.out; simp [intOf]; omega
        | false =>
         clear hij
         by_cases hgt : j < i
         ·have t2 : (j : Int) < (i : Int) := by omega
          have jn : j < n := by omega
          have an : a < n := by omega
          have HE : Hid (St W g n (fun d => PartedE a b i pp d0 d) _) := Hs5.out.mono fun d _ e => e.1.1.fin hgt (by omega) (by omega)
          clear Hs5
          go_wp2_with fail
          exact bodyPost_ret (results_tmp rfl _ _ _) rfl ⟨i, rfl, HE.out⟩
         ·have t2 : ¬ (j : Int) < (i : Int) := by omega
          have jn : j < n := by omega
          have i_n : i < n := by omega
          have wi : IntKind.i64.wrap ((i : Int) + 1) = ((i + 1 : Nat) : Int) := by rw [IntKind.wrap_i64]; omega
          obtain ⟨j0, hj0⟩ : ∃ j0, j = j0 + 1 := ⟨j - 1, by omega⟩
          have wj : IntKind.i64.wrap ((j : Int) - 1) = (j0 : Int) := by rw [IntKind.wrap_i64]; omega
          have HJ0 : Hid (j = j0 + 1) := hj0
          clear hj0
          go_upto_region 8 with fail
          obtain ⟨d, hd, hR, hA⟩ := Hs5.out
          have HD := keepH hd
          have HR := keepH hR
          have HA := keepH hA
          clear hd hR hA Hs5
          obtain ⟨x, y, hx, hy, hT⟩ := HA.out.any (i := i) (j := j) (by rw [HD.out]; omega) (by rw [HD.out]; omega)
          have HT := keepH hT
          clear hT hx hy
          have HPQ : Hid ((fun e => PE a b pp d0 e (i + 1) j0) (swp d i j)) := by
           have hj := HJ0.out
           have e := HR.out
           subst hj
           have e3 : d[a]! < d[i]! := e.1.2.resolve_left (by omega)
           have e4 : d[j0 + 1]! ≤ d[a]! := (e.2.2 rfl).resolve_left (by omega)
           exact e.1.1.sw HBS.out (by omega) (by omega) (by omega) e3 e4
          go_cut [] from 65 to 82 (fun wz => Hid (St W g n (fun d => (fun e => PE a b pp d0 e (i + 1) j0) d) wz))
          case first =>
           obtain ⟨k1, k2, k3, k4, k5, k7⟩ : _ := (HT.out wc (Chg.refl _ _)).out
           have k4 := k4 (.int .u64 y)
           obtain ⟨u, k5⟩ := k5 (.int .u64 y)
           obtain ⟨w9, hw9⟩ : ∃ w9, w9 = ((wc.setCell ⟨g, i, none⟩ (.int .u64 y)).setCell ⟨g, j, none⟩ (.int .u64 x)).drew := ⟨_, rfl⟩
           have H9 : Hid (St W g n (fun d => (fun e => PE a b pp d0 e (i + 1) j0) d) w9) := by rw [hw9]; exact ⟨_, swp_size' _ _ _ _ HD.out, HPQ.out, k7.quiet (Chg.refl _ _).drew⟩
           clear k7 HT HA HPQ HR
           go_region
           all_goals (
            rw [← hw9]
            clear hw9 k1 k2 k3 k4 k5
            go_wp2_with fail
            go_meet
            exact H9)
          case rest =>
           have Hsw := hcut
           clear hcut HT HA HPQ HR
           have Hs8 : Hid (St W g n (fun d => PE a b pp d0 d (i + 1) j0) _) := Hsw
           clear Hsw
           go_wp2_with fail
           go_roundw
           case rel => exact ⟨i + 1, j0, by omega, by omega, by have := HJ0.out; omega, by have := HJ0.out; omega, by first | rfl | go_num, by first | rfl | go_num, Hs8⟩
           case measure => simp [intOf]; omega
end Go.Proofs.YtahgaghokpicgaaGreat
