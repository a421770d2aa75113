/- Parted by a pivot. -/
import Derived.Test.YtahgaghokpicgaaGreatW23OtE
import Derived.Test.YtahgaghokpicgaaGreatW22OtB
import Derived.Lib.Tables
import Derived.Laws.Closers25b
import Derived.Laws.Bits64b
namespace Go.Proofs.YtahgaghokpicgaaGreat
open Go.RowKit Go.Sort
set_option linter.unusedVariables false
set_option maxHeartbeats 16000000
set_option maxRecDepth 100000 in
theorem part_o {W : World} {g c a b pv : Nat} {d0 : Array Nat} (hr : RowU W g d0.toList) (hb : b ≤ d0.size) (hz : d0.size ≤ 1152921504606846976) (ha : a < b) (hp : pv < b) (hpa : a ≤ pv) :
    Calls Tryz.prog 112 #[.slice (some ⟨g, 0, none⟩) d0.size c, .int .i64 a, .int .i64 b, .int .i64 pv] W fun e W' => ∃ (m : Nat) (t : Bool), e = .returned (.tuple #[.int .i64 m, .bool t]) ∧ St W g d0.size (fun d => Parted a b m d0 d) W' := by
 have HA := keepH (Ar.refl hr)
 clear hr
 obtain ⟨n, hn⟩ : ∃ n, n = d0.size := ⟨_, rfl⟩
 rw [← hn] at hz hb ⊢
 have HN := keepH hn
 have HBS : Hid (b ≤ d0.size) := by show b ≤ _; omega
 clear hn
 obtain ⟨b1, hb1⟩ : ∃ b1, b = b1 + 1 := ⟨b - 1, by omega⟩
 have wb : IntKind.i64.wrap ((b : Int) - 1) = (b1 : Int) := by rw [IntKind.wrap_i64]; omega
 have wa : IntKind.i64.wrap ((a : Int) + 1) = ((a + 1 : Nat) : Int) := by rw [IntKind.wrap_i64]; omega
 have hbb : b1 + 1 = b := by omega
 have HBB : Hid (b1 + 1 = b) := hbb
 have pvn : pv < n := by omega
 have an0 : a < n := by omega
 clear hb1 hbb
 go_enter Tryz.func112, Tryz.ntmps112
 go_upto_region 1 with fail
 obtain ⟨x, y, hx, hy, hT⟩ := HA.out.any (i := a) (j := pv) (by rw [← HN.out]; omega) (by rw [← HN.out]; omega)
 have HT := keepH hT
 clear hT hx hy
 go_cut [] from 12 to 29 (fun wz => Hid (St W g n (fun d => PQ a b d0 d (a + 1) (b - 1)) wz))
 case first =>
  obtain ⟨k1, k2, k3, k4, k5, k7⟩ : _ := (HT.out W (Chg.refl _ _)).out
  have k4 := k4 (.int .u64 y)
  obtain ⟨u, k5⟩ := k5 (.int .u64 y)
  obtain ⟨w9, hw9⟩ : ∃ w9, w9 = ((W.setCell ⟨g, a, none⟩ (.int .u64 y)).setCell ⟨g, pv, none⟩ (.int .u64 x)).drew := ⟨_, rfl⟩
  have H9 : Hid (St W g n (fun d => PQ a b d0 d (a + 1) (b - 1)) w9) := by rw [hw9]; exact ⟨_, by rw [size_swp]; exact HN.out.symm, PQ.start HBS.out hpa hp, k7.quiet (Chg.refl _ _).drew⟩
  clear k7 HT HA
  go_region
  all_goals (
   rw [← hw9]
   clear hw9 k1 k2 k3 k4 k5
   go_wp2_with fail
   go_meet
   exact H9)
 case rest =>
  have Hs1 := hcut
  clear hcut HT HA
  have hbb := HBB.out
  obtain ⟨i0, hi0⟩ : ∃ i0, i0 = a + 1 := ⟨_, rfl⟩
  obtain ⟨j1, hj1⟩ : ∃ j1, j1 = b1 := ⟨_, rfl⟩
  have Hs2 : Hid (St W g n (fun d => PQ a b d0 d i0 j1) _) := Hs1.out.mono fun d _ e => by rw [hi0, hj1, show b1 = b - 1 by omega]; exact e
  have hii : a + 1 ≤ i0 := by omega
  have hii2 : i0 ≤ b := by omega
  have hjj : a ≤ j1 := by omega
  have hjj2 : j1 < b := by omega
  have wa' : IntKind.i64.wrap ((a : Int) + 1) = (i0 : Int) := by rw [wa]; omega
  have wb' : IntKind.i64.wrap ((b : Int) - 1) = (j1 : Int) := by rw [wb]; omega
  clear wa wb hi0 hj1 Hs1
  go_wp2_with fail
  clear wa' wb'
  go_loopw [10] (fun sI wr => ∃ i : Nat, i0 ≤ i ∧ i ≤ b ∧ sI = .int .i64 i ∧ Hid (St W g n (fun d => PQ a b d0 d i j1) wr)) (fun sI _ => n + 1 - (intOf sI).toNat)
  case atStart => exact ⟨i0, by omega, by omega, by first | rfl | go_num, Hs2⟩
  case round =>
   obtain ⟨i, hi1, hi2, rfl, HI⟩ := hrel
   clear Hs2
   go_upto_region 3 with fail
   go_cut [43] from 30 to 45 (fun sr wz => ∃ t : Bool, sr = .bool t ∧ (t = true → i ≤ j1) ∧ Hid (St W g n (fun d => PQ a b d0 d i j1 ∧ (t = true → d[i]! < d[a]!) ∧ (t = false → j1 < i ∨ d[a]! ≤ d[i]!)) wz))
   case first =>
    by_cases hij : i ≤ j1
    ·have t1 : (i : Int) ≤ (j1 : Int) := by omega
     have pn : i < n := by omega
     have qn : a < n := by omega
     obtain ⟨d, hd, hR, hA⟩ := HI.out
     have HD := keepH hd
     have HR := keepH hR
     have HA := keepH hA
     clear hd hR hA HI
     obtain ⟨x, y, hx, hy, hT⟩ := HA.out.any (i := i) (j := a) (by rw [HD.out]; omega) (by rw [HD.out]; omega)
     have cx := (hT wr (Chg.refl _ _)).out.1
     have cy := (hT wr (Chg.refl _ _)).out.2.1
     clear hT
     cases hlt : decide (x < y) with
     | true =>
      have HLS := keepH (less_is hlt)
      have HLT : Hid (d[i]! < d[a]!) := by rw [← hx, ← hy]; exact ltN_true.1 hlt
      clear hlt hx hy
      go_quiet (first | (go_at_call 110; refine (HLS.out _).mono ?_; rintro q r ⟨rfl, rfl⟩; exact ⟨rfl, _, rfl⟩))
      obtain ⟨w9, hw9⟩ : ∃ z : World, z = wr.drewN nq := ⟨_, rfl⟩
      have H9 : Hid (Ar W g d w9) := by rw [hw9]; exact HA.out.quiet (drewN_chg wr nq)
      rw [← hw9]
      clear hw9 cx cy HLS HA
      go_wp2_with fail
      go_meet
      exact ⟨true, rfl, fun _ => hij, d, HD.out, ⟨HR.out, ⟨fun _ => HLT.out, fun e => by simp at e⟩⟩, H9.out⟩
     | false =>
      have HLS := keepH (less_is hlt)
      have HLT : Hid (d[a]! ≤ d[i]!) := by rw [← hx, ← hy]; exact ltN_false.1 hlt
      clear hlt hx hy
      go_quiet (first | (go_at_call 110; refine (HLS.out _).mono ?_; rintro q r ⟨rfl, rfl⟩; exact ⟨rfl, _, rfl⟩))
      obtain ⟨w9, hw9⟩ : ∃ z : World, z = wr.drewN nq := ⟨_, rfl⟩
      have H9 : Hid (Ar W g d w9) := by rw [hw9]; exact HA.out.quiet (drewN_chg wr nq)
      rw [← hw9]
      clear hw9 cx cy HLS HA
      go_wp2_with fail
      go_meet
      exact ⟨false, rfl, fun _ => hij, d, HD.out, ⟨HR.out, ⟨fun e => by simp at e, fun _ => .inr HLT.out⟩⟩, H9.out⟩
    ·have t1 : ¬ (i : Int) ≤ (j1 : Int) := by omega
     obtain ⟨d, hd, hR, hA⟩ := HI.out
     have HD := keepH hd
     have HR := keepH hR
     have HA := keepH hA
     clear hd hR hA HI
     go_quiet (fail)
     obtain ⟨w9, hw9⟩ : ∃ z : World, z = wr.drewN nq := ⟨_, rfl⟩
     have H9 : Hid (Ar W g d w9) := by rw [hw9]; exact HA.out.quiet (drewN_chg wr nq)
     rw [← hw9]
     clear hw9 HA
     go_wp2_with fail
     go_meet
     exact ⟨false, rfl, fun h => by simp at h, d, HD.out, ⟨HR.out, ⟨fun e => by simp at e, fun _ => .inl (by omega)⟩⟩, H9.out⟩
   case rest =>
    clear HI
    obtain ⟨t, rfl, hij, Hs3⟩ := hcut
    cases t with
    | true =>
     have hij : i ≤ j1 := hij rfl
     have wi : IntKind.i64.wrap ((i : Int) + 1) = ((i + 1 : Nat) : Int) := by rw [IntKind.wrap_i64]; omega
     have Hs4 : Hid (St W g n (fun d => PQ a b d0 d ((i + 1)) j1) _) := Hs3.out.mono fun d _ e => e.1.up (e.2.1 rfl)
     clear Hs3
     go_wp2_with fail
     go_roundw
     case rel => exact ⟨i + 1, by omega, by omega, by first | rfl | go_num, Hs4⟩
     case measure => simp [intOf]; omega
    | false =>
     clear hij
     have Hs4 : Hid (St W g n (fun d => PQ a b d0 d i j1 ∧ (j1 < i ∨ d[a]! ≤ d[i]!)) _) := Hs3.out.mono fun d _ e => ⟨e.1, e.2.2 rfl⟩
     clear Hs3
     go_wp2_with fail
     go_loopw [11] (fun sJ wr => ∃ j : Nat, a ≤ j ∧ j ≤ j1 ∧ sJ = .int .i64 j ∧ Hid (St W g n (fun d => PQ a b d0 d i j ∧ (j1 < i ∨ d[a]! ≤ d[i]!)) wr)) (fun sJ _ => (intOf sJ).toNat)
     case atStart => exact ⟨j1, by omega, by omega, by first | rfl | go_num, Hs4⟩
     case round =>
      obtain ⟨j, hj1, hj2, rfl, HJ⟩ := hrel
      clear Hs4
      go_upto_region 5 with fail
      go_cut [60] from 46 to 62 (fun sr wz => ∃ t : Bool, sr = .bool t ∧ (t = true → i ≤ j) ∧ Hid (St W g n (fun d => (PQ a b d0 d i j ∧ (j1 < i ∨ d[a]! ≤ d[i]!)) ∧ (t = true → d[a]! ≤ d[j]!) ∧ (t = false → j < i ∨ d[j]! < d[a]!)) wz))
      case first =>
       by_cases hij : i ≤ j
       ·have t1 : (i : Int) ≤ (j : Int) := by omega
        have pn : j < n := by omega
        have qn : a < n := by omega
        obtain ⟨d, hd, hR, hA⟩ := HJ.out
        have HD := keepH hd
        have HR := keepH hR
        have HA := keepH hA
        clear hd hR hA HJ
        obtain ⟨x, y, hx, hy, hT⟩ := HA.out.any (i := j) (j := a) (by rw [HD.out]; omega) (by rw [HD.out]; omega)
        have cx := (hT wr (Chg.refl _ _)).out.1
        have cy := (hT wr (Chg.refl _ _)).out.2.1
        clear hT
        cases hlt : decide (x < y) with
        | true =>
         have HLS := keepH (less_is hlt)
         have HLT : Hid (d[j]! < d[a]!) := by rw [← hx, ← hy]; exact ltN_true.1 hlt
         clear hlt hx hy
         go_quiet (first | (go_at_call 110; refine (HLS.out _).mono ?_; rintro q r ⟨rfl, rfl⟩; exact ⟨rfl, _, rfl⟩))
         obtain ⟨w9, hw9⟩ : ∃ z : World, z = wr.drewN nq := ⟨_, rfl⟩
         have H9 : Hid (Ar W g d w9) := by rw [hw9]; exact HA.out.quiet (drewN_chg wr nq)
         rw [← hw9]
         clear hw9 cx cy HLS HA
         go_wp2_with fail
         go_meet
         exact ⟨false, rfl, fun _ => hij, d, HD.out, ⟨HR.out, ⟨fun e => by simp at e, fun _ => .inr HLT.out⟩⟩, H9.out⟩
        | false =>
         have HLS := keepH (less_is hlt)
         have HLT : Hid (d[a]! ≤ d[j]!) := by rw [← hx, ← hy]; exact ltN_false.1 hlt
         clear hlt hx hy
         go_quiet (first | (go_at_call 110; refine (HLS.out _).mono ?_; rintro q r ⟨rfl, rfl⟩; exact ⟨rfl, _, rfl⟩))
         obtain ⟨w9, hw9⟩ : ∃ z : World, z = wr.drewN nq := ⟨_, rfl⟩
         have H9 : Hid (Ar W g d w9) := by rw [hw9]; exact HA.out.quiet (drewN_chg wr nq)
         rw [← hw9]
         clear hw9 cx cy HLS HA
         go_wp2_with fail
         go_meet
         exact ⟨true, rfl, fun _ => hij, d, HD.out, ⟨HR.out, ⟨fun _ => HLT.out, fun e => by simp at e⟩⟩, H9.out⟩
       ·have t1 : ¬ (i : Int) ≤ (j : Int) := by omega
        obtain ⟨d, hd, hR, hA⟩ := HJ.out
        have HD := keepH hd
        have HR := keepH hR
        have HA := keepH hA
        clear hd hR hA HJ
        go_quiet (fail)
        obtain ⟨w9, hw9⟩ : ∃ z : World, z = wr.drewN nq := ⟨_, rfl⟩
        have H9 : Hid (Ar W g d w9) := by rw [hw9]; exact HA.out.quiet (drewN_chg wr nq)
        rw [← hw9]
        clear hw9 HA
        go_wp2_with fail
        go_meet
        exact ⟨false, rfl, fun h => by simp at h, d, HD.out, ⟨HR.out, ⟨fun e => by simp at e, fun _ => .inl (by omega)⟩⟩, H9.out⟩
      case rest =>
       clear HJ
       obtain ⟨t, rfl, hij, Hs5⟩ := hcut
       cases t with
       | true =>
        have hij : i ≤ j := hij rfl
        obtain ⟨j0, hj0⟩ : ∃ j0, j = j0 + 1 := ⟨j - 1, by omega⟩
        have wj : IntKind.i64.wrap ((j : Int) - 1) = (j0 : Int) := by rw [IntKind.wrap_i64]; omega
        have HJ0 : Hid (j = j0 + 1) := hj0
        have Hs6 : Hid (St W g n (fun d => PQ a b d0 d i j0 ∧ (j1 < i ∨ d[a]! ≤ d[i]!)) _) := Hs5.out.mono fun d _ e => by
         have e1 := e.2.1 rfl
         have e2 := e.1.1
         rw [hj0] at e1 e2
         exact ⟨e2.dn e1, e.1.2⟩
        clear hj0 Hs5
        go_wp2_with fail
        go_roundw
        case rel => exact ⟨j0, by have := HJ0.out; omega, by have := HJ0.out; omega, by first | rfl | go_num, Hs6⟩
        case measure => have := HJ0.out; simp [intOf]; omega
       | false =>
        clear hij
        by_cases hgt : j < i
        ·have t2 : (j : Int) < (i : Int) := by omega
         have jn : j < n := by omega
         have an : a < n := by omega
         go_upto_region 8 with fail
         obtain ⟨d, hd, hR, hA⟩ := Hs5.out
         have HD := keepH hd
         have HR := keepH hR
         have HA := keepH hA
         clear hd hR hA Hs5
         obtain ⟨x, y, hx, hy, hT⟩ := HA.out.any (i := j) (j := a) (by rw [HD.out]; omega) (by rw [HD.out]; omega)
         have HT := keepH hT
         clear hT hx hy
         have HPQ : Hid ((fun e => Parted a b j d0 e) (swp d j a)) := by
          exact HR.out.1.1.fin HBS.out hgt (by omega) (by omega)
         go_cut [] from 66 to 79 (fun wz => Hid (St W g n (fun d => (fun e => Parted a b j d0 e) d) wz))
         case first =>
          obtain ⟨k1, k2, k3, k4, k5, k7⟩ : _ := (HT.out wc (Chg.refl _ _)).out
          have k4 := k4 (.int .u64 y)
          obtain ⟨u, k5⟩ := k5 (.int .u64 y)
          obtain ⟨w9, hw9⟩ : ∃ w9, w9 = ((wc.setCell ⟨g, j, none⟩ (.int .u64 y)).setCell ⟨g, a, none⟩ (.int .u64 x)).drew := ⟨_, rfl⟩
          have H9 : Hid (St W g n (fun d => (fun e => Parted a b j d0 e) d) w9) := by rw [hw9]; exact ⟨_, swp_size' _ _ _ _ HD.out, HPQ.out, k7.quiet (Chg.refl _ _).drew⟩
          clear k7 HT HA HPQ HR
          go_region
          all_goals (
           rw [← hw9]
           clear hw9 k1 k2 k3 k4 k5
           go_wp2_with fail
           go_meet
           exact H9)
         case rest =>
          have Hsw := hcut
          clear hcut HT HA HPQ HR
          have HE : Hid (St W g n (fun d => Parted a b j d0 d) _) := Hsw
          clear Hsw
          go_wp2_with fail
          exact bodyPost_ret (results_tmp2 rfl _ _ _) rfl ⟨j, true, rfl, HE.out⟩
        ·have t2 : ¬ (j : Int) < (i : Int) := by omega
         have jn : j < n := by omega
         have i_n : i < n := by omega
         have wi : IntKind.i64.wrap ((i : Int) + 1) = ((i + 1 : Nat) : Int) := by rw [IntKind.wrap_i64]; omega
         obtain ⟨j0, hj0⟩ : ∃ j0, j = j0 + 1 := ⟨j - 1, by omega⟩
         have wj : IntKind.i64.wrap ((j : Int) - 1) = (j0 : Int) := by rw [IntKind.wrap_i64]; omega
         have HJ0 : Hid (j = j0 + 1) := hj0
         clear hj0
         go_upto_region 10 with fail
         obtain ⟨d, hd, hR, hA⟩ := Hs5.out
         have HD := keepH hd
         have HR := keepH hR
         have HA := keepH hA
         clear hd hR hA Hs5
         obtain ⟨x, y, hx, hy, hT⟩ := HA.out.any (i := i) (j := j) (by rw [HD.out]; omega) (by rw [HD.out]; omega)
         have HT := keepH hT
         clear hT hx hy
         have HPQ : Hid ((fun e => PQ a b d0 e (i + 1) j0) (swp d i j)) := by
          have hj := HJ0.out
          have e := HR.out
          subst hj
          have e3 : d[a]! ≤ d[i]! := e.1.2.resolve_left (by omega)
          have e4 : d[j0 + 1]! < d[a]! := (e.2.2 rfl).resolve_left (by omega)
          exact e.1.1.sw HBS.out (by omega) (by omega) (by omega) e3 e4
         go_cut [] from 81 to 98 (fun wz => Hid (St W g n (fun d => (fun e => PQ a b d0 e (i + 1) j0) d) wz))
         case first =>
          obtain ⟨k1, k2, k3, k4, k5, k7⟩ : _ := (HT.out wc (Chg.refl _ _)).out
          have k4 := k4 (.int .u64 y)
          obtain ⟨u, k5⟩ := k5 (.int .u64 y)
          obtain ⟨w9, hw9⟩ : ∃ w9, w9 = ((wc.setCell ⟨g, i, none⟩ (.int .u64 y)).setCell ⟨g, j, none⟩ (.int .u64 x)).drew := ⟨_, rfl⟩
          have H9 : Hid (St W g n (fun d => (fun e => PQ a b d0 e (i + 1) j0) d) w9) := by rw [hw9]; exact ⟨_, swp_size' _ _ _ _ HD.out, HPQ.out, k7.quiet (Chg.refl _ _).drew⟩
          clear k7 HT HA HPQ HR
          go_region
          all_goals (
           rw [← hw9]
           clear hw9 k1 k2 k3 k4 k5
           go_wp2_with fail
           go_meet
           exact H9)
         case rest =>
          have Hsw := hcut
          clear hcut HT HA HPQ HR
          have Hs10 : Hid (St W g n (fun d => PQ a b d0 d (i + 1) j0) _) := Hsw
          clear Hsw
          go_wp2_with fail
          have hq1 : a ≤ j0 := by have := HJ0.out; omega
          have hq2 : j0 < b := by have := HJ0.out; omega
          go_loopw [10, 11] (fun sI sJ wr => ∃ i j : Nat, a + 1 ≤ i ∧ i ≤ b ∧ a ≤ j ∧ j < b ∧ sI = .int .i64 i ∧ sJ = .int .i64 j ∧ Hid (St W g n (fun d => PQ a b d0 d i j) wr)) (fun sI _ _ => n + 1 - (intOf sI).toNat)
          case atStart => exact ⟨(i + 1), j0, by omega, by omega, by omega, by omega, by first | rfl | go_num, by first | rfl | go_num, Hs10⟩
          case round =>
           clear Hs10
           obtain ⟨i0, j1, hi01, hi02, hj11, hj12, rfl, rfl, HO⟩ := hrel
           go_wp2_with fail
           go_loopw [10] (fun sI wr => ∃ i : Nat, i0 ≤ i ∧ i ≤ b ∧ sI = .int .i64 i ∧ Hid (St W g n (fun d => PQ a b d0 d i j1) wr)) (fun sI _ => n + 1 - (intOf sI).toNat)
           case atStart => exact ⟨i0, by omega, by omega, by first | rfl | go_num, HO⟩
           case round =>
            obtain ⟨i, hi1, hi2, rfl, HI⟩ := hrel
            clear HO
            go_upto_region 13 with fail
            go_cut [112] from 99 to 114 (fun sr wz => ∃ t : Bool, sr = .bool t ∧ (t = true → i ≤ j1) ∧ Hid (St W g n (fun d => PQ a b d0 d i j1 ∧ (t = true → d[i]! < d[a]!) ∧ (t = false → j1 < i ∨ d[a]! ≤ d[i]!)) wz))
            case first =>
             by_cases hij : i ≤ j1
             ·have t1 : (i : Int) ≤ (j1 : Int) := by omega
              have pn : i < n := by omega
              have qn : a < n := by omega
              obtain ⟨d, hd, hR, hA⟩ := HI.out
              have HD := keepH hd
              have HR := keepH hR
              have HA := keepH hA
              clear hd hR hA HI
              obtain ⟨x, y, hx, hy, hT⟩ := HA.out.any (i := i) (j := a) (by rw [HD.out]; omega) (by rw [HD.out]; omega)
              have cx := (hT wr (Chg.refl _ _)).out.1
              have cy := (hT wr (Chg.refl _ _)).out.2.1
              clear hT
              cases hlt : decide (x < y) with
              | true =>
               have HLS := keepH (less_is hlt)
               have HLT : Hid (d[i]! < d[a]!) := by rw [← hx, ← hy]; exact ltN_true.1 hlt
               clear hlt hx hy
               go_quiet (first | (go_at_call 110; refine (HLS.out _).mono ?_; rintro q r ⟨rfl, rfl⟩; exact ⟨rfl, _, rfl⟩))
               obtain ⟨w9, hw9⟩ : ∃ z : World, z = wr.drewN nq := ⟨_, rfl⟩
               have H9 : Hid (Ar W g d w9) := by rw [hw9]; exact HA.out.quiet (drewN_chg wr nq)
               rw [← hw9]
               clear hw9 cx cy HLS HA
               go_wp2_with fail
               go_meet
               exact ⟨true, rfl, fun _ => hij, d, HD.out, ⟨HR.out, ⟨fun _ => HLT.out, fun e => by simp at e⟩⟩, H9.out⟩
              | false =>
               have HLS := keepH (less_is hlt)
               have HLT : Hid (d[a]! ≤ d[i]!) := by rw [← hx, ← hy]; exact ltN_false.1 hlt
               clear hlt hx hy
               go_quiet (first | (go_at_call 110; refine (HLS.out _).mono ?_; rintro q r ⟨rfl, rfl⟩; exact ⟨rfl, _, rfl⟩))
               obtain ⟨w9, hw9⟩ : ∃ z : World, z = wr.drewN nq := ⟨_, rfl⟩
               have H9 : Hid (Ar W g d w9) := by rw [hw9]; exact HA.out.quiet (drewN_chg wr nq)
               rw [← hw9]
               clear hw9 cx cy HLS HA
               go_wp2_with fail
               go_meet
               exact ⟨false, rfl, fun _ => hij, d, HD.out, ⟨HR.out, ⟨fun e => by simp at e, fun _ => .inr HLT.out⟩⟩, H9.out⟩
             ·have t1 : ¬ (i : Int) ≤ (j1 : Int) := by omega
              obtain ⟨d, hd, hR, hA⟩ := HI.out
              have HD := keepH hd
              have HR := keepH hR
              have HA := keepH hA
              clear hd hR hA HI
              go_quiet (fail)
              obtain ⟨w9, hw9⟩ : ∃ z : World, z = wr.drewN nq := ⟨_, rfl⟩
              have H9 : Hid (Ar W g d w9) := by rw [hw9]; exact HA.out.quiet (drewN_chg wr nq)
              rw [← hw9]
              clear hw9 HA
              go_wp2_with fail
              go_meet
              exact ⟨false, rfl, fun h => by simp at h, d, HD.out, ⟨HR.out, ⟨fun e => by simp at e, fun _ => .inl (by omega)⟩⟩, H9.out⟩
            case rest =>
             clear HI
             obtain ⟨t, rfl, hij, Hs3⟩ := hcut
             cases t with
             | true =>
              have hij : i ≤ j1 := hij rfl
              have wi : IntKind.i64.wrap ((i : Int) + 1) = ((i + 1 : Nat) : Int) := by rw [IntKind.wrap_i64]; omega
              have Hs4 : Hid (St W g n (fun d => PQ a b d0 d ((i + 1)) j1) _) := Hs3.out.mono fun d _ e => e.1.up (e.2.1 rfl)
              clear Hs3
              go_wp2_with fail
              go_roundw
              case rel => exact ⟨i + 1, by omega, by omega, by first | rfl | go_num, Hs4⟩
              case measure => simp [intOf]; omega
             | false =>
              clear hij
              have Hs4 : Hid (St W g n (fun d => PQ a b d0 d i j1 ∧ (j1 < i ∨ d[a]! ≤ d[i]!)) _) := Hs3.out.mono fun d _ e => ⟨e.1, e.2.2 rfl⟩
              clear Hs3
              go_wp2_with fail
              go_loopw [11] (fun sJ wr => ∃ j : Nat, a ≤ j ∧ j ≤ j1 ∧ sJ = .int .i64 j ∧ Hid (St W g n (fun d => PQ a b d0 d i j ∧ (j1 < i ∨ d[a]! ≤ d[i]!)) wr)) (fun sJ _ => (intOf sJ).toNat)
              case atStart => exact ⟨j1, by omega, by omega, by first | rfl | go_num, Hs4⟩
              case round =>
               obtain ⟨j, hj1, hj2, rfl, HJ⟩ := hrel
               clear Hs4
               go_upto_region 15 with fail
               go_cut [129] from 115 to 131 (fun sr wz => ∃ t : Bool, sr = .bool t ∧ (t = true → i ≤ j) ∧ Hid (St W g n (fun d => (PQ a b d0 d i j ∧ (j1 < i ∨ d[a]! ≤ d[i]!)) ∧ (t = true → d[a]! ≤ d[j]!) ∧ (t = false → j < i ∨ d[j]! < d[a]!)) wz))
               case first =>
                by_cases hij : i ≤ j
                ·have t1 : (i : Int) ≤ (j : Int) := by omega
                 have pn : j < n := by omega
                 have qn : a < n := by omega
                 obtain ⟨d, hd, hR, hA⟩ := HJ.out
                 have HD := keepH hd
                 have HR := keepH hR
                 have HA := keepH hA
                 clear hd hR hA HJ
                 obtain ⟨x, y, hx, hy, hT⟩ := HA.out.any (i := j) (j := a) (by rw [HD.out]; omega) (by rw [HD.out]; omega)
                 have cx := (hT wr (Chg.refl _ _)).out.1
                 have cy := (hT wr (Chg.refl _ _)).out.2.1
                 clear hT
                 cases hlt : decide (x < y) with
                 | true =>
                  have HLS := keepH (less_is hlt)
                  have HLT : Hid (d[j]! < d[a]!) := by rw [← hx, ← hy]; exact ltN_true.1 hlt
                  clear hlt hx hy
                  go_quiet (first | (go_at_call 110; refine (HLS.out _).mono ?_; rintro q r ⟨rfl, rfl⟩; exact ⟨rfl, _, rfl⟩))
                  obtain ⟨w9, hw9⟩ : ∃ z : World, z = wr.drewN nq := ⟨_, rfl⟩
                  have H9 : Hid (Ar W g d w9) := by rw [hw9]; exact HA.out.quiet (drewN_chg wr nq)
                  rw [← hw9]
                  clear hw9 cx cy HLS HA
                  go_wp2_with fail
                  go_meet
                  exact ⟨false, rfl, fun _ => hij, d, HD.out, ⟨HR.out, ⟨fun e => by simp at e, fun _ => .inr HLT.out⟩⟩, H9.out⟩
                 | false =>
                  have HLS := keepH (less_is hlt)
                  have HLT : Hid (d[a]! ≤ d[j]!) := by rw [← hx, ← hy]; exact ltN_false.1 hlt
                  clear hlt hx hy
                  go_quiet (first | (go_at_call 110; refine (HLS.out _).mono ?_; rintro q r ⟨rfl, rfl⟩; exact ⟨rfl, _, rfl⟩))
                  obtain ⟨w9, hw9⟩ : ∃ z : World, z = wr.drewN nq := ⟨_, rfl⟩
                  have H9 : Hid (Ar W g d w9) := by rw [hw9]; exact HA.out.quiet (drewN_chg wr nq)
                  rw [← hw9]
                  clear hw9 cx cy HLS HA
                  go_wp2_with fail
                  go_meet
                  exact ⟨true, rfl, fun _ => hij, d, HD.out, ⟨HR.out, ⟨fun _ => HLT.out, fun e => by simp at e⟩⟩, H9.out⟩
                ·have t1 : ¬ (i : Int) ≤ (j : Int) := by omega
                 obtain ⟨d, hd, hR, hA⟩ := HJ.out
                 have HD := keepH hd
                 have HR := keepH hR
                 have HA := keepH hA
                 clear hd hR hA HJ
                 go_quiet (fail)
                 obtain ⟨w9, hw9⟩ : ∃ z : World, z = wr.drewN nq := ⟨_, rfl⟩
                 have H9 : Hid (Ar W g d w9) := by rw [hw9]; exact HA.out.quiet (drewN_chg wr nq)
                 rw [← hw9]
                 clear hw9 HA
                 go_wp2_with fail
                 go_meet
                 exact ⟨false, rfl, fun h => by simp at h, d, HD.out, ⟨HR.out, ⟨fun e => by simp at e, fun _ => .inl (by omega)⟩⟩, H9.out⟩
               case rest =>
                clear HJ
                obtain ⟨t, rfl, hij, Hs5⟩ := hcut
                cases t with
                | true =>
                 have hij : i ≤ j := hij rfl
                 obtain ⟨j0, hj0⟩ : ∃ j0, j = j0 + 1 := ⟨j - 1, by omega⟩
                 have wj : IntKind.i64.wrap ((j : Int) - 1) = (j0 : Int) := by rw [IntKind.wrap_i64]; omega
                 have HJ0 : Hid (j = j0 + 1) := hj0
                 have Hs6 : Hid (St W g n (fun d => PQ a b d0 d i j0 ∧ (j1 < i ∨ d[a]! ≤ d[i]!)) _) := Hs5.out.mono fun d _ e => by
                  have e1 := e.2.1 rfl
                  have e2 := e.1.1
                  rw [hj0] at e1 e2
                  exact ⟨e2.dn e1, e.1.2⟩
                 clear hj0 Hs5
                 go_wp2_with fail
                 go_roundw
                 case rel => exact ⟨j0, by have := HJ0.out; omega, by have := HJ0.out; omega, by first | rfl | go_num, Hs6⟩
                 case measure => have := HJ0.out; simp [intOf]; omega
                | false =>
                 clear hij
                 by_cases hgt : j < i
                 ·have t2 : (j : Int) < (i : Int) := by omega
                  have jn : j < n := by omega
                  have an : a < n := by omega
                  go_upto_region 21 with fail
                  obtain ⟨d, hd, hR, hA⟩ := Hs5.out
                  have HD := keepH hd
                  have HR := keepH hR
                  have HA := keepH hA
                  clear hd hR hA Hs5
                  obtain ⟨x, y, hx, hy, hT⟩ := HA.out.any (i := j) (j := a) (by rw [HD.out]; omega) (by rw [HD.out]; omega)
                  have HT := keepH hT
                  clear hT hx hy
                  have HPQ : Hid ((fun e => Parted a b j d0 e) (swp d j a)) := by
                   exact HR.out.1.1.fin HBS.out hgt (by omega) (by omega)
                  go_cut [] from 153 to 166 (fun wz => Hid (St W g n (fun d => (fun e => Parted a b j d0 e) d) wz))
                  case first =>
                   obtain ⟨k1, k2, k3, k4, k5, k7⟩ : _ := (HT.out wc (Chg.refl _ _)).out
                   have k4 := k4 (.int .u64 y)
                   obtain ⟨u, k5⟩ := k5 (.int .u64 y)
                   obtain ⟨w9, hw9⟩ : ∃ w9, w9 = ((wc.setCell ⟨g, j, none⟩ (.int .u64 y)).setCell ⟨g, a, none⟩ (.int .u64 x)).drew := ⟨_, rfl⟩
                   have H9 : Hid (St W g n (fun d => (fun e => Parted a b j d0 e) d) w9) := by rw [hw9]; exact ⟨_, swp_size' _ _ _ _ HD.out, HPQ.out, k7.quiet (Chg.refl _ _).drew⟩
                   clear k7 HT HA HPQ HR
                   go_region
                   all_goals (
                    rw [← hw9]
                    clear hw9 k1 k2 k3 k4 k5
                    go_wp2_with fail
                    go_meet
                    exact H9)
                  case rest =>
                   have Hsw := hcut
                   clear hcut HT HA HPQ HR
                   have HE : Hid (St W g n (fun d => Parted a b j d0 d) _) := Hsw
                   clear Hsw
                   go_wp2_with fail
                   exact bodyPost_ret (results_tmp2 rfl _ _ _) rfl ⟨j, false, rfl, HE.out⟩
                 ·have t2 : ¬ (j : Int) < (i : Int) := by omega
                  have jn : j < n := by omega
                  have i_n : i < n := by omega
                  have wi : IntKind.i64.wrap ((i : Int) + 1) = ((i + 1 : Nat) : Int) := by rw [IntKind.wrap_i64]; omega
                  obtain ⟨j0, hj0⟩ : ∃ j0, j = j0 + 1 := ⟨j - 1, by omega⟩
                  have wj : IntKind.i64.wrap ((j : Int) - 1) = (j0 : Int) := by rw [IntKind.wrap_i64]; omega
                  have HJ0 : Hid (j = j0 + 1) := hj0
                  clear hj0
                  go_upto_region 18 with fail
                  obtain ⟨d, hd, hR, hA⟩ := Hs5.out
                  have HD := keepH hd
                  have HR := keepH hR
                  have HA := keepH hA
                  clear hd hR hA Hs5
                  obtain ⟨x, y, hx, hy, hT⟩ := HA.out.any (i := i) (j := j) (by rw [HD.out]; omega) (by rw [HD.out]; omega)
                  have HT := keepH hT
                  clear hT hx hy
                  have HPQ : Hid ((fun e => PQ a b d0 e (i + 1) j0) (swp d i j)) := by
                   have hj := HJ0.out
                   have e := HR.out
                   subst hj
                   have e3 : d[a]! ≤ d[i]! := e.1.2.resolve_left (by omega)
                   have e4 : d[j0 + 1]! < d[a]! := (e.2.2 rfl).resolve_left (by omega)
                   exact e.1.1.sw HBS.out (by omega) (by omega) (by omega) e3 e4
                  go_cut [] from 135 to 152 (fun wz => Hid (St W g n (fun d => (fun e => PQ a b d0 e (i + 1) j0) d) wz))
                  case first =>
                   obtain ⟨k1, k2, k3, k4, k5, k7⟩ : _ := (HT.out wc (Chg.refl _ _)).out
                   have k4 := k4 (.int .u64 y)
                   obtain ⟨u, k5⟩ := k5 (.int .u64 y)
                   obtain ⟨w9, hw9⟩ : ∃ w9, w9 = ((wc.setCell ⟨g, i, none⟩ (.int .u64 y)).setCell ⟨g, j, none⟩ (.int .u64 x)).drew := ⟨_, rfl⟩
                   have H9 : Hid (St W g n (fun d => (fun e => PQ a b d0 e (i + 1) j0) d) w9) := by rw [hw9]; exact ⟨_, swp_size' _ _ _ _ HD.out, HPQ.out, k7.quiet (Chg.refl _ _).drew⟩
                   clear k7 HT HA HPQ HR
                   go_region
                   all_goals (
                    rw [← hw9]
                    clear hw9 k1 k2 k3 k4 k5
                    go_wp2_with fail
                    go_meet
                    exact H9)
                  case rest =>
                   have Hsw := hcut
                   clear hcut HT HA HPQ HR
                   have Hs8 : Hid (St W g n (fun d => PQ a b d0 d (i + 1) j0) _) := Hsw
                   clear Hsw
                   go_wp2_with fail
                   go_roundw
                   case rel => exact ⟨i + 1, j0, by omega, by omega, by have := HJ0.out; omega, by have := HJ0.out; omega, by first | rfl | go_num, by first | rfl | go_num, Hs8⟩
                   case measure => simp [intOf]; omega
end Go.Proofs.YtahgaghokpicgaaGreat
namespace Go.Proofs.YtahgaghokpicgaaGreat
open Go.RowKit Go.Lib
set_option linter.unusedVariables false
set_option maxHeartbeats 16000000
theorem len8_small : ∀ x : Fin 256, x.val < 2 ^ (len8 (x.val : Int)).toNat ∧ (1 ≤ x.val → 2 ^ (len8 (x.val : Int)).toNat ≤ 2 * x.val) ∧ 0 ≤ len8 (x.val : Int) ∧ len8 (x.val : Int) ≤ 8 := by decide +kernel
theorem len8_is {x : Nat} (h : x < 256) : ∃ k : Nat, len8 (x : Int) = (k : Int) ∧ x < 2 ^ k ∧ (1 ≤ x → 2 ^ k ≤ 2 * x) ∧ k ≤ 8 := by
 obtain ⟨h1, h2, h3, h4⟩ := len8_small ⟨x, h⟩
 exact ⟨(len8 (x : Int)).toNat, by simp only at h3; omega, h1, h2, by simp only at h4; omega⟩
set_option maxRecDepth 100000 in
theorem len64_a {n : Nat} (hn : n < 256) (W : World) : Calls Tryz.prog 114 #[.int .u64 n] W fun e W' => (∃ k : Nat, e = .returned (.int .i64 k) ∧ n < 2 ^ k ∧ (1 ≤ n → 2 ^ k ≤ 2 * n) ∧ k ≤ 8) ∧ W' = W := by
 obtain ⟨k, hk, hp⟩ := len8_is hn
 have HP := keepH hp
 have t1 : ¬ (4294967296 : Int) ≤ (n : Int) := by omega
 have t2 : ¬ (65536 : Int) ≤ (n : Int) := by omega
 have t3 : ¬ (256 : Int) ≤ (n : Int) := by omega
 have z0 : (0 : Int) ≤ (n : Int) := by omega
 have z1 : (n : Int) ≤ 255 := by omega
 have w8 : IntKind.u8.wrap (n : Int) = (n : Int) := by unfold IntKind.wrap; simp [IntKind.bits, IntKind.signed]; omega
 have wk : IntKind.i64.wrap (k : Int) = (k : Int) := by rw [IntKind.wrap_i64]; have := hp.2.2; omega
 clear hp
 go_enter Tryz.func114, Tryz.ntmps114
 go_wp2_with fail
 exact bodyPost_ret (results_tmp rfl _ _ _) rfl ⟨⟨k, rfl, HP.out.1, HP.out.2.1, HP.out.2.2⟩, rfl⟩
theorem two_mul_pow {m n k : Nat} (hm : m = n / 256) (h1 : m < 2 ^ k) (h2 : 2 ^ k ≤ 2 * m) : n < 2 ^ (k + 8) ∧ 2 ^ (k + 8) ≤ 2 * n := by
 have e : 2 ^ (k + 8) = 2 ^ k * 256 := by rw [Nat.pow_add]
 rw [e]
 omega
set_option maxRecDepth 100000 in
theorem len64_b {n : Nat} (hn : n < 65536) (hn2 : 256 ≤ n) (W : World) : Calls Tryz.prog 114 #[.int .u64 n] W fun e W' => (∃ k : Nat, e = .returned (.int .i64 k) ∧ n < 2 ^ k ∧ (1 ≤ n → 2 ^ k ≤ 2 * n) ∧ k ≤ 16) ∧ W' = W := by
 obtain ⟨m, hm⟩ : ∃ m, m = n / 256 := ⟨_, rfl⟩
 obtain ⟨k, hk, hp⟩ := len8_is (x := m) (by omega)
 obtain ⟨k8, hk8⟩ : ∃ k8, k8 = k + 8 := ⟨_, rfl⟩
 have HP : Hid (n < 2 ^ k8 ∧ 2 ^ k8 ≤ 2 * n ∧ k8 ≤ 16) := by
  have := two_mul_pow hm hp.1 (hp.2.1 (by omega))
  rw [hk8]
  exact ⟨this.1, this.2, by omega⟩
 have t1 : ¬ (4294967296 : Int) ≤ (n : Int) := by omega
 have t2 : ¬ (65536 : Int) ≤ (n : Int) := by omega
 have t3 : (256 : Int) ≤ (n : Int) := by omega
 have z0 : (0 : Int) ≤ (m : Int) := by omega
 have z1 : (m : Int) ≤ 255 := by omega
 have d1 : (n : Int) / 256 = (m : Int) := by omega
 have w8 : IntKind.u8.wrap (m : Int) = (m : Int) := by unfold IntKind.wrap; simp [IntKind.bits, IntKind.signed]; omega
 have wk : IntKind.i64.wrap (k : Int) = (k : Int) := by rw [IntKind.wrap_i64]; have := hp.2.2; omega
 have wk8 : IntKind.i64.wrap (8 + (k : Int)) = (k8 : Int) := by rw [IntKind.wrap_i64]; have := hp.2.2; omega
 clear hp hm hk8
 go_enter Tryz.func114, Tryz.ntmps114
 go_wp2_with fail
 exact bodyPost_ret (results_tmp rfl _ _ _) rfl ⟨⟨k8, rfl, HP.out.1, fun _ => HP.out.2.1, HP.out.2.2⟩, rfl⟩
theorem len64_s {n : Nat} (hn : n < 65536) (W : World) : Calls Tryz.prog 114 #[.int .u64 n] W fun e W' => (∃ k : Nat, e = .returned (.int .i64 k) ∧ n < 2 ^ k ∧ (1 ≤ n → 2 ^ k ≤ 2 * n) ∧ k ≤ 16) ∧ W' = W := by
 by_cases h : n < 256
 ·refine (len64_a h W).mono ?_
  rintro e w ⟨⟨k, rfl, h1, h2, h3⟩, rfl⟩
  exact ⟨⟨k, rfl, h1, h2, by omega⟩, rfl⟩
 ·exact len64_b hn (by omega) W
theorem wu64 (n : Nat) (hn : n < 18446744073709551616) : IntKind.u64.wrap (n : Int) = (n : Int) := by unfold IntKind.wrap; simp [IntKind.bits, IntKind.signed]; omega
set_option maxRecDepth 100000 in
theorem len_s {n : Nat} (hn : n < 65536) (W : World) : Calls Tryz.prog 101 #[.int .u64 n] W fun e W' => (∃ k : Nat, e = .returned (.int .i64 k) ∧ n < 2 ^ k ∧ (1 ≤ n → 2 ^ k ≤ 2 * n) ∧ k ≤ 16) ∧ W' = W := by
 have w1 := wu64 n (by omega)
 go_enter Tryz.func101, Tryz.ntmps101
 go_wp2_with fail
 refine (len64_s hn _).mono ?_
 rintro e W' ⟨⟨k, rfl, hk⟩, rfl⟩
 have HK := keepH hk
 clear hk
 go_wp2_with fail
 exact bodyPost_ret (results_tmp rfl _ _ _) rfl ⟨⟨k, rfl, HK.out.1, HK.out.2.1, HK.out.2.2⟩, rfl⟩
set_option maxRecDepth 100000 in
theorem npot_s {n : Nat} (hn : n < 65536) (h1 : 1 ≤ n) (W : World) : Calls Tryz.prog 125 #[.int .i64 n] W fun e W' => (∃ p : Nat, e = .returned (.int .u64 p) ∧ n < p ∧ p ≤ 2 * n) ∧ W' = W := by
 have w1 := wu64 n (by omega)
 go_enter Tryz.func125, Tryz.ntmps125
 go_wp2_with fail
 refine (len_s hn _).mono ?_
 rintro e W' ⟨⟨k, rfl, hk⟩, rfl⟩
 obtain ⟨p, hp⟩ : ∃ p, p = 2 ^ k := ⟨_, rfl⟩
 have HP : Hid (n < p ∧ p ≤ 2 * n) := by rw [hp]; exact ⟨hk.1, hk.2.1 h1⟩
 have k1 : (k : Int) < 64 := by omega
 have k0 : (0 : Int) ≤ (k : Int) := by omega
 have e1 : ((2 : Int) ^ k) = (p : Int) := by rw [hp]; simp
 have w2 := wu64 p (by have := HP.out; omega)
 clear hk hp
 go_wp2_with fail
 exact bodyPost_ret (results_tmp rfl _ _ _) rfl ⟨⟨p, rfl, HP.out.1, HP.out.2⟩, rfl⟩
theorem bits_is (op : BinOp) (a b : Int) : ∃ r : Nat, bits op .u64 a b = (r : Int) ∧ r < 18446744073709551616 := by
 have h1 := bits_lo_u64 op a b
 have h2 := bits_hi_u64 op a b
 exact ⟨(bits op .u64 a b).toNat, by omega, by omega⟩
set_option maxRecDepth 100000 in
theorem xor_s {W : World} {p x : Nat} (hp : Blk W p 187 [.int .u64 x]) : Calls Tryz.prog 126 #[.pointer (some ⟨p, 0, none⟩)] W fun e W' => (∃ r : Nat, e = .returned (.int .u64 r) ∧ r < 18446744073709551616 ∧ Blk W' p 187 [.int .u64 r]) ∧ Chg (fun k => k = p) W W' := by
 obtain ⟨x1, e1, _⟩ := bits_is .xor (x : Int) (IntKind.u64.wrap ((x : Int) * 8192))
 obtain ⟨x2, e2, _⟩ := bits_is .xor (x1 : Int) ((x1 : Int) / 128)
 obtain ⟨x3, e3, h3⟩ := bits_is .xor (x2 : Int) (IntKind.u64.wrap ((x2 : Int) * 131072))
 have H3 := keepH h3
 have E2 := keepH e2
 have E3 := keepH e3
 have HP := keepH hp
 have HC : Hid (Chg (fun k => k = p) W W) := Chg.refl _ _
 have c0 : W.cell? ⟨p, 0, none⟩ = some (.int .u64 x) := hp.cell 0
 have f0 := hp.free 0
 clear hp h3 e2 e3
 go_enter Tryz.func126, Tryz.ntmps126
 obtain ⟨w1, hw1⟩ : ∃ z : World, z = (W.setCell ⟨p, 0, none⟩ (.int .u64 x1)).drew := ⟨_, rfl⟩
 have HB1 : Hid (Blk w1 p 187 [.int .u64 x1]) := by rw [hw1]; exact (HP.out.set 0 (.int .u64 x1)).chg (F := fun _ => False) (Chg.refl _ _).drew (fun x => x)
 have HC1 : Hid (Chg (fun k => k = p) W w1) := by rw [hw1]; exact (HC.out.p (setP _)).pf (Chg.refl _ _).drew
 go_upto_region 1 with fail
 go_region
 all_goals (
 rw [← hw1]
 clear hw1 c0 f0 e1 HP
 have c0 : w1.cell? ⟨p, 0, none⟩ = some (.int .u64 x1) := HB1.out.cell 0
 have f0 := HB1.out.free 0
 have e1 := E2.out
 obtain ⟨w2, hw2⟩ : ∃ z : World, z = (w1.setCell ⟨p, 0, none⟩ (.int .u64 x2)).drew := ⟨_, rfl⟩
 have HB2 : Hid (Blk w2 p 187 [.int .u64 x2]) := by rw [hw2]; exact (HB1.out.set 0 (.int .u64 x2)).chg (F := fun _ => False) (Chg.refl _ _).drew (fun x => x)
 have HC2 : Hid (Chg (fun k => k = p) W w2) := by rw [hw2]; exact (HC1.out.p (setP _)).pf (Chg.refl _ _).drew
 go_upto_region 2 with fail
 go_region
 all_goals (
 rw [← hw2]
 clear hw2 c0 f0 e1 HB1
 have c0 : w2.cell? ⟨p, 0, none⟩ = some (.int .u64 x2) := HB2.out.cell 0
 have f0 := HB2.out.free 0
 have e1 := E3.out
 obtain ⟨w3, hw3⟩ : ∃ z : World, z = (w2.setCell ⟨p, 0, none⟩ (.int .u64 x3)).drew := ⟨_, rfl⟩
 have HB3 : Hid (Blk w3 p 187 [.int .u64 x3]) := by rw [hw3]; exact (HB2.out.set 0 (.int .u64 x3)).chg (F := fun _ => False) (Chg.refl _ _).drew (fun x => x)
 have HC3 : Hid (Chg (fun k => k = p) W w3) := by rw [hw3]; exact (HC2.out.p (setP _)).pf (Chg.refl _ _).drew
 go_upto_region 3 with fail
 go_region
 all_goals (
 rw [← hw3]
 clear hw3 c0 f0 e1 HB2
 have c0 : w3.cell? ⟨p, 0, none⟩ = some (.int .u64 x3) := HB3.out.cell 0
 have f0 := HB3.out.free 0
 go_wp2_with fail
 exact bodyPost_ret (results_tmp rfl _ _ _) rfl ⟨⟨x3, rfl, H3.out, HB3.out⟩, HC3.out⟩)))
end Go.Proofs.YtahgaghokpicgaaGreat
namespace Go.Proofs.YtahgaghokpicgaaGreat
open Go.RowKit
set_option linter.unusedVariables false
set_option maxHeartbeats 16000000
structure PV (W w : World) (g : Nat) (zs : List Nat) (sb : Nat) : Prop where
 row : RowU w g zs
 blk : ∃ z : Int, Blk w sb 3 [.int .i64 z]
 ne : ¬ g = sb
 chg : Chg (fun k => k = sb) W w
theorem PV.quiet {W w w' : World} {g : Nat} {zs : List Nat} {sb : Nat} (h : PV W w g zs sb) (c : Chg (fun _ => False) w w') : PV W w' g zs sb := by
 obtain ⟨z, hz⟩ := h.blk
 exact ⟨h.row.chg c (fun x => x), ⟨z, hz.chg c (fun x => x)⟩, h.ne, h.chg.pf c⟩
theorem PV.put {W w : World} {g : Nat} {zs : List Nat} {sb : Nat} (h : PV W w g zs sb) (z : Int) : PV W (w.setCell ⟨sb, 0, none⟩ (.int .i64 z)) g zs sb := by
 obtain ⟨y, hy⟩ := h.blk
 exact ⟨h.row.chg (setP (p := sb) _) h.ne, ⟨z, hy.set 0 _⟩, h.ne, h.chg.p (setP _)⟩
set_option maxRecDepth 100000 in
theorem ord2_g {W w : World} {g c sb a b n : Nat} {zs : List Nat} (h : PV W w g zs sb) (hn : n = zs.length) (ha : a < n) (hb : b < n) :
    Calls Tryz.prog 132 #[.slice (some ⟨g, 0, none⟩) n c, .int .i64 a, .int .i64 b, .pointer (some ⟨sb, 0, none⟩)] w fun e w' => (∃ p q : Nat, e = .returned (.tuple #[.int .i64 p, .int .i64 q]) ∧ (p = a ∨ p = b) ∧ (q = a ∨ q = b)) ∧ PV W w' g zs sb := by
 obtain ⟨x, hx⟩ : ∃ x, zs[b]? = some x := ⟨_, List.getElem?_eq_getElem (by omega)⟩
 obtain ⟨y, hy⟩ : ∃ y, zs[a]? = some y := ⟨_, List.getElem?_eq_getElem (by omega)⟩
 have cx := h.row.cell b x hx
 have cy := h.row.cell a y hy
 have H := keepH h
 clear h hn hx hy
 cases hlt : decide (x < y) with
 | true =>
  have HLS := keepH (less_is hlt)
  clear hlt
  go_enter Tryz.func132, Tryz.ntmps132
  go_upto_region 1 with fail
  go_quiet (first | (go_at_call 110; refine (HLS.out _).mono ?_; rintro q r ⟨rfl, rfl⟩; exact ⟨rfl, _, rfl⟩))
  obtain ⟨w3, hw3⟩ : ∃ z : World, z = w.drewN nq := ⟨_, rfl⟩
  have H3 : Hid (PV W w3 g zs sb) := by rw [hw3]; exact H.out.quiet (drewN_chg w nq)
  rw [← hw3]
  clear hw3 cx cy HLS H
  obtain ⟨z, hz⟩ := H3.out.blk
  have s1 : w3.cell? ⟨sb, 0, none⟩ = some (.int .i64 z) := hz.cell 0
  have s2 := hz.free 0
  have H4 : Hid (∀ v : Int, PV W (w3.setCell ⟨sb, 0, none⟩ (.int .i64 v)) g zs sb) := fun v => H3.out.put v
  clear hz H3
  go_wp2_with fail
  exact bodyPost_ret (results_tmp2 rfl _ _ _) rfl ⟨⟨b, a, rfl, .inr rfl, .inl rfl⟩, H4.out _⟩
 | false =>
  have HLS := keepH (less_is hlt)
  clear hlt
  go_enter Tryz.func132, Tryz.ntmps132
  go_upto_region 1 with fail
  go_quiet (first | (go_at_call 110; refine (HLS.out _).mono ?_; rintro q r ⟨rfl, rfl⟩; exact ⟨rfl, _, rfl⟩))
  obtain ⟨w3, hw3⟩ : ∃ z : World, z = w.drewN nq := ⟨_, rfl⟩
  have H3 : Hid (PV W w3 g zs sb) := by rw [hw3]; exact H.out.quiet (drewN_chg w nq)
  rw [← hw3]
  clear hw3 cx cy HLS H
  go_wp2_with fail
  exact bodyPost_ret (results_tmp2 rfl _ _ _) rfl ⟨⟨a, b, rfl, .inl rfl, .inr rfl⟩, H3.out⟩
set_option maxRecDepth 100000 in
theorem med_g {W w : World} {g c sb a b d n : Nat} {zs : List Nat} (h : PV W w g zs sb) (hn : n = zs.length) (ha : a < n) (hb : b < n) (hd : d < n) :
    Calls Tryz.prog 128 #[.slice (some ⟨g, 0, none⟩) n c, .int .i64 a, .int .i64 b, .int .i64 d, .pointer (some ⟨sb, 0, none⟩)] w fun e w' => (∃ p : Nat, e = .returned (.int .i64 p) ∧ (p = a ∨ p = b ∨ p = d)) ∧ PV W w' g zs sb := by
 have H := keepH h
 have HN := keepH hn
 clear h hn
 go_enter Tryz.func128, Tryz.ntmps128
 go_wp2_with fail
 refine (ord2_g H.out HN.out ha hb).mono ?_
 rintro e w1 ⟨⟨p1, q1, rfl, hp1, hq1⟩, h1⟩
 have H1 := keepH h1
 have HA : Hid ((p1 = a ∨ p1 = b) ∧ (q1 = a ∨ q1 = b)) := ⟨hp1, hq1⟩
 clear h1 hp1 hq1
 go_wp2_with fail
 refine (ord2_g H1.out HN.out (by have := HA.out; omega) hd).mono ?_
 rintro e w2 ⟨⟨p2, q2, rfl, hp2, hq2⟩, h2⟩
 have H2 := keepH h2
 have HB : Hid ((p2 = q1 ∨ p2 = d) ∧ (q2 = q1 ∨ q2 = d)) := ⟨hp2, hq2⟩
 clear h2 hp2 hq2
 go_wp2_with fail
 refine (ord2_g H2.out HN.out (by have := HA.out; omega) (by have := HA.out; have := HB.out; omega)).mono ?_
 rintro e w3 ⟨⟨p3, q3, rfl, hp3, hq3⟩, h3⟩
 have H3 := keepH h3
 have HC : Hid (q3 = p1 ∨ q3 = p2) := hq3
 clear h3 hp3 hq3
 go_wp2_with fail
 exact bodyPost_ret (results_tmp rfl _ _ _) rfl ⟨⟨q3, rfl, by have := HA.out; have := HB.out; have := HC.out; omega⟩, H3.out⟩
set_option maxRecDepth 100000 in
theorem medadj_g {W w : World} {g c sb a n : Nat} {zs : List Nat} (h : PV W w g zs sb) (hn : n = zs.length) (ha : a + 1 < n) (h1 : 1 ≤ a) (hz : n ≤ 1152921504606846976) :
    Calls Tryz.prog 127 #[.slice (some ⟨g, 0, none⟩) n c, .int .i64 a, .pointer (some ⟨sb, 0, none⟩)] w fun e w' => (∃ p : Nat, e = .returned (.int .i64 p) ∧ p ≤ a + 1 ∧ a ≤ p + 1) ∧ PV W w' g zs sb := by
 have H := keepH h
 have HN := keepH hn
 obtain ⟨l, hl⟩ : ∃ l, a = l + 1 := ⟨a - 1, by omega⟩
 obtain ⟨r, hr⟩ : ∃ r, r = a + 1 := ⟨_, rfl⟩
 have wl : IntKind.i64.wrap ((a : Int) - 1) = (l : Int) := by rw [IntKind.wrap_i64]; omega
 have wr : IntKind.i64.wrap ((a : Int) + 1) = (r : Int) := by rw [IntKind.wrap_i64]; omega
 have HA : Hid (a = l + 1 ∧ r = a + 1) := ⟨hl, hr⟩
 have b1 : l < n := by omega
 have b2 : r < n := by omega
 clear h hn hl hr
 go_enter Tryz.func127, Tryz.ntmps127
 go_wp2_with fail
 refine (med_g H.out HN.out b1 (by omega) b2).mono ?_
 rintro e w1 ⟨⟨p, rfl, hp⟩, k1⟩
 have H1 := keepH k1
 have HP : Hid (p ≤ a + 1 ∧ a ≤ p + 1) := by have := HA.out; exact ⟨by omega, by omega⟩
 clear k1 hp
 go_wp2_with fail
 exact bodyPost_ret (results_tmp rfl _ _ _) rfl ⟨⟨p, rfl, HP.out.1, HP.out.2⟩, H1.out⟩
set_option maxRecDepth 100000 in
theorem pivot_g {W : World} {g c a b : Nat} {zs : List Nat} (hr : RowU W g zs) (hb : b ≤ zs.length) (hz : zs.length ≤ 1152921504606846976) (ha : a + 12 < b) :
    Calls Tryz.prog 107 #[.slice (some ⟨g, 0, none⟩) zs.length c, .int .i64 a, .int .i64 b] W fun e W' => (∃ (p : Nat) (t : Int), e = .returned (.tuple #[.int .i64 p, .int .i64 t]) ∧ a ≤ p ∧ p < b) ∧ Chg (fun _ => False) W W' := by
 obtain ⟨n, hn⟩ : ∃ n, n = zs.length := ⟨_, rfl⟩
 rw [← hn] at hz hb ⊢
 obtain ⟨sb, hsb⟩ : ∃ sb, sb = W.heap.size := ⟨_, rfl⟩
 obtain ⟨w0, hw0⟩ : ∃ w0, w0 = W.alloc (.cells #[.int .i64 0] 3) := ⟨_, rfl⟩
 have H0 : Hid (PV w0 w0 g zs sb) := by
  have lt : g < W.heap.size := by obtain ⟨rest, B⟩ := hr; exact lt_of B
  refine ⟨?_, ⟨0, ?_⟩, by omega, Chg.refl _ _⟩
  ·rw [hw0]; exact hr.chg (F := fun _ => False) ((Chg.refl _ _).alloc _) (fun x => x)
  ·rw [hw0, hsb]; exact heap_alloc_new _ _
 have HC : Hid (∀ w, Chg (fun k => k = sb) w0 w → Chg (fun _ => False) W w) := fun w c => by
  have c0 : Chg (fun _ => False) W w0 := by rw [hw0]; exact (Chg.refl _ _).alloc _
  exact c0.trans c (fun _ _ x => x) (fun i hi e => by omega)
 have HN := keepH hn
 obtain ⟨l, hl⟩ : ∃ l, l = b - a := ⟨_, rfl⟩
 obtain ⟨q, hq⟩ : ∃ q, q = l / 4 := ⟨_, rfl⟩
 obtain ⟨q2, hq2⟩ : ∃ q2, q2 = q * 2 := ⟨_, rfl⟩
 obtain ⟨q3, hq3⟩ : ∃ q3, q3 = q * 3 := ⟨_, rfl⟩
 obtain ⟨i, hi⟩ : ∃ i, i = a + q := ⟨_, rfl⟩
 obtain ⟨j, hj⟩ : ∃ j, j = a + q2 := ⟨_, rfl⟩
 obtain ⟨k, hk⟩ : ∃ k, k = a + q3 := ⟨_, rfl⟩
 have w1 : IntKind.i64.wrap ((b : Int) - (a : Int)) = (l : Int) := by rw [IntKind.wrap_i64]; omega
 have d1 : ((l : Int).tdiv 4) = (q : Int) := by rw [Int.tdiv_eq_ediv_of_nonneg (by omega)]; omega
 have d2 : IntKind.i64.wrap (q : Int) = (q : Int) := by rw [IntKind.wrap_i64]; omega
 have d3 : IntKind.i64.wrap ((q : Int) * 2) = (q2 : Int) := by rw [IntKind.wrap_i64]; omega
 have d4 : IntKind.i64.wrap ((q : Int) * 3) = (q3 : Int) := by rw [IntKind.wrap_i64]; omega
 have d5 : IntKind.i64.wrap ((a : Int) + (q : Int)) = (i : Int) := by rw [IntKind.wrap_i64]; omega
 have d6 : IntKind.i64.wrap ((a : Int) + (q2 : Int)) = (j : Int) := by rw [IntKind.wrap_i64]; omega
 have d7 : IntKind.i64.wrap ((a : Int) + (q3 : Int)) = (k : Int) := by rw [IntKind.wrap_i64]; omega
 have t8 : (8 : Int) ≤ (l : Int) := by omega
 have HB : Hid (a + 3 ≤ i ∧ i + 3 ≤ j ∧ j + 3 ≤ k ∧ k + 2 < b + 0 + 2 ∧ k < b ∧ (50 ≤ l → a + 12 ≤ i ∧ k + 1 < b)) := ⟨by omega, by omega, by omega, by omega, by omega, fun h => ⟨by omega, by omega⟩⟩
 clear hr hn hl hq hq2 hq3 hi hj hk
 by_cases h50 : 50 ≤ l
 ·have t50 : (50 : Int) ≤ (l : Int) := by omega
  go_enter Tryz.func107, Tryz.ntmps107
  go_wp2_with fail
  rw [← hw0, ← hsb]
  clear hw0 hsb
  refine (medadj_g H0.out HN.out (by have := HB.out; omega) (by have := HB.out; omega) hz).mono ?_
  rintro e w1 ⟨⟨i', rfl, hi1, hi2⟩, k1⟩
  have H1 := keepH k1
  have HI : Hid (i' ≤ i + 1 ∧ i ≤ i' + 1) := ⟨hi1, hi2⟩
  clear k1 hi1 hi2
  go_wp2_with fail
  refine (medadj_g H1.out HN.out (by have := HB.out; omega) (by have := HB.out; omega) hz).mono ?_
  rintro e w2 ⟨⟨j', rfl, hj1, hj2⟩, k2⟩
  have H2 := keepH k2
  have HJ : Hid (j' ≤ j + 1 ∧ j ≤ j' + 1) := ⟨hj1, hj2⟩
  clear k2 hj1 hj2
  go_wp2_with fail
  refine (medadj_g H2.out HN.out (by have := HB.out.2.2.2.2.2 h50; omega) (by have := HB.out; omega) hz).mono ?_
  rintro e w3 ⟨⟨k', rfl, hk1, hk2⟩, k3⟩
  have H3 := keepH k3
  have HKK : Hid (k' ≤ k + 1 ∧ k ≤ k' + 1) := ⟨hk1, hk2⟩
  clear k3 hk1 hk2
  go_wp2_with fail
  refine (med_g H3.out HN.out (by have := HB.out; have := HI.out; omega) (by have := HB.out; have := HJ.out; omega) (by have := HB.out.2.2.2.2.2 h50; have := HKK.out; omega)).mono ?_
  rintro e w4 ⟨⟨p, rfl, hp⟩, k4⟩
  have H4 := keepH k4
  have HP : Hid (a ≤ p ∧ p < b) := by have := HB.out; have := HB.out.2.2.2.2.2 h50; have := HI.out; have := HJ.out; have := HKK.out; exact ⟨by omega, by omega⟩
  clear k4 hp
  obtain ⟨z, hz4⟩ := H4.out.blk
  have s1 : w4.cell? ⟨sb, 0, none⟩ = some (.int .i64 z) := hz4.cell 0
  clear hz4
  by_cases z0 : z = 0
  ·have y0 : (z == 0) = true := by simp [z0]
   clear z0
   go_wp2_with fail
   exact bodyPost_ret (results_tmp2 rfl _ _ _) rfl ⟨⟨p, _, rfl, HP.out.1, HP.out.2⟩, HC.out _ H4.out.chg⟩
  ·have y0 : (z == 0) = false := by simpa using z0
   by_cases z1 : z = 12
   ·have y1 : (z == 12) = true := by simp [z1]
    clear z0 z1
    go_wp2_with fail
    exact bodyPost_ret (results_tmp2 rfl _ _ _) rfl ⟨⟨p, _, rfl, HP.out.1, HP.out.2⟩, HC.out _ H4.out.chg⟩
   ·have y1 : (z == 12) = false := by simpa using z1
    clear z0 z1
    go_wp2_with fail
    exact bodyPost_ret (results_tmp2 rfl _ _ _) rfl ⟨⟨p, _, rfl, HP.out.1, HP.out.2⟩, HC.out _ H4.out.chg⟩
 ·have t50 : ¬ (50 : Int) ≤ (l : Int) := by omega
  go_enter Tryz.func107, Tryz.ntmps107
  go_wp2_with fail
  rw [← hw0, ← hsb]
  clear hw0 hsb
  refine (med_g H0.out HN.out (by have := HB.out; omega) (by have := HB.out; omega) (by have := HB.out; omega)).mono ?_
  rintro e w4 ⟨⟨p, rfl, hp⟩, k4⟩
  have H4 := keepH k4
  have HP : Hid (a ≤ p ∧ p < b) := by have := HB.out; exact ⟨by omega, by omega⟩
  clear k4 hp
  obtain ⟨z, hz4⟩ := H4.out.blk
  have s1 : w4.cell? ⟨sb, 0, none⟩ = some (.int .i64 z) := hz4.cell 0
  clear hz4
  by_cases z0 : z = 0
  ·have y0 : (z == 0) = true := by simp [z0]
   clear z0
   go_wp2_with fail
   exact bodyPost_ret (results_tmp2 rfl _ _ _) rfl ⟨⟨p, _, rfl, HP.out.1, HP.out.2⟩, HC.out _ H4.out.chg⟩
  ·have y0 : (z == 0) = false := by simpa using z0
   by_cases z1 : z = 12
   ·have y1 : (z == 12) = true := by simp [z1]
    clear z0 z1
    go_wp2_with fail
    exact bodyPost_ret (results_tmp2 rfl _ _ _) rfl ⟨⟨p, _, rfl, HP.out.1, HP.out.2⟩, HC.out _ H4.out.chg⟩
   ·have y1 : (z == 12) = false := by simpa using z1
    clear z0 z1
    go_wp2_with fail
    exact bodyPost_ret (results_tmp2 rfl _ _ _) rfl ⟨⟨p, _, rfl, HP.out.1, HP.out.2⟩, HC.out _ H4.out.chg⟩
end Go.Proofs.YtahgaghokpicgaaGreat
