/- Partial insertion, told whole. -/
import Derived.Test.YtahgaghokpicgaaGreatW24OtH
namespace Go.Proofs.YtahgaghokpicgaaGreat
open Go.RowKit Go.Sort
set_option linter.unusedVariables false
set_option maxHeartbeats 16000000
set_option maxRecDepth 100000 in
theorem pins_o {W : World} {g c a b : Nat} {d0 : Array Nat} (hr : RowU W g d0.toList) (hb : b ≤ d0.size) (hz : d0.size ≤ 1152921504606846976) (ha : a < b) :
    Calls Tryz.prog 109 #[.slice (some ⟨g, 0, none⟩) d0.size c, .int .i64 a, .int .i64 b] W fun e W' => e = .returned (.bool (partialInsertionSort ltN d0 a b).2) ∧ Ar W g (partialInsertionSort ltN d0 a b).1 W' := by
 obtain ⟨P, hP⟩ : ∃ P, P = partialInsertionSort ltN d0 a b := ⟨_, rfl⟩
 have HS : Hid (St W g d0.size (fun d => partialIns ltN a b (5 - 0) (a + 1) d = P) W) := ⟨d0, rfl, hP.symm, Ar.refl hr⟩
 rw [← hP]
 clear hr hP
 obtain ⟨n, hn⟩ : ∃ n, n = d0.size := ⟨_, rfl⟩
 rw [← hn] at hz hb HS ⊢
 clear hn
 obtain ⟨ba, hba0⟩ : ∃ ba, ba = b - a := ⟨_, rfl⟩
 have HBA : Hid (ba = b - a) := hba0
 have wba : IntKind.i64.wrap ((b : Int) - (a : Int)) = (ba : Int) := by rw [IntKind.wrap_i64]; omega
 have wa : IntKind.i64.wrap ((a : Int) + 1) = ((a + 1 : Nat) : Int) := by rw [IntKind.wrap_i64]; omega
 clear hba0
 go_enter Tryz.func109, Tryz.ntmps109
 go_wp2_with fail
 clear wa
 go_loopw [7, 8] (fun sI sJ wr => ∃ i jj : Nat, a + 1 ≤ i ∧ i ≤ b ∧ jj ≤ 5 ∧ sI = .int .i64 i ∧ sJ = .int .i64 jj ∧ Hid (St W g n (fun d => partialIns ltN a b (5 - jj) i d = P) wr)) (fun _ sJ _ => 5 - (intOf sJ).toNat)
 case atStart => exact ⟨a + 1, 0, by omega, by omega, by omega, by first | rfl | go_num, by first | rfl | go_num, HS⟩
 case round =>
  obtain ⟨i0, jj, hi01, hi02, hjj, rfl, rfl, HO⟩ := hrel
  clear HS
  by_cases hj5 : jj < 5
  ·have t0 : (jj : Int) < 5 := by omega
   obtain ⟨s, hs⟩ : ∃ s, 5 - jj = s + 1 := ⟨4 - jj, by omega⟩
   have HSS : Hid (5 - (jj + 1) = s) := by show 5 - (jj + 1) = s; omega
   obtain ⟨d, hd, hR, hA⟩ := HO.out
   rw [hs] at hR
   obtain ⟨I, hI⟩ : ∃ I, scanSorted ltN d b i0 = I := ⟨_, rfl⟩
   have HP : Hid (P = if I = b then (d, true) else if b - a < 50 then (d, false) else partialIns ltN a b s I (fixUp ltN b I (fixDown ltN a I (swp d I (I - 1))))) := by
    rw [← hR, partialIns_succ, hI]
    exact rfl
   have HD := keepH hd
   have HI0 : Hid (scanSorted ltN d b i0 = I ∧ Ar W g d wr) := ⟨hI, hA⟩
   clear hd hR hA HO hs hI
   go_wp2_with fail
   go_loopw [7] (fun sI wr => ∃ i : Nat, i0 ≤ i ∧ i ≤ b ∧ sI = .int .i64 i ∧ Hid (scanSorted ltN d b i = I ∧ Ar W g d wr)) (fun sI _ => n + 1 - (intOf sI).toNat)
   case atStart => exact ⟨i0, by omega, by omega, by first | rfl | go_num, HI0⟩
   case round =>
    clear HI0
    obtain ⟨i, hi1, hi2, rfl, HI⟩ := hrel
    obtain ⟨l, hl⟩ : ∃ l, i = l + 1 := ⟨i - 1, by omega⟩
    have wl : IntKind.i64.wrap ((i : Int) - 1) = (l : Int) := by rw [IntKind.wrap_i64]; omega
    have hli : l < i := by omega
    have HL : Hid (i - 1 = l) := by show i - 1 = l; omega
    have HSC : Hid (scanSorted ltN d b i = I) := HI.out.1
    have HA : Hid (Ar W g d wr) := HI.out.2
    clear hl HI
    go_upto_region 5 with fail
    go_cut [32] from 17 to 34 (fun sr wz => ∃ t : Bool, sr = .bool t ∧ (t = true → i < b) ∧ Hid (Ar W g d wz ∧ (t = true → ¬ d[i]! < d[i - 1]!) ∧ (t = false → ¬ i < b ∨ d[i]! < d[i - 1]!)))
    case first =>
     by_cases hij : i < b
     ·have t1 : (i : Int) < (b : Int) := by omega
      have pn : i < n := by omega
      have qn : l < n := by omega
      obtain ⟨x, y, hx, hy, hT⟩ := HA.out.any (i := i) (j := l) (by rw [HD.out]; omega) (by rw [HD.out]; omega)
      have cx := (hT wr (Chg.refl _ _)).out.1
      have cy := (hT wr (Chg.refl _ _)).out.2.1
      clear hT
      cases hlt : decide (x < y) with
      | true =>
       have HLS := keepH (less_is hlt)
       have HLT : Hid (d[i]! < d[i - 1]!) := by rw [HL.out, ← hx, ← hy]; exact ltN_true.1 hlt
       clear hlt hx hy
       go_quiet (first | (go_at_call 110; refine (HLS.out _).mono ?_; rintro q r ⟨rfl, rfl⟩; exact ⟨rfl, _, rfl⟩))
       obtain ⟨w5, hw5⟩ : ∃ z : World, z = wr.drewN nq := ⟨_, rfl⟩
       have Ht5 : Hid (Ar W g d w5) := by rw [hw5]; exact HA.out.quiet (drewN_chg wr nq)
       rw [← hw5]
       clear hw5 cx cy HLS HA
       go_wp2_with fail
       go_meet
       exact ⟨false, rfl, fun _ => hij, ⟨Ht5.out, ⟨fun e => by simp at e, fun _ => .inr HLT.out⟩⟩⟩
      | false =>
       have HLS := keepH (less_is hlt)
       have HLT : Hid (¬ d[i]! < d[i - 1]!) := by rw [HL.out, ← hx, ← hy]; have := ltN_false.1 hlt; show ¬ _; omega
       clear hlt hx hy
       go_quiet (first | (go_at_call 110; refine (HLS.out _).mono ?_; rintro q r ⟨rfl, rfl⟩; exact ⟨rfl, _, rfl⟩))
       obtain ⟨w5, hw5⟩ : ∃ z : World, z = wr.drewN nq := ⟨_, rfl⟩
       have Ht5 : Hid (Ar W g d w5) := by rw [hw5]; exact HA.out.quiet (drewN_chg wr nq)
       rw [← hw5]
       clear hw5 cx cy HLS HA
       go_wp2_with fail
       go_meet
       exact ⟨true, rfl, fun _ => hij, ⟨Ht5.out, ⟨fun _ => HLT.out, fun e => by simp at e⟩⟩⟩
     ·have t1 : ¬ (i : Int) < (b : Int) := by omega
      go_quiet (fail)
      obtain ⟨w9, hw9⟩ : ∃ z : World, z = wr.drewN nq := ⟨_, rfl⟩
      have H9 : Hid (Ar W g d w9) := by rw [hw9]; exact HA.out.quiet (drewN_chg wr nq)
      rw [← hw9]
      clear hw9 HA
      go_wp2_with fail
      go_meet
      exact ⟨false, rfl, fun h => by simp at h, ⟨H9.out, ⟨fun e => by simp at e, fun _ => .inl hij⟩⟩⟩
    case rest =>
     clear HA
     obtain ⟨t, rfl, hij, Hs5⟩ := hcut
     cases t with
     | true =>
      have hij : i < b := hij rfl
      have wi : IntKind.i64.wrap ((i : Int) + 1) = ((i + 1 : Nat) : Int) := by rw [IntKind.wrap_i64]; omega
      have HN1 : Hid (scanSorted ltN d b (i + 1) = I ∧ Ar W g d _) := ⟨by rw [← scan_go hij (Hs5.out.2.1 rfl)]; exact HSC.out, Hs5.out.1⟩
      clear Hs5
      go_wp2_with fail
      go_roundw
      case rel => exact ⟨i + 1, by omega, by omega, by first | rfl | go_num, HN1⟩
      case measure => simp [intOf]; omega
     | false =>
      clear hij
      have HQ : Hid (P = if i = b then (d, true) else if b - a < 50 then (d, false) else partialIns ltN a b s i (fixUp ltN b i (fixDown ltN a i (swp d i l)))) := by
       have e := HP.out
       rw [← HSC.out, scan_end (Hs5.out.2.2 rfl), HL.out] at e
       exact e
      have HA : Hid (Ar W g d _) := Hs5.out.1
      clear Hs5 HSC HP
      by_cases hib : i = b
      ·have HE : Hid (P = (d, true)) := by have e := HQ.out; rw [if_pos hib] at e; exact e
       subst hib
       clear HQ
       go_wp2_with fail
       exact bodyPost_ret (results_tmp rfl _ _ _) rfl ⟨by simp [HE.out], by rw [HE.out]; exact HA.out⟩
      ·have t3 : ((i : Int) == (b : Int)) = false := by simp; omega
       have t3' : ¬ (i : Int) = (b : Int) := by omega
       by_cases hba : ba < 50
       ·have t4 : (ba : Int) < 50 := by omega
        have HE : Hid (P = (d, false)) := by have e := HQ.out; rw [if_neg hib, if_pos (by have := HBA.out; omega)] at e; exact e
        clear HQ
        go_wp2_with fail
        exact bodyPost_ret (results_tmp rfl _ _ _) rfl ⟨by simp [HE.out], by rw [HE.out]; exact HA.out⟩
       ·have t4 : ¬ (ba : Int) < 50 := by omega
        obtain ⟨d1, hd1⟩ : ∃ d1, d1 = swp d i l := ⟨_, rfl⟩
        obtain ⟨D2, hD2⟩ : ∃ D2, D2 = fixDown ltN a i d1 := ⟨_, rfl⟩
        have HE : Hid (P = partialIns ltN a b s i (fixUp ltN b i D2)) := by have e := HQ.out; rw [if_neg hib, if_neg (by have := HBA.out; omega), ← hd1, ← hD2] at e; exact e
        have HD2 := keepH hD2
        have HD1 := keepH hd1
        clear HQ hd1 hD2
        obtain ⟨ia, hia0⟩ : ∃ ia, ia = i - a := ⟨_, rfl⟩
        obtain ⟨bi, hbi0⟩ : ∃ bi, bi = b - i := ⟨_, rfl⟩
        have wia : IntKind.i64.wrap ((i : Int) - (a : Int)) = (ia : Int) := by rw [IntKind.wrap_i64]; omega
        have wbi : IntKind.i64.wrap ((b : Int) - (i : Int)) = (bi : Int) := by rw [IntKind.wrap_i64]; omega
        have wi : IntKind.i64.wrap ((i : Int) + 1) = ((i + 1 : Nat) : Int) := by rw [IntKind.wrap_i64]; omega
        have HBI : Hid (bi = b - i ∧ ia = i - a) := ⟨hbi0, hia0⟩
        have i_n : i < n := by omega
        have l_n : l < n := by omega
        have ib : i < b := by omega
        clear hia0 hbi0 hib
        go_upto_region 11 with fail
        obtain ⟨x, y, hx, hy, hT⟩ := HA.out.any (i := i) (j := l) (by rw [HD.out]; omega) (by rw [HD.out]; omega)
        have HT := keepH hT
        clear hT hx hy HA
        go_cut [] from 42 to 57 (fun wz => Hid (Ar W g d1 wz ∧ d1.size = n))
        case first =>
         obtain ⟨k1, k2, k3, k4, k5, k7⟩ : _ := (HT.out wc (Chg.refl _ _)).out
         have k4 := k4 (.int .u64 y)
         obtain ⟨u, k5⟩ := k5 (.int .u64 y)
         obtain ⟨w9, hw9⟩ : ∃ w9, w9 = ((wc.setCell ⟨g, i, none⟩ (.int .u64 y)).setCell ⟨g, l, none⟩ (.int .u64 x)).drew := ⟨_, rfl⟩
         have H9 : Hid (Ar W g d1 w9 ∧ d1.size = n) := by rw [hw9, HD1.out]; exact ⟨k7.quiet (Chg.refl _ _).drew, swp_size' _ _ _ _ HD.out⟩
         clear k7 HT
         go_region
         all_goals (
          rw [← hw9]
          clear hw9 k1 k2 k3 k4 k5
          go_wp2_with fail
          go_meet
          exact H9)
        case rest =>
         have Hs11 := hcut
         clear hcut HT HD1 HD
         by_cases hia : 2 ≤ ia
         ·have t5 : (2 : Int) ≤ (ia : Int) := by omega
          have HK0 : Hid (St W g n (fun d => shiftDown ltN l d = D2) wc) := by
           have e := HD2.out
           have hi2 := HBI.out.2
           rw [fixDown, if_pos (by omega), HL.out] at e
           exact ⟨d1, Hs11.out.2, e.symm, Hs11.out.1⟩
          clear Hs11 HD2
          go_wp2_with fail
          go_loopw [9] (fun sK wr => ∃ k : Nat, k ≤ l ∧ sK = .int .i64 k ∧ Hid (St W g n (fun d => shiftDown ltN k d = D2) wr)) (fun sK _ => (intOf sK).toNat)
          case atStart => exact ⟨l, by omega, by first | rfl | go_num, HK0⟩
          case round =>
           clear HK0
           obtain ⟨k, hk, rfl, HK⟩ := hrel
           obtain ⟨d, hd, hR, hA⟩ := HK.out
           have HD := keepH hd
           have HR := keepH hR
           have HA := keepH hA
           clear hd hR hA HK
           by_cases hk1 : 1 ≤ k
           ·have t6 : (1 : Int) ≤ (k : Int) := by omega
            obtain ⟨kl, hkl⟩ : ∃ kl, k = kl + 1 := ⟨k - 1, by omega⟩
            have wkl : IntKind.i64.wrap ((k : Int) - 1) = (kl : Int) := by rw [IntKind.wrap_i64]; omega
            have kn : k < n := by omega
            have kln : kl < n := by omega
            have HKL : Hid (k = kl + 1) := hkl
            clear hkl
            obtain ⟨x, y, hx, hy, hT⟩ := HA.out.any (i := k) (j := kl) (by rw [HD.out]; omega) (by rw [HD.out]; omega)
            have cx := (hT wr (Chg.refl _ _)).out.1
            have cy := (hT wr (Chg.refl _ _)).out.2.1
            clear hT
            cases hlt : decide (x < y) with
            | true =>
             have HLS := keepH (less_is hlt)
             have HR2 : Hid (shiftDown ltN kl (swp d k kl) = D2) := by
              have e := HR.out
              have hl : d[k]! < d[kl]! := by rw [← hx, ← hy]; exact ltN_true.1 hlt
              have hk := HKL.out
              subst hk
              rw [shd_go hl] at e
              exact e
             clear hlt hx hy HR
             go_upto_region 16 with fail
             go_quiet (first | (go_at_call 110; refine (HLS.out _).mono ?_; rintro q r ⟨rfl, rfl⟩; exact ⟨rfl, _, rfl⟩))
             obtain ⟨w16, hw16⟩ : ∃ z : World, z = wr.drewN nq := ⟨_, rfl⟩
             have Ht16 : Hid (Ar W g d w16) := by rw [hw16]; exact HA.out.quiet (drewN_chg wr nq)
             rw [← hw16]
             clear hw16 cx cy HLS HA
             go_upto_region 17 with fail
             obtain ⟨x, y, hx, hy, hT⟩ := Ht16.out.any (i := k) (j := kl) (by rw [HD.out]; omega) (by rw [HD.out]; omega)
             obtain ⟨k1, k2, k3, k4, k5, k7⟩ : _ := (hT w16 (Chg.refl _ _)).out
             have k4 := k4 (.int .u64 y)
             obtain ⟨u, k5⟩ := k5 (.int .u64 y)
             obtain ⟨w9, hw9⟩ : ∃ w9, w9 = ((w16.setCell ⟨g, k, none⟩ (.int .u64 y)).setCell ⟨g, kl, none⟩ (.int .u64 x)).drew := ⟨_, rfl⟩
             have Hs17 : Hid (St W g n (fun d => shiftDown ltN kl d = D2) w9) := by rw [hw9]; exact ⟨_, swp_size' _ _ _ _ HD.out, HR2.out, k7.quiet (Chg.refl _ _).drew⟩
             clear k7 hT hx hy Ht16 HR2
             go_region
             all_goals (
              rw [← hw9]
              clear hw9 k1 k2 k3 k4 k5
              go_wp2_with fail
              go_roundw
              case rel => exact ⟨kl, by have := HKL.out; omega, by first | rfl | go_num, Hs17⟩
              case measure => have := HKL.out; simp [intOf]; omega)
            | false =>
             have HLS := keepH (less_is hlt)
             have HR2 : Hid (d = D2) := by
              have e := HR.out
              have hl : ¬ d[k]! < d[kl]! := by rw [← hx, ← hy]; have := ltN_false.1 hlt; omega
              have hk := HKL.out
              subst hk
              rw [shd_no hl] at e
              exact e
             clear hlt hx hy HR
             go_upto_region 16 with fail
             go_quiet (first | (go_at_call 110; refine (HLS.out _).mono ?_; rintro q r ⟨rfl, rfl⟩; exact ⟨rfl, _, rfl⟩))
             obtain ⟨w16, hw16⟩ : ∃ z : World, z = wr.drewN nq := ⟨_, rfl⟩
             have Ht16 : Hid (Ar W g D2 w16 ∧ D2.size = n) := by rw [hw16, ← HR2.out]; exact ⟨HA.out.quiet (drewN_chg wr nq), HD.out⟩
             rw [← hw16]
             clear hw16 cx cy HLS HA HR2 HD
             by_cases hbi : 2 ≤ bi
             ·have t7 : (2 : Int) ≤ (bi : Int) := by omega
              obtain ⟨D3, hD3⟩ : ∃ D3, D3 = shiftUp ltN b (i + 1) D2 := ⟨_, rfl⟩
              have HE3 : Hid (partialIns ltN a b (5 - (jj + 1)) i D3 = P) := by
               have e := HE.out
               have hb2 := HBI.out.1
               rw [fixUp, if_pos (by omega), ← hD3] at e
               rw [HSS.out]
               exact e.symm
              have HM0 : Hid (St W g n (fun d => shiftUp ltN b (i + 1) d = D3) _) := ⟨D2, Ht16.out.2, hD3.symm, Ht16.out.1⟩
              clear Ht16 hD3 HE
              go_wp2_with fail
              go_loopw [10] (fun sM wr => ∃ m : Nat, i + 1 ≤ m ∧ m ≤ b ∧ sM = .int .i64 m ∧ Hid (St W g n (fun d => shiftUp ltN b m d = D3) wr)) (fun sM _ => n + 1 - (intOf sM).toNat)
              case atStart => exact ⟨i + 1, by omega, by have := HBI.out; omega, by first | rfl | go_num, HM0⟩
              case round =>
               clear HM0
               obtain ⟨m, hm1, hm2, rfl, HM⟩ := hrel
               obtain ⟨d, hd, hR, hA⟩ := HM.out
               have HD := keepH hd
               have HR := keepH hR
               have HA := keepH hA
               clear hd hR hA HM
               by_cases hmb : m < b
               ·have t8 : (m : Int) < (b : Int) := by omega
                obtain ⟨ml, hml⟩ : ∃ ml, m = ml + 1 := ⟨m - 1, by omega⟩
                have wml : IntKind.i64.wrap ((m : Int) - 1) = (ml : Int) := by rw [IntKind.wrap_i64]; omega
                have wmu : IntKind.i64.wrap ((m : Int) + 1) = ((m + 1 : Nat) : Int) := by rw [IntKind.wrap_i64]; omega
                have mn : m < n := by omega
                have mln : ml < n := by omega
                have HML : Hid (m - 1 = ml) := by show m - 1 = ml; omega
                clear hml
                obtain ⟨x, y, hx, hy, hT⟩ := HA.out.any (i := m) (j := ml) (by rw [HD.out]; omega) (by rw [HD.out]; omega)
                have cx := (hT wr (Chg.refl _ _)).out.1
                have cy := (hT wr (Chg.refl _ _)).out.2.1
                clear hT
                cases hlt : decide (x < y) with
                | true =>
                 have HLS := keepH (less_is hlt)
                 have HR2 : Hid (shiftUp ltN b (m + 1) (swp d m ml) = D3) := by
                  have e := HR.out
                  have hl : d[m]! < d[m - 1]! := by rw [HML.out, ← hx, ← hy]; exact ltN_true.1 hlt
                  rw [shu_go hmb hl, HML.out] at e
                  exact e
                 clear hlt hx hy HR
                 go_upto_region 22 with fail
                 go_quiet (first | (go_at_call 110; refine (HLS.out _).mono ?_; rintro q r ⟨rfl, rfl⟩; exact ⟨rfl, _, rfl⟩))
                 obtain ⟨w22, hw22⟩ : ∃ z : World, z = wr.drewN nq := ⟨_, rfl⟩
                 have Ht22 : Hid (Ar W g d w22) := by rw [hw22]; exact HA.out.quiet (drewN_chg wr nq)
                 rw [← hw22]
                 clear hw22 cx cy HLS HA
                 go_upto_region 23 with fail
                 obtain ⟨x, y, hx, hy, hT⟩ := Ht22.out.any (i := m) (j := ml) (by rw [HD.out]; omega) (by rw [HD.out]; omega)
                 obtain ⟨k1, k2, k3, k4, k5, k7⟩ : _ := (hT w22 (Chg.refl _ _)).out
                 have k4 := k4 (.int .u64 y)
                 obtain ⟨u, k5⟩ := k5 (.int .u64 y)
                 obtain ⟨w9, hw9⟩ : ∃ w9, w9 = ((w22.setCell ⟨g, m, none⟩ (.int .u64 y)).setCell ⟨g, ml, none⟩ (.int .u64 x)).drew := ⟨_, rfl⟩
                 have Hs23 : Hid (St W g n (fun d => shiftUp ltN b (m + 1) d = D3) w9) := by rw [hw9]; exact ⟨_, swp_size' _ _ _ _ HD.out, HR2.out, k7.quiet (Chg.refl _ _).drew⟩
                 clear k7 hT hx hy Ht22 HR2
                 go_region
                 all_goals (
                  rw [← hw9]
                  clear hw9 k1 k2 k3 k4 k5
                  go_wp2_with fail
                  go_roundw
                  case rel => exact ⟨m + 1, by omega, by omega, by first | rfl | go_num, Hs23⟩
                  case measure => simp [intOf]; omega)
                | false =>
                 have HLS := keepH (less_is hlt)
                 have HR2 : Hid (d = D3) := by
                  have e := HR.out
                  have hl : ¬ d[m]! < d[m - 1]! := by rw [HML.out, ← hx, ← hy]; have := ltN_false.1 hlt; omega
                  rw [shu_end (.inr hl)] at e
                  exact e
                 clear hlt hx hy HR
                 go_upto_region 22 with fail
                 go_quiet (first | (go_at_call 110; refine (HLS.out _).mono ?_; rintro q r ⟨rfl, rfl⟩; exact ⟨rfl, _, rfl⟩))
                 obtain ⟨w22, hw22⟩ : ∃ z : World, z = wr.drewN nq := ⟨_, rfl⟩
                 have Ht22 : Hid (St W g n (fun d => partialIns ltN a b (5 - (jj + 1)) i d = P) w22) := by rw [hw22]; exact ⟨d, HD.out, by rw [HR2.out]; exact HE3.out, HA.out.quiet (drewN_chg wr nq)⟩
                 rw [← hw22]
                 clear hw22 cx cy HLS HA HR2
                 have wjj : IntKind.i64.wrap ((jj : Int) + 1) = ((jj + 1 : Nat) : Int) := by rw [IntKind.wrap_i64]; omega
                 go_wp2_with fail
                 go_roundw
                 case rel => exact ⟨i, jj + 1, by omega, by omega, by omega, by first | rfl | go_num, by first | rfl | go_num, Ht22⟩
                 case measure => simp [intOf]; omega
               ·have t8 : ¬ (m : Int) < (b : Int) := by omega
                have Ht22 : Hid (St W g n (fun d => partialIns ltN a b (5 - (jj + 1)) i d = P) wr) := by
                 have e := HR.out
                 rw [shu_end (.inl hmb)] at e
                 exact ⟨d, HD.out, by rw [e]; exact HE3.out, HA.out⟩
                clear HR HA
                have wjj : IntKind.i64.wrap ((jj : Int) + 1) = ((jj + 1 : Nat) : Int) := by rw [IntKind.wrap_i64]; omega
                go_wp2_with fail
                go_roundw
                case rel => exact ⟨i, jj + 1, by omega, by omega, by omega, by first | rfl | go_num, by first | rfl | go_num, Ht22⟩
                case measure => simp [intOf]; omega
             ·have t7 : ¬ (2 : Int) ≤ (bi : Int) := by omega
              have HE3 : Hid (St W g n (fun d => partialIns ltN a b (5 - (jj + 1)) i d = P) w16) := by
               have e := HE.out
               have hb2 := HBI.out.1
               rw [fixUp, if_neg (by omega)] at e
               exact ⟨D2, Ht16.out.2, by rw [HSS.out]; exact e.symm, Ht16.out.1⟩
              clear Ht16 HE
              have wjj : IntKind.i64.wrap ((jj : Int) + 1) = ((jj + 1 : Nat) : Int) := by rw [IntKind.wrap_i64]; omega
              go_wp2_with fail
              go_roundw
              case rel => exact ⟨i, jj + 1, by omega, by omega, by omega, by first | rfl | go_num, by first | rfl | go_num, HE3⟩
              case measure => simp [intOf]; omega
           ·have t6 : ¬ (1 : Int) ≤ (k : Int) := by omega
            have Ht16 : Hid (Ar W g D2 wr ∧ D2.size = n) := by
             have e := HR.out
             obtain rfl : k = 0 := by omega
             rw [shd_0] at e
             rw [← e]
             exact ⟨HA.out, HD.out⟩
            clear HR HA HD
            by_cases hbi : 2 ≤ bi
            ·have t7 : (2 : Int) ≤ (bi : Int) := by omega
             obtain ⟨D3, hD3⟩ : ∃ D3, D3 = shiftUp ltN b (i + 1) D2 := ⟨_, rfl⟩
             have HE3 : Hid (partialIns ltN a b (5 - (jj + 1)) i D3 = P) := by
              have e := HE.out
              have hb2 := HBI.out.1
              rw [fixUp, if_pos (by omega), ← hD3] at e
              rw [HSS.out]
              exact e.symm
             have HM0 : Hid (St W g n (fun d => shiftUp ltN b (i + 1) d = D3) _) := ⟨D2, Ht16.out.2, hD3.symm, Ht16.out.1⟩
             clear Ht16 hD3 HE
             go_wp2_with fail
             go_loopw [10] (fun sM wr => ∃ m : Nat, i + 1 ≤ m ∧ m ≤ b ∧ sM = .int .i64 m ∧ Hid (St W g n (fun d => shiftUp ltN b m d = D3) wr)) (fun sM _ => n + 1 - (intOf sM).toNat)
             case atStart => exact ⟨i + 1, by omega, by have := HBI.out; omega, by first | rfl | go_num, HM0⟩
             case round =>
              clear HM0
              obtain ⟨m, hm1, hm2, rfl, HM⟩ := hrel
              obtain ⟨d, hd, hR, hA⟩ := HM.out
              have HD := keepH hd
              have HR := keepH hR
              have HA := keepH hA
              clear hd hR hA HM
              by_cases hmb : m < b
              ·have t8 : (m : Int) < (b : Int) := by omega
               obtain ⟨ml, hml⟩ : ∃ ml, m = ml + 1 := ⟨m - 1, by omega⟩
               have wml : IntKind.i64.wrap ((m : Int) - 1) = (ml : Int) := by rw [IntKind.wrap_i64]; omega
               have wmu : IntKind.i64.wrap ((m : Int) + 1) = ((m + 1 : Nat) : Int) := by rw [IntKind.wrap_i64]; omega
               have mn : m < n := by omega
               have mln : ml < n := by omega
               have HML : Hid (m - 1 = ml) := by show m - 1 = ml; omega
               clear hml
               obtain ⟨x, y, hx, hy, hT⟩ := HA.out.any (i := m) (j := ml) (by rw [HD.out]; omega) (by rw [HD.out]; omega)
               have cx := (hT wr (Chg.refl _ _)).out.1
               have cy := (hT wr (Chg.refl _ _)).out.2.1
               clear hT
               cases hlt : decide (x < y) with
               | true =>
                have HLS := keepH (less_is hlt)
                have HR2 : Hid (shiftUp ltN b (m + 1) (swp d m ml) = D3) := by
                 have e := HR.out
                 have hl : d[m]! < d[m - 1]! := by rw [HML.out, ← hx, ← hy]; exact ltN_true.1 hlt
                 rw [shu_go hmb hl, HML.out] at e
                 exact e
                clear hlt hx hy HR
                go_upto_region 22 with fail
                go_quiet (first | (go_at_call 110; refine (HLS.out _).mono ?_; rintro q r ⟨rfl, rfl⟩; exact ⟨rfl, _, rfl⟩))
                obtain ⟨w22, hw22⟩ : ∃ z : World, z = wr.drewN nq := ⟨_, rfl⟩
                have Ht22 : Hid (Ar W g d w22) := by rw [hw22]; exact HA.out.quiet (drewN_chg wr nq)
                rw [← hw22]
                clear hw22 cx cy HLS HA
                go_upto_region 23 with fail
                obtain ⟨x, y, hx, hy, hT⟩ := Ht22.out.any (i := m) (j := ml) (by rw [HD.out]; omega) (by rw [HD.out]; omega)
                obtain ⟨k1, k2, k3, k4, k5, k7⟩ : _ := (hT w22 (Chg.refl _ _)).out
                have k4 := k4 (.int .u64 y)
                obtain ⟨u, k5⟩ := k5 (.int .u64 y)
                obtain ⟨w9, hw9⟩ : ∃ w9, w9 = ((w22.setCell ⟨g, m, none⟩ (.int .u64 y)).setCell ⟨g, ml, none⟩ (.int .u64 x)).drew := ⟨_, rfl⟩
                have Hs23 : Hid (St W g n (fun d => shiftUp ltN b (m + 1) d = D3) w9) := by rw [hw9]; exact ⟨_, swp_size' _ _ _ _ HD.out, HR2.out, k7.quiet (Chg.refl _ _).drew⟩
                clear k7 hT hx hy Ht22 HR2
                go_region
                all_goals (
                 rw [← hw9]
                 clear hw9 k1 k2 k3 k4 k5
                 go_wp2_with fail
                 go_roundw
                 case rel => exact ⟨m + 1, by omega, by omega, by first | rfl | go_num, Hs23⟩
                 case measure => simp [intOf]; omega)
               | false =>
                have HLS := keepH (less_is hlt)
                have HR2 : Hid (d = D3) := by
                 have e := HR.out
                 have hl : ¬ d[m]! < d[m - 1]! := by rw [HML.out, ← hx, ← hy]; have := ltN_false.1 hlt; omega
                 rw [shu_end (.inr hl)] at e
                 exact e
                clear hlt hx hy HR
                go_upto_region 22 with fail
                go_quiet (first | (go_at_call 110; refine (HLS.out _).mono ?_; rintro q r ⟨rfl, rfl⟩; exact ⟨rfl, _, rfl⟩))
                obtain ⟨w22, hw22⟩ : ∃ z : World, z = wr.drewN nq := ⟨_, rfl⟩
                have Ht22 : Hid (St W g n (fun d => partialIns ltN a b (5 - (jj + 1)) i d = P) w22) := by rw [hw22]; exact ⟨d, HD.out, by rw [HR2.out]; exact HE3.out, HA.out.quiet (drewN_chg wr nq)⟩
                rw [← hw22]
                clear hw22 cx cy HLS HA HR2
                have wjj : IntKind.i64.wrap ((jj : Int) + 1) = ((jj + 1 : Nat) : Int) := by rw [IntKind.wrap_i64]; omega
                go_wp2_with fail
                go_roundw
                case rel => exact ⟨i, jj + 1, by omega, by omega, by omega, by first | rfl | go_num, by first | rfl | go_num, Ht22⟩
                case measure => simp [intOf]; omega
              ·have t8 : ¬ (m : Int) < (b : Int) := by omega
               have Ht22 : Hid (St W g n (fun d => partialIns ltN a b (5 - (jj + 1)) i d = P) wr) := by
                have e := HR.out
                rw [shu_end (.inl hmb)] at e
                exact ⟨d, HD.out, by rw [e]; exact HE3.out, HA.out⟩
               clear HR HA
               have wjj : IntKind.i64.wrap ((jj : Int) + 1) = ((jj + 1 : Nat) : Int) := by rw [IntKind.wrap_i64]; omega
               go_wp2_with fail
               go_roundw
               case rel => exact ⟨i, jj + 1, by omega, by omega, by omega, by first | rfl | go_num, by first | rfl | go_num, Ht22⟩
               case measure => simp [intOf]; omega
            ·have t7 : ¬ (2 : Int) ≤ (bi : Int) := by omega
             have HE3 : Hid (St W g n (fun d => partialIns ltN a b (5 - (jj + 1)) i d = P) wr) := by
              have e := HE.out
              have hb2 := HBI.out.1
              rw [fixUp, if_neg (by omega)] at e
              exact ⟨D2, Ht16.out.2, by rw [HSS.out]; exact e.symm, Ht16.out.1⟩
             clear Ht16 HE
             have wjj : IntKind.i64.wrap ((jj : Int) + 1) = ((jj + 1 : Nat) : Int) := by rw [IntKind.wrap_i64]; omega
             go_wp2_with fail
             go_roundw
             case rel => exact ⟨i, jj + 1, by omega, by omega, by omega, by first | rfl | go_num, by first | rfl | go_num, HE3⟩
             case measure => simp [intOf]; omega
         ·have t5 : ¬ (2 : Int) ≤ (ia : Int) := by omega
          have Ht16 : Hid (Ar W g D2 wc ∧ D2.size = n) := by
           have e := HD2.out
           have hi2 := HBI.out.2
           rw [fixDown, if_neg (by omega)] at e
           rw [e]
           exact Hs11.out
          clear Hs11 HD2
          by_cases hbi : 2 ≤ bi
          ·have t7 : (2 : Int) ≤ (bi : Int) := by omega
           obtain ⟨D3, hD3⟩ : ∃ D3, D3 = shiftUp ltN b (i + 1) D2 := ⟨_, rfl⟩
           have HE3 : Hid (partialIns ltN a b (5 - (jj + 1)) i D3 = P) := by
            have e := HE.out
            have hb2 := HBI.out.1
            rw [fixUp, if_pos (by omega), ← hD3] at e
            rw [HSS.out]
            exact e.symm
           have HM0 : Hid (St W g n (fun d => shiftUp ltN b (i + 1) d = D3) _) := ⟨D2, Ht16.out.2, hD3.symm, Ht16.out.1⟩
           clear Ht16 hD3 HE
           go_wp2_with fail
           go_loopw [10] (fun sM wr => ∃ m : Nat, i + 1 ≤ m ∧ m ≤ b ∧ sM = .int .i64 m ∧ Hid (St W g n (fun d => shiftUp ltN b m d = D3) wr)) (fun sM _ => n + 1 - (intOf sM).toNat)
           case atStart => exact ⟨i + 1, by omega, by have := HBI.out; omega, by first | rfl | go_num, HM0⟩
           case round =>
            clear HM0
            obtain ⟨m, hm1, hm2, rfl, HM⟩ := hrel
            obtain ⟨d, hd, hR, hA⟩ := HM.out
            have HD := keepH hd
            have HR := keepH hR
            have HA := keepH hA
            clear hd hR hA HM
            by_cases hmb : m < b
            ·have t8 : (m : Int) < (b : Int) := by omega
             obtain ⟨ml, hml⟩ : ∃ ml, m = ml + 1 := ⟨m - 1, by omega⟩
             have wml : IntKind.i64.wrap ((m : Int) - 1) = (ml : Int) := by rw [IntKind.wrap_i64]; omega
             have wmu : IntKind.i64.wrap ((m : Int) + 1) = ((m + 1 : Nat) : Int) := by rw [IntKind.wrap_i64]; omega
             have mn : m < n := by omega
             have mln : ml < n := by omega
             have HML : Hid (m - 1 = ml) := by show m - 1 = ml; omega
             clear hml
             obtain ⟨x, y, hx, hy, hT⟩ := HA.out.any (i := m) (j := ml) (by rw [HD.out]; omega) (by rw [HD.out]; omega)
             have cx := (hT wr (Chg.refl _ _)).out.1
             have cy := (hT wr (Chg.refl _ _)).out.2.1
             clear hT
             cases hlt : decide (x < y) with
             | true =>
              have HLS := keepH (less_is hlt)
              have HR2 : Hid (shiftUp ltN b (m + 1) (swp d m ml) = D3) := by
               have e := HR.out
               have hl : d[m]! < d[m - 1]! := by rw [HML.out, ← hx, ← hy]; exact ltN_true.1 hlt
               rw [shu_go hmb hl, HML.out] at e
               exact e
              clear hlt hx hy HR
              go_upto_region 22 with fail
              go_quiet (first | (go_at_call 110; refine (HLS.out _).mono ?_; rintro q r ⟨rfl, rfl⟩; exact ⟨rfl, _, rfl⟩))
              obtain ⟨w22, hw22⟩ : ∃ z : World, z = wr.drewN nq := ⟨_, rfl⟩
              have Ht22 : Hid (Ar W g d w22) := by rw [hw22]; exact HA.out.quiet (drewN_chg wr nq)
              rw [← hw22]
              clear hw22 cx cy HLS HA
              go_upto_region 23 with fail
              obtain ⟨x, y, hx, hy, hT⟩ := Ht22.out.any (i := m) (j := ml) (by rw [HD.out]; omega) (by rw [HD.out]; omega)
              obtain ⟨k1, k2, k3, k4, k5, k7⟩ : _ := (hT w22 (Chg.refl _ _)).out
              have k4 := k4 (.int .u64 y)
              obtain ⟨u, k5⟩ := k5 (.int .u64 y)
              obtain ⟨w9, hw9⟩ : ∃ w9, w9 = ((w22.setCell ⟨g, m, none⟩ (.int .u64 y)).setCell ⟨g, ml, none⟩ (.int .u64 x)).drew := ⟨_, rfl⟩
              have Hs23 : Hid (St W g n (fun d => shiftUp ltN b (m + 1) d = D3) w9) := by rw [hw9]; exact ⟨_, swp_size' _ _ _ _ HD.out, HR2.out, k7.quiet (Chg.refl _ _).drew⟩
              clear k7 hT hx hy Ht22 HR2
              go_region
              all_goals (
               rw [← hw9]
               clear hw9 k1 k2 k3 k4 k5
               go_wp2_with fail
               go_roundw
               case rel => exact ⟨m + 1, by omega, by omega, by first | rfl | go_num, Hs23⟩
               case measure => simp [intOf]; omega)
             | false =>
              have HLS := keepH (less_is hlt)
              have HR2 : Hid (d = D3) := by
               have e := HR.out
               have hl : ¬ d[m]! < d[m - 1]! := by rw [HML.out, ← hx, ← hy]; have := ltN_false.1 hlt; omega
               rw [shu_end (.inr hl)] at e
               exact e
              clear hlt hx hy HR
              go_upto_region 22 with fail
              go_quiet (first | (go_at_call 110; refine (HLS.out _).mono ?_; rintro q r ⟨rfl, rfl⟩; exact ⟨rfl, _, rfl⟩))
              obtain ⟨w22, hw22⟩ : ∃ z : World, z = wr.drewN nq := ⟨_, rfl⟩
              have Ht22 : Hid (St W g n (fun d => partialIns ltN a b (5 - (jj + 1)) i d = P) w22) := by rw [hw22]; exact ⟨d, HD.out, by rw [HR2.out]; exact HE3.out, HA.out.quiet (drewN_chg wr nq)⟩
              rw [← hw22]
              clear hw22 cx cy HLS HA HR2
              have wjj : IntKind.i64.wrap ((jj : Int) + 1) = ((jj + 1 : Nat) : Int) := by rw [IntKind.wrap_i64]; omega
              go_wp2_with fail
              go_roundw
              case rel => exact ⟨i, jj + 1, by omega, by omega, by omega, by first | rfl | go_num, by first | rfl | go_num, Ht22⟩
              case measure => simp [intOf]; omega
            ·have t8 : ¬ (m : Int) < (b : Int) := by omega
             have Ht22 : Hid (St W g n (fun d => partialIns ltN a b (5 - (jj + 1)) i d = P) wr) := by
              have e := HR.out
              rw [shu_end (.inl hmb)] at e
              exact ⟨d, HD.out, by rw [e]; exact HE3.out, HA.out⟩
             clear HR HA
             have wjj : IntKind.i64.wrap ((jj : Int) + 1) = ((jj + 1 : Nat) : Int) := by rw [IntKind.wrap_i64]; omega
             go_wp2_with fail
             go_roundw
             case rel => exact ⟨i, jj + 1, by omega, by omega, by omega, by first | rfl | go_num, by first | rfl | go_num, Ht22⟩
             case measure => simp [intOf]; omega
          ·have t7 : ¬ (2 : Int) ≤ (bi : Int) := by omega
           have HE3 : Hid (St W g n (fun d => partialIns ltN a b (5 - (jj + 1)) i d = P) wc) := by
            have e := HE.out
            have hb2 := HBI.out.1
            rw [fixUp, if_neg (by omega)] at e
            exact ⟨D2, Ht16.out.2, by rw [HSS.out]; exact e.symm, Ht16.out.1⟩
           clear Ht16 HE
           have wjj : IntKind.i64.wrap ((jj : Int) + 1) = ((jj + 1 : Nat) : Int) := by rw [IntKind.wrap_i64]; omega
           go_wp2_with fail
           go_roundw
           case rel => exact ⟨i, jj + 1, by omega, by omega, by omega, by first | rfl | go_num, by first | rfl | go_num, HE3⟩
           case measure => simp [intOf]; omega
  ·have t0 : ¬ (jj : Int) < 5 := by omega
   have HE : Hid (P.2 = false ∧ Ar W g P.1 wr) := by
    obtain ⟨d, hd, hR, hA⟩ := HO.out
    rw [show 5 - jj = 0 by omega, partialIns] at hR
    rw [← hR]
    exact ⟨rfl, hA⟩
   clear HO
   go_wp2_with fail
   exact bodyPost_ret (results_tmp rfl _ _ _) rfl ⟨by simp [HE.out.1], HE.out.2⟩
end Go.Proofs.YtahgaghokpicgaaGreat
