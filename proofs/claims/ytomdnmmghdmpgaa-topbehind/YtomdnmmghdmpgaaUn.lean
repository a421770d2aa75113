/- The whole sort: the same numbers. -/
import Derived.Test.YtomdnmmghdmpgaaUm
namespace Go.Proofs.Ytomdnmmghdmpgaa
open Go.RowKit Go.Lib
set_option linter.unusedVariables false

theorem Same.callX {W w : World} {g : Nat} {zs : List Nat} (h : Same W g zs w) {f : Nat} {av : Array Value} {Q : Ending → Prop} (k : ∀ zs' : List Nat, zs'.length = zs.length → RowU w g zs' → Calls Try.prog f av w fun e w' => Q e ∧ Same w g zs' w') : Calls Try.prog f av w fun e w' => Q e ∧ Same W g zs w' := by
  obtain ⟨zs', P, R, C⟩ := h
  refine (k zs' P.length_eq R).mono ?_
  rintro e w' ⟨q, zt, P2, R2, C2⟩
  exact ⟨q, zt, P2.trans P, R2, C.p C2⟩
theorem Same.still {w w' : World} {g : Nat} {zs : List Nat} (R : RowU w g zs) (c : Chg (fun _ => False) w w') : Same w g zs w' := (Same.refl R).quiet c
set_option maxRecDepth 100000 in
set_option maxHeartbeats 32000000 in
theorem pdq_g {g c : Nat} (m : Nat) : ∀ {a b : Nat} {z : Int} {zs : List Nat} {W : World}, b - a ≤ m → RowU W g zs → b ≤ zs.length → a ≤ b → zs.length ≤ 60000 →
    Calls Try.prog 36 #[.slice (some ⟨g, 0, none⟩) zs.length c, .int .i64 (a : Int), .int .i64 (b : Int), .int .i64 z] W fun e W' => e = .returned (.tuple #[]) ∧ Same W g zs W' := by
  induction m using Nat.strongRecOn with
  | ind m ih =>
  intro a b z zs W hm hr hb hab hz
  have IH := keepH ih
  have HS := keepH (Same.refl hr)
  clear hr ih
  obtain ⟨n, hn⟩ : ∃ n, n = zs.length := ⟨_, rfl⟩
  rw [← hn] at hz hb ⊢
  have HN := keepH hn
  clear hn
  go_enter Try.func36, Try.ntmps36
  go_wp2_with fail
  go_loopw [1, 2, 3, 8, 9] (fun s1 s2 s3 s8 s9 wr => ∃ (a b : Nat) (z : Int) (t8 t9 : Bool), a ≤ b ∧ b ≤ n ∧ b - a ≤ m ∧ s1 = .int .i64 (a : Int) ∧ s2 = .int .i64 (b : Int) ∧ s3 = .int .i64 z ∧ s8 = .bool t8 ∧ s9 = .bool t9 ∧ Hid (Same W g zs wr)) (fun s1 s2 _ _ _ _ => (intOf s2).toNat - (intOf s1).toNat)
  case atStart => exact ⟨a, b, z, true, true, hab, hb, hm, rfl, rfl, rfl, rfl, rfl, HS⟩
  case round =>
    clear hab hb hm HS z
    clear a b
    obtain ⟨a, b, z, t8, t9, hab, hb, hm, rfl, rfl, rfl, rfl, rfl, HI⟩ := hrel
    obtain ⟨l, hl⟩ : ∃ l, l = b - a := ⟨_, rfl⟩
    have wl : IntKind.i64.wrap ((b : Int) - (a : Int)) = (l : Int) := by rw [IntKind.wrap_i64]; omega
    by_cases h12 : l ≤ 12
    · have t1 : (l : Int) ≤ 12 := by omega
      have HC := keepH (HI.out.callX (f := 40) (av := #[.slice (some ⟨g, 0, none⟩) n c, .int .i64 (a : Int), .int .i64 (b : Int)]) (Q := fun e => e = .returned (.tuple #[])) (fun zs' hl' R => by
        have e : n = zs'.length := by rw [hl']; exact HN.out
        rw [e]
        exact ins_g R (by omega) (by omega) (by omega)))
      clear hl
      go_wp2_with fail
      refine HC.out.mono ?_
      rintro e w1 ⟨rfl, S1⟩
      have H1 := keepH S1
      clear S1
      go_wp2_with fail
      exact bodyPost_ret (results_none rfl _ _ _) rfl ⟨rfl, H1.out⟩
    · have t1 : ¬ (l : Int) ≤ 12 := by omega
      have hal : a + 12 < b := by omega
      have HLL : Hid (l ≤ n) := by show _ ≤ _; omega
      clear hl
      by_cases z0 : z = 0
      · have y0 : (z == 0) = true := by simp [z0]
        have HC := keepH (HI.out.callX (f := 41) (av := #[.slice (some ⟨g, 0, none⟩) n c, .int .i64 (a : Int), .int .i64 (b : Int)]) (Q := fun e => e = .returned (.tuple #[])) (fun zs' hl' R => by
          have e : n = zs'.length := by rw [hl']; exact HN.out
          rw [e]
          exact heap_g R (by omega) (by omega) (by omega)))
        clear z0
        go_wp2_with fail
        refine HC.out.mono ?_
        rintro e w1 ⟨rfl, S1⟩
        have H1 := keepH S1
        clear S1
        go_wp2_with fail
        exact bodyPost_ret (results_none rfl _ _ _) rfl ⟨rfl, H1.out⟩
      · have y0 : (z == 0) = false := by simpa using z0
        clear z0
        go_upto_if 35 with fail
        go_cut [3] from 36 to 41 (fun s3 wz => ∃ z' : Int, s3 = .int .i64 z' ∧ Hid (Same W g zs wz))
        case first =>
          have HC := keepH (HI.out.callX (f := 42) (av := #[.slice (some ⟨g, 0, none⟩) n c, .int .i64 (a : Int), .int .i64 (b : Int)]) (Q := fun e => e = .returned (.tuple #[])) (fun zs' hl' R => by
            have e : n = zs'.length := by rw [hl']; exact HN.out
            rw [e]
            exact break_g R (by omega) (by omega) hal))
          cases t8 with
          | true =>
            go_wp2_with fail
            go_meet
            exact ⟨z, rfl, HI⟩
          | false =>
            go_wp2_with fail
            refine HC.out.mono ?_
            rintro e w1 ⟨rfl, S1⟩
            have H1 := keepH S1
            clear S1 HC HI
            go_wp2_with fail
            go_meet
            exact ⟨_, rfl, H1⟩
        case rest =>
          obtain ⟨z', rfl, H1⟩ := hcut
          clear HI
          have HC := keepH (H1.out.callX (f := 43) (av := #[.slice (some ⟨g, 0, none⟩) n c, .int .i64 (a : Int), .int .i64 (b : Int)]) (Q := fun e => ∃ (p : Nat) (t : Int), e = .returned (.tuple #[.int .i64 (p : Int), .int .i64 t]) ∧ a ≤ p ∧ p < b) (fun zs' hl' R => by
            have e : n = zs'.length := by rw [hl']; exact HN.out
            rw [e]
            refine (pivot_g R (by omega) (by omega) hal).mono ?_
            rintro e w' ⟨h, c⟩
            exact ⟨h, Same.still R c⟩))
          go_wp2_with fail
          refine HC.out.mono ?_
          rintro e w2 ⟨⟨p, h, rfl, hp1, hp2⟩, S2⟩
          have H2 := keepH S2
          clear S2 HC H1
          have HPP : Hid (a ≤ p ∧ p < b) := ⟨hp1, hp2⟩
          clear hp1 hp2
          go_upto_region 11 with fail
          go_cut [50] from 49 to 50 (fun s50 wz => ∃ t : Bool, s50 = .bool t ∧ Hid (Same W g zs wz))
          case first =>
            by_cases hh2 : h = 2
            · have yh : (h == 2) = true := by simp [hh2]
              clear hh2
              go_wp2_with fail
              go_meet
              exact ⟨_, rfl, H2⟩
            · have yh : (h == 2) = false := by simpa using hh2
              clear hh2
              go_wp2_with fail
              go_meet
              exact ⟨_, rfl, H2⟩
          case rest =>
          obtain ⟨t2, rfl, H3⟩ := hcut
          clear H2
          go_upto_if 50 with fail
          go_cut [11, 12] from 51 to 60 (fun s11 s12 wz => ∃ (p : Nat) (h : Int), s11 = .int .i64 (p : Int) ∧ s12 = .int .i64 h ∧ a ≤ p ∧ p < b ∧ Hid (Same W g zs wz))
          case first =>
            have HC := keepH (H3.out.callX (f := 44) (av := #[.slice (some ⟨g, 0, none⟩) n c, .int .i64 (a : Int), .int .i64 (b : Int)]) (Q := fun e => e = .returned (.tuple #[])) (fun zs' hl' R => by
              have e : n = zs'.length := by rw [hl']; exact HN.out
              rw [e]
              exact rev_g R (by omega) (by omega) (by omega)))
            cases t2 with
            | false =>
              go_wp2_with fail
              go_meet
              exact ⟨p, h, rfl, rfl, HPP.out.1, HPP.out.2, H3⟩
            | true =>
              obtain ⟨p1, hp1⟩ : ∃ p1, p1 = b - 1 := ⟨_, rfl⟩
              obtain ⟨p2, hp2⟩ : ∃ p2, p2 = p - a := ⟨_, rfl⟩
              obtain ⟨p3, hp3⟩ : ∃ p3, p3 = p1 - p2 := ⟨_, rfl⟩
              have q1 : IntKind.i64.wrap ((b : Int) - 1) = (p1 : Int) := by rw [IntKind.wrap_i64]; omega
              have q2 : IntKind.i64.wrap ((p : Int) - (a : Int)) = (p2 : Int) := by rw [IntKind.wrap_i64]; have := HPP.out; omega
              have q3 : IntKind.i64.wrap ((p1 : Int) - (p2 : Int)) = (p3 : Int) := by rw [IntKind.wrap_i64]; have := HPP.out; omega
              have HP3 : Hid (a ≤ p3 ∧ p3 < b) := by have := HPP.out; exact ⟨by omega, by omega⟩
              clear hp1 hp2 hp3
              go_wp2_with fail
              refine HC.out.mono ?_
              rintro e w3 ⟨rfl, S3⟩
              have H4 := keepH S3
              clear S3 HC H3
              go_wp2_with fail
              go_meet
              exact ⟨p3, _, rfl, rfl, HP3.out.1, HP3.out.2, H4⟩
          case rest =>
          clear HPP
          obtain ⟨p, h, rfl, rfl, hp1, hp2, H4⟩ := hcut
          have HPP : Hid (a ≤ p ∧ p < b) := ⟨hp1, hp2⟩
          clear hp1 hp2 H3
          go_upto_region 15 with fail
          go_cut [68] from 61 to 68 (fun s68 wz => ∃ t : Bool, s68 = .bool t ∧ Hid (Same W g zs wz))
          case first =>
            by_cases hh1 : h = 1
            · have yh : (h == 1) = true := by simp [hh1]
              clear hh1
              cases t8 <;> cases t9 <;> (
                go_wp2_with fail
                go_meet
                exact ⟨_, rfl, H4⟩)
            · have yh : (h == 1) = false := by simpa using hh1
              clear hh1
              cases t8 <;> cases t9 <;> (
                go_wp2_with fail
                go_meet
                exact ⟨_, rfl, H4⟩)
          case rest =>
          obtain ⟨t5, rfl, H5⟩ := hcut
          clear H4
          go_upto_if 68 with fail
          go_cut [] from 69 to 72 (fun wz => Hid (Same W g zs wz))
          case first =>
            have HC := keepH (H5.out.callX (f := 45) (av := #[.slice (some ⟨g, 0, none⟩) n c, .int .i64 (a : Int), .int .i64 (b : Int)]) (Q := fun e => ∃ t : Bool, e = .returned (.bool t)) (fun zs' hl' R => by
              have e : n = zs'.length := by rw [hl']; exact HN.out
              rw [e]
              exact pins_g R (by omega) (by omega) (by omega)))
            cases t5 with
            | false =>
              go_wp2_with fail
              go_meet
              exact H5
            | true =>
              go_wp2_with fail
              refine HC.out.mono ?_
              rintro e w3 ⟨⟨t, rfl⟩, S3⟩
              have H6 := keepH S3
              clear S3 HC H5
              cases t with
              | true =>
                go_wp2_with fail
                exact bodyPost_ret (results_none rfl _ _ _) rfl ⟨rfl, H6.out⟩
              | false =>
                go_wp2_with fail
                go_meet
                exact H6
          case rest =>
          have H6 := hcut
          clear hcut H5
          go_upto_region 17 with fail
          go_cut [87] from 73 to 87 (fun s87 wz => ∃ t : Bool, s87 = .bool t ∧ Hid (Same W g zs wz))
          case first =>
            by_cases ha0 : 0 < a
            · have t7 : (0 : Int) < (a : Int) := by omega
              obtain ⟨a1, ha1⟩ : ∃ a1, a1 = a - 1 := ⟨_, rfl⟩
              have wa1 : IntKind.i64.wrap ((a : Int) - 1) = (a1 : Int) := by rw [IntKind.wrap_i64]; omega
              have a1n : a1 < n := by omega
              have pn : p < n := by have := HPP.out; omega
              obtain ⟨x, y, hT⟩ := H6.out.any (i := a1) (j := p) (by rw [← HN.out]; omega) (by rw [← HN.out]; omega)
              have cx := (hT wc (Chg.refl _ _)).out.1
              have cy := (hT wc (Chg.refl _ _)).out.2.1
              clear hT ha1
              cases hlt : decide (x < y) with
              | true =>
                have HLS := keepH (less_is hlt)
                clear hlt
                go_quiet (first | (go_at_call 46; refine (HLS.out _).mono ?_; rintro q r ⟨rfl, rfl⟩; exact ⟨rfl, _, rfl⟩))
                obtain ⟨w9, hw9⟩ : ∃ z : World, z = wc.drewN nq := ⟨_, rfl⟩
                have H9 : Hid (Same W g zs w9) := by rw [hw9]; exact H6.out.quiet (drewN_chg wc nq)
                rw [← hw9]
                clear hw9 cx cy HLS
                go_wp2_with fail
                go_meet
                exact ⟨_, rfl, H9⟩
              | false =>
                have HLS := keepH (less_is hlt)
                clear hlt
                go_quiet (first | (go_at_call 46; refine (HLS.out _).mono ?_; rintro q r ⟨rfl, rfl⟩; exact ⟨rfl, _, rfl⟩))
                obtain ⟨w9, hw9⟩ : ∃ z : World, z = wc.drewN nq := ⟨_, rfl⟩
                have H9 : Hid (Same W g zs w9) := by rw [hw9]; exact H6.out.quiet (drewN_chg wc nq)
                rw [← hw9]
                clear hw9 cx cy HLS
                go_wp2_with fail
                go_meet
                exact ⟨_, rfl, H9⟩
            · have t7 : ¬ (0 : Int) < (a : Int) := by omega
              go_quiet (fail)
              obtain ⟨w9, hw9⟩ : ∃ z : World, z = wc.drewN nq := ⟨_, rfl⟩
              have H9 : Hid (Same W g zs w9) := by rw [hw9]; exact H6.out.quiet (drewN_chg wc nq)
              rw [← hw9]
              clear hw9
              go_wp2_with fail
              go_meet
              exact ⟨_, rfl, H9⟩
          case rest =>
          obtain ⟨t7, rfl, H7⟩ := hcut
          clear H6
          cases t7 with
          | true =>
            have HC := keepH (H7.out.callX (f := 47) (av := #[.slice (some ⟨g, 0, none⟩) n c, .int .i64 (a : Int), .int .i64 (b : Int), .int .i64 (p : Int)]) (Q := fun e => ∃ m : Nat, e = .returned (.int .i64 (m : Int)) ∧ a < m ∧ m ≤ b) (fun zs' hl' R => by
              have e : n = zs'.length := by rw [hl']; exact HN.out
              rw [e]
              exact peq_g R (by omega) (by omega) (by omega) HPP.out.2 HPP.out.1))
            go_wp2_with fail
            refine HC.out.mono ?_
            rintro e w8 ⟨⟨md, rfl, hd1, hd2⟩, S8⟩
            have H8 := keepH S8
            clear S8 HC H7
            go_wp2_with fail
            go_roundw
            case rel => exact ⟨md, b, z', t8, t9, by omega, by omega, by omega, by first | rfl | go_num, by first | rfl | go_num, rfl, rfl, rfl, H8⟩
            case measure => simp [intOf]; omega
          | false =>
            have HC := keepH (H7.out.callX (f := 48) (av := #[.slice (some ⟨g, 0, none⟩) n c, .int .i64 (a : Int), .int .i64 (b : Int), .int .i64 (p : Int)]) (Q := fun e => ∃ (m : Nat) (t : Bool), e = .returned (.tuple #[.int .i64 (m : Int), .bool t]) ∧ a ≤ m ∧ m < b) (fun zs' hl' R => by
              have e : n = zs'.length := by rw [hl']; exact HN.out
              rw [e]
              exact part_g R (by omega) (by omega) (by omega) HPP.out.2 HPP.out.1))
            go_wp2_with fail
            refine HC.out.mono ?_
            rintro e w8 ⟨⟨md, t, rfl, hd1, hd2⟩, S8⟩
            have H8 := keepH S8
            clear S8 HC H7
            obtain ⟨ll, hll⟩ : ∃ ll, ll = md - a := ⟨_, rfl⟩
            obtain ⟨rl, hrl⟩ : ∃ rl, rl = b - md := ⟨_, rfl⟩
            obtain ⟨l8, hl8⟩ : ∃ l8, l8 = l / 8 := ⟨_, rfl⟩
            have v1 : IntKind.i64.wrap ((md : Int) - (a : Int)) = (ll : Int) := by rw [IntKind.wrap_i64]; omega
            have v2 : IntKind.i64.wrap ((b : Int) - (md : Int)) = (rl : Int) := by rw [IntKind.wrap_i64]; omega
            have v3 : ((l : Int).tdiv 8) = (l8 : Int) := by rw [Int.tdiv_eq_ediv_of_nonneg (by omega)]; omega
            have v4 : IntKind.i64.wrap (l8 : Int) = (l8 : Int) := by rw [IntKind.wrap_i64]; have := HLL.out; omega
            have v5 : IntKind.i64.wrap ((md : Int) + 1) = ((md + 1 : Nat) : Int) := by rw [IntKind.wrap_i64]; omega
            clear hll hrl hl8
            by_cases hlr : ll < rl
            · have t9' : (ll : Int) < (rl : Int) := by omega
              have HD := keepH (H8.out.callX (f := 36) (av := #[.slice (some ⟨g, 0, none⟩) n c, .int .i64 (a : Int), .int .i64 (md : Int), .int .i64 z']) (Q := fun e => e = .returned (.tuple #[])) (fun zs' hl' R => by
                have e : n = zs'.length := by rw [hl']; exact HN.out
                rw [e]
                exact IH.out (md - a) (by omega) (Nat.le_refl _) R (by omega) (by omega) (by omega)))
              go_wp2_with fail
              refine HD.out.mono ?_
              rintro e w10 ⟨rfl, S10⟩
              have H10 := keepH S10
              clear S10 HD H8
              go_wp2_with fail
              go_roundw
              case rel => exact ⟨md + 1, b, z', _, t, by omega, by omega, by omega, by first | rfl | go_num, by first | rfl | go_num, rfl, rfl, rfl, H10⟩
              case measure => simp [intOf]; omega
            · have t9' : ¬ (ll : Int) < (rl : Int) := by omega
              obtain ⟨md1, hmd1⟩ : ∃ md1, md1 = md + 1 := ⟨_, rfl⟩
              have v6 : IntKind.i64.wrap ((md : Int) + 1) = (md1 : Int) := by rw [v5]; omega
              have hmd : md < md1 := by omega
              have hmd2 : md1 ≤ b := by omega
              clear hmd1 v5
              have HD := keepH (H8.out.callX (f := 36) (av := #[.slice (some ⟨g, 0, none⟩) n c, .int .i64 (md1 : Int), .int .i64 (b : Int), .int .i64 z']) (Q := fun e => e = .returned (.tuple #[])) (fun zs' hl' R => by
                have e : n = zs'.length := by rw [hl']; exact HN.out
                rw [e]
                exact IH.out (b - md1) (by omega) (Nat.le_refl _) R (by omega) (by omega) (by omega)))
              go_wp2_with fail
              refine HD.out.mono ?_
              rintro e w10 ⟨rfl, S10⟩
              have H10 := keepH S10
              clear S10 HD H8
              go_wp2_with fail
              go_roundw
              case rel => exact ⟨a, md, z', _, t, by omega, by omega, by omega, by first | rfl | go_num, by first | rfl | go_num, rfl, rfl, rfl, H10⟩
              case measure => simp [intOf]; omega
end Go.Proofs.Ytomdnmmghdmpgaa
