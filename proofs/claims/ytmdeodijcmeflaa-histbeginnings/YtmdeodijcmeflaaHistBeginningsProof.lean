/- Whatever spans and order: an order that keeps them, cut anywhere, has, with a span, all that are ahead of it (shutterlaw05.HistBeginnings is true for every input). -/
import Derived.Test.YtmdeodijcmeflaaRows
import Derived.WalkKit
import Derived.ProofKit
import Derived.OpenShut
import Derived.JoinedCond
import Derived.Carry
import Derived.Lib.SmallJoins
import Derived.Test.YtmdeodijcmeflaaHRKeeps
import Derived.Test.YtmdeodijcmeflaaHBegP
import Derived.Test.YtmdeodijcmeflaaHLive
import Derived.Test.YtmdeodijcmeflaaHArgs2
namespace Go.Proofs.Ytmdeodijcmeflaa.histBeginnings
open Go.ChangeShapes Go.WideShapes Go.ChangeAt Go.RowKit Go.Joins
set_option linter.unusedVariables false

theorem own : ownKnob Try.prog.godebug = none := by kernel_rfl
theorem laidOut : laidOutB Try.prog = true := by kernel_rfl

set_option maxRecDepth 100000 in
set_option maxHeartbeats 8000000 in
theorem walk (pl po : Option Addr) (cl co : Nat) (l : List Sp) (o : List Int) (w : World) (hL : SReads w pl l) (hO : IReads w po o) (bl : l.length ≤ 4398046511000) (bo : o.length ≤ 17592186044416) :
    Calls Try.prog 7 #[.slice pl l.length cl, .slice po o.length co] w fun e w' => e = .returned (.bool true) ∧ Below w.heap.size w w' := by
  have HL := keepH hL
  have HO := keepH hO
  have bl2 : l.length ≤ 4398046511104 := by omega
  clear hL hO
  have fin : ∀ wz, Chg (fun _ => False) w wz → ∀ wy, Chg (fun _ => False) wz wy → Below w.heap.size w wy := fun wz hz wy hy => (((hz.trans hy (H := fun _ => False) (fun _ _ x => x) (fun _ _ x => x))).mono (G := fun k => w.heap.size ≤ k) (fun _ _ x => x.elim)).below (Nat.le_refl _)
  have FIN := keepH fin
  clear fin
  go_enter Try.func7, Try.ntmps7
  go_wp2_with fail
  refine (h_keeps pl po cl co l o _ HL.out HO.out bl2 bo).mono ?_
  rintro e W1 ⟨v, rfl, hv, C1⟩
  have HC1 := keepH C1
  clear C1
  rcases hv with ⟨hK, rfl⟩ | ⟨hK, rfl⟩
  · have HK := keepH hK
    clear hK
    go_wp2_with fail
    go_loopw [5] (fun s wr => ∃ k : Nat, k ≤ l.length ∧ s = .int .i64 (k : Int) ∧ Hid (GoodTo l k ∧ Chg (fun _ => False) w wr)) (fun s _ => l.length - (intOf s).toNat)
    case atStart => exact ⟨0, by omega, rfl, keepH ⟨fun i s hi => by omega, HC1.out⟩⟩
    case round =>
      obtain ⟨k, hk, rfl, HG⟩ := hrel
      by_cases hlt : k < l.length
      · have t1 : (k : Int) < (l.length : Int) := by omega
        obtain ⟨s, hs⟩ : ∃ s, l[k]? = some s := ⟨l[k], List.getElem?_eq_getElem hlt⟩
        obtain ⟨bk, off, rfl, _, c0, c1, c2, c3⟩ := (HL.out.chg HG.out.2 (fun _ _ x => x)).get k s hs
        have HX := keepH hs
        have UB : Hid (∀ q, Chg (fun _ => False) w (wr.drewN q)) := fun q => HG.out.2.trans (H := fun _ => False) ⟨rfl, rfl, rfl, Nat.le_refl _, fun _ _ _ => rfl⟩ (fun _ _ x => x) (fun _ _ x => x)
        clear hs
        by_cases h1 : 0 ≤ s.to
        · have d1 : decide (0 ≤ s.to) = true := by simp [h1]
          by_cases h2 : s.to < s.fr
          · go_wp2_with fail
            go_quiet (fail)
            go_wp2_with fail
            refine (h_live _).mono ?_
            rintro e W2 ⟨rfl, C2⟩
            have HC2 := keepH C2
            clear C2
            go_wp2_with fail
            go_ret
            exact ⟨by simp, FIN.out _ (UB.out _) _ HC2.out⟩
          · go_wp2_with fail
            go_quiet (fail)
            go_wp2_with fail
            go_roundw
            case rel => exact ⟨k + 1, by omega, by first | rfl | go_num, keepH ⟨HG.out.1.succ HX.out (fun _ => by omega), UB.out _⟩⟩
            case measure => simp [intOf]; omega
        · have d1 : decide (0 ≤ s.to) = false := by simp; omega
          go_wp2_with fail
          go_quiet (fail)
          go_wp2_with fail
          go_roundw
          case rel => exact ⟨k + 1, by omega, by first | rfl | go_num, keepH ⟨HG.out.1.succ HX.out (fun h => by omega), UB.out _⟩⟩
          case measure => simp [intOf]; omega
      · obtain rfl : k = l.length := by omega
        have t1 : ¬ (l.length : Int) < (l.length : Int) := by omega
        have HGD : Hid (GoodTo l l.length) := HG.out.1
        have HCW : Hid (Chg (fun _ => False) w wr) := HG.out.2
        go_wp2_with fail
        clear HG t1
        go_loopw [6] (fun s wx => ∃ i : Nat, i ≤ o.length ∧ s = .int .i64 (i : Int) ∧ Hid (Chg (fun _ => False) w wx)) (fun s _ => o.length - (intOf s).toNat)
        case atStart => exact ⟨0, by omega, rfl, HCW⟩
        case round =>
          obtain ⟨wi, hwi⟩ : ∃ wi, wi = wr := ⟨_, rfl⟩
          rw [← hwi] at hrel ⊢
          clear hwi
          obtain ⟨i, hi, rfl, HI⟩ := hrel
          by_cases hil : i < o.length
          · have t2 : (i : Int) < (o.length : Int) := by omega
            obtain ⟨a, ha⟩ : ∃ a, o[i]? = some a := ⟨o[i], List.getElem?_eq_getElem hil⟩
            obtain ⟨ha0, ha1⟩ := HK.out.1.each i a hil ha
            obtain ⟨m, hm⟩ : ∃ m : Nat, a = (m : Int) := ⟨a.toNat, by omega⟩
            subst hm
            obtain ⟨s, hs⟩ : ∃ s, l[m]? = some s := ⟨l[m]'(by omega), List.getElem?_eq_getElem _⟩
            have HA := keepH ha
            have HS := keepH hs
            clear ha hs ha0
            go_wp2_with fail
            go_loopw [7] (fun s wx => ∃ k : Nat, k ≤ l.length ∧ s = .int .i64 (k : Int) ∧ Hid (Chg (fun _ => False) w wx)) (fun s _ => l.length - (intOf s).toNat)
            case atStart => exact ⟨0, by omega, rfl, HI⟩
            case round =>
              obtain ⟨wk, hwk⟩ : ∃ wk, wk = wr := ⟨_, rfl⟩
              rw [← hwk] at hrel ⊢
              clear hwk
              obtain ⟨k, hk, rfl, HKW⟩ := hrel
              by_cases hkl : k < l.length
              · have t3 : (k : Int) < (l.length : Int) := by omega
                obtain ⟨t, ht⟩ : ∃ t, l[k]? = some t := ⟨l[k], List.getElem?_eq_getElem hkl⟩
                have HPX := keepH (HL.out.chg HKW.out (fun _ _ x => x))
                obtain ⟨bo1, oo1, rfl, _, i0⟩ := (HO.out.chg HKW.out (fun _ _ x => x)).get i (m : Int) HA.out
                obtain ⟨bk, off, rfl, _, d0, d1, d2, d3⟩ := HPX.out.get k t ht
                obtain ⟨bk2, off2, hbo, _, f0, f1, f2, f3⟩ := HPX.out.get m s HS.out
                simp only [Option.some.injEq, Addr.mk.injEq, and_true] at hbo
                obtain ⟨rfl, rfl⟩ := hbo
                have HT := keepH ht
                clear ht
                obtain ⟨ab, hab⟩ : ∃ ab, aheadB t s = ab := ⟨_, rfl⟩
                have HAB := keepH hab
                clear hab
                go_upto_region 14 with fail
                go_cut [71] from 53 to 87 (fun s71 wz => s71 = .bool (!ab) ∧ Hid (Chg (fun _ => False) wk wz))
                case first =>
                  go_region_with (go_at_call 17; refine (h_ahead_b HAB.out _).mono ?_; rintro e w1 ⟨rfl, C1⟩; have HC1 : Hid (Chg (fun _ => False) wk w1) := ⟨C1.os, C1.tape, C1.output, C1.size, C1.block⟩; clear C1)
                  all_goals (try go_wp2_with fail)
                  all_goals go_meet
                  all_goals exact ⟨by first | rfl | trivial | simp, HC1⟩
                case rest =>
                  obtain ⟨wz, hwz⟩ : ∃ wz, wz = wc := ⟨_, rfl⟩
                  rw [← hwz] at hcut ⊢
                  clear hwz
                  obtain ⟨rfl, HC⟩ := hcut
                  have HCZ := keepH (HKW.out.trans HC.out (H := fun _ => False) (fun _ _ x => x) (fun _ _ x => x))
                  clear d0 d1 d2 d3 f0 f1 f2 f3 i0
                  cases ab with
                  | false =>
                    go_wp2_with fail
                    go_roundw
                    case rel => exact ⟨k + 1, by omega, by first | rfl | go_num, HCZ⟩
                    case measure => simp [intOf]; omega
                  | true =>
                    have HBG := keepH (begins HK.out HGD.out hkl HA.out HS.out HT.out HAB.out)
                    go_wp2_with fail
                    go_loopw [8, 9] (fun s8 s9 wx => ∃ j : Nat, j ≤ i ∧ s8 = .bool (thereN o (k : Int) j) ∧ s9 = .int .i64 (j : Int) ∧ Hid (wx = wz)) (fun _ s9 _ => i - (intOf s9).toNat)
                    case atStart => exact ⟨0, by omega, rfl, rfl, by first | exact keepH rfl | exact keepH trivial⟩
                    case round =>
                      obtain ⟨j, hj, rfl, rfl, HW⟩ := hrel
                      have e1 : wr = wz := HW.out
                      rw [e1]
                      clear e1 HW
                      obtain ⟨th, hth⟩ : ∃ th, th = thereN o (k : Int) j := ⟨_, rfl⟩
                      rw [← hth]
                      have HTH := keepH hth
                      clear hth
                      by_cases hji : j < i
                      · have t4 : (j : Int) < (i : Int) := by omega
                        have t5 : (j : Int) < (o.length : Int) := by omega
                        obtain ⟨b, hb⟩ : ∃ b, o[j]? = some b := ⟨o[j], List.getElem?_eq_getElem (by omega)⟩
                        obtain ⟨bo2, oo2, hbo2, _, i1⟩ := (HO.out.chg HCZ.out (fun _ _ x => x)).get j b hb
                        simp only [Option.some.injEq, Addr.mk.injEq, and_true] at hbo2
                        obtain ⟨rfl, rfl⟩ := hbo2
                        have HB := keepH hb
                        clear hb
                        cases th with
                        | true =>
                          go_wp2_with fail
                          go_roundw
                          case rel => exact ⟨j + 1, by omega, by rw [thereN_succ HB.out, ← HTH.out]; simp, by first | rfl | go_num, by first | exact keepH rfl | exact keepH trivial⟩
                          case measure => simp [intOf]; omega
                        | false =>
                          go_wp2_with fail
                          go_roundw
                          case rel => exact ⟨j + 1, by omega, by rw [thereN_succ HB.out, ← HTH.out]; simp; by_cases e : b = (k : Int) <;> simp [e], by first | rfl | go_num, by first | exact keepH rfl | exact keepH trivial⟩
                          case measure => simp [intOf]; omega
                      · obtain rfl : j = i := by omega
                        have t4 : ¬ (j : Int) < (j : Int) := by omega
                        have hth1 : th = true := by
                          obtain ⟨n, hn, hn2⟩ := HBG.out
                          rw [HTH.out]
                          exact thereN_of hn hn2
                        subst hth1
                        go_wp2_with fail
                        go_roundw
                        case rel => exact ⟨k + 1, by omega, by first | rfl | go_num, HCZ⟩
                        case measure => simp [intOf]; omega
              · obtain rfl : k = l.length := by omega
                have t3 : ¬ (l.length : Int) < (l.length : Int) := by omega
                go_wp2_with fail
                go_roundw
                case rel => exact ⟨i + 1, by omega, by first | rfl | go_num, HKW⟩
                case measure => simp [intOf]; omega
          · obtain rfl : i = o.length := by omega
            have t2 : ¬ (o.length : Int) < (o.length : Int) := by omega
            go_wp2_with fail
            refine (h_live _).mono ?_
            rintro e W2 ⟨rfl, C2⟩
            have HC2 := keepH C2
            clear C2
            go_wp2_with fail
            go_ret
            exact ⟨by simp, FIN.out _ HI.out _ HC2.out⟩
  · have HK := keepH hK
    clear hK
    go_wp2_with fail
    refine (h_live _).mono ?_
    rintro e W2 ⟨rfl, C2⟩
    have HC2 := keepH (HC1.out.trans C2 (H := fun _ => False) (fun _ _ x => x) (fun _ _ x => x))
    clear C2
    go_wp2_with fail
    refine (r_keeps pl po cl co l o _ (HL.out.chg HC2.out (fun _ _ x => x)) (HO.out.chg HC2.out (fun _ _ x => x)) bl2 bo).mono ?_
    rintro e W3 ⟨v, rfl, hv, C3⟩
    have hv2 : v = .bool false := by
      rcases hv with h | h
      · exact absurd h.1 HK.out
      · exact h.2
    subst hv2
    have HC3 := keepH C3
    clear C3 hv
    go_wp2_with fail
    go_ret
    exact ⟨by simp, FIN.out _ HC2.out _ HC3.out⟩

set_option maxRecDepth 100000 in
theorem lifted (os : Os) (started : os.Started) (H : Type) (enc : TypeId × Value → H) :
    ReturnsInHanded {} Try.checked os 7 .any (Rows.histBeginningsSpec.pre6 enc Try.prog Try.f7 Rows.histBeginningsRow.domain false) (Rows.histBeginningsSpec.post enc Try.prog Try.f7 false true false false) := by
  refine returnsInHanded_of_change_sized (C := Try.checked) own started (by kernel_rfl) Try.func7
    (ChangeSpec.witness6 (enc := enc) (C := Try.checked) false ⟨#[], #[.slice none 0 0, .slice none 0 0], []⟩ 8 (by kernel_rfl) (by kernel_rfl) (by kernel_rfl) (by kernel_rfl)) ?_
  intro W base args ds gs before hval0 hW hcnd hsz0 _
  have hval : ∀ (j : Nat) t v, Try.f7.params[j]? = some t → args[j]? = some v → Value.okWide Try.prog W .any base t v := hval0
  have hsz : (DataW.weightsEach Try.prog (Try.f7.params.toList ++ Rows.histBeginningsSpec.plain.varTypes Try.prog) (ds ++ gs)).all (· ≤ reachBytes) = true := hsz0
  clear hsz0
  have hW' := hW
  obtain ⟨p, q, hA0, hV, rfl, hfz, hnd⟩ := hW
  have hA : DataW.TrodAll enc Try.prog W 0 (fun _ => true) true Try.f7.params.toList args.toList ds p := hA0
  rw [Try.params7] at hA hval hsz
  obtain ⟨v0, vs0, d0, ds0, p0, q0, hargs, rfl, rfl, h0, r0⟩ := trodAll_cons hA
  obtain ⟨v1, vs1, d1, ds1, p1, q1, rfl, rfl, rfl, h1, r1⟩ := trodAll_cons r0
  obtain ⟨rfl, rfl, rfl⟩ := trodAll_nil r1
  obtain rfl : args = #[v0, v1] := by cases args; simp_all
  obtain ⟨rfl, rfl⟩ := trodVars_none hV
  have k0 := h0
  have lt0 : ∀ x ∈ p0, x.block < W.heap.size := by obtain ⟨m, hm⟩ := k0; exact DataW.trod_lt m _ _ _ hm
  have k1 := h1
  have lt1 : ∀ x ∈ p1, x.block < W.heap.size := by obtain ⟨m, hm⟩ := k1; exact DataW.trod_lt m _ _ _ hm
  obtain ⟨pl, nl, cl, rfl⟩ := okWide_slice Try.underlying23 (hval 0 23 v0 rfl rfl)
  have sl := slice_size Try.underlying23 h0 hsz (j := 0) rfl rfl
  rw [bytesSpan] at sl
  obtain ⟨l, hll, okl, hL⟩ := spans_open h0
  obtain ⟨po, no, co, rfl⟩ := okWide_slice Try.underlying32 (hval 1 32 v1 rfl rfl)
  have so := slice_size Try.underlying32 h1 hsz (j := 1) rfl rfl
  rw [bytesInt] at so
  obtain ⟨o, hlo, oko, hO⟩ := ints_open h1
  subst hll
  subst hlo
  have bl : l.length ≤ 4398046511000 := by simp only [reachBytes] at sl; omega
  have bo : o.length ≤ 17592186044416 := by simp only [reachBytes] at so; omega
  clear hA0 hval0
  refine (walk pl po cl co l o W hL hO bl bo).mono fun e W' ⟨he, bel⟩ => ?_
  subst he
  exact ⟨_, rfl, _, _, _, [], _, [], hW', trodAll_mk1 (shut_bool Try.underlying4 _), (trodAll_cons_mk (Below.trod laidOut (by kernel_rfl) (of_decide_eq_true (by kernel_rfl)) k0 bel lt0) (trodAll_cons_mk (Below.trod laidOut (by kernel_rfl) (of_decide_eq_true (by kernel_rfl)) k1 bel lt1) trodAll_mk0)), rfl, bel.frame _, fun h => by cases h⟩

theorem over : Rows.histBeginningsRow.holds Try.pinned (OpenSpec.ofChange Rows.histBeginningsSpec) :=
  OpenClaim.holds_of_wide 7 Try.f7 rfl rfl rfl rfl rfl rfl rfl ⟨rfl, rfl, rfl, rfl, rfl⟩ rfl rfl rfl rfl rfl (by kernel_rfl) Try.func7 (by kernel_rfl)
    (of_decide_eq_true (by kernel_rfl)) (by unfold Func.isWrapper; first | (rw [if_pos (by decide +kernel)]; kernel_rfl) | (rw [if_neg (by decide +kernel)]; exact ⟨rfl, rfl⟩))
    (fun os started H enc _ => lifted os started H enc)
end Go.Proofs.Ytmdeodijcmeflaa.histBeginnings
namespace Go.Proofs.Ytmdeodijcmeflaa
theorem histBeginnings_holds : Rows.HistBeginningsSaid := histBeginnings.over
end Go.Proofs.Ytmdeodijcmeflaa
