/- Width, as the document says it: by counting at each begin. -/
import Derived.Deep.RegionHeld3
import Derived.Deep.Cut
import Derived.Deep.CutBlock
import Derived.Deep.DeepCutAuto
import Derived.Test.YtaigpbbehlofbaaHWid
import Derived.Test.YtaigpbbehlofbaaHRef
namespace Go.Proofs.Ytaigpbbehlofbaa
open Go.RowKit
set_option linter.unusedVariables false

set_option maxRecDepth 100000 in
theorem r_at (s : Sp) (f : Int) (W : World) : Calls Try.prog 20 #[.agg #[.int .i64 s.th, .int .i64 s.ix, .int .i64 s.fr, .int .i64 s.to], .int .i64 f] W fun e W' => e = .returned (.bool (atB f s)) ∧ Chg (fun _ => False) W W' := by
  obtain ⟨th, ix, fr, tz⟩ := s
  have HB : Hid (∀ q, Chg (fun _ => False) W ((W.alloc (.cells #[.int .i64 th, .int .i64 ix, .int .i64 fr, .int .i64 tz] 28)).drewN q)) := fun q => ((Chg.refl (fun _ => False) W).alloc _).trans (H := fun _ => False) ⟨rfl, rfl, rfl, Nat.le_refl _, fun _ _ _ => rfl⟩ (fun _ _ x => x) (fun _ _ x => x)
  by_cases h1 : fr ≤ f
  · have d1 : decide (fr ≤ f) = true := decide_eq_true h1
    by_cases h2 : tz < 0
    · have d2 : decide (tz < 0) = true := decide_eq_true h2
      have e0 : atB f ⟨th, ix, fr, tz⟩ = true := by simp [atB, h1, h2]
      rw [e0]
      go_enter Try.func20, Try.ntmps20
      go_wp2_with fail
      first | go_quiet (fail) | skip
      all_goals (try go_wp2_with fail)
      go_ret
      exact ⟨by simp, by first | exact HB.out _ | exact (Chg.refl _ _).alloc _⟩
    · have d2 : decide (tz < 0) = false := decide_eq_false h2
      by_cases h3 : f ≤ tz
      · have d3 : decide (f ≤ tz) = true := decide_eq_true h3
        have e0 : atB f ⟨th, ix, fr, tz⟩ = true := by simp [atB, h1, h3]
        rw [e0]
        go_enter Try.func20, Try.ntmps20
        go_wp2_with fail
        first | go_quiet (fail) | skip
        all_goals (try go_wp2_with fail)
        go_ret
        exact ⟨by simp, by first | exact HB.out _ | exact (Chg.refl _ _).alloc _⟩
      · have d3 : decide (f ≤ tz) = false := decide_eq_false h3
        have e0 : atB f ⟨th, ix, fr, tz⟩ = false := by simp [atB, h2, h3]
        rw [e0]
        go_enter Try.func20, Try.ntmps20
        go_wp2_with fail
        first | go_quiet (fail) | skip
        all_goals (try go_wp2_with fail)
        go_ret
        exact ⟨by simp, by first | exact HB.out _ | exact (Chg.refl _ _).alloc _⟩
  · have d1 : decide (fr ≤ f) = false := decide_eq_false h1
    have e0 : atB f ⟨th, ix, fr, tz⟩ = false := by simp [atB, h1]
    rw [e0]
    go_enter Try.func20, Try.ntmps20
    go_wp2_with fail
    first | go_quiet (fail) | skip
    all_goals (try go_wp2_with fail)
    go_ret
    exact ⟨by simp, by first | exact HB.out _ | exact (Chg.refl _ _).alloc _⟩

set_option maxRecDepth 100000 in
set_option maxHeartbeats 8000000 in
theorem r_width (p : Option Addr) (c : Nat) (l : List Sp) (W : World) (h : SReads W p l) (hl : l.length ≤ 4398046511104) :
    Calls Try.prog 12 #[.slice p l.length c] W fun e W' => e = .returned (.int .i64 ((wOf (fun f => l.countP (atB f)) (begs l) : Nat) : Int)) ∧ Chg (fun _ => False) W W' := by
  have HP := keepH h
  obtain ⟨n, hn⟩ : ∃ n, n = l.length := ⟨_, rfl⟩
  have HN := keepH hn
  rw [← hn] at hl ⊢
  clear h hn
  go_enter Try.func12, Try.ntmps12
  go_wp2_with fail
  go_loopw [3, 4] (fun s3 s4 wr => ∃ i mo : Nat, i ≤ n ∧ s3 = .int .i64 (mo : Int) ∧ s4 = .int .i64 (i : Int) ∧ Hid (mo = wOf (fun f => l.countP (atB f)) (begs (l.take i)) ∧ Chg (fun _ => False) W wr)) (fun _ s4 _ => n - (intOf s4).toNat)
  case atStart => exact ⟨0, 0, by omega, rfl, rfl, keepH ⟨rfl, Chg.refl _ _⟩⟩
  case round =>
    obtain ⟨wi, hwi⟩ : ∃ wi, wi = wr := ⟨_, rfl⟩
    rw [← hwi] at hrel ⊢
    clear hwi
    obtain ⟨i, mo, hi, rfl, rfl, HI⟩ := hrel
    by_cases hlt : i < n
    · have t1 : (i : Int) < (n : Int) := by omega
      obtain ⟨s, hs⟩ : ∃ s, l[i]? = some s := ⟨l[i]'(by have := HN.out; omega), List.getElem?_eq_getElem _⟩
      obtain ⟨bk, off, rfl, hbk, c0, c1, c2, c3⟩ := (HP.out.chg HI.out.2 (fun _ _ x => x)).get i s hs
      have HS := keepH hs
      have HTS := keepH (take_snocS hs)
      clear hs
      obtain ⟨fr, hfr⟩ : ∃ fr, fr = s.fr := ⟨_, rfl⟩
      obtain ⟨tz, htz⟩ : ∃ tz, tz = s.to := ⟨_, rfl⟩
      rw [← hfr] at c2
      rw [← htz] at c3
      have HFR := keepH hfr
      have HTZ := keepH htz
      clear hfr htz c0 c1
      by_cases hbad : 0 ≤ tz ∧ tz < fr
      · have d1 : decide (0 ≤ tz) = true := decide_eq_true hbad.1
        have d2 : decide (tz < fr) = true := decide_eq_true hbad.2
        have d3 := hbad.1
        have d4 := hbad.2
        have HBE : Hid (begs (l.take (i + 1)) = begs (l.take i)) := by
          show _ = _
          rw [HTS.out, begs_snoc]
          have e : begB s = false := by simp [begB, ← HFR.out, ← HTZ.out]; omega
          rw [e]
          simp
        clear hbad
        go_wp2_with fail
        go_quiet (fail)
        go_wp2_with fail
        go_roundw
        case rel => exact ⟨i + 1, mo, by omega, (by first | rfl | trivial | go_num), by first | rfl | go_num, keepH ⟨by rw [HBE.out]; exact HI.out.1, HI.out.2.trans (H := fun _ => False) ⟨rfl, rfl, rfl, Nat.le_refl _, fun _ _ _ => rfl⟩ (fun _ _ x => x) (fun _ _ x => x)⟩⟩
        case measure => simp [intOf]; omega
      · have HBE : Hid (begs (l.take (i + 1)) = begs (l.take i) ++ [fr]) := by
          show _ = _
          rw [HTS.out, begs_snoc]
          have e : begB s = true := by simp [begB, ← HFR.out, ← HTZ.out]; omega
          rw [e, HFR.out]
          simp
        have HGO : Hid (∀ q, Chg (fun _ => False) W (wi.drewN q)) := fun q => HI.out.2.trans (H := fun _ => False) ⟨rfl, rfl, rfl, Nat.le_refl _, fun _ _ _ => rfl⟩ (fun _ _ x => x) (fun _ _ x => x)
        go_upto_region 5 with fail
        go_cut [31] from 13 to 31 (fun s31 wx => s31 = .bool false ∧ Hid (Chg (fun _ => False) W wx))
        case first =>
          by_cases h1 : 0 ≤ tz
          · have d1 : decide (0 ≤ tz) = true := decide_eq_true h1
            have d4 : ¬ tz < fr := by omega
            have d2 : decide (tz < fr) = false := decide_eq_false d4
            go_quiet (fail)
            go_wp2_with fail
            go_meet
            exact ⟨by first | rfl | trivial, HGO.out _⟩
          · have d1 : decide (0 ≤ tz) = false := decide_eq_false h1
            go_quiet (fail)
            go_wp2_with fail
            go_meet
            exact ⟨by first | rfl | trivial, HGO.out _⟩
        case rest =>
          obtain ⟨wx, hwx⟩ : ∃ wx, wx = wc := ⟨_, rfl⟩
          rw [← hwx] at hcut ⊢
          clear hwx
          obtain ⟨rfl, HX⟩ := hcut
          clear c2 c3
          go_wp2_with fail
          go_loopw [5, 6] (fun s5 s6 wr => ∃ k cn : Nat, k ≤ n ∧ cn ≤ k ∧ s5 = .int .i64 (cn : Int) ∧ s6 = .int .i64 (k : Int) ∧ Hid (cn = (l.take k).countP (atB fr) ∧ Chg (fun _ => False) W wr)) (fun _ s6 _ => n - (intOf s6).toNat)
          case atStart => exact ⟨0, 0, by omega, by omega, rfl, rfl, keepH ⟨rfl, HX.out⟩⟩
          case round =>
            obtain ⟨wk, hwk⟩ : ∃ wk, wk = wr := ⟨_, rfl⟩
            rw [← hwk] at hrel ⊢
            clear hwk
            obtain ⟨k, cn, hk, hck, rfl, rfl, HK⟩ := hrel
            by_cases hlk : k < n
            · have t2 : (k : Int) < (n : Int) := by omega
              obtain ⟨u, hu⟩ : ∃ u, l[k]? = some u := ⟨l[k]'(by have := HN.out; omega), List.getElem?_eq_getElem _⟩
              have HPK := keepH (HP.out.chg HK.out.2 (fun _ _ x => x))
              obtain ⟨bk1, off1, hq1, _, e0, e1, e2, e3⟩ := HPK.out.get k u hu
              simp only [Option.some.injEq, Addr.mk.injEq] at hq1
              obtain ⟨rfl, rfl, -⟩ := hq1
              obtain ⟨bk2, off2, hq2, _, _, _, a2, _⟩ := HPK.out.get i s HS.out
              simp only [Option.some.injEq, Addr.mk.injEq] at hq2
              obtain ⟨rfl, rfl, -⟩ := hq2
              rw [← HFR.out] at a2
              have HTK := keepH (take_snocS hu)
              obtain ⟨B, hB⟩ : ∃ B, B = atB fr u := ⟨_, rfl⟩
              have KA := fun w5 => r_at u fr w5
              rw [← hB] at KA
              have HKA := keepH KA
              have HBB := keepH hB
              have hS0 : wk.drew.cell? ⟨bk, off + k * 4, none⟩ = some (.int .i64 u.th) ∧ wk.drew.cell? ⟨bk, off + k * 4 + 1, none⟩ = some (.int .i64 u.ix) ∧ wk.drew.cell? ⟨bk, off + k * 4 + 2, none⟩ = some (.int .i64 u.fr) ∧ wk.drew.cell? ⟨bk, off + k * 4 + 3, none⟩ = some (.int .i64 u.to) ∧ wk.drew.cell? ⟨bk, off + i * 4 + 2, none⟩ = some (.int .i64 fr) := ⟨e0, e1, e2, e3, a2⟩
              have HCN : Hid (cn + (if B = true then 1 else 0) = (l.take (k + 1)).countP (atB fr)) := by
                show _ = _
                rw [HTK.out, List.countP_append, ← HK.out.1, hB]
                simp [List.countP_cons]
              clear hu hB KA e0 e1 e2 e3 a2
              go_upto_region 10 with fail
              go_region_held3 (fun w' => w'.cell? ⟨bk, off + k * 4, none⟩ = some (.int .i64 u.th) ∧ w'.cell? ⟨bk, off + k * 4 + 1, none⟩ = some (.int .i64 u.ix) ∧ w'.cell? ⟨bk, off + k * 4 + 2, none⟩ = some (.int .i64 u.fr) ∧ w'.cell? ⟨bk, off + k * 4 + 3, none⟩ = some (.int .i64 u.to) ∧ w'.cell? ⟨bk, off + i * 4 + 2, none⟩ = some (.int .i64 fr)) (first | exact hS5 | exact hS0)
                (first | (go_at_call 20; refine (HKA.out _).mono ?_; rintro e w5 ⟨rfl, C5⟩; have hS5 := And.intro (cell_chg C5 hS0.1 (fun x => x)) (And.intro (cell_chg C5 hS0.2.1 (fun x => x)) (And.intro (cell_chg C5 hS0.2.2.1 (fun x => x)) (And.intro (cell_chg C5 hS0.2.2.2.1 (fun x => x)) (cell_chg C5 hS0.2.2.2.2 (fun x => x))))); have HC5 : Hid (Chg (fun _ => False) W w5) := HK.out.2.trans (H := fun _ => False) ⟨C5.os, C5.tape, C5.output, C5.size, C5.block⟩ (fun _ _ x => x) (fun _ _ x => x); clear C5))
              clear hS0 hS5
              cases B with
              | true =>
                have HC1 : Hid (cn + 1 = (l.take (k + 1)).countP (atB fr)) := HCN.out
                go_wp2_with fail
                go_roundw
                case rel => first | exact ⟨k + 1, cn + 1, by omega, by omega, (by first | rfl | trivial | go_num), (by first | rfl | trivial | go_num), keepH ⟨HC1.out, HC5.out⟩⟩ | ((repeat apply Exists.intro); refine ⟨?_, rfl⟩; exact ⟨k + 1, cn + 1, by omega, by omega, (by first | rfl | trivial | go_num), (by first | rfl | trivial | go_num), keepH ⟨HC1.out, HC5.out⟩⟩)
                case measure => simp [intOf]; omega
              | false =>
                have HC1 : Hid (cn = (l.take (k + 1)).countP (atB fr)) := HCN.out
                go_wp2_with fail
                go_roundw
                case rel => first | exact ⟨k + 1, cn, by omega, by omega, (by first | rfl | trivial | go_num), (by first | rfl | trivial | go_num), keepH ⟨HC1.out, HC5.out⟩⟩ | ((repeat apply Exists.intro); refine ⟨?_, rfl⟩; exact ⟨k + 1, cn, by omega, by omega, (by first | rfl | trivial | go_num), (by first | rfl | trivial | go_num), keepH ⟨HC1.out, HC5.out⟩⟩)
                case measure => simp [intOf]; omega
            · obtain rfl : k = n := by omega
              have t2 : ¬ (k : Int) < (k : Int) := by omega
              have ht : l.take k = l := List.take_of_length_le (by have := HN.out; omega)
              have HCT : Hid (cn = l.countP (atB fr)) := by have e := HK.out.1; rw [ht] at e; exact e
              have HWN : Hid (wOf (fun f => l.countP (atB f)) (begs (l.take (i + 1))) = max mo cn) := by
                show _ = _
                rw [HBE.out, wOf_snoc, ← HI.out.1, ← HCT.out]
              clear ht
              by_cases hm : mo < cn
              · have t3 : (mo : Int) < (cn : Int) := by omega
                go_wp2_with fail
                go_roundw
                case rel => first | exact ⟨i + 1, cn, by omega, (by first | rfl | trivial | go_num), (by first | rfl | trivial | go_num), keepH ⟨by rw [HWN.out]; omega, HK.out.2⟩⟩ | ((repeat apply Exists.intro); refine ⟨?_, rfl⟩; exact ⟨i + 1, cn, by omega, (by first | rfl | trivial | go_num), (by first | rfl | trivial | go_num), keepH ⟨by rw [HWN.out]; omega, HK.out.2⟩⟩)
                case measure => simp [intOf]; omega
              · have t3 : ¬ (mo : Int) < (cn : Int) := by omega
                go_wp2_with fail
                go_roundw
                case rel => first | exact ⟨i + 1, mo, by omega, (by first | rfl | trivial | go_num), (by first | rfl | trivial | go_num), keepH ⟨by rw [HWN.out]; omega, HK.out.2⟩⟩ | ((repeat apply Exists.intro); refine ⟨?_, rfl⟩; exact ⟨i + 1, mo, by omega, (by first | rfl | trivial | go_num), (by first | rfl | trivial | go_num), keepH ⟨by rw [HWN.out]; omega, HK.out.2⟩⟩)
                case measure => simp [intOf]; omega
    · obtain rfl : i = n := by omega
      have t1 : ¬ (i : Int) < (i : Int) := by omega
      have HE9 : Hid (mo = wOf (fun f => l.countP (atB f)) (begs l)) := by have e := HI.out.1; rw [List.take_of_length_le (by have := HN.out; omega)] at e; exact e
      go_wp2_with fail
      go_ret
      refine ⟨?_, HI.out.2⟩
      rw [← HE9.out]
      simp
end Go.Proofs.Ytaigpbbehlofbaa
