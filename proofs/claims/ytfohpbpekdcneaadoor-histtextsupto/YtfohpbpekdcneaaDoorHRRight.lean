/- The document's Right: whatever spans: it tells whether they are right. -/
import Derived.Test.YtfohpbpekdcneaaDoorHRef
import Derived.Test.YtfohpbpekdcneaaDoorHRight
namespace Go.Proofs.YtfohpbpekdcneaaDoor
open Go.RowKit Go.Maps

structure RIn (l : List Sp) (s : Sp) (j : Nat) (w0 wx : World) : Prop where
  chg : Chg (fun _ => False) w0 wx
  same : ∀ (i : Nat) (t : Sp), i < j → l[i]? = some t → t.th = s.th → 0 ≤ t.to ∧ t.to < s.fr
  apart : ∀ (i : Nat) (t : Sp), i < j → l[i]? = some t → t.th ≠ s.th → apartP t s
theorem RIn.quiet {l : List Sp} {s : Sp} {j : Nat} {w0 wx wy : World} (h : RIn l s j w0 wx) (hc : Chg (fun _ => False) wx wy) : RIn l s j w0 wy := ⟨h.chg.trans hc (fun _ _ x => x) (fun _ _ x => x), h.same, h.apart⟩
theorem RIn.sameN {l : List Sp} {s t : Sp} {j : Nat} {w0 wx : World} (h : RIn l s j w0 wx) (ht : l[j]? = some t) (he : t.th = s.th) (h1 : 0 ≤ t.to) (h2 : t.to < s.fr) : RIn l s (j + 1) w0 wx :=
  ⟨h.chg, fun i u hi hu hh => by
    by_cases e : i = j
    · subst e; rw [ht] at hu; simp at hu; subst hu; exact ⟨h1, h2⟩
    · exact h.same i u (by omega) hu hh, fun i u hi hu hh => by
    by_cases e : i = j
    · subst e; rw [ht] at hu; simp at hu; subst hu; exact absurd he hh
    · exact h.apart i u (by omega) hu hh⟩
theorem RIn.apartN {l : List Sp} {s t : Sp} {j : Nat} {w0 wx : World} (h : RIn l s j w0 wx) (ht : l[j]? = some t) (he : t.th ≠ s.th) (h1 : apartP t s) : RIn l s (j + 1) w0 wx :=
  ⟨h.chg, fun i u hi hu hh => by
    by_cases e : i = j
    · subst e; rw [ht] at hu; simp at hu; subst hu; exact absurd hh he
    · exact h.same i u (by omega) hu hh, fun i u hi hu hh => by
    by_cases e : i = j
    · subst e; rw [ht] at hu; simp at hu; subst hu; exact h1
    · exact h.apart i u (by omega) hu hh⟩
theorem cntN_yes {l : List Sp} {j : Nat} {t : Sp} {th : Int} (ht : l[j]? = some t) (he : t.th = th) : cntN l (j + 1) th = cntN l j th + 1 := by rw [cntN, ht]; simp only [he, if_true]
theorem cntN_no {l : List Sp} {j : Nat} {t : Sp} {th : Int} (ht : l[j]? = some t) (he : t.th ≠ th) : cntN l (j + 1) th = cntN l j th := by rw [cntN, ht]; simp only [he, if_false]

set_option maxRecDepth 100000 in
set_option maxHeartbeats 8000000 in
theorem r_right (p : Option Addr) (c : Nat) (l : List Sp) (W : World) (h : SReads W p l) (hl : l.length ≤ 4398046511104) :
    Calls Tryd.prog 17 #[.slice p l.length c] W fun e W' => ∃ x, e = .returned (.int .i64 x) ∧ (RightP l ∧ x = 0 ∨ ¬ RightP l ∧ x = 50) ∧ Chg (fun _ => False) W W' := by
  have HP := keepH h
  clear h
  go_enter Tryd.func17, Tryd.ntmps17
  go_wp2_with fail
  go_loopw [3] (fun s wr => ∃ k : Nat, k ≤ l.length ∧ s = .int .i64 (k : Int) ∧ Hid (RightTo l k ∧ Chg (fun _ => False) W wr)) (fun s _ => l.length - (intOf s).toNat)
  case atStart => exact ⟨0, by omega, rfl, keepH ⟨fun i s hi => by omega, Chg.refl _ _⟩⟩
  case round =>
    obtain ⟨k, hk, rfl, HK⟩ := hrel
    by_cases hlt : k < l.length
    · have t1 : (k : Int) < (l.length : Int) := by omega
      obtain ⟨s, hs⟩ : ∃ s, l[k]? = some s := ⟨l[k], List.getElem?_eq_getElem hlt⟩
      obtain ⟨bk, off, rfl, hbk, c0, c1, c2, c3⟩ := (HP.out.chg HK.out.2 (fun _ _ x => x)).get k s hs
      have HX := keepH hs
      have HNOT : Hid (¬ OkAt l k s → ¬ RightP l) := fun h => RightTo.not hlt hs h
      obtain ⟨w0, hw0⟩ : ∃ w0, w0 = wr.alloc (.cells #[.int .i64 s.th, .int .i64 s.ix, .int .i64 s.fr, .int .i64 s.to] 38) := ⟨_, rfl⟩
      have HB : Hid (BoxAt w0 wr.heap.size s) := by rw [hw0]; exact heap_alloc_new _ _
      have HQ : Hid (Chg (fun _ => False) W w0) := by rw [hw0]; exact HK.out.2.alloc _
      have HR : Hid (RightTo l k) := HK.out.1
      have HW0 := keepH hw0
      obtain ⟨bad, hbad⟩ : ∃ bad : Bool, bad = (decide (s.fr < 0) || (decide (s.to < -1) || (decide (0 ≤ s.to) && decide (s.to < s.fr)))) := ⟨_, rfl⟩
      have HBD := keepH hbad
      clear hs hbk hw0 hbad HK
      go_upto_region 5 with fail
      rw [← HW0.out]
      obtain ⟨gb, hgb⟩ : ∃ gb, gb = wr.heap.size := ⟨_, rfl⟩
      rw [← hgb] at HB
      rw [← hgb]
      clear c0 c1 c2 c3 HW0 hgb
      go_cut [36] from 7 to 78 (fun s36 wx => s36 = .bool bad ∧ wx = w0)
      case first =>
        obtain ⟨k0, k1, k2, k3⟩ := HB.out.cells
        by_cases g1 : s.fr < 0
        · go_wp2_with fail
          go_meet
          exact ⟨by rw [HBD.out]; simp; omega, rfl⟩
        · by_cases g2 : s.to < -1
          · go_wp2_with fail
            go_meet
            exact ⟨by rw [HBD.out]; simp; omega, rfl⟩
          · by_cases g3 : 0 ≤ s.to
            · by_cases g4 : s.to < s.fr
              · go_wp2_with fail
                go_meet
                exact ⟨by rw [HBD.out]; simp; omega, rfl⟩
              · go_wp2_with fail
                go_meet
                exact ⟨by rw [HBD.out]; simp; omega, rfl⟩
            · go_wp2_with fail
              go_meet
              exact ⟨by rw [HBD.out]; simp; omega, rfl⟩
      case rest =>
        obtain ⟨rfl, rfl⟩ := hcut
        cases bad with
        | true =>
          go_wp2_with fail
          go_ret
          refine ⟨50, by simp, .inr ⟨HNOT.out (fun o => ?_), rfl⟩, HQ.out⟩
          have e := HBD.out
          have o1 := o.fr
          have o2 := o.to
          simp at e
          omega
        | false =>
          have hgood : 0 ≤ s.fr ∧ (s.to = -1 ∨ s.fr ≤ s.to) := by
            have e := HBD.out
            simp at e
            omega
          have HGD := keepH hgood
          clear hgood HBD
          go_wp2_with fail
          go_loopw [5, 6] (fun s5 s6 wx => ∃ j : Nat, j ≤ k ∧ s5 = .int .i64 ((cntN l j s.th : Nat) : Int) ∧ s6 = .int .i64 (j : Int) ∧ Hid (RIn l s j wc wx)) (fun _ s6 _ => k - (intOf s6).toNat)
          case atStart => exact ⟨0, by omega, by simp [cntN], rfl, keepH ⟨Chg.refl _ _, fun i t hi => by omega, fun i t hi => by omega⟩⟩
          case round =>
            obtain ⟨wx, hwx⟩ : ∃ wx, wx = wr := ⟨_, rfl⟩
            rw [← hwx] at hrel ⊢
            clear hwx
            obtain ⟨j, hj, rfl, rfl, HJ⟩ := hrel
            obtain ⟨cn, hcn⟩ : ∃ cn, cn = cntN l j s.th := ⟨_, rfl⟩
            have hcl : cn ≤ j := by rw [hcn]; exact cntN_le l j s.th
            rw [← hcn]
            have HCN := keepH hcn
            clear hcn
            by_cases hjk : j < k
            · have t2 : (j : Int) < (k : Int) := by omega
              have t3 : (j : Int) < (l.length : Int) := by omega
              obtain ⟨t, ht⟩ : ∃ t, l[j]? = some t := ⟨l[j], List.getElem?_eq_getElem (by omega)⟩
              obtain ⟨bk2, off2, hbo, _, d0, d1, d2, d3⟩ := (HP.out.chg (HQ.out.trans HJ.out.chg (H := fun _ => False) (fun _ _ x => x) (fun _ _ x => x)) (fun _ _ x => x)).get j t ht
              simp only [Option.some.injEq, Addr.mk.injEq, and_true] at hbo
              obtain ⟨rfl, rfl⟩ := hbo
              obtain ⟨k0, k1, k2, k3⟩ := (HB.out.chg HJ.out.chg (fun x => x)).cells
              have HT := keepH ht
              clear ht
              have UB : Hid (∀ q, Chg (fun _ => False) W (wx.drewN q)) := fun q => (HQ.out.trans HJ.out.chg (H := fun _ => False) (fun _ _ x => x) (fun _ _ x => x)).trans (H := fun _ => False) ⟨rfl, rfl, rfl, Nat.le_refl _, fun _ _ _ => rfl⟩ (fun _ _ x => x) (fun _ _ x => x)
              have UB2 : Hid (∀ q r, Chg (fun _ => False) W ((wx.drewN q).drewN r)) := fun q r => (UB.out q).trans (H := fun _ => False) ⟨rfl, rfl, rfl, Nat.le_refl _, fun _ _ _ => rfl⟩ (fun _ _ x => x) (fun _ _ x => x)
              by_cases hth : t.th = s.th
              · by_cases h1 : t.to < 0
                · have hd1 : decide (t.to < 0) = true := by simp [h1]
                  go_wp2_with fail
                  go_quiet (fail)
                  go_wp2_with fail
                  go_quiet (fail)
                  go_wp2_with fail
                  go_ret
                  refine ⟨50, by simp, .inr ⟨HNOT.out (fun o => ?_), rfl⟩, UB2.out _ _⟩
                  have := o.same j t hjk HT.out hth
                  omega
                · have hd1 : decide (t.to < 0) = false := by simp; omega
                  have h1' : 0 ≤ t.to := by omega
                  by_cases h2 : s.fr ≤ t.to
                  · go_wp2_with fail
                    go_quiet (fail)
                    go_wp2_with fail
                    go_quiet (fail)
                    go_wp2_with fail
                    go_ret
                    refine ⟨50, by simp, .inr ⟨HNOT.out (fun o => ?_), rfl⟩, UB2.out _ _⟩
                    have := o.same j t hjk HT.out hth
                    omega
                  · go_wp2_with fail
                    go_quiet (fail)
                    go_wp2_with fail
                    go_quiet (fail)
                    go_wp2_with fail
                    go_roundw
                    case rel =>
                      refine ⟨j + 1, by omega, ?_, by first | rfl | go_num, keepH ((HJ.out.sameN HT.out hth (by omega) (by omega)).quiet ⟨rfl, rfl, rfl, Nat.le_refl _, fun _ _ _ => rfl⟩)⟩
                      rw [cntN_yes HT.out hth, ← HCN.out]
                      first | rfl | go_num
                    case measure => simp [intOf]; omega
              · go_wp2_with fail
                go_quiet (fail)
                go_upto_region 12 with fail
                obtain ⟨ab, hab⟩ : ∃ ab, apartB t s = ab := ⟨_, rfl⟩
                have HAB := keepH hab
                clear hab
                go_cut [56] from 37 to 74 (fun s56 wz => s56 = .bool (!ab) ∧ Hid (Chg (fun _ => False) wx wz))
                case first =>
                  refine wp_region_any (by kernel_rfl) ?_
                  change wpAny _ _ _ _ _ _ _ (World.drew _)
                  refine wpAny_take (i := 0) (v := ?_) rfl (by kernel_rfl) (by kernel_rfl) (by kernel_rfl) (fun _ _ _ h => h) (Or.inl ⟨by kernel_rfl, ?_⟩) ?_
                  rotate_left
                  · intro w
                    go_simp
                    try with_reducible rfl
                  refine wpAny_take (i := 1) (v := ?_) rfl (by kernel_rfl) (by kernel_rfl) (by kernel_rfl) (fun _ _ _ h => h) (Or.inl ⟨by kernel_rfl, ?_⟩) ?_
                  rotate_left
                  · intro w
                    go_simp
                    try with_reducible rfl
                  refine wpAny_take (i := 2) (v := ?_) rfl (by kernel_rfl) (by kernel_rfl) (by kernel_rfl) (fun _ _ _ h => h) (Or.inl ⟨by kernel_rfl, ?_⟩) ?_
                  rotate_left
                  · intro w
                    go_simp
                    try with_reducible rfl
                  refine wpAny_ready (rs := [3, 4]) (by kernel_rfl) (by simp) ?_
                  refine AllReady.cons rfl (fun K hK => ?_) ?_
                  · go_simp
                    refine hK _ _ ?_
                    clear hK K
                    refine wpAny_ready (rs := [4]) (by kernel_rfl) (by simp) ?_
                    refine AllReady.cons rfl (fun K hK => ?_) AllReady.nil
                    go_simp
                    refine hK _ _ ?_
                    clear hK K
                    refine wpAny_ready (rs := [5]) (by kernel_rfl) (by simp) ?_
                    refine AllReady.cons rfl (fun K hK => ?_) AllReady.nil
                    go_simp
                    go_wp2_with (go_at_call 30; refine (r_apart_b HAB.out _).mono ?_; rintro e w1 ⟨rfl, C1⟩; have HC1 : Hid (Chg (fun _ => False) wx w1) := ⟨C1.os, C1.tape, C1.output, C1.size, C1.block⟩; clear C1)
                    refine wpAny_take (i := 6) (v := ?_) rfl (by kernel_rfl) (by kernel_rfl) (by kernel_rfl) (fun _ _ _ h => h) (Or.inl ⟨by kernel_rfl, ?_⟩) ?_
                    rotate_left
                    · intro w
                      go_simp
                      try with_reducible rfl
                    refine wpAny_done (by kernel_rfl) ?_ _
                    go_simp
                    go_wp2_with fail
                    go_meet
                    exact ⟨by simp, HC1⟩
                  refine AllReady.cons rfl (fun K hK => ?_) AllReady.nil
                  · go_simp
                    refine hK _ _ ?_
                    clear hK K
                    refine wpAny_ready (rs := [3]) (by kernel_rfl) (by simp) ?_
                    refine AllReady.cons rfl (fun K hK => ?_) AllReady.nil
                    go_simp
                    refine hK _ _ ?_
                    clear hK K
                    refine wpAny_ready (rs := [5]) (by kernel_rfl) (by simp) ?_
                    refine AllReady.cons rfl (fun K hK => ?_) AllReady.nil
                    go_simp
                    go_wp2_with (go_at_call 30; refine (r_apart_b HAB.out _).mono ?_; rintro e w1 ⟨rfl, C1⟩; have HC1 : Hid (Chg (fun _ => False) wx w1) := ⟨C1.os, C1.tape, C1.output, C1.size, C1.block⟩; clear C1)
                    refine wpAny_take (i := 6) (v := ?_) rfl (by kernel_rfl) (by kernel_rfl) (by kernel_rfl) (fun _ _ _ h => h) (Or.inl ⟨by kernel_rfl, ?_⟩) ?_
                    rotate_left
                    · intro w
                      go_simp
                      try with_reducible rfl
                    refine wpAny_done (by kernel_rfl) ?_ _
                    go_simp
                    go_wp2_with fail
                    go_meet
                    exact ⟨by simp, HC1⟩
                case rest =>
                  obtain ⟨wz, hwz⟩ : ∃ wz, wz = wc := ⟨_, rfl⟩
                  rw [← hwz] at hcut ⊢
                  clear hwz
                  obtain ⟨rfl, HC⟩ := hcut
                  have HCW : Hid (Chg (fun _ => False) W wz) := (HQ.out.trans HJ.out.chg (H := fun _ => False) (fun _ _ x => x) (fun _ _ x => x)).trans HC.out (fun _ _ x => x) (fun _ _ x => x)
                  clear d0 d1 d2 d3 k0 k1 k2 k3
                  cases ab with
                  | false =>
                    go_wp2_with fail
                    go_ret
                    refine ⟨50, by simp, .inr ⟨HNOT.out (fun o => ?_), rfl⟩, HCW.out⟩
                    have e1 := apartB_iff.2 (o.apart j t hjk HT.out hth)
                    rw [HAB.out] at e1
                    simp at e1
                  | true =>
                    go_wp2_with fail
                    go_roundw
                    case rel =>
                      refine ⟨j + 1, by omega, ?_, by first | rfl | go_num, keepH ((HJ.out.apartN HT.out hth (apartB_iff.1 HAB.out)).quiet HC.out)⟩
                      rw [cntN_no HT.out hth, ← HCN.out]
                    case measure => simp [intOf]; omega
            · obtain rfl : j = k := by omega
              have t2 : ¬ (j : Int) < (j : Int) := by omega
              obtain ⟨k0, k1, k2, k3⟩ := (HB.out.chg HJ.out.chg (fun x => x)).cells
              have HCW : Hid (Chg (fun _ => False) W wx) := HQ.out.trans HJ.out.chg (fun _ _ x => x) (fun _ _ x => x)
              by_cases hix : s.ix = (cn : Int)
              · go_wp2_with fail
                go_roundw
                case rel =>
                  exact ⟨j + 1, by omega, by first | rfl | go_num, keepH ⟨HR.out.succ HX.out ⟨HGD.out.1, HGD.out.2, by rw [hix, HCN.out], HJ.out.same, HJ.out.apart⟩, HCW.out⟩⟩
                case measure => simp [intOf]; omega
              · go_wp2_with fail
                go_ret
                refine ⟨50, by simp, .inr ⟨HNOT.out (fun o => hix ?_), rfl⟩, HCW.out⟩
                rw [HCN.out]
                exact o.ix
    · obtain rfl : k = l.length := by omega
      have t1 : ¬ (l.length : Int) < (l.length : Int) := by omega
      go_wp2_with fail
      go_ret
      exact ⟨0, by simp, .inl ⟨HK.out.1, rfl⟩, HK.out.2⟩
end Go.Proofs.YtfohpbpekdcneaaDoor
