/- TopAdds, walked. -/
import Derived.Test.YtmckdefijcnhcacSAddQ
import Derived.Test.YtmckdefijcnhcacALive
import Derived.WalkKit
import Derived.BigQuiet
namespace Go.Proofs.Ytmckdefijcnhcac
open Go.RowKit Go.Shelf
set_option linter.unusedVariables false

theorem adds_first {w W1 W3 : World} {F3 : Nat → Prop} {vs : Value} {b : Nat} (M1 : IsMem W1 (w.heap.size + 1) w.heap.size) (C1 : Chg (fun _ => False) w W1) (S1 : W1.heap.size = w.heap.size + 2) (ob1 ob2 : Obj)
    (G3 : GoesV ((W1.alloc ob1).alloc ob2) W3 (fun k => k = w.heap.size) F3 W1.heap.size) : IsMem W3 (w.heap.size + 1) w.heap.size ∧ Chg (fun _ => False) w W3 ∧ (∀ k, F3 k → w.heap.size ≤ k) ∧ ¬ F3 (w.heap.size + 1) := by
  have c2 : Chg (fun _ => False) W1 ((W1.alloc ob1).alloc ob2) := ((Chg.refl _ _).alloc _).alloc _
  have z : ((W1.alloc ob1).alloc ob2).heap.size = W1.heap.size + 1 + 1 := by simp
  have c3 := c2.trans G3.chg (H := fun k => k = w.heap.size ∨ k = W1.heap.size) (fun _ _ x => x.elim) (fun _ _ x => x)
  refine ⟨M1.chg c3 (fun e => by omega), C1.trans c3 (fun _ _ x => x) (fun i hi e => by omega), fun k e => ?_, fun e => ?_⟩
  · rcases G3.new k e with e | e <;> omega
  · rcases G3.new _ e with e | e <;> omega

set_option maxRecDepth 100000 in
set_option maxHeartbeats 8000000 in
theorem topAdds_walk (pt pp : Option Addr) (ct cp : Nat) (times picks : List Int) (w : World) (hT : IReads w pt times) (hP : IReads w pp picks) (hn0 : times.length ≤ 1048576) (hn1 : picks.length ≤ 1048576) :
    Calls Try.prog 5 #[.slice pt times.length ct, .slice pp picks.length cp] w fun e w' => e = .returned (.bool true) ∧ Chg (fun _ => False) w w' := by
  obtain ⟨i0, hi, hz0, hz1, hz2⟩ := info_parts infoPs
  have HT := keepH hT
  have HP := keepH hP
  clear hT hP
  go_enter Try.func5, Try.ntmps5
  go_wp2_with fail
  refine (m_new 128 w (by omega)).mono ?_
  rintro e W1 ⟨rfl, M1, B1, C1, S1⟩
  have HM1 := keepH M1
  have HB1 := keepH B1
  have HS1 := keepH S1
  have HC1 := keepH C1
  clear M1 B1 S1 C1
  go_wp2_with fail
  refine (m_view _ w.heap.size (-1) _ HM1.out).mono ?_
  rintro e w' ⟨rfl, rfl⟩
  go_wp2_with fail
  refine (v_alloc W1.heap.size w.heap.size 128 1 0 (-1) (some ⟨W1.heap.size + 1, 0, none⟩) 2 [7, 0] (fun k => k = w.heap.size) [] [] _ ?_ ?_ ?_ (by omega) (by simp) ?_ ?_ ?_ ?_ (by simp)).mono ?_
  · exact (heap_alloc_new _ _ : (W1.alloc _).heap[W1.heap.size]? = _) |> fun h => (Below.heap_alloc _ _ _ (by simp)).trans h
  · exact HB1.out.chg (((Chg.refl (fun _ => False) _).alloc _).alloc _) (fun _ _ h => h)
  · have := HS1.out
    show ¬ _ = _
    omega
  · exact reads_new _ [7, 0] _ (by simp)
  · rintro ad ⟨⟩
    have := HS1.out
    show ¬ _ = _
    simp only
    omega
  · rintro ad ⟨⟩
    show _ ≠ _
    simp only
    omega
  · intro x hx
    simp at hx
    omega
  rintro e W3 ⟨rfl, F3, vs3, B3, V3, G3⟩
  obtain ⟨M3, C3, L3, N3⟩ := adds_first (b := 0) (vs := vs3) HM1.out HC1.out HS1.out _ _ G3
  have HM3 := keepH M3
  have HC3 := keepH C3
  have HL3 := keepH L3
  have HN3 := keepH N3
  obtain ⟨cs, hcs⟩ : ∃ cs, cs = alN 128 1 [] [7, 0] := ⟨_, rfl⟩
  obtain ⟨y, hy⟩ : ∃ y : Acc, y = ⟨-1, 5, alAt 128 1 2, 0, 0, vs3, [7, 0], 0, false⟩ := ⟨_, rfl⟩
  have HB3 : Hid (Bank W3 F3 w.heap.size 128 3 cs [y]) := by rw [hcs, hy]; exact B3
  have c7 : Hid (cellN cs 1 = 7) := by rw [hcs]; rfl
  have c2 : Hid (cellN cs 2 = 0) := by rw [hcs]; rfl
  have y5 : Hid (y.kind = 5) := by rw [hy]; rfl
  have yv : Hid (y.vals.length ≤ 2) := by rw [hy]; simp [Hid]
  have ea : (alAt 128 1 [7, 0].length : Int) = 1 := by rfl
  rw [ea]
  clear M3 C3 L3 N3 B3 V3 G3 hcs hy HM1 HB1 HS1 HC1 ea
  go_wp2_with fail
  go_loopw [8, 9] (fun tv sv wr => ∃ (n : Nat) (ps sl lf : Nat → Nat), n ≤ times.length ∧ n ≤ 64 ∧ sv = .int .i64 (n : Int) ∧ Hid (ABuild W3 wr tv n ps sl lf)) (fun _ sv _ => 64 - (intOf sv).toNat)
  case atStart => exact ⟨0, _, _, _, by omega, by omega, rfl, ABuild.start W3⟩
  case round =>
    obtain ⟨n, ps, sl, lf, hnt, hn64, rfl, HB⟩ := hrel
    obtain ⟨p8, c8, hv8⟩ := slice_of HB.out.row
    subst hv8
    by_cases hlt : n < times.length ∧ n < 64
    · have t1 : (n : Int) < (times.length : Int) := by omega
      have t2 : (n : Int) < 64 := by omega
      obtain ⟨x, hx⟩ : ∃ x, times[n]? = some x := ⟨times[n], List.getElem?_eq_getElem hlt.1⟩
      obtain ⟨bk, off, rfl, _, cx⟩ := ((HT.out.chg HC3.out).chg HB.out.chg).get n x hx
      have hm : n + 1 ≤ maxLen := by unfold maxLen; omega
      have hby : (n + 1) * 24 ≤ 140737488355328 := by omega
      clear hx
      go_wp2_with fail
      refine (s_which x _).mono ?_
      rintro e w' ⟨k, hk, rfl, rfl⟩
      have wk : IntKind.i64.wrap ((k : Int) + 1) = ((k + 1 : Nat) : Int) := by rw [IntKind.wrap_i64]; omega
      obtain ⟨g, hg⟩ : ∃ g, g = w'.heap.size := ⟨_, rfl⟩
      have HG := keepH hg
      go_wp2_with (at_builtin; refine wpList_append_own_at _ rfl _ _ 67 rfl 0 72 i0 (.slice none 0 0) 1 24 Try.underlying67 hi hz0 hz1 hz2 rfl (by decide) (.slice p8 n c8) n _ rfl (((HB.out.row.alloc _).alloc _).alloc _) ⟨w'.heap.size + 1 + 1, 0, none⟩ 1 1 [.slice (some ⟨w'.heap.size + 1, 0, none⟩) 1 1] rfl rfl (fun j u hj => cells_new _ _ (by simp) _ _ j u (by simpa using hj)) (by simp [Value.oneCell']) hm hby (Nat.zero_le _) ?_; intro v' w1 r1 r2 r3 r4; obtain ⟨g', c', rfl⟩ := slice_pos r1 (Nat.succ_pos _); have R1 := keepH r1; have R2 := keepH r2; have R4 := keepH r4; clear r1 r2 r3 r4)
      refine ⟨⟨n + 1, _, _, _, by omega, by omega, by simp, HB.out.more (g := w'.heap.size) rfl hk R1.out R2.out (fun j e => ?_)⟩, by simp [intOf]; omega⟩
      rcases R4.out with e2 | e2
      · rw [e2] at e
        exact .inl e
      · rw [e2] at e
        simp at e
        exact .inr (by omega)
    · have ht : (¬ (n : Int) < (times.length : Int)) ∨ ((n : Int) < (times.length : Int) ∧ ¬ (n : Int) < 64) := by omega
      have HMn := keepH (HM3.out.chg HB.out.chg (fun h => h))
      rcases ht with t1 | ⟨t1, t2⟩
      all_goals go_wp2_with fail
      all_goals
        refine (s_new (w.heap.size + 1) w.heap.size _ (adL ps sl n) wr HMn.out HB.out.lists (adL_ok _ _ _ hn64)).mono ?_
        rintro e W4 ⟨r, G, tv, ths, vbs, rfl, MD, hl⟩
        rw [adL_length] at MD hl
        have AR := keepH (ar_start picks HC3.out HM3.out HB3.out HL3.out (by omega) HN3.out HB.out MD hl c7.out c2.out y5.out yv.out)
        clear MD hl t1 hlt HMn
        clear HB HM3 HB3 HL3 HN3 c7 c2 y5 yv
        go_wp2_with fail
        refine (ar_run pp cp AR.out HP.out hn1).mono ?_
        rintro e W5 ⟨rfl, A5⟩
        obtain ⟨G5, K5, vw5, tv5, ev5, av5, ths5, evs5, ats5, s5, h5⟩ := A5
        have HA5 := keepH h5
        clear h5 AR
        go_wp2_with fail
        obtain ⟨F5, S5, hK5⟩ := HA5.out.aa
        have hlk : s5.l.length ≤ picks.length + 1 := HA5.out.pure.lk
        have hl0 : 0 < s5.l.length := HA5.out.pure.l0
        refine (m_trace _ _ 128 3 F5 s5.cs s5.l W5 S5.mem S5.bank (by omega) (fun x hx => by have := HA5.out.pure.vl x hx; omega)).mono ?_
        rintro e W6 ⟨p6, c6, lk, rfl, T6⟩
        have HT6 := keepH T6
        have HR6 := keepH (HA5.out.run.chg T6.chg (fun _ _ h => h))
        have HM6 := keepH (S5.mem.chg T6.chg (fun h => h))
        have HB6 := keepH (S5.bank.chg T6.chg (fun _ _ h => h))
        clear T6 S5
        go_wp2_with fail
        refine (r_at _ HR6.out HM6.out HB6.out (by have := HA5.out.pure.al; omega) (by omega)).mono ?_
        rintro e W7 ⟨p7, c7, rfl, R7, C7, B7⟩
        have hAl : (extN ats5 s5.l.length (-1)).length = s5.l.length := by rw [extN_length]; have := HA5.out.pure.al; omega
        rw [hAl] at R7 ⊢
        obtain ⟨g6, d6, hs6⟩ := slice_pos HT6.out.row hl0
        simp only [Value.slice.injEq, true_and] at hs6
        obtain ⟨rfl, rfl⟩ := hs6
        obtain ⟨g7, d7, hs7⟩ := slice_pos R7 hl0
        simp only [Value.slice.injEq, true_and] at hs7
        obtain ⟨rfl, rfl⟩ := hs7
        have E7 := keepH (HA5.out.ends HT6.out R7 C7 HP.out)
        have HR7 := keepH (HR6.out.chg C7 (fun _ _ h => h))
        have HM7 := keepH (HM6.out.chg C7 (fun h => h))
        have HB7 := keepH (HB6.out.chg C7 (fun _ _ h => h))
        have HC7 := keepH ((HA5.out.chg.trans HT6.out.chg (H := fun _ => False) (fun _ _ x => x) (fun _ _ x => x)).trans C7 (H := fun _ => False) (fun _ _ x => x) (fun _ _ x => x))
        have k7 := keepH HA5.out.pure.c7
        have k2 := keepH HA5.out.pure.c2
        obtain ⟨A, hA⟩ : ∃ A, A = extN ats5 s5.l.length (-1) := ⟨_, rfl⟩
        rw [← hA] at E7
        obtain ⟨l, hll⟩ : ∃ l, l = s5.l := ⟨_, rfl⟩
        rw [← hll] at E7 HB7 k2 hlk hl0 ⊢
        clear R7 C7 B7 hAl hA hll HT6 HR6 HM6 HB6 HA5 hK5
        have hle := adds_le l
        go_wp2_with fail
        go_loopw [13, 14] (fun av sv wr => ∃ j : Nat, j ≤ l.length ∧ av = .int .u64 ((adds (l.take j) : Nat) : Int) ∧ sv = .int .i64 (j : Int) ∧ Hid (Chg (fun _ => False) W7 wr)) (fun _ sv _ => l.length - (intOf sv).toNat)
        case atStart => exact ⟨0, by omega, by simp [adds], rfl, Chg.refl _ _⟩
        case round =>
          obtain ⟨j, hj, rfl, rfl, HX⟩ := hrel
          have hat := adds_le (l.take j)
          have hat2 : (l.take j).length ≤ l.length := by simp; omega
          by_cases hjl : j < l.length
          · have t1 : (j : Int) < (l.length : Int) := by omega
            obtain ⟨x, hx⟩ : ∃ x, l[j]? = some x := ⟨l[j], List.getElem?_eq_getElem hjl⟩
            have hxa := adds_take l j x hx
            have EX := keepH (E7.out.chg HX.out)
            have cK := EX.out.kind j x hx
            have cT := EX.out.thr j x hx
            obtain ⟨cn, hcn⟩ : ∃ cn : Nat, cn = adds (l.take j) := ⟨_, rfl⟩
            rw [← hcn] at hat hxa ⊢
            clear hcn
            by_cases hk4 : x.kind = 4
            · have hk4' : (x.kind : Int) = 4 := by omega
              rw [if_pos hk4] at hxa
              go_upto_region 21 with fail
              by_cases hj0 : j = 0
              · have d1 : decide ((0 : Int) < (j : Int)) = false := decide_eq_false (by omega)
                have d1n : decide (0 < j) = false := decide_eq_false (by omega)
                clear hj0
                clear cT
                go_quiet (fail)
                go_wp2_with fail
                refine ⟨⟨j + 1, by omega, by rw [hxa]; simp, by simp, HX.out.trans (Goes.drewN wr (fun _ => False) _).chg (H := fun _ => False) (fun _ _ x => x) (fun _ _ x => x)⟩, by simp [intOf]; omega⟩
              · obtain ⟨a, x', bk, off, rfl, hA1, han, hx', cP⟩ := EX.out.st j (by omega) hjl
                obtain rfl : x = x' := by rw [hx] at hx'; exact Option.some.inj hx'
                have cA := EX.out.at' j _ hA1
                have d1 : decide ((0 : Int) < (j : Int)) = true := decide_eq_true (by omega)
                have d1n : decide (0 < j) = true := decide_eq_true (by omega)
                have d2 : decide ((a : Int) < 0) = false := decide_eq_false (by omega)
                have d3 : decide ((picks.length : Int) ≤ (a : Int)) = false := decide_eq_false (by omega)
                have d3n : decide (picks.length ≤ a) = false := decide_eq_false (by omega)
                have d4 : (x.th != x.th) = false := by simp
                by_cases hj1 : j = 1
                · have d5 : decide ((1 : Int) < (j : Int)) = false := decide_eq_false (by omega)
                  have d5n : decide (1 < j) = false := decide_eq_false (by omega)
                  clear hj1
                  clear hA1 hx' hx
                  go_quiet (fail)
                  go_wp2_with fail
                  refine ⟨⟨j + 1, by omega, by rw [hxa]; simp, by simp, HX.out.trans (Goes.drewN wr (fun _ => False) _).chg (H := fun _ => False) (fun _ _ x => x) (fun _ _ x => x)⟩, by simp [intOf]; omega⟩
                · have d5 : decide ((1 : Int) < (j : Int)) = true := decide_eq_true (by omega)
                  have d5n : decide (1 < j) = true := decide_eq_true (by omega)
                  obtain ⟨a0, hA0⟩ : ∃ a0 : Nat, A[j - 1]? = some (a0 : Int) := by obtain ⟨a0, _, _, _, _, h, _⟩ := EX.out.st (j - 1) (by omega) (by omega); exact ⟨a0, h⟩
                  have cA0 := EX.out.at' (j - 1) _ hA0
                  have hup := EX.out.up j _ _ (by omega) hA0 hA1
                  have d6 : decide ((a : Int) ≤ (a0 : Int)) = false := decide_eq_false (by omega)
                  have d6n : decide (a ≤ a0) = false := decide_eq_false (by omega)
                  obtain ⟨jp, hjp⟩ : ∃ jp, jp = j - 1 := ⟨_, rfl⟩
                  have wj : IntKind.i64.wrap ((j : Int) - 1) = (jp : Int) := by rw [IntKind.wrap_i64]; omega
                  have hjm : (j : Int) - 1 = (jp : Int) := by omega
                  have hjb : (jp : Int) < (l.length : Int) := by omega
                  rw [← hjp] at cA0
                  clear hjp wj
                  clear hA1 hA0 hx' hx hup
                  go_quiet (fail)
                  go_wp2_with fail
                  refine ⟨⟨j + 1, by omega, by rw [hxa]; simp, by simp, HX.out.trans (Goes.drewN wr (fun _ => False) _).chg (H := fun _ => False) (fun _ _ x => x) (fun _ _ x => x)⟩, by simp [intOf]; omega⟩
            · have hk4' : ¬ (x.kind : Int) = 4 := by omega
              rw [if_neg hk4] at hxa
              go_upto_region 21 with fail
              by_cases hj0 : j = 0
              · have d1 : decide ((0 : Int) < (j : Int)) = false := decide_eq_false (by omega)
                have d1n : decide (0 < j) = false := decide_eq_false (by omega)
                clear hj0
                clear cT
                go_quiet (fail)
                go_wp2_with fail
                refine ⟨⟨j + 1, by omega, by rw [hxa]; simp, by simp, HX.out.trans (Goes.drewN wr (fun _ => False) _).chg (H := fun _ => False) (fun _ _ x => x) (fun _ _ x => x)⟩, by simp [intOf]; omega⟩
              · obtain ⟨a, x', bk, off, rfl, hA1, han, hx', cP⟩ := EX.out.st j (by omega) hjl
                obtain rfl : x = x' := by rw [hx] at hx'; exact Option.some.inj hx'
                have cA := EX.out.at' j _ hA1
                have d1 : decide ((0 : Int) < (j : Int)) = true := decide_eq_true (by omega)
                have d1n : decide (0 < j) = true := decide_eq_true (by omega)
                have d2 : decide ((a : Int) < 0) = false := decide_eq_false (by omega)
                have d3 : decide ((picks.length : Int) ≤ (a : Int)) = false := decide_eq_false (by omega)
                have d3n : decide (picks.length ≤ a) = false := decide_eq_false (by omega)
                have d4 : (x.th != x.th) = false := by simp
                by_cases hj1 : j = 1
                · have d5 : decide ((1 : Int) < (j : Int)) = false := decide_eq_false (by omega)
                  have d5n : decide (1 < j) = false := decide_eq_false (by omega)
                  clear hj1
                  clear hA1 hx' hx
                  go_quiet (fail)
                  go_wp2_with fail
                  refine ⟨⟨j + 1, by omega, by rw [hxa]; simp, by simp, HX.out.trans (Goes.drewN wr (fun _ => False) _).chg (H := fun _ => False) (fun _ _ x => x) (fun _ _ x => x)⟩, by simp [intOf]; omega⟩
                · have d5 : decide ((1 : Int) < (j : Int)) = true := decide_eq_true (by omega)
                  have d5n : decide (1 < j) = true := decide_eq_true (by omega)
                  obtain ⟨a0, hA0⟩ : ∃ a0 : Nat, A[j - 1]? = some (a0 : Int) := by obtain ⟨a0, _, _, _, _, h, _⟩ := EX.out.st (j - 1) (by omega) (by omega); exact ⟨a0, h⟩
                  have cA0 := EX.out.at' (j - 1) _ hA0
                  have hup := EX.out.up j _ _ (by omega) hA0 hA1
                  have d6 : decide ((a : Int) ≤ (a0 : Int)) = false := decide_eq_false (by omega)
                  have d6n : decide (a ≤ a0) = false := decide_eq_false (by omega)
                  obtain ⟨jp, hjp⟩ : ∃ jp, jp = j - 1 := ⟨_, rfl⟩
                  have wj : IntKind.i64.wrap ((j : Int) - 1) = (jp : Int) := by rw [IntKind.wrap_i64]; omega
                  have hjm : (j : Int) - 1 = (jp : Int) := by omega
                  have hjb : (jp : Int) < (l.length : Int) := by omega
                  rw [← hjp] at cA0
                  clear hjp wj
                  clear hA1 hA0 hx' hx hup
                  go_quiet (fail)
                  go_wp2_with fail
                  refine ⟨⟨j + 1, by omega, by rw [hxa]; simp, by simp, HX.out.trans (Goes.drewN wr (fun _ => False) _).chg (H := fun _ => False) (fun _ _ x => x) (fun _ _ x => x)⟩, by simp [intOf]; omega⟩
          · have t1 : ¬ (j : Int) < (l.length : Int) := by omega
            obtain rfl : j = l.length := by omega
            rw [List.take_length] at hat ⊢
            go_wp2_with fail
            have HRx := keepH (HR7.out.chg HX.out (fun _ _ h => h))
            have HMx := keepH (HM7.out.chg HX.out (fun h => h))
            have HBx := keepH (HB7.out.chg HX.out (fun _ _ h => h))
            refine (m_peek _ _ 128 3 2 F5 s5.cs l _ HMx.out HBx.out (by omega)).mono ?_
            rintro e w' ⟨rfl, hw'⟩
            subst hw'
            rw [k2.out]
            go_wp2_with fail
            refine (m_peek _ _ 128 3 1 F5 s5.cs l _ HMx.out HBx.out (by omega)).mono ?_
            rintro e w' ⟨rfl, hw'⟩
            subst hw'
            rw [k7.out]
            go_wp2_with fail
            refine (r_steps _ HRx.out).mono ?_
            rintro e w' ⟨rfl, hw'⟩
            subst hw'
            go_wp2_with fail
            refine (m_made _ _ 128 3 F5 s5.cs l _ HMx.out HBx.out).mono ?_
            rintro e w' ⟨rfl, hw'⟩
            subst hw'
            go_wp2_with fail
            go_ret
            exact ⟨by simp, HC7.out.trans HX.out (H := fun _ => False) (fun _ _ x => x) (fun _ _ x => x)⟩
end Go.Proofs.Ytmckdefijcnhcac
