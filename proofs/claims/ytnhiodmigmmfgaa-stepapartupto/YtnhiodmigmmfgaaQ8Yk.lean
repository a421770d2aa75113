/- Runs of plans' procs: Run, a turn, Finish. -/
import Derived.Test.YtnhiodmigmmfgaaQ7SAsk
import Derived.BigQuiet
import Derived.Deep.Cut
import Derived.Deep.CutBlock
import Derived.Deep.DeepCutAuto
import Derived.Test.YtnhiodmigmmfgaaQ2SRun
import Derived.Test.YtnhiodmigmmfgaaQ4Ya
namespace Go.Proofs.Ytnhiodmigmmfgaa
open Go.RowKit Go.Shelf
set_option linter.unusedVariables false

section
variable {P : Type} {Lo : Nat} {W0 : World}
/-- A turn, so far: where it has come to, and how many picks it made. -/
def tst (κ : KindL P Lo W0) (most T : Nat) (cl : Nat → Nat) (lim : Nat) (s : Cfg P × Nat) (j : Nat) : Cfg P × Nat := if s.2 < lim ∧ Cfg.can T cl s.1 (j : Int) then (s.1.pick κ most T cl (j : Int), s.2 + 1) else s
def turnR (κ : KindL P Lo W0) (most T : Nat) (cl : Nat → Nat) (lim : Nat) (c : Cfg P) (j : Nat) : Cfg P × Nat := (List.range j).foldl (tst κ most T cl lim) (c, 0)
theorem turnR_zero (κ : KindL P Lo W0) (most T : Nat) (cl : Nat → Nat) (lim : Nat) (c : Cfg P) : turnR κ most T cl lim c 0 = (c, 0) := rfl
theorem turnR_succ (κ : KindL P Lo W0) (most T : Nat) (cl : Nat → Nat) (lim : Nat) (c : Cfg P) (j : Nat) : turnR κ most T cl lim c (j + 1) = tst κ most T cl lim (turnR κ most T cl lim c j) j := by
  unfold turnR
  rw [List.range_succ, List.foldl_append]
  rfl
theorem turnR_le (κ : KindL P Lo W0) (most T : Nat) (cl : Nat → Nat) (lim : Nat) (c : Cfg P) : ∀ j, (turnR κ most T cl lim c j).2 ≤ lim ∧ (turnR κ most T cl lim c j).2 ≤ j := by
  intro j
  induction j with
  | zero => rw [turnR_zero]; simp
  | succ j ih =>
    rw [turnR_succ]
    unfold tst
    split
    · rename_i h; simp only; omega
    · omega
def doneP (T : Nat) (cl : Nat → Nat) (c : Cfg P) : Prop := ∀ j, j < T → cl j ≤ c.ix j
instance (T : Nat) (cl : Nat → Nat) (c : Cfg P) : Decidable (doneP T cl c) := by unfold doneP; exact inferInstance
/-- A turn of one who is not done makes a pick. -/
theorem turnR_pos (κ : KindL P Lo W0) (most T : Nat) (cl : Nat → Nat) (lim : Nat) (c : Cfg P) (hl : 0 < lim) (hd : ¬ doneP T cl c) : 0 < (turnR κ most T cl lim c T).2 := by
  have key : ∀ j, j ≤ T → (turnR κ most T cl lim c j).2 = 0 → (turnR κ most T cl lim c j).1 = c ∧ ∀ i, i < j → cl i ≤ c.ix i := by
    intro j
    induction j with
    | zero => intro _ _; exact ⟨rfl, fun i hi => by omega⟩
    | succ j ih =>
      intro hj h0
      rw [turnR_succ] at h0 ⊢
      unfold tst at h0 ⊢
      by_cases hc : (turnR κ most T cl lim c j).2 < lim ∧ Cfg.can T cl (turnR κ most T cl lim c j).1 (j : Int)
      · rw [if_pos hc] at h0; simp at h0
      · rw [if_neg hc] at h0 ⊢
        obtain ⟨e1, e2⟩ := ih (by omega) h0
        refine ⟨e1, fun i hi => ?_⟩
        by_cases e : i = j
        · subst e
          rw [e1, h0] at hc
          apply Nat.le_of_not_lt
          intro hlt
          exact hc ⟨hl, by omega, by omega, by simpa using hlt⟩
        · exact e2 i (by omega)
  apply Nat.pos_of_ne_zero
  intro h0
  exact hd (key T (Nat.le_refl _) h0).2
def finR (κ : KindL P Lo W0) (most T : Nat) (cl : Nat → Nat) : Nat → Nat → Cfg P → Cfg P
  | 0, _, c => c
  | n + 1, lim, c => if 0 < lim ∧ ¬ doneP T cl c then finR κ most T cl n (lim - (turnR κ most T cl lim c T).2) (turnR κ most T cl lim c T).1 else c
theorem finR_stop (κ : KindL P Lo W0) (most T : Nat) (cl : Nat → Nat) (n lim : Nat) (c : Cfg P) (h : ¬ (0 < lim ∧ ¬ doneP T cl c)) : finR κ most T cl n lim c = c := by
  cases n with
  | zero => rfl
  | succ n => simp only [finR]; rw [if_neg h]
theorem finR_more (κ : KindL P Lo W0) (most T : Nat) (cl : Nat → Nat) : ∀ (n lim : Nat) (c : Cfg P), lim ≤ n → finR κ most T cl (n + 1) lim c = finR κ most T cl n lim c := by
  intro n
  induction n with
  | zero =>
    intro lim c h
    rw [finR_stop _ _ _ _ _ _ _ (fun e => by omega), finR_stop _ _ _ _ _ _ _ (fun e => by omega)]
  | succ n ih =>
    intro lim c h
    by_cases hc : 0 < lim ∧ ¬ doneP T cl c
    · have e1 : finR κ most T cl (n + 1 + 1) lim c = finR κ most T cl (n + 1) (lim - (turnR κ most T cl lim c T).2) (turnR κ most T cl lim c T).1 := by
        rw [finR, if_pos hc]
      have e2 : finR κ most T cl (n + 1) lim c = finR κ most T cl n (lim - (turnR κ most T cl lim c T).2) (turnR κ most T cl lim c T).1 := by
        rw [finR, if_pos hc]
      rw [e1, e2]
      have := turnR_pos κ most T cl lim c hc.1 hc.2
      exact ih _ _ (by omega)
    · rw [finR_stop _ _ _ _ _ _ _ hc, finR_stop _ _ _ _ _ _ _ hc]
theorem finR_any (κ : KindL P Lo W0) (most T : Nat) (cl : Nat → Nat) (n lim : Nat) (c : Cfg P) (h : lim ≤ n) : finR κ most T cl n lim c = finR κ most T cl lim lim c := by
  induction n with
  | zero =>
    have : lim = 0 := by omega
    subst this; rfl
  | succ n ih =>
    by_cases e : lim = n + 1
    · subst e; rfl
    · rw [finR_more _ _ _ _ n lim c (by omega)]; exact ih (by omega)
/-- A turn leads on. -/
theorem finR_turn (κ : KindL P Lo W0) (most T : Nat) (cl : Nat → Nat) (lim : Nat) (c : Cfg P) (hl : 0 < lim) (hd : ¬ doneP T cl c) : finR κ most T cl lim lim c = finR κ most T cl (lim - (turnR κ most T cl lim c T).2) (lim - (turnR κ most T cl lim c T).2) (turnR κ most T cl lim c T).1 := by
  have hp := turnR_pos κ most T cl lim c hl hd
  have hle := (turnR_le κ most T cl lim c T).1
  obtain ⟨n, rfl⟩ : ∃ n, lim = n + 1 := ⟨lim - 1, by omega⟩
  conv => lhs; rw [finR, if_pos ⟨hl, hd⟩]
  exact finR_any _ _ _ _ _ _ _ (by omega)
end
section
variable {P : Type} {Lo : Nat} {W0 : World} {κ : KindL P Lo W0} {most m b T : Nat} {cl : Nat → Nat} {vb : Nat → Nat} {pv : Nat → Nat → Value} {c : Cfg P} {W Z X : World} {S : Nat → Prop} {r : Nat}
theorem GR.quiet {Y : World} (h : GR κ most m b T cl vb pv c W Z X S r) (q : Chg (fun _ => False) X Y) : GR κ most m b T cl vb pv c W Z Y S r := by
  obtain ⟨G, K, vw, tv, ev, av, ths, h⟩ := h
  exact ⟨G, K, vw, tv, ev, av, ths, h.run.kept q.size (fun k e => q.block k (h.run.lt k e) (fun x => x)), h.ma.keep q.size (fun k e => q.block k (h.ma.ltK k e) (fun x => x)), h.apart, h.len, h.thr, h.vws, h.evl, h.inW, h.lo, h.chg.trans q (fun _ _ x => x) (fun _ _ x => x), Nat.le_trans h.zs q.size, fun j hj => ⟨Nat.lt_of_lt_of_le (h.keep j hj).1 q.size, (q.block j (h.keep j hj).1 (fun x => x)).trans (h.keep j hj).2.1, (h.keep j hj).2.2⟩⟩
theorem GRAt.done {G K : Nat → Prop} {vw : List Value} {tv ev av : Value} {ths : List Thr} (h : GRAt κ most m b T cl vb pv c W Z X S G K r vw tv ev av ths) : allDone ths = decide (doneP T cl c) := by
  by_cases hd : doneP T cl c
  · rw [decide_eq_true hd, allDone, List.all_eq_true]
    intro x hx
    obtain ⟨j, hj⟩ := List.getElem?_of_mem hx
    have hjl := (List.getElem?_eq_some_iff.1 hj).1
    obtain ⟨h1, _, h2, _⟩ := h.thr j x hj
    rw [h1, h2, decide_eq_true_eq]
    exact hd j (by have := h.len; omega)
  · rw [decide_eq_false hd, allDone, List.all_eq_false]
    obtain ⟨j, hj, hlt⟩ : ∃ j, j < T ∧ ¬ cl j ≤ c.ix j := by
      apply Classical.byContradiction
      intro hn
      exact hd (fun j hj => Classical.byContradiction (fun e => hn ⟨j, hj, e⟩))
    have hjl : j < ths.length := by have := h.len; omega
    obtain ⟨h1, _, h2, _⟩ := h.thr j ths[j] (List.getElem?_eq_getElem hjl)
    refine ⟨ths[j], List.getElem_mem hjl, ?_⟩
    rw [h1, h2, decide_eq_true_eq]
    exact hlt
theorem gr_done (h : GR κ most m b T cl vb pv c W Z X S r) : Calls Try.prog 14 #[.pointer (some ⟨r, 0, none⟩)] X fun e Y => e = .returned (.bool (decide (doneP T cl c))) ∧ GR κ most m b T cl vb pv c W Z Y S r := by
  have h0 := h
  obtain ⟨G, K, vw, tv, ev, av, ths, h⟩ := h
  refine (r_done X h.run).mono ?_
  rintro e Y ⟨rfl, q, rfl⟩
  exact ⟨by rw [h.done], h0.quiet (drewN_chgY _ _)⟩
theorem gr_can (h : GR κ most m b T cl vb pv c W Z X S r) (i : Nat) (hi : i < T) : Calls Try.prog 29 #[.pointer (some ⟨r, 0, none⟩), .int .i64 (i : Int)] X fun e Y => e = .returned (.bool (decide (Cfg.can T cl c (i : Int)))) ∧ GR κ most m b T cl vb pv c W Z Y S r := by
  have h0 := h
  obtain ⟨G, K, vw, tv, ev, av, ths, h⟩ := h
  have hlt : i < ths.length := by have := h.len; omega
  obtain ⟨x, hx⟩ : ∃ x, ths[i]? = some x := ⟨ths[i], List.getElem?_eq_getElem hlt⟩
  obtain ⟨g, cc, htv⟩ := slice_pos h.run.tr (by omega)
  have hr := h.run
  rw [htv] at hr
  obtain ⟨h1, _, h2, _⟩ := h.thr i x hx
  refine (s_canStep_in i x X hr hx).mono ?_
  rintro e Y ⟨rfl, q, rfl⟩
  refine ⟨?_, h0.quiet (drewN_chgY _ _)⟩
  congr 2
  rw [h1, h2]
  apply decide_eq_decide.2
  unfold Cfg.can
  simp
  omega
set_option maxRecDepth 100000 in
set_option maxHeartbeats 4000000 in
theorem gr_turn (Inv : Cfg P → Prop) (hb : ∀ c, Inv c → c.st ≤ 16777216) (hp : ∀ c j, Inv c → Cfg.can T cl c j → Inv (c.pick κ most T cl j)) (hI : Inv c) (h : GR κ most m b T cl vb pv c W Z X S r) (lim : Nat) (hlim : lim ≤ 4611686018427387904) :
    Calls Try.prog 24 #[.pointer (some ⟨r, 0, none⟩), .int .i64 (lim : Int)] X fun e X' => e = .returned (.int .i64 ((turnR κ most T cl lim c T).2 : Int)) ∧ GR κ most m b T cl vb pv (turnR κ most T cl lim c T).1 W Z X' S r ∧ Inv (turnR κ most T cl lim c T).1 := by
  have H := keepH h
  have HB := keepH hb
  have HPI := keepH hp
  have HI := keepH hI
  obtain ⟨G, K, vw, tv, ev, av, ths, h⟩ := h
  have c0 : X.cell? ⟨r, 65, none⟩ = some tv := h.run.cellk 0
  have hl := h.len
  have h64 := h.run.thl
  obtain ⟨p, c8, htv⟩ := slice_of h.run.tr
  rw [htv, hl] at c0
  clear h htv hb hp hI
  go_enter Try.func24, Try.ntmps24
  go_wp2_with fail
  go_loopw [5, 12] (fun s5 s12 wr => ∃ j : Nat, j ≤ T ∧ s12 = .int .i64 (j : Int) ∧ ∃ n : Nat, n ≤ j ∧ s5 = .int .i64 (n : Int) ∧ Hid (n = (turnR κ most T cl lim c j).2 ∧ GR κ most m b T cl vb pv (turnR κ most T cl lim c j).1 W Z wr S r ∧ Inv (turnR κ most T cl lim c j).1)) (fun _ s12 _ => T - (intOf s12).toNat)
  case atStart => exact ⟨0, by omega, rfl, 0, by omega, rfl, rfl, H.out, HI.out⟩
  case round =>
    obtain ⟨j, hj, rfl, n, hnj, rfl, HJ⟩ := hrel
    by_cases hjT : j < T
    · have t1 : (j : Int) < (T : Int) := by omega
      obtain ⟨d, hd⟩ : ∃ d, d = turnR κ most T cl lim c j := ⟨_, rfl⟩
      have HD := keepH hd
      have HJ2 : Hid (n = d.2 ∧ GR κ most m b T cl vb pv d.1 W Z wr S r ∧ Inv d.1) := by rw [hd]; exact HJ.out
      clear hd HJ
      by_cases hnl : n < lim
      · have t2 : (n : Int) < (lim : Int) := by omega
        have HC := keepH (gr_can HJ2.out.2.1 j hjT)
        by_cases hcan : Cfg.can T cl d.1 (j : Int)
        · rw [decide_eq_true hcan] at HC
          have HCN := keepH hcan
          clear hcan
          go_wp2_with fail
          refine HC.out.mono ?_
          rintro e w1 ⟨rfl, g1⟩
          have HG1 := keepH g1
          clear g1
          go_wp2_with fail
          refine (gr_pick HG1.out (j : Int) (HB.out _ HJ2.out.2.2)).mono ?_
          rintro e w2 ⟨rfl, g2⟩
          have HG2 := keepH g2
          clear g2
          go_wp2_with fail
          go_roundw
          case rel =>
            have e1 : turnR κ most T cl lim c (j + 1) = (d.1.pick κ most T cl (j : Int), d.2 + 1) := by
              rw [turnR_succ, ← HD.out]
              unfold tst
              rw [if_pos ⟨by have := HJ2.out.1; omega, HCN.out⟩]
            refine ⟨j + 1, by omega, by first | rfl | go_num, n + 1, by omega, by first | rfl | go_num, ?_⟩
            rw [e1]
            exact ⟨by have := HJ2.out.1; omega, HG2.out, HPI.out _ _ HJ2.out.2.2 HCN.out⟩
          case measure => simp [intOf]; omega
        · rw [decide_eq_false hcan] at HC
          have HCN := keepH hcan
          clear hcan
          go_wp2_with fail
          refine HC.out.mono ?_
          rintro e w1 ⟨rfl, g1⟩
          have HG1 := keepH g1
          clear g1
          go_wp2_with fail
          go_roundw
          case rel =>
            have e1 : turnR κ most T cl lim c (j + 1) = d := by
              rw [turnR_succ, ← HD.out]
              unfold tst
              rw [if_neg (fun e => HCN.out e.2)]
            refine ⟨j + 1, by omega, by first | rfl | go_num, n, by omega, rfl, ?_⟩
            rw [e1]
            exact ⟨HJ2.out.1, HG1.out, HJ2.out.2.2⟩
          case measure => simp [intOf]; omega
      · have t2 : ¬ (n : Int) < (lim : Int) := by omega
        go_wp2_with fail
        go_roundw
        case rel =>
          have e1 : turnR κ most T cl lim c (j + 1) = d := by
            rw [turnR_succ, ← HD.out]
            unfold tst
            rw [if_neg (fun e => by have := HJ2.out.1; omega)]
          refine ⟨j + 1, by omega, by first | rfl | go_num, n, by omega, rfl, ?_⟩
          rw [e1]
          exact ⟨HJ2.out.1, HJ2.out.2.1, HJ2.out.2.2⟩
        case measure => simp [intOf]; omega
    · have t1 : ¬ (j : Int) < (T : Int) := by omega
      obtain rfl : j = T := by omega
      go_wp2_with fail
      refine bodyPost_ret (results_tmp rfl _ _ _) rfl ⟨?_, HJ.out.2.1, HJ.out.2.2⟩
      rw [← HJ.out.1]
      rfl
set_option maxRecDepth 100000 in
set_option maxHeartbeats 4000000 in
theorem gr_finish (Inv : Cfg P → Prop) (hb : ∀ c, Inv c → c.st ≤ 16777216) (hp : ∀ c j, Inv c → Cfg.can T cl c j → Inv (c.pick κ most T cl j)) (hI : Inv c) (h : GR κ most m b T cl vb pv c W Z X S r) (lim : Nat) (hlim : lim ≤ 4611686018427387904) :
    Calls Try.prog 7 #[.pointer (some ⟨r, 0, none⟩), .int .i64 (lim : Int)] X fun e X' => e = .returned (.bool (decide (doneP T cl (finR κ most T cl lim lim c)))) ∧ GR κ most m b T cl vb pv (finR κ most T cl lim lim c) W Z X' S r ∧ Inv (finR κ most T cl lim lim c) := by
  have H := keepH h
  have HB := keepH hb
  have HPI := keepH hp
  have HI := keepH hI
  clear h hb hp hI
  go_enter Try.func7, Try.ntmps7
  go_wp2_with fail
  go_loopw [1] (fun s wr => ∃ k : Nat, k ≤ lim ∧ s = .int .i64 (k : Int) ∧ Hid (∃ d, GR κ most m b T cl vb pv d W Z wr S r ∧ Inv d ∧ finR κ most T cl lim lim c = finR κ most T cl k k d)) (fun s _ => (intOf s).toNat)
  case atStart => exact ⟨lim, Nat.le_refl _, rfl, c, H.out, HI.out, rfl⟩
  case round =>
    obtain ⟨k, hk, rfl, HX⟩ := hrel
    obtain ⟨d, g0, i0, e0⟩ := HX.out
    have HG0 := keepH g0
    have HI0 := keepH i0
    have HE0 := keepH e0
    clear g0 i0 e0 HX
    by_cases hk0 : 0 < k
    · have t1 : (0 : Int) < (k : Int) := by omega
      have HDN := keepH (gr_done HG0.out)
      by_cases hd : doneP T cl d
      · rw [decide_eq_true hd] at HDN
        have HDD := keepH hd
        clear hd
        go_wp2_with fail
        refine HDN.out.mono ?_
        rintro e w1 ⟨rfl, g1⟩
        have HG1 := keepH g1
        clear g1
        go_wp2_with fail
        refine (gr_done HG1.out).mono ?_
        rintro e w2 ⟨rfl, g2⟩
        have HG2 := keepH g2
        clear g2
        go_wp2_with fail
        have e1 : finR κ most T cl lim lim c = d := by rw [HE0.out]; exact finR_stop _ _ _ _ _ _ _ (fun e => e.2 HDD.out)
        refine bodyPost_ret (results_tmp rfl _ _ _) rfl ?_
        rw [e1]
        exact ⟨rfl, HG2.out, HI0.out⟩
      · rw [decide_eq_false hd] at HDN
        have HDD := keepH hd
        clear hd
        obtain ⟨n, hn⟩ : ∃ n, n = (turnR κ most T cl k d T).2 := ⟨_, rfl⟩
        have HN := keepH hn
        have hn1 : 0 < n ∧ n ≤ k := by rw [hn]; exact ⟨turnR_pos κ most T cl k d hk0 HDD.out, (turnR_le κ most T cl k d T).1⟩
        have HTN := keepH (fun w (g : GR κ most m b T cl vb pv d W Z w S r) => gr_turn Inv HB.out HPI.out HI0.out g k (by omega))
        rw [← hn] at HTN
        clear hn
        go_wp2_with fail
        refine HDN.out.mono ?_
        rintro e w1 ⟨rfl, g1⟩
        have HG1 := keepH g1
        clear g1
        go_wp2_with fail
        refine (HTN.out _ HG1.out).mono ?_
        rintro e w2 ⟨rfl, g2, i2⟩
        have HG2 := keepH g2
        have HI2 := keepH i2
        clear g2 i2
        go_wp2_with fail
        go_roundw
        case rel =>
          refine ⟨k - n, by omega, by first | rfl | go_num | (congr 1; omega), _, HG2.out, HI2.out, ?_⟩
          rw [HE0.out, finR_turn κ most T cl k d hk0 HDD.out, ← HN.out]
        case measure => simp [intOf]; omega
    · have t1 : ¬ (0 : Int) < (k : Int) := by omega
      go_wp2_with fail
      refine (gr_done HG0.out).mono ?_
      rintro e w2 ⟨rfl, g2⟩
      have HG2 := keepH g2
      clear g2
      go_wp2_with fail
      have e1 : finR κ most T cl lim lim c = d := by rw [HE0.out]; exact finR_stop _ _ _ _ _ _ _ (fun e => hk0 e.1)
      refine bodyPost_ret (results_tmp rfl _ _ _) rfl ?_
      rw [e1]
      exact ⟨rfl, HG2.out, HI0.out⟩
end
end Go.Proofs.Ytnhiodmigmmfgaa
/- Runs of plans' procs: Run over a list of picks. -/
namespace Go.Proofs.Ytnhiodmigmmfgaa
open Go.RowKit Go.Shelf
set_option linter.unusedVariables false

def IReads (W : World) (p : Option Addr) (xs : List Int) : Prop :=
  xs = [] ∨ ∃ bk off, p = some ⟨bk, off, none⟩ ∧ bk < W.heap.size ∧ ∀ i x, xs[i]? = some x → W.cell? ⟨bk, off + i, none⟩ = some (.int .i64 x)
theorem IReads.get {W : World} {p : Option Addr} {xs : List Int} (h : IReads W p xs) (i : Nat) (x : Int) (hx : xs[i]? = some x) : ∃ bk off, p = some ⟨bk, off, none⟩ ∧ bk < W.heap.size ∧ W.cell? ⟨bk, off + i, none⟩ = some (.int .i64 x) := by
  rcases h with rfl | ⟨bk, off, rfl, hb, h⟩
  · simp at hx
  · exact ⟨bk, off, rfl, hb, h i x hx⟩
theorem IReads.chg {W X : World} {p : Option Addr} {xs : List Int} (h : IReads W p xs) (hc : Chg (fun _ => False) W X) : IReads X p xs := by
  rcases h with rfl | ⟨bk, off, rfl, hb, h⟩
  · exact .inl rfl
  · exact .inr ⟨bk, off, rfl, Nat.lt_of_lt_of_le hb hc.size, fun i x hx => cell_chg hc (h i x hx) (fun h => h)⟩
section
variable {P : Type} {Lo : Nat} {W0 : World} {κ : KindL P Lo W0} {most m b T : Nat} {cl : Nat → Nat} {vb : Nat → Nat} {pv : Nat → Nat → Value} {c : Cfg P} {W Z X : World} {S : Nat → Prop} {r : Nat}
theorem Cfg.run_more (κ : KindL P Lo W0) (most T : Nat) (cl : Nat → Nat) (c : Cfg P) (picks : List Int) (k : Nat) (th : Int) (h : picks[k]? = some th) : c.run κ most T cl (picks.take (k + 1)) = (c.run κ most T cl (picks.take k)).pick κ most T cl th := by
  unfold Cfg.run
  rw [List.take_add_one, h]
  simp [List.foldl_append]
theorem pick_st (κ : KindL P Lo W0) (most T : Nat) (cl : Nat → Nat) (c : Cfg P) (th : Int) : (c.pick κ most T cl th).st = c.st + 1 := by
  unfold Cfg.pick
  split <;> rfl
theorem run_st (κ : KindL P Lo W0) (most T : Nat) (cl : Nat → Nat) : ∀ (picks : List Int) (c : Cfg P), (c.run κ most T cl picks).st = c.st + picks.length
  | [], c => rfl
  | th :: l, c => by
    have := run_st κ most T cl l (c.pick κ most T cl th)
    rw [pick_st] at this
    show ((c.pick κ most T cl th).run κ most T cl l).st = _
    rw [this, List.length_cons]
    omega
theorem GR.chgW (h : GR κ most m b T cl vb pv c W Z X S r) : Chg (fun _ => False) W X := by
  obtain ⟨G, K, vw, tv, ev, av, ths, h⟩ := h
  exact h.chg
end
end Go.Proofs.Ytnhiodmigmmfgaa
/- The document's memory (shutterref03), plain: what it holds, and what its accesses do. -/
namespace Go.Proofs.Ytnhiodmigmmfgaa
open Go.RowKit Go.Shelf

def Own (os cs : List Nat) (n : Nat) : Prop := os.length = n ∧ (∀ i, i < n → cellN os i = cellN cs i) ∧ ∀ i, n ≤ i → cellN cs i = 0
def IsOwn (W : World) (g : Nat) (os : List Nat) : Prop := W.heap[g]? = some (.cells (os.map u64V).toArray 30 (0, 0))
theorem IsOwn.set {W : World} {g : Nat} {os : List Nat} (h : IsOwn W g os) (i v : Nat) : IsOwn (W.setCell ⟨g, i, none⟩ (.int .u64 (v : Int))) g (os.set i v) := by
  have e := set_of h i (.int .u64 (v : Int))
  rw [IsOwn, e, List.map_set]
  simp [u64V]
theorem IsOwn.cell {W : World} {g : Nat} {os : List Nat} (h : IsOwn W g os) (i : Nat) (hi : i < os.length) : W.cell? ⟨g, i, none⟩ = some (.int .u64 (cellN os i : Int)) := by
  rw [cell_of h i]
  simp [cellN, u64V, List.getElem?_eq_getElem hi]
theorem cellN_set (os : List Nat) (i v j : Nat) (hi : i < os.length) : cellN (os.set i v) j = if j = i then v else cellN os j := by
  simp only [cellN, List.getD_eq_getElem?_getD, List.getElem?_set]
  by_cases e : i = j
  · subst e
    simp [hi]
  · rw [if_neg e, if_neg (fun x => e x.symm)]
theorem Own.set {os cs : List Nat} {n i v : Nat} (h : Own os cs n) (hi : i < n) : Own (os.set i v) (stN n cs i v) n := by
  refine ⟨by simp [h.1], fun j hj => ?_, fun j hj => ?_⟩
  · rw [cellN_set _ _ _ _ (by rw [h.1]; exact hi), stN_cell]
    simp [hi, h.2.1 j hj]
  · rw [stN_cell, if_neg (by omega)]
    exact h.2.2 j hj
theorem own_zero (n : Nat) : Own (List.replicate n 0) [] n := by
  refine ⟨by simp, fun i hi => ?_, fun i hi => by simp [cellN]⟩
  simp only [cellN, List.getD_eq_getElem?_getD, List.getElem?_replicate]
  split <;> simp
theorem infoU64m : (Try.prog.info? 30).map (fun i => (i.zero, i.size, i.bytes)) = some (some (.int .u64 0), 1, 8) := by kernel_rfl
theorem make_u64s (n : Nat) (hn : n ≤ 4194304) (u : World) : ∃ w, (Instr.makeSlice 31 (.int .i64 (n : Int)) (.int .i64 (n : Int))).run Try.prog u = .ok (.slice (some ⟨u.heap.size, 0, none⟩) n n) w ∧ IsOwn w u.heap.size (List.replicate n 0) ∧ Chg (fun _ => False) u w ∧ w.heap.size = u.heap.size + 1 := by
  obtain ⟨i0, hi, hz0, hz1, hz2⟩ := info_parts infoU64m
  have h := run_make (P := Try.prog) u 31 30 i0 (.int .u64 0) Try.underlying31 hi hz0 .i64 .i64 (n : Int) (n : Int) (by omega) (Int.le_refl _) (by rw [hz2]; omega) (by omega)
  refine ⟨u.alloc (.cells (madeCells #[Value.int .u64 0] n) 30), by simpa [hz1, Value.cells] using h, ?_, (Chg.refl _ _).alloc _, by simp⟩
  have e : madeCells #[Value.int .u64 0] n = ((List.replicate n 0).map u64V).toArray := by
    apply Array.ext'
    rw [toList_madeCells_one]
    simp [u64V]
  unfold IsOwn
  rw [e]
  exact heap_alloc_new _ _

def rmCells (nc n next : Nat) (av : Value) : Array Value := #[.slice (some ⟨nc, 0, none⟩) n n, .int .i64 (next : Int), av, .bool false]
structure RMemAt (W : World) (R : Nat → Prop) (nm nc : Nat) (av : Value) (n next : Nat) (os cs : List Nat) (l : List Acc) : Prop where
  blk : W.heap[nm]? = some (.cells (rmCells nc n next av) 107 (0, 0))
  own : IsOwn W nc os
  os : Own os cs n
  acc : W.ownsRow 0 112 8 av l.length (accRow l)
  vals : ∀ x ∈ l, W.ownsRow 0 30 1 x.vs x.vals.length (x.vals.map u64V)
  inn : R nm
  inc : R nc
  ina : ∀ k, av.ownBlock = some k → R k
  inv : ∀ x ∈ l, ∀ k, x.vs.ownBlock = some k → R k
  ne : ∀ x ∈ l, x.vs.ownBlock ≠ some nc
  lt : ∀ k, R k → k < W.heap.size
  nn : 128 ≤ n ∧ n ≤ 4194304
  small : ∀ i, cellN cs i < 18446744073709551616
def RMem (W : World) (R : Nat → Prop) (nm n next : Nat) (cs : List Nat) (l : List Acc) : Prop := ∃ nc av os, RMemAt W R nm nc av n next os cs l
theorem RMemAt.kept {W W' : World} {R : Nat → Prop} {nm nc n next : Nat} {av : Value} {os cs : List Nat} {l : List Acc} (h : RMemAt W R nm nc av n next os cs l) (hs : W.heap.size ≤ W'.heap.size) (hk : ∀ k, R k → W'.heap[k]? = W.heap[k]?) : RMemAt W' R nm nc av n next os cs l :=
  ⟨(hk nm h.inn).trans h.blk, (hk nc h.inc).trans h.own, h.os, row_kept h.acc fun k e => hk k (h.ina k e), fun x hx => row_kept (h.vals x hx) fun k e => hk k (h.inv x hx k e), h.inn, h.inc, h.ina, h.inv, h.ne, fun k e => Nat.lt_of_lt_of_le (h.lt k e) hs, h.nn, h.small⟩
theorem RMem.chg {W W' : World} {R G : Nat → Prop} {nm n next : Nat} {cs : List Nat} {l : List Acc} (h : RMem W R nm n next cs l) (hc : Chg G W W') (hd : ∀ k, R k → ¬ G k) : RMem W' R nm n next cs l := by
  obtain ⟨nc, av, os, h⟩ := h
  exact ⟨nc, av, os, h.kept hc.size fun k e => hc.block k (h.lt k e) (hd k e)⟩
theorem RMem.lt {W : World} {R : Nat → Prop} {nm n next : Nat} {cs : List Nat} {l : List Acc} (h : RMem W R nm n next cs l) (k : Nat) (hk : R k) : k < W.heap.size := by
  obtain ⟨nc, av, os, h⟩ := h
  exact h.lt k hk
theorem RMem.inn {W : World} {R : Nat → Prop} {nm n next : Nat} {cs : List Nat} {l : List Acc} (h : RMem W R nm n next cs l) : R nm := by
  obtain ⟨nc, av, os, h⟩ := h
  exact h.inn
theorem Bank.lt {W : World} {F : Nat → Prop} {b most next : Nat} {cs : List Nat} {l : List Acc} (h : Bank W F b most next cs l) (k : Nat) (hk : F k) : k < W.heap.size := by
  obtain ⟨cv, av, h⟩ := h
  exact h.lt k hk

theorem rnote_end {W w2 w3 : World} {R : Nat → Prop} {nm nc n next g' c3 : Nat} {av : Value} {os cs : List Nat} {l : List Acc} {th : Int} {kind addr x y got : Nat} {ok : Bool}
    (h : RMemAt W R nm nc av n next os cs l) (hk2 : ∀ k, k < W.heap.size → w2.heap[k]? = W.heap[k]?) (hc2 : Chg R W w2) (hg : w2.grownBy w3 av.ownBlock)
    (hb3 : w3.heap[nm]? = some (.cells (rmCells nc n next av) 107 (0, 0)))
    (ho : w3.ownsRow 0 112 8 (.slice (some ⟨g', 0, none⟩) (l.length + 1) c3) (l.length + 1) (accRow l ++ [.int .i64 th, .int .u8 (kind : Int), .int .u64 (addr : Int), .int .u64 (x : Int), .int .u64 (y : Int), .slice none 0 0, .int .u64 (got : Int), .bool ok]))
    (hw2 : av.ownBlock = some g' ∨ W.heap.size ≤ g') :
    ∃ R', RMem (w3.setCell ⟨nm, 2, none⟩ (.slice (some ⟨g', 0, none⟩) (l.length + 1) c3)) R' nm n next cs (l ++ [⟨th, kind, addr, x, y, .slice none 0 0, [], got, ok⟩]) ∧ Goes W (w3.setCell ⟨nm, 2, none⟩ (.slice (some ⟨g', 0, none⟩) (l.length + 1) c3)) R R' := by
  have gb : g' ≠ nm := fun e => block_apart ho hb3 (by decide) (by rw [e]; rfl)
  have szW := hc2.size
  have sz3 := hg.size
  have hsz : (w3.setCell ⟨nm, 2, none⟩ (.slice (some ⟨g', 0, none⟩) (l.length + 1) c3)).heap.size = w3.heap.size := by simp [World.setCell]
  have k3 : ∀ k, k < W.heap.size → k ≠ nm → av.ownBlock ≠ some k → (w3.setCell ⟨nm, 2, none⟩ (.slice (some ⟨g', 0, none⟩) (l.length + 1) c3)).heap[k]? = W.heap[k]? := fun k hk h1 h2 =>
    (Below.heap_setCell _ _ _ _ h1).trans ((hg.block k (by omega) (fun e => h2 e.symm)).trans (hk2 k hk))
  refine ⟨fun k => R k ∨ k = g', ⟨nc, .slice (some ⟨g', 0, none⟩) (l.length + 1) c3, os, ?_, ?_, h.os, ?_, ?_, .inl h.inn, .inl h.inc, ?_, ?_, ?_, ?_, h.nn, h.small⟩, ⟨?_, ?_⟩⟩
  · exact set_of hb3 2 _
  · refine (k3 nc (h.lt nc h.inc) (fun e => ?_) (fun e => block_apart h.acc h.own (by decide) e)).trans h.own
    have e1 := h.own
    rw [IsOwn, e, h.blk] at e1
    simp at e1
  · have r := row_kept (W' := w3.setCell ⟨nm, 2, none⟩ (.slice (some ⟨g', 0, none⟩) (l.length + 1) c3)) ho fun k e => Below.heap_setCell _ _ _ _ (by simp [Value.ownBlock] at e; rw [← e]; exact gb)
    simpa [accRow, Acc.cells] using r
  · intro z hz
    rcases List.mem_append.1 hz with hz | hz
    · exact row_kept (h.vals z hz) fun k e => k3 k (h.lt k (h.inv z hz k e)) (fun e2 => block_apart (h.vals z hz) h.blk (by decide) (by rw [e, e2])) (fun e2 => rows_apart (h.vals z hz) h.acc (by decide) k e e2)
    · obtain rfl := List.mem_singleton.1 hz
      exact World.ownsRow_nil _ _ _ _
  · intro k e
    simp [Value.ownBlock] at e
    exact .inr e.symm
  · intro z hz k e
    rcases List.mem_append.1 hz with hz | hz
    · exact .inl (h.inv z hz k e)
    · obtain rfl := List.mem_singleton.1 hz
      simp [Value.ownBlock] at e
  · intro z hz e
    rcases List.mem_append.1 hz with hz | hz
    · exact h.ne z hz e
    · obtain rfl := List.mem_singleton.1 hz
      simp [Value.ownBlock] at e
  · rw [hsz]
    rintro k (hk | rfl)
    · have := h.lt k hk
      omega
    · exact row_lt ho k rfl
  · exact ((hc2.grown hg (fun k e _ => h.ina k e))).setCell (fun _ => h.inn) _
  · rintro k (hk | rfl)
    · exact .inl hk
    · rcases hw2 with e | e
      · exact .inl (h.ina k e)
      · exact .inr e

set_option maxRecDepth 100000 in
theorem r_note (nm n next : Nat) (th : Int) (kind addr x y got : Nat) (ok : Bool) (R : Nat → Prop) (cs : List Nat) (l : List Acc) (W : World) (h : RMem W R nm n next cs l) (hl : l.length < 1099511627776) :
    Calls Try.prog 39 #[.pointer (some ⟨nm, 0, none⟩), accV th kind addr x y (.slice none 0 0) got ok] W fun e W' => e = .returned (.tuple #[]) ∧ ∃ R', RMem W' R' nm n next cs (l ++ [⟨th, kind, addr, x, y, .slice none 0 0, [], got, ok⟩]) ∧ Goes W W' R R' := by
  obtain ⟨i0, hi, hz0, hz1, hz2⟩ := info_parts infoA
  unfold accV
  obtain ⟨nc, av, os, h⟩ := h
  have hbl := lt_of h.blk
  obtain ⟨pa, ca, rfl⟩ := slice_of h.acc
  obtain ⟨w1, hw1⟩ : ∃ w1, w1 = W.alloc (.cells #[.int .i64 th, .int .u8 (kind : Int), .int .u64 (addr : Int), .int .u64 (x : Int), .int .u64 (y : Int), .slice none 0 0, .int .u64 (got : Int), .bool ok] 112) := ⟨_, rfl⟩
  have hB1 : Hid (w1.heap[W.heap.size]? = some (.cells #[.int .i64 th, .int .u8 (kind : Int), .int .u64 (addr : Int), .int .u64 (x : Int), .int .u64 (y : Int), .slice none 0 0, .int .u64 (got : Int), .bool ok] 112 (0, 0))) := by rw [hw1]; exact heap_alloc_new _ _
  have hk1 : Hid (∀ k, k < W.heap.size → w1.heap[k]? = W.heap[k]?) := fun k hk => by rw [hw1]; exact Below.heap_alloc _ _ _ hk
  have hs1 : w1.heap.size = W.heap.size + 1 := by rw [hw1]; simp
  have hC1 : Hid (Chg R W w1) := by rw [hw1]; exact (Chg.refl R W).alloc _
  have hb1 : Hid (w1.heap[nm]? = some (.cells (rmCells nc n next (.slice pa l.length ca)) 107 (0, 0))) := (hk1.out nm hbl).trans h.blk
  have HA : Hid (w1.drew.ownsRow 0 112 8 (.slice pa l.length ca) l.length (accRow l)) := row_kept (W := W) h.acc fun k e => (hk1.out k (row_lt h.acc k e))
  have q0 := (cell_of hB1.out 0).trans rfl
  have q1 := (cell_of hB1.out 1).trans rfl
  have q2 := (cell_of hB1.out 2).trans rfl
  have q3 := (cell_of hB1.out 3).trans rfl
  have q4 := (cell_of hB1.out 4).trans rfl
  have q5 := (cell_of hB1.out 5).trans rfl
  have q6 := (cell_of hB1.out 6).trans rfl
  have q7 := (cell_of hB1.out 7).trans rfl
  have r2 : w1.cell? ⟨nm, 2, none⟩ = some (.slice pa l.length ca) := cell_of hb1.out 2
  have r3 : w1.cell? ⟨nm, 3, none⟩ = some (.bool false) := cell_of hb1.out 3
  have H := keepH h
  have ne1 : ¬ nm = w1.heap.size := by omega
  have qa : ∀ o, (w1.alloc o).cell? ⟨nm, 2, none⟩ = some (.slice pa l.length ca) := fun o => cell_of (alloc_of hb1.out o) 2
  have HS1 := keepH hs1
  have HW1 := keepH hw1
  clear h hs1 hw1
  go_enter Try.func39, Try.ntmps39
  go_upto_region 1 with fail
  rw [← HW1.out]
  clear HW1
  go_wp2_with fail
  go_region_law (refine step_append_own rfl (.tmp 13) (.tmp 15) 105 rfl 112 i0 (accV 0 0 0 0 0 (.slice none 0 0) 0 false) 8 80 Try.underlying105 hi hz0 hz1 hz2 rfl (by decide) (.slice pa l.length ca) l.length (accRow l) rfl (HA.out.alloc _) ⟨w1.heap.size, 0, none⟩ 1 1 [.int .i64 th, .int .u8 (kind : Int), .int .u64 (addr : Int), .int .u64 (x : Int), .int .u64 (y : Int), .slice none 0 0, .int .u64 (got : Int), .bool ok] rfl rfl (cells_new _ _ rfl _ _) (by simp [Value.oneCell']) (by unfold maxLen; omega) (by omega) ?_; intro v' w3 hown3 hgr3 _ hwh3; obtain ⟨g', c3, rfl⟩ := slice_pos hown3 (Nat.succ_pos _); have hb3 : Hid (w3.heap[nm]? = some (.cells (rmCells nc n next (.slice pa l.length ca)) 107 (0, 0))) := (hgr3.block nm (by have := lt_of hb1.out; simp; omega) (fun e => block_apart H.out.acc H.out.blk (by decide) e.symm)).trans (alloc_of (W := w1.drew) hb1.out _); have r8 : w3.cell? ⟨nm, 2, none⟩ = some (.slice pa l.length ca) := cell_of hb3.out 2; have rf := free_of hb3.out 2; have HO := keepH hown3; have HW3 := keepH hwh3; have HG3 := keepH hgr3; clear hown3 hwh3 hgr3)
  all_goals (go_wp2_with fail)
  all_goals go_end0
  all_goals (refine ⟨rfl, rnote_end H.out (fun k hk => ?_) ?_ HG3.out hb3.out HO.out ?_⟩)
  all_goals first
    | exact (Below.heap_alloc w1.drew _ _ (by have := HS1.out; show _ < w1.heap.size; omega)).trans (hk1.out k hk)
    | exact hC1.out.drew.alloc _
    | (rcases HW3.out with e2 | e2
       · exact .inl e2.symm
       · simp [Value.ownBlock] at e2; exact .inr (by have := HS1.out; omega))
end Go.Proofs.Ytnhiodmigmmfgaa
/- The document's memory: Peek, Load, Store, Cas, New. -/
namespace Go.Proofs.Ytnhiodmigmmfgaa
open Go.RowKit Go.Shelf
set_option linter.unusedVariables false

theorem RMemAt.put {W : World} {R : Nat → Prop} {nm nc n next : Nat} {av : Value} {os cs : List Nat} {l : List Acc} (h : RMemAt W R nm nc av n next os cs l) (i v : Nat) (hi : i < n) (hv : v < 18446744073709551616) : RMemAt (W.setCell ⟨nc, i, none⟩ (.int .u64 (v : Int))) R nm nc av n next (os.set i v) (stN n cs i v) l ∧ Goes W (W.setCell ⟨nc, i, none⟩ (.int .u64 (v : Int))) R R := by
  have ne : nm ≠ nc := fun e => by
    have e1 := h.own
    rw [IsOwn, ← e, h.blk] at e1
    simp at e1
  refine ⟨⟨other_of h.blk ne _, h.own.set i v, h.os.set hi, row_kept h.acc fun k e => Below.heap_setCell _ _ _ _ (fun e2 => block_apart h.acc h.own (by decide) (by rw [e, e2])), fun x hx => row_kept (h.vals x hx) fun k e => Below.heap_setCell _ _ _ _ (fun e2 => h.ne x hx (by rw [e, e2])), h.inn, h.inc, h.ina, h.inv, h.ne, fun k e => by have := h.lt k e; simpa [World.setCell] using this, h.nn, fun j => ?_⟩, ⟨(Chg.refl R W).setCell (p := ⟨nc, i, none⟩) (fun _ => h.inc) _, fun k e => .inl e⟩⟩
  rw [stN_cell]
  split
  · exact hv
  · exact h.small j

theorem RMemAt.out {W : World} {R : Nat → Prop} {nm nc n next : Nat} {av : Value} {os cs : List Nat} {l : List Acc} (h : RMemAt W R nm nc av n next os cs l) (i : Nat) (hi : n ≤ i) : cellN cs i = 0 := h.os.2.2 i hi

set_option maxRecDepth 100000 in
theorem r_set (nm n next addr v : Nat) (R : Nat → Prop) (cs : List Nat) (l : List Acc) (W : World) (h : RMem W R nm n next cs l) (ha : addr < 18446744073709551616) (hv : v < 18446744073709551616) :
    Calls Try.prog 38 #[.pointer (some ⟨nm, 0, none⟩), .int .u64 (addr : Int), .int .u64 (v : Int)] W fun e W' => e = .returned (.tuple #[]) ∧ RMem W' R nm n next (stN n cs addr v) l ∧ Goes W W' R R := by
  obtain ⟨nc, av, os, h⟩ := h
  have c0 : W.cell? ⟨nm, 0, none⟩ = some (.slice (some ⟨nc, 0, none⟩) n n) := cell_of h.blk 0
  have nn := h.nn
  have wn : IntKind.u64.wrap (n : Int) = (n : Int) := u64_lt (by omega)
  have H := keepH h
  by_cases hi : addr < n
  · have t1 : (addr : Int) < (n : Int) := by omega
    have cx := h.own.cell addr (by rw [h.os.1]; exact hi)
    have fx := free_of h.own addr
    clear h
    go_enter Try.func38, Try.ntmps38
    go_wp2_with fail
    go_end0
    exact ⟨rfl, ⟨nc, av, _, (H.out.put addr v hi hv).1⟩, (H.out.put addr v hi hv).2⟩
  · have t1 : ¬ (addr : Int) < (n : Int) := by omega
    have e0 : stN n cs addr v = cs := by simp [stN, hi]
    clear h
    go_enter Try.func38, Try.ntmps38
    go_wp2_with fail
    go_end0
    exact ⟨rfl, ⟨nc, av, os, H.out⟩, Goes.refl _ _⟩

set_option maxRecDepth 100000 in
theorem r_store (nm n next addr v : Nat) (th : Int) (R : Nat → Prop) (cs : List Nat) (l : List Acc) (W : World) (h : RMem W R nm n next cs l) (hl : l.length < 1099511627776) (ha : addr < 18446744073709551616) (hv : v < 18446744073709551616) :
    Calls Try.prog 21 #[.pointer (some ⟨nm, 0, none⟩), .int .i64 th, .int .u64 (addr : Int), .int .u64 (v : Int)] W fun e W' => e = .returned (.tuple #[]) ∧ ∃ R', RMem W' R' nm n next (stN n cs addr v) (l ++ [⟨th, 2, addr, v, 0, .slice none 0 0, [], 0, false⟩]) ∧ Goes W W' R R' := by
  have H := keepH h
  clear h
  go_enter Try.func21, Try.ntmps21
  go_wp2_with fail
  refine (r_set nm n next addr v R cs l _ H.out ha hv).mono ?_
  rintro e w1 ⟨rfl, M1, G1⟩
  have HM1 := keepH M1
  have HG1 := keepH G1
  clear M1 G1
  go_wp2_with fail
  refine (r_note nm n next th 2 addr v 0 0 false R _ l _ HM1.out hl).mono ?_
  rintro e w2 ⟨rfl, R2, M2, G2⟩
  have HM2 := keepH M2
  have HG2 := keepH (HG1.out.trans G2)
  clear M2 G2
  go_wp2_with fail
  go_end0
  exact ⟨rfl, R2, HM2.out, HG2.out⟩

set_option maxRecDepth 100000 in
theorem r_new (n : Nat) (W : World) (hn : 128 ≤ n ∧ n ≤ 4194304) :
    Calls Try.prog 18 #[.int .i64 (n : Int), .bool false] W fun e W' => e = .returned (.tuple #[.pointer (some ⟨W.heap.size + 1, 0, none⟩), .int .i64 0]) ∧ RMem W' (fun k => k = W.heap.size ∨ k = W.heap.size + 1) (W.heap.size + 1) n 1 [] [] ∧ Chg (fun _ => False) W W' ∧ W'.heap.size = W.heap.size + 2 := by
  have t1 : ¬ (n : Int) < 128 := by omega
  have t2 : ¬ (4194304 : Int) < (n : Int) := by omega
  obtain ⟨w3, hmk, hO3, hC3, hS3⟩ := make_u64s n hn.2 W
  have HO3 := keepH hO3
  have HC3 := keepH hC3
  have HS3 := keepH hS3
  clear hO3 hC3
  go_enter Try.func18, Try.ntmps18
  go_wp2_with fail
  go_ret2
  have hs := HS3.out
  have eN := heap_alloc_new w3 (.cells (rmCells W.heap.size n 1 (.slice none 0 0)) 107)
  rw [hs] at eN
  refine ⟨by simp, ⟨W.heap.size, .slice none 0 0, List.replicate n 0, eN, (Below.heap_alloc _ _ _ (by omega)).trans HO3.out, own_zero n, World.ownsRow_nil _ _ _ _, fun x hx => by simp at hx, .inr rfl, .inl rfl, fun k e => by simp [Value.ownBlock] at e, fun x hx => by simp at hx, fun x hx => by simp at hx, fun k e => by simp; omega, hn, fun i => by simp [cellN]⟩, HC3.out.alloc _, by simp [hs]⟩
end Go.Proofs.Ytnhiodmigmmfgaa
/- The document's memory: Alloc. -/
namespace Go.Proofs.Ytnhiodmigmmfgaa
open Go.RowKit Go.Shelf
set_option linter.unusedVariables false

theorem RMem.drewN {W : World} {R : Nat → Prop} {nm n next : Nat} {cs : List Nat} {l : List Acc} (h : RMem W R nm n next cs l) (q : Nat) : RMem (W.drewN q) R nm n next cs l := by
  obtain ⟨nc, av, os, h⟩ := h
  exact ⟨nc, av, os, h.kept (Nat.le_refl _) (fun _ _ => rfl)⟩
theorem RMem.grown {W W' : World} {R : Nat → Prop} {nm n next : Nat} {cs : List Nat} {l : List Acc} (h : RMem W R nm n next cs l) (hg : W.grownBy W' none) : RMem W' R nm n next cs l := by
  obtain ⟨nc, av, os, h⟩ := h
  exact ⟨nc, av, os, h.kept hg.size (fun k e => hg.block k (h.lt k e) (by simp))⟩

theorem RMemAt.setNext {W : World} {R : Nat → Prop} {nm nc n next : Nat} {av : Value} {os cs : List Nat} {l : List Acc} (h : RMemAt W R nm nc av n next os cs l) (nx : Nat) : RMemAt (W.setCell ⟨nm, 1, none⟩ (.int .i64 (nx : Int))) R nm nc av n nx os cs l := by
  have ne : nc ≠ nm := fun e => by
    have e1 := h.own
    rw [IsOwn, e, h.blk] at e1
    simp at e1
  have ob : ∀ k, k ≠ nm → (W.setCell ⟨nm, 1, none⟩ (.int .i64 (nx : Int))).heap[k]? = W.heap[k]? := fun k hk => Below.heap_setCell _ _ _ _ hk
  refine ⟨?_, (ob nc ne).trans h.own, h.os, row_kept h.acc fun k e => ob k (fun e2 => block_apart h.acc h.blk (by decide) (by rw [e, e2])), fun x hx => row_kept (h.vals x hx) fun k e => ob k (fun e2 => block_apart (h.vals x hx) h.blk (by decide) (by rw [e, e2])), h.inn, h.inc, h.ina, h.inv, h.ne, fun k e => by simpa [World.setCell] using h.lt k e, h.nn, h.small⟩
  exact set_of h.blk 1 (.int .i64 (nx : Int))
theorem RMemAt.cells {W : World} {R : Nat → Prop} {nm nc n next : Nat} {av : Value} {os cs cs' : List Nat} {l : List Acc} (h : RMemAt W R nm nc av n next os cs l) (hc : ∀ j, cellN cs' j = cellN cs j) : RMemAt W R nm nc av n next os cs' l :=
  ⟨h.blk, h.own, ⟨h.os.1, fun i hi => (h.os.2.1 i hi).trans (hc i).symm, fun i hi => (hc i).trans (h.os.2.2 i hi)⟩, h.acc, h.vals, h.inn, h.inc, h.ina, h.inv, h.ne, h.lt, h.nn, fun i => by rw [hc]; exact h.small i⟩

def PutR (cs csi vals : List Nat) (next i : Nat) : Prop := ∀ j, cellN csi j = if next ≤ j ∧ j < next + i then cellN vals (j - next) else cellN cs j
theorem PutR.zero (cs vals : List Nat) (next : Nat) : PutR cs cs vals next 0 := fun j => by rw [if_neg (by omega)]
theorem PutR.more {cs csi vals : List Nat} {n next i : Nat} (h : PutR cs csi vals next i) (hn : next + i < n) : PutR cs (stN n csi (next + i) (cellN vals i)) vals next (i + 1) := fun j => by
  rw [stN_cell, h j]
  by_cases e : j = next + i
  · subst e
    rw [if_pos ⟨rfl, hn⟩, if_pos (by omega)]
    congr 1
    omega
  · rw [if_neg (fun x => e x.1)]
    by_cases e2 : next ≤ j ∧ j < next + i
    · rw [if_pos e2, if_pos (by omega)]
    · rw [if_neg e2, if_neg (by omega)]
theorem PutR.all {cs csi vals : List Nat} {n next : Nat} (h : PutR cs csi vals next vals.length) (hok : alOk n next vals.length) (j : Nat) : cellN (alN n next cs vals) j = cellN csi j := by
  unfold alN
  rw [if_pos hok, spliceN_cell _ _ _ (by rw [padN_length]; omega), padN_cell, h j]

end Go.Proofs.Ytnhiodmigmmfgaa
/- The document's Make: a plan's step on the document's memory. -/
namespace Go.Proofs.Ytnhiodmigmmfgaa
open Go.RowKit Go.Shelf
set_option linter.unusedVariables false

/-- The document's memory with its bare trace. -/
def RM (W : World) (R : Nat → Prop) (nm most next : Nat) (cs : List Nat) (t : List Acc) : Prop := ∃ l, RMem W R nm most next cs l ∧ l.map Acc.bare = t
theorem RM.chg {W W' : World} {R G : Nat → Prop} {nm most next : Nat} {cs : List Nat} {t : List Acc} (h : RM W R nm most next cs t) (hc : Chg G W W') (hd : ∀ k, R k → ¬ G k) : RM W' R nm most next cs t := by
  obtain ⟨l, h1, h2⟩ := h
  exact ⟨l, h1.chg hc hd, h2⟩
theorem RM.lt {W : World} {R : Nat → Prop} {nm most next : Nat} {cs : List Nat} {t : List Acc} (h : RM W R nm most next cs t) (k : Nat) (hk : R k) : k < W.heap.size := by
  obtain ⟨l, h1, h2⟩ := h
  exact h1.lt k hk
end Go.Proofs.Ytnhiodmigmmfgaa
/- The law's procs of a list of plans. -/
namespace Go.Proofs.Ytnhiodmigmmfgaa
open Go.RowKit Go.Shelf
set_option linter.unusedVariables false

/-- The plans as they lie in memory, all of it below B. -/
def PlansAt (W : World) (B : Nat) (p : Option Addr) (l : List PlP) (lp : Nat → Option Addr) (lc : Nat → Nat) : Prop := ∀ (i : Nat) (q : PlP), l[i]? = some q → (∃ bk off, p = some ⟨bk, off, none⟩ ∧ bk < B ∧ W.cell? ⟨bk, off + i * 2, none⟩ = some (.bool q.none) ∧ W.cell? ⟨bk, off + i * 2 + 1, none⟩ = some (.slice (lp i) q.L.length (lc i))) ∧ DosAt W B (lp i) q.L
theorem PlansAt.low {W Y : World} {B : Nat} {p : Option Addr} {l : List PlP} {lp : Nat → Option Addr} {lc : Nat → Nat} (h : PlansAt W B p l lp lc) (hl : ∀ k, k < B → Y.heap[k]? = W.heap[k]?) : PlansAt Y B p l lp lc := fun i q hq => by
  obtain ⟨⟨bk, off, e, hb, c0, c1⟩, hd⟩ := h i q hq
  exact ⟨⟨bk, off, e, hb, cell_low hl hb c0, cell_low hl hb c1⟩, hd.low hl⟩
theorem PlansAt.chg {W Y : World} {B : Nat} {p : Option Addr} {l : List PlP} {lp : Nat → Option Addr} {lc : Nat → Nat} (h : PlansAt W B p l lp lc) (hB : B ≤ W.heap.size) (c : Chg (fun _ => False) W Y) : PlansAt Y B p l lp lc := h.low (fun k hk => c.block k (by omega) (fun x => x))
def ifV (l : List PlP) (pb : Nat → Nat) (j : Nat) : Value := match l[j]? with
  | some q => if q.none = true then .nilIface else .iface 50 (.pointer (some ⟨pb j, 0, none⟩))
  | none => .nilIface
def ifL (l : List PlP) (pb : Nat → Nat) (i : Nat) : List Value := (List.range i).map (ifV l pb)
def ptO (l : List PlP) (pb : Nat → Nat) (j : Nat) : Option Value := match l[j]? with
  | some q => if q.none = true then none else some (.pointer (some ⟨pb j, 0, none⟩))
  | none => none
def ptL (l : List PlP) (pb : Nat → Nat) (i : Nat) : List Value := (List.range i).filterMap (ptO l pb)
def updB (pb : Nat → Nat) (i x : Nat) : Nat → Nat := fun j => if j = i then x else pb j
theorem ifL_congr {l : List PlP} {pb pb' : Nat → Nat} {i : Nat} (h : ∀ j, j < i → pb' j = pb j) : ifL l pb' i = ifL l pb i := by
  unfold ifL
  refine List.map_congr_left fun j hj => ?_
  unfold ifV
  rw [h j (List.mem_range.1 hj)]
theorem ptL_succ (l : List PlP) (pb : Nat → Nat) (i : Nat) : ptL l pb (i + 1) = ptL l pb i ++ (ptO l pb i).toList := by
  unfold ptL
  rw [List.range_succ, List.filterMap_append]
  congr 1
theorem ptL_congr {l : List PlP} {pb pb' : Nat → Nat} : ∀ {i : Nat}, (∀ j, j < i → pb' j = pb j) → ptL l pb' i = ptL l pb i := by
  intro i
  induction i with
  | zero => intro _; rfl
  | succ i ih =>
    intro h
    rw [ptL_succ, ptL_succ, ih (fun j hj => h j (by omega))]
    congr 2
    unfold ptO
    rw [h i (by omega)]
theorem ifL_succ (l : List PlP) (pb : Nat → Nat) (i : Nat) : ifL l pb (i + 1) = ifL l pb i ++ [ifV l pb i] := by simp [ifL, List.range_succ]
theorem ptL_len (l : List PlP) (pb : Nat → Nat) (i : Nat) : (ptL l pb i).length ≤ i := by
  have := List.length_filterMap_le (ptO l pb) (List.range i)
  simpa [ptL] using this
/-- What is laid so far. -/
structure PB (W wr : World) (l : List PlP) (lp : Nat → Option Addr) (lc pb : Nat → Nat) (i : Nat) (v7 v8 : Value) : Prop where
  r7 : wr.ownsRow W.heap.size 77 1 v7 i (ifL l pb i)
  r8 : wr.ownsRow W.heap.size 50 1 v8 (ptL l pb i).length (ptL l pb i)
  pr : ∀ (j : Nat) (q : PlP), j < i → l[j]? = some q → q.none = false → wr.heap[pb j]? = some (.cells #[.slice (lp j) q.L.length (lc j), .int .i64 0, .slice none 0 0] 49 (0, 0)) ∧ W.heap.size ≤ pb j
  inj : ∀ (j j' : Nat) (q q' : PlP), j < j' → j' < i → l[j]? = some q → l[j']? = some q' → q.none = false → q'.none = false → pb j < pb j'
  chg : Chg (fun _ => False) W wr
theorem row_typ {W : World} {B : Nat} {e : TypeId} {s : Nat} {v : Value} {n : Nat} {xs : List Value} (h : W.ownsRow B e s v n xs) {g : Nat} (hg : v.ownBlock = some g) : B ≤ g ∧ ∃ cur, W.heap[g]? = some (.cells cur e (0, 0)) := by
  rcases h.2 with ⟨rfl, _⟩ | ⟨g', cap, cur, rfl, hB, hb, _⟩
  · simp [Value.ownBlock] at hg
  · obtain rfl : g' = g := by simpa [Value.ownBlock] using hg
    exact ⟨hB, cur, hb⟩
theorem typ_ne {W : World} {g g' : Nat} {cur cur' : Array Value} {t t' : TypeId} (hg : W.heap[g]? = some (.cells cur t (0, 0))) (hg' : W.heap[g']? = some (.cells cur' t' (0, 0))) (ht : t ≠ t') : g ≠ g' := by
  rintro rfl
  rw [hg] at hg'
  simp at hg'
  exact ht hg'.2
theorem rowB_kept {W W' : World} {B : Nat} {e : TypeId} {s : Nat} {v : Value} {n : Nat} {xs : List Value} (h : W.ownsRow B e s v n xs) (hk : ∀ g, v.ownBlock = some g → W'.heap[g]? = W.heap[g]?) : W'.ownsRow B e s v n xs := by
  obtain ⟨h0, h1⟩ := h
  refine ⟨h0, ?_⟩
  rcases h1 with h1 | ⟨g, cap, cur, rfl, hB, hg, r⟩
  · exact .inl h1
  · exact .inr ⟨g, cap, cur, rfl, hB, (hk g rfl).trans hg, r⟩
theorem PB.quiet {W wr wx : World} {l : List PlP} {lp : Nat → Option Addr} {lc pb : Nat → Nat} {i : Nat} {v7 v8 : Value} (h : PB W wr l lp lc pb i v7 v8) (c : Chg (fun _ => False) wr wx) : PB W wx l lp lc pb i v7 v8 :=
  ⟨rowB_kept h.r7 (fun g hg => c.block g (h.r7.lt g hg).2 (fun x => x)), rowB_kept h.r8 (fun g hg => c.block g (h.r8.lt g hg).2 (fun x => x)), fun j q hj hq hn => ⟨(c.block _ (lt_of (h.pr j q hj hq hn).1) (fun x => x)).trans (h.pr j q hj hq hn).1, (h.pr j q hj hq hn).2⟩, h.inj, h.chg.trans c (fun _ _ x => x) (fun _ _ x => x)⟩
/-- nil is laid behind the procs. -/
theorem PB.skip {W wr w5 : World} {l : List PlP} {lp : Nat → Option Addr} {lc pb : Nat → Nat} {i : Nat} {v7 v7' v8 : Value} {o : Obj} {q : PlP} (h : PB W wr l lp lc pb i v7 v8) (hq : l[i]? = some q) (hn : q.none = true) (r1 : w5.ownsRow W.heap.size 77 1 v7' (i + 1) (ifL l pb i ++ [.nilIface])) (r2 : (wr.alloc o).grownBy w5 v7.ownBlock) : PB W w5 l lp lc pb (i + 1) v7' v8 := by
  have c : Chg (fun k => v7.ownBlock = some k) wr w5 := ((Chg.refl (fun k => v7.ownBlock = some k) wr).alloc o).grown r2 (fun k e _ => e)
  have ne : ∀ {t : TypeId} {g : Nat} {cur : Array Value}, wr.heap[g]? = some (.cells cur t (0, 0)) → t ≠ 77 → w5.heap[g]? = wr.heap[g]? := fun hg ht => c.block _ (lt_of hg) (fun e => by obtain ⟨_, cur', hc⟩ := row_typ h.r7 e; exact typ_ne hg hc ht rfl)
  have eo : ptO l pb i = none := by unfold ptO; simp [hq, hn]
  have ei : ifV l pb i = .nilIface := by unfold ifV; simp [hq, hn]
  refine ⟨by rw [ifL_succ, ei]; exact r1, ?_, fun j r hj hr hrn => ?_, fun j j' r r' h1 h2 h3 h4 h5 h6 => ?_, h.chg.trans c (fun _ _ x => x) (fun k hk e => by have := (row_typ h.r7 e).1; omega)⟩
  · rw [ptL_succ, eo]
    simp only [Option.toList_none, List.append_nil]
    exact rowB_kept h.r8 (fun g hg => by obtain ⟨_, cur, hc⟩ := row_typ h.r8 hg; exact ne hc (by decide))
  · have hji : j ≠ i := fun e => by subst e; rw [hq] at hr; injection hr with hr; subst hr; rw [hn] at hrn; cases hrn
    have hp := h.pr j r (by omega) hr hrn
    exact ⟨(ne hp.1 (by decide)).trans hp.1, hp.2⟩
  · have hji : j' ≠ i := fun e => by subst e; rw [hq] at h4; injection h4 with h4; subst h4; rw [hn] at h6; cases h6
    exact h.inj j j' r r' h1 (by omega) h3 h4 h5 h6
/-- A proc is laid, and itself behind both rows. -/
theorem PB.add {W wr w4 w5 w6 : World} {l : List PlP} {lp : Nat → Option Addr} {lc pb : Nat → Nat} {i : Nat} {v7 v7' v8 v8' : Value} {o o' : Obj} {q : PlP} (h : PB W wr l lp lc pb i v7 v8) (hq : l[i]? = some q) (hn : q.none = false)
    (h4 : w4 = wr.alloc (.cells #[.slice (lp i) q.L.length (lc i), .int .i64 0, .slice none 0 0] 49))
    (r1 : w5.ownsRow W.heap.size 77 1 v7' (i + 1) (ifL l pb i ++ [.iface 50 (.pointer (some ⟨wr.heap.size, 0, none⟩))])) (r2 : (w4.alloc o).grownBy w5 v7.ownBlock)
    (s1 : w6.ownsRow W.heap.size 50 1 v8' ((ptL l pb i).length + 1) (ptL l pb i ++ [.pointer (some ⟨wr.heap.size, 0, none⟩)])) (s2 : (w5.alloc o').grownBy w6 v8.ownBlock) : PB W w6 l lp lc (updB pb i wr.heap.size) (i + 1) v7' v8' := by
  have sz := h.chg.size
  have c4 : Chg (fun _ => False) wr w4 := by rw [h4]; exact (Chg.refl _ _).alloc _
  have h' := h.quiet c4
  have hb4 : w4.heap[wr.heap.size]? = some (.cells #[.slice (lp i) q.L.length (lc i), .int .i64 0, .slice none 0 0] 49 (0, 0)) := by rw [h4]; exact heap_alloc_new _ _
  have c5 : Chg (fun k => v7.ownBlock = some k) w4 w5 := ((Chg.refl (fun k => v7.ownBlock = some k) w4).alloc o).grown r2 (fun k e _ => e)
  have r8' : w5.ownsRow W.heap.size 50 1 v8 (ptL l pb i).length (ptL l pb i) := rowB_kept h'.r8 (fun g hg => by
    obtain ⟨_, cur, hc⟩ := row_typ h'.r8 hg
    exact c5.block g (lt_of hc) (fun e => by obtain ⟨_, cur', hc'⟩ := row_typ h'.r7 e; exact typ_ne hc hc' (by decide) rfl))
  have c6 : Chg (fun k => v8.ownBlock = some k) w5 w6 := ((Chg.refl (fun k => v8.ownBlock = some k) w5).alloc o').grown s2 (fun k e _ => e)
  have keep : ∀ {g : Nat} {cur : Array Value}, w4.heap[g]? = some (.cells cur 49 (0, 0)) → w6.heap[g]? = some (.cells cur 49 (0, 0)) := fun hg => by
    have e5 := (c5.block _ (lt_of hg) (fun e => by obtain ⟨_, cur', hc'⟩ := row_typ h'.r7 e; exact typ_ne hg hc' (by decide) rfl)).trans hg
    exact (c6.block _ (lt_of e5) (fun e => by obtain ⟨_, cur', hc'⟩ := row_typ r8' e; exact typ_ne e5 hc' (by decide) rfl)).trans e5
  have eb : ∀ j, j < i → updB pb i wr.heap.size j = pb j := fun j hj => by unfold updB; rw [if_neg (by omega)]
  have ebi : updB pb i wr.heap.size i = wr.heap.size := by unfold updB; rw [if_pos rfl]
  have eo : ptO l (updB pb i wr.heap.size) i = some (.pointer (some ⟨wr.heap.size, 0, none⟩)) := by unfold ptO; simp [hq, hn, ebi]
  have ei : ifV l (updB pb i wr.heap.size) i = .iface 50 (.pointer (some ⟨wr.heap.size, 0, none⟩)) := by unfold ifV; simp [hq, hn, ebi]
  refine ⟨?_, ?_, fun j r hj hr hrn => ?_, fun j j' r r' h1 h2 h3 h4' h5 h6 => ?_, (h'.chg.trans c5 (H := fun _ => False) (fun _ _ x => x) (fun k hk e => by have := (row_typ h'.r7 e).1; omega)).trans c6 (fun _ _ x => x) (fun k hk e => by have := (row_typ r8' e).1; omega)⟩
  · rw [ifL_succ, ifL_congr eb, ei]
    refine rowB_kept r1 (fun g hg => ?_)
    obtain ⟨_, cur, hc⟩ := row_typ r1 hg
    exact c6.block g (lt_of hc) (fun e => by obtain ⟨_, cur', hc'⟩ := row_typ r8' e; exact typ_ne hc hc' (by decide) rfl)
  · rw [ptL_succ, ptL_congr eb, eo]
    simp only [Option.toList_some, List.length_append, List.length_cons, List.length_nil]
    exact s1
  · by_cases e : j = i
    · subst e
      rw [hq] at hr; injection hr with hr; subst hr
      rw [ebi]
      exact ⟨keep hb4, sz⟩
    · rw [eb j (by omega)]
      have hp := h'.pr j r (by omega) hr hrn
      exact ⟨keep hp.1, hp.2⟩
  · by_cases e : j' = i
    · subst e
      rw [ebi, eb j (by omega)]
      exact lt_of (h.pr j r (by omega) h3 h5).1
    · rw [eb j (by omega), eb j' (by omega)]
      exact h.inj j j' r r' h1 (by omega) h3 h4' h5 h6
end Go.Proofs.Ytnhiodmigmmfgaa
/- The law's procs of one list of plans, walked. -/
namespace Go.Proofs.Ytnhiodmigmmfgaa
open Go.RowKit Go.Shelf
set_option linter.unusedVariables false

theorem infoPy : (Try.prog.info? 77).map (fun i => (i.zero, i.size, i.bytes)) = some (some .nilIface, 1, 16) := by kernel_rfl
theorem infoQy : (Try.prog.info? 50).map (fun i => (i.zero, i.size, i.bytes)) = some (some (.pointer none), 1, 8) := by kernel_rfl
theorem infoPsy : (Try.prog.info? 59).map (fun i => (i.zero, i.size, i.bytes)) = some (some (.slice none 0 0), 1, 24) := by kernel_rfl
theorem infoQsy : (Try.prog.info? 46).map (fun i => (i.zero, i.size, i.bytes)) = some (some (.slice none 0 0), 1, 24) := by kernel_rfl
theorem slice_row {W : World} {B : Nat} {e : TypeId} {s : Nat} {v : Value} {n : Nat} {xs : List Value} (h : W.ownsRow B e s v n xs) : ∃ p c, v = .slice p n c := by
  rcases h.2 with ⟨rfl, h0⟩ | ⟨g, cap, cur, rfl, _⟩
  · exact ⟨none, 0, by rw [h0]⟩
  · exact ⟨_, cap, rfl⟩
end Go.Proofs.Ytnhiodmigmmfgaa
