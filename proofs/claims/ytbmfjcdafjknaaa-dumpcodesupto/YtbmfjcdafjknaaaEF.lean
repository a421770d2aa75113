/- The document's Patch of what fits. -/
import Derived.Test.YtbmfjcdafjknaaaEE
import Derived.Test.YtbmfjcdafjknaaaEs
namespace Go.Proofs.Ytbmfjcdafjknaaa
open Go.RowKit Go.Joins Go.ChangeShapes Go.WideShapes
set_option linter.unusedVariables false

theorem chg_drewQ {F : Nat → Prop} {a b : World} (h : Chg F a b) (n : Nat) : Chg F a (b.drewN n) := ⟨h.os, h.tape, h.output, h.size, h.block⟩
theorem below_on {W2 wr X : World} {n : Nat} (h : Below n W2 wr) (c : Chg (fun _ => False) wr X) (e : n = W2.heap.size := by rfl) : Below n W2 X := by
  subst e
  exact chg_belowE ((below_chgE h).trans c (H := fun k => W2.heap.size ≤ k) (fun _ _ x => x.elim) (fun _ _ x => x.elim))
theorem on_chg {wr X W4 : World} (h4 : Below X.heap.size X W4) (c : Chg (fun _ => False) wr X) : Chg (fun _ => False) wr W4 := c.trans (below_chgE h4) (fun _ _ x => x) (fun _ _ x => x)
theorem row_onD {W2 wr X W4 : World} {e : TypeId} {s n : Nat} {v : Value} {xs : List Value} {P : Prop} (h : wr.ownsRow W2.heap.size e s v n xs ∧ P ∧ Below W2.heap.size W2 wr) (h4 : Below X.heap.size X W4) (c : Chg (fun _ => False) wr X) : W4.ownsRow W2.heap.size e s v n xs ∧ True ∧ Below W2.heap.size W2 W4 :=
  ⟨row_chg0 h.1 (on_chg h4 c), trivial, below_on h.2.2 (on_chg h4 c)⟩
theorem two_on {wr X : World} {b o1 o2 : Nat} {u1 u2 : Value} (h : wr.cell? ⟨b, o1, none⟩ = some u1 ∧ wr.cell? ⟨b, o2, none⟩ = some u2) (c : Chg (fun _ => False) wr X) : X.cell? ⟨b, o1, none⟩ = some u1 ∧ X.cell? ⟨b, o2, none⟩ = some u2 := ⟨cell_chg c h.1 (fun x => x), cell_chg c h.2 (fun x => x)⟩
theorem two_kept {W wr Y w3 : World} {b o1 o2 : Nat} {u1 u2 : Value} {e : TypeId} {s n : Nat} {v : Value} {xs : List Value} (h : wr.cell? ⟨b, o1, none⟩ = some u1 ∧ wr.cell? ⟨b, o2, none⟩ = some u2) (hr : wr.ownsRow W.heap.size e s v n xs) (c : Chg (fun _ => False) wr Y) (g : Y.grownBy w3 v.ownBlock) (hbW : b < W.heap.size) : w3.cell? ⟨b, o1, none⟩ = some u1 ∧ w3.cell? ⟨b, o2, none⟩ = some u2 := by
  have cc : Chg (fun j => W.heap.size ≤ j) wr w3 := c.trans (grown_chgE (F := fun j => W.heap.size ≤ j) g (fun j e => (hr.lt j e).1)) (fun _ _ x => x.elim) (fun _ _ x => x)
  have hn : ¬ W.heap.size ≤ b := by omega
  exact ⟨cell_chg cc h.1 hn, cell_chg cc h.2 hn⟩
theorem ro_len (T : Nat → Bool) (a : List (Nat × Nat)) (l : List Ch) : (ro T a l).length ≤ a.length + l.length := by
  have gen : ∀ n a l, a.length + l.length ≤ n → (ro T a l).length ≤ a.length + l.length := by
    intro n
    have hh : ∀ c, (hasL c).length ≤ 1 := fun c => by unfold hasL; split <;> simp
    have ht : ∀ x : Nat × Nat, (if T x.1 then [] else [x]).length ≤ 1 := fun x => by split <;> simp
    induction n with
    | zero =>
      intro a l h
      have ha : a = [] := List.length_eq_zero_iff.1 (by omega)
      have hl : l = [] := List.length_eq_zero_iff.1 (by omega)
      subst ha hl
      rw [ro_nil]; simp
    | succ n ih =>
      intro a l h
      cases a with
      | nil =>
        cases l with
        | nil => rw [ro_nil]; simp
        | cons c l =>
          have := ih [] l (by simp at h ⊢; omega)
          have := hh c
          rw [ro_l, List.length_append]; simp at *; omega
      | cons x a =>
        cases l with
        | nil =>
          have := ih a [] (by simp at h ⊢; omega)
          have := ht x
          rw [ro_a, List.length_append]; simp only [List.length_cons, List.length_nil] at *; omega
        | cons c l =>
          by_cases hc : x.1 < c.k
          · have := ih a (c :: l) (by simp at h ⊢; omega)
            have := ht x
            rw [ro_lt T hc, List.length_append]; simp only [List.length_cons] at *; omega
          · have := ih (x :: a) l (by simp at h ⊢; omega)
            have := hh c
            rw [ro_ge T hc, List.length_append]; simp only [List.length_cons] at *; omega
  exact gen _ a l (Nat.le_refl _)
set_option maxRecDepth 100000 in
set_option maxHeartbeats 4000000 in
theorem e_patch_yes {W : World} {pa pb : Option Addr} {la : List (Nat × Nat)} {lb : List Ch} (HA : PairsAt W pa la) (HB : ChAt W pb lb) (ca cb : Nat) (hla : la.length ≤ 10000000) (hlb : lb.length ≤ 10000000) (ra : riseB la = true) (rb : rightC lb = true) (hn : lb.all (fitsR la) = true) (T : Nat → Bool) (hT : ∀ key, T key = lb.any (fun x => x.k == key)) :
    Calls Try.prog 31 #[.slice pa la.length ca, .slice pb lb.length cb] W fun e W' => (∃ v, e = .returned (.tuple #[v, .int .i64 0]) ∧ W'.ownsRow W.heap.size 71 2 v (ro T la lb).length (prRow (ro T la lb))) ∧ Below W.heap.size W W' := by
  obtain ⟨i0, hi, hz0, hz1, hz2⟩ := info_parts infoPair
  have HC := e_right HA ca (by omega)
  have HD := fun W1 (h : Below W.heap.size W W1) => e_changes (W := W1) (HB.below' h) cb (by omega)
  rw [ra] at HC
  rw [rb] at HD
  replace HC := keepH HC
  replace HD := keepH HD
  have HAA := keepH HA
  have HBB := keepH HB
  have HN := keepH hn
  have HTT := keepH hT
  clear HA HB ra rb hn hT
  go_enter Try.func31, Try.ntmps31
  go_wp2_with (first | (go_at_call 39; refine HC.out.mono ?_; clear HC; rintro e W1 ⟨rfl, hB1⟩; have HB1 := keepH hB1; clear hB1) | (go_at_call 54; refine (HD.out _ HB1.out).mono ?_; clear HD; rintro e W2 ⟨rfl, hB2⟩; have HB2 := keepH (below_trans HB1.out hB2); clear hB2 HB1))
  have HCHG := keepH (fun (X : World) (h : Below W2.heap.size W2 X) (key : Nat) => e_change (HBB.out.below' (below_trans HB2.out h)) cb key (by omega))
  go_loopw [6] (fun q wr => ∃ i : Nat, i ≤ lb.length ∧ q = .int .i64 (i : Int) ∧ wr = W2 ∧ Hid (∀ (j : Nat) (x : Ch), j < i → lb[j]? = some x → fitsR la x = true)) (fun q _ => lb.length - (intOf q).toNat)
  case atStart => exact ⟨0, Nat.zero_le _, rfl, rfl, keepH (fun j x h => absurd h (by omega))⟩
  case round =>
    obtain ⟨i, hil, rfl, hw, HX⟩ := hrel
    obtain rfl : W2 = wr := hw.symm
    by_cases hlt : i < lb.length
    · have q1 : (i : Int) < (lb.length : Int) := by omega
      obtain ⟨⟨k, hd, hs, od, nw⟩, hk⟩ : ∃ y : Ch, lb[i]? = some y := ⟨lb[i], List.getElem?_eq_getElem hlt⟩
      obtain ⟨bk, off, rfl, hbk, hcs⟩ := (HBB.out.below' HB2.out).resolve_left (by intro e; subst e; simp at hk)
      obtain ⟨c0, c1, c2, c3, c4⟩ := hcs i _ hk
      simp only at c0 c1 c2 c3 c4
      have HF := keepH (e_find (HAA.out.chgF (below_chgE HB2.out) (fun _ _ _ x => x)) ca k (by omega))
      have HK := keepH hk
      clear hk hcs
      obtain ⟨fv, hfv⟩ : ∃ fv, fv = (lkP la k).getD 0 := ⟨_, rfl⟩
      obtain ⟨fb, hfb⟩ : ∃ fb, fb = (lkP la k).isSome := ⟨_, rfl⟩
      rw [← hfv, ← hfb] at HF
      by_cases t1 : fb = hd
      · by_cases t2 : fv = od
        · have HG : Hid (fitsR la ⟨k, hd, hs, od, nw⟩ = true) := keepH (by unfold fitsR; simp [← hfv, ← hfb, t1, t2])
          have HFV := keepH hfv
          have HFB := keepH hfb
          clear hfv hfb
          subst t1 t2
          have u1 : (fb != fb) = false := by simp
          have u2 : ((fv : Int) != (fv : Int)) = false := by simp
          go_wp2_with (first | (go_at_call 55; refine HF.out.mono ?_; clear HF; rintro e W3 ⟨rfl, rfl⟩))
          go_roundw
          case rel => exact ⟨i + 1, by omega, by first | rfl | go_num, (by first | rfl | trivial), keepH (fun j y hj hy => by
            by_cases z : j = i
            · subst z
              rw [HK.out] at hy
              injection hy with hy
              rw [← hy]
              exact HG.out
            · exact HX.out j y (by omega) hy)⟩
          case measure => simp [intOf]; omega
        · skip
          have HG : Hid (fitsR la ⟨k, hd, hs, od, nw⟩ = false) := keepH (by unfold fitsR; simp [← hfv, ← hfb, t1, t2])
          exact absurd (List.all_eq_true.1 HN.out _ (List.mem_iff_getElem?.2 ⟨_, HK.out⟩)) (by rw [HG.out]; simp)
      · skip
        have HG : Hid (fitsR la ⟨k, hd, hs, od, nw⟩ = false) := keepH (by unfold fitsR; simp [← hfv, ← hfb, t1])
        exact absurd (List.all_eq_true.1 HN.out _ (List.mem_iff_getElem?.2 ⟨_, HK.out⟩)) (by rw [HG.out]; simp)
    · skip
      have q1 : ¬ (i : Int) < (lb.length : Int) := by omega
      clear HX
      go_wp2_with fail
      go_loopw [9, 10, 11] (fun s q r wr => ∃ (i k : Nat) (out : List (Nat × Nat)), i ≤ la.length ∧ k ≤ lb.length + 1 ∧ (k = lb.length + 1 → i = la.length) ∧ q = .int .i64 (i : Int) ∧ r = .int .i64 (k : Int) ∧ Hid (wr.ownsRow W2.heap.size 71 2 s out.length (prRow out) ∧ out ++ ro T (la.drop i) (lb.drop k) = ro T la lb ∧ Below W2.heap.size W2 wr)) (fun _ _ r _ => lb.length + 1 - (intOf r).toNat)
      case atStart => exact ⟨0, 0, [], Nat.zero_le _, Nat.zero_le _, fun e => by omega, rfl, rfl, keepH ⟨World.ownsRow_nil _ _ _ _, by simp, Below.refl _ _⟩⟩
      case round =>
        obtain ⟨i1, k, out1, hil1, hkl1, hend, rfl, rfl, HX1⟩ := hrel
        by_cases hk : k ≤ lb.length
        · have qk : (k : Int) ≤ (lb.length : Int) := by omega
          clear hend
          go_wp2_with fail
          go_loopw [9, 10] (fun s q wr => ∃ (i : Nat) (out : List (Nat × Nat)), i ≤ la.length ∧ q = .int .i64 (i : Int) ∧ Hid (wr.ownsRow W2.heap.size 71 2 s out.length (prRow out) ∧ out ++ ro T (la.drop i) (lb.drop k) = ro T la lb ∧ Below W2.heap.size W2 wr)) (fun _ q _ => la.length - (intOf q).toNat)
          case atStart => exact ⟨_, _, hil1, rfl, keepH HX1.out⟩
          case round =>
            obtain ⟨i, out, hil, rfl, HX⟩ := hrel
            have HLN : Hid (out.length ≤ 20000000) := keepH (by
              have e := congrArg List.length HX.out.2.1
              have e2 := ro_len T la lb
              rw [List.length_append] at e
              omega)
            by_cases hkl : k = lb.length
            · have qe : ((k : Int) == (lb.length : Int)) = true := by simp; omega
              have qb : ¬ (k : Int) < (lb.length : Int) := by omega
              have HNB : Hid (lb[k]? = none) := keepH (by rw [List.getElem?_eq_none_iff]; omega)
              have HKL := keepH hkl
              clear hkl
              by_cases ha : i < la.length
              · skip
                have qa : (i : Int) < (la.length : Int) := by omega
                obtain ⟨⟨ka, xa⟩, hxa⟩ : ∃ y, la[i]? = some y := ⟨la[i]'(by omega), List.getElem?_eq_getElem _⟩
                have HLA := keepH hxa
                obtain ⟨bka, offa, rfl, _, _, a0, a1⟩ := HAA.out.getB (below_trans HB2.out HX.out.2.2) i ka xa hxa
                have hba : bka < wr.heap.size := World.block_lt_of_cell? wr _ a0
                clear hxa
                have HS : Hid (ro T (la.drop i) (lb.drop k) = (if T ka then [] else [(ka, xa)]) ++ ro T (la.drop (i + 1)) (lb.drop k)) := keepH (ro_stepA HLA.out (fun c hc => by rw [HNB.out] at hc; cases hc))
                have HQ := keepH (fun (X : World) (h : Below W2.heap.size W2 X) => HCHG.out X h ka)
                obtain ⟨tb, htb⟩ : ∃ tb, tb = T ka := ⟨_, rfl⟩
                have htb2 : tb = lb.any (fun x => x.k == ka) := by rw [htb, HTT.out]
                rw [← htb2] at HQ
                rw [← htb] at HS
                clear htb htb2
                cases tb
                · go_wp2_with fail
                  go_quiet (fail)
                  go_wp2_with (first | (go_at_call 56; refine (HQ.out _ (below_on HX.out.2.2 (by repeat' (first | refine Chg.setCell ?_ (fun h => absurd h (Nat.lt_irrefl _)) _ | refine Chg.alloc ?_ _ | refine chg_drewQ ?_ _ | refine Chg.drew ?_ | exact Chg.refl _ _)))).mono ?_; clear HQ; rintro e W4 ⟨⟨⟨z0, z1, z2, z3, z4⟩, rfl⟩, hB4⟩; simp only [Ch.val]; have HY := keepH (row_onD HX.out hB4 (by repeat' (first | refine Chg.setCell ?_ (fun h => absurd h (Nat.lt_irrefl _)) _ | refine Chg.alloc ?_ _ | refine chg_drewQ ?_ _ | refine Chg.drew ?_ | exact Chg.refl _ _))); (have cc := on_chg hB4 (wr := wr) (by repeat' (first | refine Chg.setCell ?_ (fun h => absurd h (Nat.lt_irrefl _)) _ | refine Chg.alloc ?_ _ | refine chg_drewQ ?_ _ | refine Chg.drew ?_ | exact Chg.refl _ _))); replace a0 := cell_chg cc a0 (fun x => x); replace a1 := cell_chg cc a1 (fun x => x); replace hba := Nat.lt_of_lt_of_le hba cc.size; clear cc hB4) | (at_builtin; go_loud (refine wpList_append_own_at _ rfl _ _ 22 rfl W2.heap.size 71 i0 (.agg #[.int .u64 0, .int .u64 0]) 2 16 Try.underlying22 hi hz0 hz1 hz2 rfl (by decide) _ _ _ rfl (row_chg0 HY.out.1 (by repeat' (first | refine Chg.setCell ?_ (fun h => absurd h (Nat.lt_irrefl _)) _ | refine Chg.alloc ?_ _ | refine chg_drewQ ?_ _ | refine Chg.drew ?_ | exact Chg.refl _ _))) ⟨_, 0, none⟩ 1 1 [.int .u64 (ka : Int), .int .u64 (xa : Int)] rfl rfl (cells_newE _ _ (by simp) _ _) (by intro u hu; simp at hu; rcases hu with rfl | rfl <;> rfl) (by unfold maxLen; have := HLN.out; omega) (by have := HLN.out; omega) (Nat.le_trans HY.out.2.2.size (Chg.size (F := fun _ => False) (by repeat' (first | refine Chg.setCell ?_ (fun h => absurd h (Nat.lt_irrefl _)) _ | refine Chg.alloc ?_ _ | refine chg_drewQ ?_ _ | refine Chg.drew ?_ | exact Chg.refl _ _)))) ?_); intro v' w3 r1 r2 r3 r4; have R1 := keepH r1; have R2 := keepH (turn_end HY.out.2.2 HY.out.1 (by repeat' (first | refine Chg.setCell ?_ (fun h => absurd h (Nat.lt_irrefl _)) _ | refine Chg.alloc ?_ _ | refine chg_drewQ ?_ _ | refine Chg.drew ?_ | exact Chg.refl _ _)) r2); clear r1 r2 r3 r4))
                  go_roundw
                  case rel => exact ⟨i + 1, out ++ [(ka, xa)], by omega, by first | rfl | go_num, keepH ⟨by have := R1.out; simpa [prRow] using this, by rw [← HX.out.2.1, HS.out]; simp, R2.out⟩⟩
                  case measure => simp [intOf]; omega
                · go_wp2_with fail
                  go_quiet (fail)
                  go_wp2_with (first | (go_at_call 56; refine (HQ.out _ (below_on HX.out.2.2 (by repeat' (first | refine Chg.setCell ?_ (fun h => absurd h (Nat.lt_irrefl _)) _ | refine Chg.alloc ?_ _ | refine chg_drewQ ?_ _ | refine Chg.drew ?_ | exact Chg.refl _ _)))).mono ?_; clear HQ; rintro e W4 ⟨⟨⟨z0, z1, z2, z3, z4⟩, rfl⟩, hB4⟩; simp only [Ch.val]; have HY := keepH (row_onD HX.out hB4 (by repeat' (first | refine Chg.setCell ?_ (fun h => absurd h (Nat.lt_irrefl _)) _ | refine Chg.alloc ?_ _ | refine chg_drewQ ?_ _ | refine Chg.drew ?_ | exact Chg.refl _ _))); clear hB4))
                  go_roundw
                  case rel => exact ⟨i + 1, out, by omega, by first | rfl | go_num, keepH ⟨row_chg0 HY.out.1 (by repeat' (first | refine Chg.setCell ?_ (fun h => absurd h (Nat.lt_irrefl _)) _ | refine Chg.alloc ?_ _ | refine chg_drewQ ?_ _ | refine Chg.drew ?_ | exact Chg.refl _ _)), by rw [← HX.out.2.1, HS.out]; simp, below_on HY.out.2.2 (by repeat' (first | refine Chg.setCell ?_ (fun h => absurd h (Nat.lt_irrefl _)) _ | refine Chg.alloc ?_ _ | refine chg_drewQ ?_ _ | refine Chg.drew ?_ | exact Chg.refl _ _))⟩⟩
                  case measure => simp [intOf]; omega

              · have qa : ¬ (i : Int) < (la.length : Int) := by omega
                go_wp2_with fail
                go_quiet (fail)
                go_wp2_with fail
                go_roundw
                case rel => exact ⟨i, k + 1, out, by omega, by omega, fun e => by omega, by first | rfl | go_num, by first | rfl | go_num, keepH ⟨row_chg0 HX.out.1 (by repeat' (first | refine Chg.setCell ?_ (fun h => absurd h (Nat.lt_irrefl _)) _ | refine Chg.alloc ?_ _ | refine chg_drewQ ?_ _ | refine Chg.drew ?_ | exact Chg.refl _ _)), by rw [← HX.out.2.1, List.drop_eq_nil_of_le (by have := HKL.out; omega : lb.length ≤ k + 1), List.drop_eq_nil_of_le (by have := HKL.out; omega : lb.length ≤ k)], below_on HX.out.2.2 (by repeat' (first | refine Chg.setCell ?_ (fun h => absurd h (Nat.lt_irrefl _)) _ | refine Chg.alloc ?_ _ | refine chg_drewQ ?_ _ | refine Chg.drew ?_ | exact Chg.refl _ _))⟩⟩
                case measure => simp [intOf]; omega
            · skip
              have qb : (k : Int) < (lb.length : Int) := by omega
              have qe : ((k : Int) == (lb.length : Int)) = false := by simp; omega
              obtain ⟨⟨kc, hd, hs, od, nw⟩, hxb⟩ : ∃ y, lb[k]? = some y := ⟨lb[k]'(by omega), List.getElem?_eq_getElem _⟩
              have HLB := keepH hxb
              obtain ⟨bkb, offb, rfl, hbb, hcs⟩ := (HBB.out.below' (below_trans HB2.out HX.out.2.2)).resolve_left (by intro e; subst e; simp at hxb)
              obtain ⟨b0, b1, b2, b3, b4⟩ := hcs k _ hxb
              simp only at b0 b1 b2 b3 b4
              have HB5 := keepH (And.intro b0 b4)
              have HBW : Hid (bkb < W2.heap.size) := keepH (by
                obtain ⟨bk', off', e, hb, _⟩ := (HBB.out.below' HB2.out).resolve_left (by intro e; subst e; simp at hxb)
                injection e with e
                injection e with e
                omega)
              clear hxb hcs

              by_cases ha : i < la.length
              · skip
                have qa : (i : Int) < (la.length : Int) := by omega
                obtain ⟨⟨ka, xa⟩, hxa⟩ : ∃ y, la[i]? = some y := ⟨la[i]'(by omega), List.getElem?_eq_getElem _⟩
                have HLA := keepH hxa
                obtain ⟨bka, offa, rfl, _, _, a0, a1⟩ := HAA.out.getB (below_trans HB2.out HX.out.2.2) i ka xa hxa
                have hba : bka < wr.heap.size := World.block_lt_of_cell? wr _ a0
                clear hxa

                by_cases t : ka < kc
                · have t1 : decide ((ka : Int) < (kc : Int)) = true := decide_eq_true (by omega)
                  have t2 : (ka : Int) < (kc : Int) := by omega
                  have HT := keepH t
                  clear t
                  have HS : Hid (ro T (la.drop i) (lb.drop k) = (if T ka then [] else [(ka, xa)]) ++ ro T (la.drop (i + 1)) (lb.drop k)) := keepH (ro_stepA HLA.out (fun c hc => by rw [HLB.out] at hc; injection hc with hc; rw [← hc]; exact HT.out))
                  have HQ := keepH (fun (X : World) (h : Below W2.heap.size W2 X) => HCHG.out X h ka)
                  obtain ⟨tb, htb⟩ : ∃ tb, tb = T ka := ⟨_, rfl⟩
                  have htb2 : tb = lb.any (fun x => x.k == ka) := by rw [htb, HTT.out]
                  rw [← htb2] at HQ
                  rw [← htb] at HS
                  clear htb htb2
                  cases tb
                  · go_wp2_with fail
                    go_quiet (fail)
                    go_wp2_with (first | (go_at_call 56; refine (HQ.out _ (below_on HX.out.2.2 (by repeat' (first | refine Chg.setCell ?_ (fun h => absurd h (Nat.lt_irrefl _)) _ | refine Chg.alloc ?_ _ | refine chg_drewQ ?_ _ | refine Chg.drew ?_ | exact Chg.refl _ _)))).mono ?_; clear HQ; rintro e W4 ⟨⟨⟨z0, z1, z2, z3, z4⟩, rfl⟩, hB4⟩; simp only [Ch.val]; have HY := keepH (row_onD HX.out hB4 (by repeat' (first | refine Chg.setCell ?_ (fun h => absurd h (Nat.lt_irrefl _)) _ | refine Chg.alloc ?_ _ | refine chg_drewQ ?_ _ | refine Chg.drew ?_ | exact Chg.refl _ _))); (have cc := on_chg hB4 (wr := wr) (by repeat' (first | refine Chg.setCell ?_ (fun h => absurd h (Nat.lt_irrefl _)) _ | refine Chg.alloc ?_ _ | refine chg_drewQ ?_ _ | refine Chg.drew ?_ | exact Chg.refl _ _))); replace a0 := cell_chg cc a0 (fun x => x); replace a1 := cell_chg cc a1 (fun x => x); replace hba := Nat.lt_of_lt_of_le hba cc.size; clear cc hB4) | (at_builtin; go_loud (refine wpList_append_own_at _ rfl _ _ 22 rfl W2.heap.size 71 i0 (.agg #[.int .u64 0, .int .u64 0]) 2 16 Try.underlying22 hi hz0 hz1 hz2 rfl (by decide) _ _ _ rfl (row_chg0 HY.out.1 (by repeat' (first | refine Chg.setCell ?_ (fun h => absurd h (Nat.lt_irrefl _)) _ | refine Chg.alloc ?_ _ | refine chg_drewQ ?_ _ | refine Chg.drew ?_ | exact Chg.refl _ _))) ⟨_, 0, none⟩ 1 1 [.int .u64 (ka : Int), .int .u64 (xa : Int)] rfl rfl (cells_newE _ _ (by simp) _ _) (by intro u hu; simp at hu; rcases hu with rfl | rfl <;> rfl) (by unfold maxLen; have := HLN.out; omega) (by have := HLN.out; omega) (Nat.le_trans HY.out.2.2.size (Chg.size (F := fun _ => False) (by repeat' (first | refine Chg.setCell ?_ (fun h => absurd h (Nat.lt_irrefl _)) _ | refine Chg.alloc ?_ _ | refine chg_drewQ ?_ _ | refine Chg.drew ?_ | exact Chg.refl _ _)))) ?_); intro v' w3 r1 r2 r3 r4; have R1 := keepH r1; have R2 := keepH (turn_end HY.out.2.2 HY.out.1 (by repeat' (first | refine Chg.setCell ?_ (fun h => absurd h (Nat.lt_irrefl _)) _ | refine Chg.alloc ?_ _ | refine chg_drewQ ?_ _ | refine Chg.drew ?_ | exact Chg.refl _ _)) r2); clear r1 r2 r3 r4))
                    go_roundw
                    case rel => exact ⟨i + 1, out ++ [(ka, xa)], by omega, by first | rfl | go_num, keepH ⟨by have := R1.out; simpa [prRow] using this, by rw [← HX.out.2.1, HS.out]; simp, R2.out⟩⟩
                    case measure => simp [intOf]; omega
                  · go_wp2_with fail
                    go_quiet (fail)
                    go_wp2_with (first | (go_at_call 56; refine (HQ.out _ (below_on HX.out.2.2 (by repeat' (first | refine Chg.setCell ?_ (fun h => absurd h (Nat.lt_irrefl _)) _ | refine Chg.alloc ?_ _ | refine chg_drewQ ?_ _ | refine Chg.drew ?_ | exact Chg.refl _ _)))).mono ?_; clear HQ; rintro e W4 ⟨⟨⟨z0, z1, z2, z3, z4⟩, rfl⟩, hB4⟩; simp only [Ch.val]; have HY := keepH (row_onD HX.out hB4 (by repeat' (first | refine Chg.setCell ?_ (fun h => absurd h (Nat.lt_irrefl _)) _ | refine Chg.alloc ?_ _ | refine chg_drewQ ?_ _ | refine Chg.drew ?_ | exact Chg.refl _ _))); clear hB4))
                    go_roundw
                    case rel => exact ⟨i + 1, out, by omega, by first | rfl | go_num, keepH ⟨row_chg0 HY.out.1 (by repeat' (first | refine Chg.setCell ?_ (fun h => absurd h (Nat.lt_irrefl _)) _ | refine Chg.alloc ?_ _ | refine chg_drewQ ?_ _ | refine Chg.drew ?_ | exact Chg.refl _ _)), by rw [← HX.out.2.1, HS.out]; simp, below_on HY.out.2.2 (by repeat' (first | refine Chg.setCell ?_ (fun h => absurd h (Nat.lt_irrefl _)) _ | refine Chg.alloc ?_ _ | refine chg_drewQ ?_ _ | refine Chg.drew ?_ | exact Chg.refl _ _))⟩⟩
                    case measure => simp [intOf]; omega

                · have t1 : decide ((ka : Int) < (kc : Int)) = false := decide_eq_false (by omega)
                  have t2 : ¬ (ka : Int) < (kc : Int) := by omega
                  have HT := keepH t
                  clear t
                  have HS : Hid (ro T (la.drop i) (lb.drop k) = hasL ⟨kc, hd, hs, od, nw⟩ ++ ro T (la.drop i) (lb.drop (k + 1))) := keepH (ro_stepC HLB.out (fun x hx => by rw [HLA.out] at hx; injection hx with hx; rw [← hx]; exact HT.out))
                  cases hs
                  · go_wp2_with fail
                    go_quiet (fail)
                    go_wp2_with fail
                    go_roundw
                    case rel => exact ⟨i, k + 1, out, by omega, by omega, fun e => by omega, by first | rfl | go_num, by first | rfl | go_num, keepH ⟨row_chg0 HX.out.1 (by repeat' (first | refine Chg.setCell ?_ (fun h => absurd h (Nat.lt_irrefl _)) _ | refine Chg.alloc ?_ _ | refine chg_drewQ ?_ _ | refine Chg.drew ?_ | exact Chg.refl _ _)), by rw [← HX.out.2.1, HS.out]; simp [hasL], below_on HX.out.2.2 (by repeat' (first | refine Chg.setCell ?_ (fun h => absurd h (Nat.lt_irrefl _)) _ | refine Chg.alloc ?_ _ | refine chg_drewQ ?_ _ | refine Chg.drew ?_ | exact Chg.refl _ _))⟩⟩
                    case measure => simp [intOf]; omega
                  · go_wp2_with fail
                    go_quiet (fail)
                    go_wp2_with fail
                    refine wp_region_held_drew (S := (fun w => w.cell? ⟨bkb, offb + k * 5, none⟩ = some (.int .u64 (kc : Int)) ∧ w.cell? ⟨bkb, offb + k * 5 + 4, none⟩ = some (.int .u64 (nw : Int)))) (by kernel_rfl) (two_on HB5.out (by repeat' (first | refine Chg.setCell ?_ (fun h => absurd h (Nat.lt_irrefl _)) _ | refine Chg.alloc ?_ _ | refine chg_drewQ ?_ _ | refine Chg.drew ?_ | exact Chg.refl _ _))) ?_
                    intro hHeld
                    refine wpAnyH_take (i := 0) (v := ?_) rfl (by kernel_rfl) (by kernel_rfl) (by kernel_rfl) (fun _ _ _ h => h) (Or.inl ⟨by rfl, ?_⟩) hHeld ?_
                    rotate_left
                    · intro w hSw
                      obtain ⟨y0, y4⟩ := hSw
                      go_simp
                      try with_reducible rfl
                    (try simp only [Act.put]); (try simp only [List.setIfInBounds_toArray]); (repeat (first | simp only [List.set_cons_succ] | simp only [List.set_cons_zero]))
                    refine wpAnyH_take (i := 1) (v := ?_) rfl (by kernel_rfl) (by kernel_rfl) (by kernel_rfl) (fun _ _ _ h => h) (Or.inl ⟨by rfl, ?_⟩) hHeld ?_
                    rotate_left
                    · intro w hSw
                      obtain ⟨y0, y4⟩ := hSw
                      go_simp
                      try with_reducible rfl
                    (try simp only [Act.put]); (try simp only [List.setIfInBounds_toArray]); (repeat (first | simp only [List.set_cons_succ] | simp only [List.set_cons_zero]))
                    refine wpAnyH_take (i := 2) (v := ?_) rfl (by kernel_rfl) (by kernel_rfl) (by kernel_rfl) (fun _ _ _ h => h) (Or.inl ⟨by rfl, ?_⟩) hHeld ?_
                    rotate_left
                    · intro w hSw
                      obtain ⟨y0, y4⟩ := hSw
                      go_simp
                      try with_reducible rfl
                    (try simp only [Act.put]); (try simp only [List.setIfInBounds_toArray]); (repeat (first | simp only [List.set_cons_succ] | simp only [List.set_cons_zero]))
                    refine wpAnyH_take (i := 3) (v := ?_) rfl (by kernel_rfl) (by kernel_rfl) (by kernel_rfl) (fun _ _ _ h => h) (Or.inl ⟨by rfl, ?_⟩) hHeld ?_
                    rotate_left
                    · intro w hSw
                      obtain ⟨y0, y4⟩ := hSw
                      go_simp
                      try with_reducible rfl
                    (try simp only [Act.put]); (try simp only [List.setIfInBounds_toArray]); (repeat (first | simp only [List.set_cons_succ] | simp only [List.set_cons_zero]))
                    refine wpAnyH_take (i := 4) (v := ?_) rfl (by kernel_rfl) (by kernel_rfl) (by kernel_rfl) (fun _ _ _ h => h) (Or.inl ⟨by rfl, ?_⟩) hHeld ?_
                    rotate_left
                    · intro w hSw
                      obtain ⟨y0, y4⟩ := hSw
                      go_simp
                      try with_reducible rfl
                    (try simp only [Act.put]); (try simp only [List.setIfInBounds_toArray]); (repeat (first | simp only [List.set_cons_succ] | simp only [List.set_cons_zero]))
                    refine wpAnyH_take (i := 5) (v := ?_) rfl (by kernel_rfl) (by kernel_rfl) (by kernel_rfl) (fun _ _ _ h => h) (Or.inl ⟨by rfl, ?_⟩) hHeld ?_
                    rotate_left
                    · intro w hSw
                      obtain ⟨y0, y4⟩ := hSw
                      go_simp
                      try with_reducible rfl
                    (try simp only [Act.put]); (try simp only [List.setIfInBounds_toArray]); (repeat (first | simp only [List.set_cons_succ] | simp only [List.set_cons_zero]))
                    refine wpAnyH_take (i := 6) (v := ?_) rfl (by kernel_rfl) (by kernel_rfl) (by kernel_rfl) (fun _ _ _ h => h) (Or.inl ⟨by rfl, ?_⟩) hHeld ?_
                    rotate_left
                    · intro w hSw
                      obtain ⟨y0, y4⟩ := hSw
                      go_simp
                      try with_reducible rfl
                    (try simp only [Act.put]); (try simp only [List.setIfInBounds_toArray]); (repeat (first | simp only [List.set_cons_succ] | simp only [List.set_cons_zero]))
                    refine wpAnyH_take (i := 7) (v := ?_) rfl (by kernel_rfl) (by kernel_rfl) (by kernel_rfl) (fun _ _ _ h => h) (Or.inl ⟨by rfl, ?_⟩) hHeld ?_
                    rotate_left
                    · intro w hSw
                      obtain ⟨y0, y4⟩ := hSw
                      go_simp
                      try with_reducible rfl
                    (try simp only [Act.put]); (try simp only [List.setIfInBounds_toArray]); (repeat (first | simp only [List.set_cons_succ] | simp only [List.set_cons_zero]))
                    refine wpAnyH_take (i := 8) (v := ?_) rfl (by kernel_rfl) (by kernel_rfl) (by kernel_rfl) (fun _ _ _ h => h) (Or.inl ⟨by rfl, ?_⟩) hHeld ?_
                    rotate_left
                    · intro w hSw
                      obtain ⟨y0, y4⟩ := hSw
                      go_simp
                      try with_reducible rfl
                    (try simp only [Act.put]); (try simp only [List.setIfInBounds_toArray]); (repeat (first | simp only [List.set_cons_succ] | simp only [List.set_cons_zero]))
                    refine wpAnyH_take (i := 9) (v := ?_) rfl (by kernel_rfl) (by kernel_rfl) (by kernel_rfl) (fun _ _ _ h => h) (Or.inl ⟨by rfl, ?_⟩) hHeld ?_
                    rotate_left
                    · intro w hSw
                      obtain ⟨y0, y4⟩ := hSw
                      go_simp
                      try with_reducible rfl
                    (try simp only [Act.put]); (try simp only [List.setIfInBounds_toArray]); (repeat (first | simp only [List.set_cons_succ] | simp only [List.set_cons_zero]))
                    refine wpAnyH_take (i := 10) (v := ?_) rfl (by kernel_rfl) (by kernel_rfl) (by kernel_rfl) (fun _ _ _ h => h) (Or.inl ⟨by rfl, ?_⟩) hHeld ?_
                    rotate_left
                    · intro w hSw
                      obtain ⟨y0, y4⟩ := hSw
                      go_simp
                      try with_reducible rfl
                    (try simp only [Act.put]); (try simp only [List.setIfInBounds_toArray]); (repeat (first | simp only [List.set_cons_succ] | simp only [List.set_cons_zero]))
                    refine wpAnyH_take (i := 11) (v := ?_) rfl (by kernel_rfl) (by kernel_rfl) (by kernel_rfl) (fun _ _ _ h => h) (Or.inl ⟨by rfl, ?_⟩) hHeld ?_
                    rotate_left
                    · intro w hSw
                      obtain ⟨y0, y4⟩ := hSw
                      go_simp
                      try with_reducible rfl
                    (try simp only [Act.put]); (try simp only [List.setIfInBounds_toArray]); (repeat (first | simp only [List.set_cons_succ] | simp only [List.set_cons_zero]))
                    refine wpAnyH_ready (rs := [12]) (by kernel_rfl) (by simp) ?_
                    refine AllReadyH.cons rfl (fun KK hKK => ?_) AllReadyH.nil
                    go_simp
                    refine hKK.out _ _ ?_ (fun hHeld => ?_)
                    · exact two_on HB5.out (by repeat' (first | refine Chg.setCell ?_ (fun h => absurd h (Nat.lt_irrefl _)) _ | refine Chg.alloc ?_ _ | refine chg_drewQ ?_ _ | refine Chg.drew ?_ | exact Chg.refl _ _))
                    clear hKK KK
                    (try simp only [Act.put]); (try simp only [List.setIfInBounds_toArray]); (repeat (first | simp only [List.set_cons_succ] | simp only [List.set_cons_zero]))
                    refine wpAnyH_ready (rs := [13]) (by kernel_rfl) (by simp) ?_
                    refine AllReadyH.cons rfl (fun KK hKK => ?_) AllReadyH.nil
                    refine step_append_baseE rfl (.tmp 115) (.tmp 127) 22 rfl W2.heap.size 71 i0 (.agg #[.int .u64 0, .int .u64 0]) 2 16 Try.underlying22 hi hz0 hz1 hz2 rfl (by decide) _ _ _ rfl (row_chg0 HX.out.1 (by repeat' (first | refine Chg.setCell ?_ (fun h => absurd h (Nat.lt_irrefl _)) _ | refine Chg.alloc ?_ _ | refine chg_drewQ ?_ _ | refine Chg.drew ?_ | exact Chg.refl _ _))) ⟨_, 0, none⟩ 1 1 [.int .u64 (kc : Int), .int .u64 (nw : Int)] rfl rfl (cells_newE _ _ rfl _ _) (by intro u hu; simp at hu; rcases hu with rfl | rfl <;> rfl) (by unfold maxLen; have := HLN.out; omega) (by have := HLN.out; omega) (Nat.le_trans HX.out.2.2.size (Chg.size (F := fun _ => False) (by repeat' (first | refine Chg.setCell ?_ (fun h => absurd h (Nat.lt_irrefl _)) _ | refine Chg.alloc ?_ _ | refine chg_drewQ ?_ _ | refine Chg.drew ?_ | exact Chg.refl _ _)))) ?_
                    intro v2 w3 r1 r2 r4
                    have R1 := keepH r1
                    have R2 := keepH (turn_end HX.out.2.2 HX.out.1 (by repeat' (first | refine Chg.setCell ?_ (fun h => absurd h (Nat.lt_irrefl _)) _ | refine Chg.alloc ?_ _ | refine chg_drewQ ?_ _ | refine Chg.drew ?_ | exact Chg.refl _ _)) r2)
                    refine hKK.out _ _ ?_ (fun hHeld => ?_)
                    · exact two_kept HB5.out HX.out.1 (by repeat' (first | refine Chg.setCell ?_ (fun h => absurd h (Nat.lt_irrefl _)) _ | refine Chg.alloc ?_ _ | refine chg_drewQ ?_ _ | refine Chg.drew ?_ | exact Chg.refl _ _)) r2 HBW.out
                    clear hKK KK
                    (try simp only [Act.put]); (try simp only [List.setIfInBounds_toArray]); (repeat (first | simp only [List.set_cons_succ] | simp only [List.set_cons_zero]))
                    refine wpAnyH_take (i := 14) (v := ?_) rfl (by kernel_rfl) (by kernel_rfl) (by kernel_rfl) (fun _ _ _ h => h) (Or.inl ⟨by rfl, ?_⟩) hHeld ?_
                    rotate_left
                    · intro w hSw
                      obtain ⟨y0, y4⟩ := hSw
                      go_simp
                      try with_reducible rfl
                    (try simp only [Act.put]); (try simp only [List.setIfInBounds_toArray]); (repeat (first | simp only [List.set_cons_succ] | simp only [List.set_cons_zero]))
                    refine wpAnyH_done (by kernel_rfl) ?_ _
                    go_simp
                    go_wp2_with fail
                    go_roundw
                    case rel => exact ⟨i, k + 1, out ++ [(kc, nw)], by omega, by omega, fun e => by omega, by first | rfl | go_num, by first | rfl | go_num, keepH ⟨by have := R1.out; simpa [prRow] using this, by rw [← HX.out.2.1, HS.out]; simp [hasL], R2.out⟩⟩
                    case measure => simp [intOf]; omega

              · have qa : ¬ (i : Int) < (la.length : Int) := by omega
                have HNA : Hid (la[i]? = none) := keepH (by rw [List.getElem?_eq_none_iff]; omega)
                have HS : Hid (ro T (la.drop i) (lb.drop k) = hasL ⟨kc, hd, hs, od, nw⟩ ++ ro T (la.drop i) (lb.drop (k + 1))) := keepH (ro_stepC HLB.out (fun x hx => by rw [HNA.out] at hx; cases hx))
                cases hs
                · go_wp2_with fail
                  go_quiet (fail)
                  go_wp2_with fail
                  go_roundw
                  case rel => exact ⟨i, k + 1, out, by omega, by omega, fun e => by omega, by first | rfl | go_num, by first | rfl | go_num, keepH ⟨row_chg0 HX.out.1 (by repeat' (first | refine Chg.setCell ?_ (fun h => absurd h (Nat.lt_irrefl _)) _ | refine Chg.alloc ?_ _ | refine chg_drewQ ?_ _ | refine Chg.drew ?_ | exact Chg.refl _ _)), by rw [← HX.out.2.1, HS.out]; simp [hasL], below_on HX.out.2.2 (by repeat' (first | refine Chg.setCell ?_ (fun h => absurd h (Nat.lt_irrefl _)) _ | refine Chg.alloc ?_ _ | refine chg_drewQ ?_ _ | refine Chg.drew ?_ | exact Chg.refl _ _))⟩⟩
                  case measure => simp [intOf]; omega
                · go_wp2_with fail
                  go_quiet (fail)
                  go_wp2_with fail
                  refine wp_region_held_drew (S := (fun w => w.cell? ⟨bkb, offb + k * 5, none⟩ = some (.int .u64 (kc : Int)) ∧ w.cell? ⟨bkb, offb + k * 5 + 4, none⟩ = some (.int .u64 (nw : Int)))) (by kernel_rfl) (two_on HB5.out (by repeat' (first | refine Chg.setCell ?_ (fun h => absurd h (Nat.lt_irrefl _)) _ | refine Chg.alloc ?_ _ | refine chg_drewQ ?_ _ | refine Chg.drew ?_ | exact Chg.refl _ _))) ?_
                  intro hHeld
                  refine wpAnyH_take (i := 0) (v := ?_) rfl (by kernel_rfl) (by kernel_rfl) (by kernel_rfl) (fun _ _ _ h => h) (Or.inl ⟨by rfl, ?_⟩) hHeld ?_
                  rotate_left
                  · intro w hSw
                    obtain ⟨y0, y4⟩ := hSw
                    go_simp
                    try with_reducible rfl
                  (try simp only [Act.put]); (try simp only [List.setIfInBounds_toArray]); (repeat (first | simp only [List.set_cons_succ] | simp only [List.set_cons_zero]))
                  refine wpAnyH_take (i := 1) (v := ?_) rfl (by kernel_rfl) (by kernel_rfl) (by kernel_rfl) (fun _ _ _ h => h) (Or.inl ⟨by rfl, ?_⟩) hHeld ?_
                  rotate_left
                  · intro w hSw
                    obtain ⟨y0, y4⟩ := hSw
                    go_simp
                    try with_reducible rfl
                  (try simp only [Act.put]); (try simp only [List.setIfInBounds_toArray]); (repeat (first | simp only [List.set_cons_succ] | simp only [List.set_cons_zero]))
                  refine wpAnyH_take (i := 2) (v := ?_) rfl (by kernel_rfl) (by kernel_rfl) (by kernel_rfl) (fun _ _ _ h => h) (Or.inl ⟨by rfl, ?_⟩) hHeld ?_
                  rotate_left
                  · intro w hSw
                    obtain ⟨y0, y4⟩ := hSw
                    go_simp
                    try with_reducible rfl
                  (try simp only [Act.put]); (try simp only [List.setIfInBounds_toArray]); (repeat (first | simp only [List.set_cons_succ] | simp only [List.set_cons_zero]))
                  refine wpAnyH_take (i := 3) (v := ?_) rfl (by kernel_rfl) (by kernel_rfl) (by kernel_rfl) (fun _ _ _ h => h) (Or.inl ⟨by rfl, ?_⟩) hHeld ?_
                  rotate_left
                  · intro w hSw
                    obtain ⟨y0, y4⟩ := hSw
                    go_simp
                    try with_reducible rfl
                  (try simp only [Act.put]); (try simp only [List.setIfInBounds_toArray]); (repeat (first | simp only [List.set_cons_succ] | simp only [List.set_cons_zero]))
                  refine wpAnyH_take (i := 4) (v := ?_) rfl (by kernel_rfl) (by kernel_rfl) (by kernel_rfl) (fun _ _ _ h => h) (Or.inl ⟨by rfl, ?_⟩) hHeld ?_
                  rotate_left
                  · intro w hSw
                    obtain ⟨y0, y4⟩ := hSw
                    go_simp
                    try with_reducible rfl
                  (try simp only [Act.put]); (try simp only [List.setIfInBounds_toArray]); (repeat (first | simp only [List.set_cons_succ] | simp only [List.set_cons_zero]))
                  refine wpAnyH_take (i := 5) (v := ?_) rfl (by kernel_rfl) (by kernel_rfl) (by kernel_rfl) (fun _ _ _ h => h) (Or.inl ⟨by rfl, ?_⟩) hHeld ?_
                  rotate_left
                  · intro w hSw
                    obtain ⟨y0, y4⟩ := hSw
                    go_simp
                    try with_reducible rfl
                  (try simp only [Act.put]); (try simp only [List.setIfInBounds_toArray]); (repeat (first | simp only [List.set_cons_succ] | simp only [List.set_cons_zero]))
                  refine wpAnyH_take (i := 6) (v := ?_) rfl (by kernel_rfl) (by kernel_rfl) (by kernel_rfl) (fun _ _ _ h => h) (Or.inl ⟨by rfl, ?_⟩) hHeld ?_
                  rotate_left
                  · intro w hSw
                    obtain ⟨y0, y4⟩ := hSw
                    go_simp
                    try with_reducible rfl
                  (try simp only [Act.put]); (try simp only [List.setIfInBounds_toArray]); (repeat (first | simp only [List.set_cons_succ] | simp only [List.set_cons_zero]))
                  refine wpAnyH_take (i := 7) (v := ?_) rfl (by kernel_rfl) (by kernel_rfl) (by kernel_rfl) (fun _ _ _ h => h) (Or.inl ⟨by rfl, ?_⟩) hHeld ?_
                  rotate_left
                  · intro w hSw
                    obtain ⟨y0, y4⟩ := hSw
                    go_simp
                    try with_reducible rfl
                  (try simp only [Act.put]); (try simp only [List.setIfInBounds_toArray]); (repeat (first | simp only [List.set_cons_succ] | simp only [List.set_cons_zero]))
                  refine wpAnyH_take (i := 8) (v := ?_) rfl (by kernel_rfl) (by kernel_rfl) (by kernel_rfl) (fun _ _ _ h => h) (Or.inl ⟨by rfl, ?_⟩) hHeld ?_
                  rotate_left
                  · intro w hSw
                    obtain ⟨y0, y4⟩ := hSw
                    go_simp
                    try with_reducible rfl
                  (try simp only [Act.put]); (try simp only [List.setIfInBounds_toArray]); (repeat (first | simp only [List.set_cons_succ] | simp only [List.set_cons_zero]))
                  refine wpAnyH_take (i := 9) (v := ?_) rfl (by kernel_rfl) (by kernel_rfl) (by kernel_rfl) (fun _ _ _ h => h) (Or.inl ⟨by rfl, ?_⟩) hHeld ?_
                  rotate_left
                  · intro w hSw
                    obtain ⟨y0, y4⟩ := hSw
                    go_simp
                    try with_reducible rfl
                  (try simp only [Act.put]); (try simp only [List.setIfInBounds_toArray]); (repeat (first | simp only [List.set_cons_succ] | simp only [List.set_cons_zero]))
                  refine wpAnyH_take (i := 10) (v := ?_) rfl (by kernel_rfl) (by kernel_rfl) (by kernel_rfl) (fun _ _ _ h => h) (Or.inl ⟨by rfl, ?_⟩) hHeld ?_
                  rotate_left
                  · intro w hSw
                    obtain ⟨y0, y4⟩ := hSw
                    go_simp
                    try with_reducible rfl
                  (try simp only [Act.put]); (try simp only [List.setIfInBounds_toArray]); (repeat (first | simp only [List.set_cons_succ] | simp only [List.set_cons_zero]))
                  refine wpAnyH_take (i := 11) (v := ?_) rfl (by kernel_rfl) (by kernel_rfl) (by kernel_rfl) (fun _ _ _ h => h) (Or.inl ⟨by rfl, ?_⟩) hHeld ?_
                  rotate_left
                  · intro w hSw
                    obtain ⟨y0, y4⟩ := hSw
                    go_simp
                    try with_reducible rfl
                  (try simp only [Act.put]); (try simp only [List.setIfInBounds_toArray]); (repeat (first | simp only [List.set_cons_succ] | simp only [List.set_cons_zero]))
                  refine wpAnyH_ready (rs := [12]) (by kernel_rfl) (by simp) ?_
                  refine AllReadyH.cons rfl (fun KK hKK => ?_) AllReadyH.nil
                  go_simp
                  refine hKK.out _ _ ?_ (fun hHeld => ?_)
                  · exact two_on HB5.out (by repeat' (first | refine Chg.setCell ?_ (fun h => absurd h (Nat.lt_irrefl _)) _ | refine Chg.alloc ?_ _ | refine chg_drewQ ?_ _ | refine Chg.drew ?_ | exact Chg.refl _ _))
                  clear hKK KK
                  (try simp only [Act.put]); (try simp only [List.setIfInBounds_toArray]); (repeat (first | simp only [List.set_cons_succ] | simp only [List.set_cons_zero]))
                  refine wpAnyH_ready (rs := [13]) (by kernel_rfl) (by simp) ?_
                  refine AllReadyH.cons rfl (fun KK hKK => ?_) AllReadyH.nil
                  refine step_append_baseE rfl (.tmp 115) (.tmp 127) 22 rfl W2.heap.size 71 i0 (.agg #[.int .u64 0, .int .u64 0]) 2 16 Try.underlying22 hi hz0 hz1 hz2 rfl (by decide) _ _ _ rfl (row_chg0 HX.out.1 (by repeat' (first | refine Chg.setCell ?_ (fun h => absurd h (Nat.lt_irrefl _)) _ | refine Chg.alloc ?_ _ | refine chg_drewQ ?_ _ | refine Chg.drew ?_ | exact Chg.refl _ _))) ⟨_, 0, none⟩ 1 1 [.int .u64 (kc : Int), .int .u64 (nw : Int)] rfl rfl (cells_newE _ _ rfl _ _) (by intro u hu; simp at hu; rcases hu with rfl | rfl <;> rfl) (by unfold maxLen; have := HLN.out; omega) (by have := HLN.out; omega) (Nat.le_trans HX.out.2.2.size (Chg.size (F := fun _ => False) (by repeat' (first | refine Chg.setCell ?_ (fun h => absurd h (Nat.lt_irrefl _)) _ | refine Chg.alloc ?_ _ | refine chg_drewQ ?_ _ | refine Chg.drew ?_ | exact Chg.refl _ _)))) ?_
                  intro v2 w3 r1 r2 r4
                  have R1 := keepH r1
                  have R2 := keepH (turn_end HX.out.2.2 HX.out.1 (by repeat' (first | refine Chg.setCell ?_ (fun h => absurd h (Nat.lt_irrefl _)) _ | refine Chg.alloc ?_ _ | refine chg_drewQ ?_ _ | refine Chg.drew ?_ | exact Chg.refl _ _)) r2)
                  refine hKK.out _ _ ?_ (fun hHeld => ?_)
                  · exact two_kept HB5.out HX.out.1 (by repeat' (first | refine Chg.setCell ?_ (fun h => absurd h (Nat.lt_irrefl _)) _ | refine Chg.alloc ?_ _ | refine chg_drewQ ?_ _ | refine Chg.drew ?_ | exact Chg.refl _ _)) r2 HBW.out
                  clear hKK KK
                  (try simp only [Act.put]); (try simp only [List.setIfInBounds_toArray]); (repeat (first | simp only [List.set_cons_succ] | simp only [List.set_cons_zero]))
                  refine wpAnyH_take (i := 14) (v := ?_) rfl (by kernel_rfl) (by kernel_rfl) (by kernel_rfl) (fun _ _ _ h => h) (Or.inl ⟨by rfl, ?_⟩) hHeld ?_
                  rotate_left
                  · intro w hSw
                    obtain ⟨y0, y4⟩ := hSw
                    go_simp
                    try with_reducible rfl
                  (try simp only [Act.put]); (try simp only [List.setIfInBounds_toArray]); (repeat (first | simp only [List.set_cons_succ] | simp only [List.set_cons_zero]))
                  refine wpAnyH_done (by kernel_rfl) ?_ _
                  go_simp
                  go_wp2_with fail
                  go_roundw
                  case rel => exact ⟨i, k + 1, out ++ [(kc, nw)], by omega, by omega, fun e => by omega, by first | rfl | go_num, by first | rfl | go_num, keepH ⟨by have := R1.out; simpa [prRow] using this, by rw [← HX.out.2.1, HS.out]; simp [hasL], R2.out⟩⟩
                  case measure => simp [intOf]; omega


        · have qk : ¬ (k : Int) ≤ (lb.length : Int) := by omega
          have HE : Hid (out1 = ro T la lb) := keepH (by
            have e := HX1.out.2.1
            rw [hend (by omega), List.drop_eq_nil_of_le (Nat.le_refl _), List.drop_eq_nil_of_le (by omega : lb.length ≤ k), ro_nil, List.append_nil] at e
            exact e)
          go_wp2_with fail
          go_ret2
          refine ⟨⟨_, rfl, ?_⟩, below_trans HB2.out HX1.out.2.2⟩
          have q := HX1.out.1
          rw [HE.out] at q
          exact row_base q HB2.out.size
end Go.Proofs.Ytbmfjcdafjknaaa
