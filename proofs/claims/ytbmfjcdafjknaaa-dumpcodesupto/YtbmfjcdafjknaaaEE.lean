/- The document's Patch: its errors. -/
import Derived.Test.YtbmfjcdafjknaaaED
import Derived.Test.YtbmfjcdafjknaaaEm
namespace Go.Proofs.Ytbmfjcdafjknaaa
open Go.RowKit
set_option linter.unusedVariables false

theorem ChAt.below' {W W' : World} {p : Option Addr} {l : List Ch} (h : ChAt W p l) (b : Below W.heap.size W W') : ChAt W' p l := h.below b
set_option maxRecDepth 100000 in
set_option maxHeartbeats 4000000 in
theorem e_patch_form {W : World} {pa pb : Option Addr} {la : List (Nat × Nat)} {lb : List Ch} (HA : PairsAt W pa la) (HB : ChAt W pb lb) (ca cb : Nat) (hla : la.length ≤ 10000000) (hlb : lb.length ≤ 10000000) (hr : ¬ (riseB la = true ∧ rightC lb = true)) :
    Calls Try.prog 31 #[.slice pa la.length ca, .slice pb lb.length cb] W fun e W' => e = .returned (.tuple #[.slice none 0 0, .int .i64 52]) ∧ Below W.heap.size W W' := by
  have HC := e_right HA ca (by omega)
  have HD := fun W1 (h : Below W.heap.size W W1) => e_changes (W := W1) (HB.below' h) cb (by omega)
  clear HA HB
  by_cases ra : riseB la = true
  · have rb : rightC lb = false := by
      cases h : rightC lb with
      | false => rfl
      | true => exact absurd ⟨ra, h⟩ hr
    rw [ra] at HC
    rw [rb] at HD
    replace HC := keepH HC
    replace HD := keepH HD
    go_enter Try.func31, Try.ntmps31
    go_wp2_with (first | (go_at_call 39; refine HC.out.mono ?_; clear HC; rintro e W1 ⟨rfl, hB1⟩; have HB1 := keepH hB1; clear hB1) | (go_at_call 54; refine (HD.out _ HB1.out).mono ?_; clear HD; rintro e W2 ⟨rfl, hB2⟩; have HB2 := keepH (below_trans HB1.out hB2); clear hB2 HB1))
    go_ret2
    exact ⟨rfl, HB2.out⟩
  · have ra : riseB la = false := by simpa using ra
    rw [ra] at HC
    replace HC := keepH HC
    replace HD := keepH HD
    go_enter Try.func31, Try.ntmps31
    go_wp2_with (first | (go_at_call 39; refine HC.out.mono ?_; clear HC; rintro e W1 ⟨rfl, hB1⟩; have HB1 := keepH hB1; clear hB1) | (go_at_call 54; refine (HD.out _ HB1.out).mono ?_; clear HD; rintro e W2 ⟨rfl, hB2⟩; have HB2 := keepH (below_trans HB1.out hB2); clear hB2 HB1))
    go_ret2
    exact ⟨rfl, HB1.out⟩
set_option maxRecDepth 100000 in
set_option maxHeartbeats 4000000 in
theorem e_patch_none {W : World} {pa pb : Option Addr} {la : List (Nat × Nat)} {lb : List Ch} (HA : PairsAt W pa la) (HB : ChAt W pb lb) (ca cb : Nat) (hla : la.length ≤ 10000000) (hlb : lb.length ≤ 10000000) (ra : riseB la = true) (rb : rightC lb = true) (hn : ¬ lb.all (fitsR la) = true) :
    Calls Try.prog 31 #[.slice pa la.length ca, .slice pb lb.length cb] W fun e W' => e = .returned (.tuple #[.slice none 0 0, .int .i64 4]) ∧ Below W.heap.size W W' := by
  have HC := e_right HA ca (by omega)
  have HD := fun W1 (h : Below W.heap.size W W1) => e_changes (W := W1) (HB.below' h) cb (by omega)
  rw [ra] at HC
  rw [rb] at HD
  replace HC := keepH HC
  replace HD := keepH HD
  have HAA := keepH HA
  have HBB := keepH HB
  have HN := keepH hn
  clear HA HB ra rb hn
  go_enter Try.func31, Try.ntmps31
  go_wp2_with (first | (go_at_call 39; refine HC.out.mono ?_; clear HC; rintro e W1 ⟨rfl, hB1⟩; have HB1 := keepH hB1; clear hB1) | (go_at_call 54; refine (HD.out _ HB1.out).mono ?_; clear HD; rintro e W2 ⟨rfl, hB2⟩; have HB2 := keepH (below_trans HB1.out hB2); clear hB2 HB1))
  go_loopw [6] (fun q wr => ∃ i : Nat, i ≤ lb.length ∧ q = .int .i64 (i : Int) ∧ wr = W2 ∧ Hid (∀ (j : Nat) (x : Ch), j < i → lb[j]? = some x → fitsR la x = true)) (fun q _ => lb.length - (intOf q).toNat)
  case atStart => exact ⟨0, Nat.zero_le _, rfl, rfl, keepH (fun j x h => absurd h (by omega))⟩
  case round =>
    obtain ⟨i, hil, rfl, rfl, HX⟩ := hrel
    by_cases hlt : i < lb.length
    · have q1 : (i : Int) < (lb.length : Int) := by omega
      obtain ⟨⟨k, hd, hs, od, nw⟩, hk⟩ : ∃ y : Ch, lb[i]? = some y := ⟨lb[i], List.getElem?_eq_getElem hlt⟩
      obtain ⟨bk, off, rfl, hbk, hcs⟩ := (HBB.out.below' HB2.out).resolve_left (by intro e; subst e; simp at hk)
      obtain ⟨c0, c1, c2, c3, c4⟩ := hcs i _ hk
      simp only at c0 c1 c2 c3 c4
      have HF := keepH (e_find (HAA.out.chgF (below_chgE HB2.out) (fun _ _ _ x => x)) ca k (by omega))
      have HK := keepH hk
      clear hk hcs
      obtain ⟨fv, hfv⟩ : ∃ fv, fv = (lkP la k).getD 0 := ⟨_, rfl⟩
      obtain ⟨fb, hfb⟩ : ∃ fb, fb = (lkP la k).isSome := ⟨_, rfl⟩
      rw [← hfv, ← hfb] at HF
      by_cases t1 : fb = hd
      · by_cases t2 : fv = od
        · have HG : Hid (fitsR la ⟨k, hd, hs, od, nw⟩ = true) := keepH (by unfold fitsR; simp [← hfv, ← hfb, t1, t2])
          have HFV := keepH hfv
          have HFB := keepH hfb
          clear hfv hfb
          subst t1 t2
          have u1 : (fb != fb) = false := by simp
          have u2 : ((fv : Int) != (fv : Int)) = false := by simp
          go_wp2_with (first | (go_at_call 55; refine HF.out.mono ?_; clear HF; rintro e W3 ⟨rfl, rfl⟩))
          go_roundw
          case rel => exact ⟨i + 1, by omega, by first | rfl | go_num, (by first | rfl | trivial), keepH (fun j y hj hy => by
            by_cases z : j = i
            · subst z
              rw [HK.out] at hy
              injection hy with hy
              rw [← hy]
              exact HG.out
            · exact HX.out j y (by omega) hy)⟩
          case measure => simp [intOf]; omega
        · skip
          have HG : Hid (fitsR la ⟨k, hd, hs, od, nw⟩ = false) := keepH (by unfold fitsR; simp [← hfv, ← hfb, t1, t2])
          have HFV := keepH hfv
          have HFB := keepH hfb
          clear hfv hfb
          subst t1
          have u1 : (fb != fb) = false := by simp
          have u2 : ((fv : Int) != (od : Int)) = true := by simp; omega
          go_wp2_with (first | (go_at_call 55; refine HF.out.mono ?_; clear HF; rintro e W3 ⟨rfl, rfl⟩))
          go_ret2
          exact ⟨rfl, HB2.out⟩
      · skip
        have HG : Hid (fitsR la ⟨k, hd, hs, od, nw⟩ = false) := keepH (by unfold fitsR; simp [← hfv, ← hfb, t1])
        have HFV := keepH hfv
        have HFB := keepH hfb
        clear hfv hfb
        have u1 : (fb != hd) = true := by simpa using t1
        go_wp2_with (first | (go_at_call 55; refine HF.out.mono ?_; clear HF; rintro e W3 ⟨rfl, rfl⟩))
        go_ret2
        exact ⟨rfl, HB2.out⟩
    · skip
      have HE : Hid (lb.all (fitsR la) = true) := keepH (by
        rw [List.all_eq_true]
        intro x hx
        obtain ⟨j, hj⟩ := List.mem_iff_getElem?.1 hx
        exact HX.out j x (by have := (List.getElem?_eq_some_iff.1 hj).1; omega) hj)
      exact absurd HE.out HN.out
end Go.Proofs.Ytbmfjcdafjknaaa
