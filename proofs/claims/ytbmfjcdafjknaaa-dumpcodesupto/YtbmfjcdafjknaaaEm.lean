/- The document's: do keys rise; Diff of what is not right. -/
import Derived.Test.YtbmfjcdafjknaaaEl
namespace Go.Proofs.Ytbmfjcdafjknaaa
open Go.RowKit Go.Joins
set_option linter.unusedVariables false

set_option maxRecDepth 100000 in
set_option maxHeartbeats 4000000 in
theorem e_right {W : World} {p : Option Addr} {l : List (Nat × Nat)} (H : PairsAt W p l) (c : Nat) (hl : l.length ≤ 1000000000000) :
    Calls Try.prog 39 #[.slice p l.length c] W fun e W' => e = .returned (.bool (riseB l)) ∧ Below W.heap.size W W' := by
  have HH := keepH H
  clear H
  go_enter Try.func39, Try.ntmps39
  go_wp2_with fail
  go_loopw [3] (fun q wr => ∃ i : Nat, (1 ≤ i ∧ (i ≤ l.length ∨ i = 1)) ∧ q = .int .i64 (i : Int) ∧ Hid ((∀ (j : Nat) (x y : Nat × Nat), j + 1 < i → l[j]? = some x → l[j + 1]? = some y → x.1 < y.1) ∧ Below W.heap.size W wr)) (fun q _ => l.length + 1 - (intOf q).toNat)
  case atStart => exact ⟨1, ⟨by omega, .inr rfl⟩, rfl, keepH ⟨fun j x y h => absurd h (by omega), Below.refl _ _⟩⟩
  case round =>
    obtain ⟨i, hil, rfl, HX⟩ := hrel
    by_cases hlt : i < l.length
    · have q1 : (i : Int) < (l.length : Int) := by omega
      obtain ⟨j, rfl⟩ : ∃ j, i = j + 1 := ⟨i - 1, by omega⟩
      obtain ⟨⟨a, b⟩, hx⟩ : ∃ x, l[j]? = some x := ⟨l[j]'(by omega), List.getElem?_eq_getElem _⟩
      obtain ⟨⟨d, e⟩, hy⟩ : ∃ x, l[j + 1]? = some x := ⟨l[j + 1], List.getElem?_eq_getElem hlt⟩
      obtain ⟨bk, off, rfl, ba, bb, c0, c1⟩ := HH.out.getB HX.out.2 j a b hx
      obtain ⟨bk', off', e', bd, be, d0, d1⟩ := HH.out.getB HX.out.2 (j + 1) d e hy
      injection e' with e'
      injection e' with e1 e2
      subst e1 e2
      have HXY : Hid (l[j]? = some (a, b) ∧ l[j + 1]? = some (d, e)) := ⟨hx, hy⟩
      clear hx hy c1 d1
      have wj : IntKind.i64.wrap (j : Int) = (j : Int) := by rw [IntKind.wrap_i64]; omega
      have jb : (j : Int) < (l.length : Int) := by omega
      have j0 : 0 ≤ (j : Int) + 1 := by omega
      have jn : ((j : Int) + 1).toNat = j + 1 := by omega
      have HA := keepH (below_drew HX.out.2)
      by_cases t : a < d
      · have t1 : decide ((d : Int) ≤ (a : Int)) = false := decide_eq_false (by omega)
        have t2 : ¬ (d : Int) ≤ (a : Int) := by omega
        have HT := keepH t
        clear t
        go_wp2_with fail
        go_quiet (fail)
        go_wp2_with fail
        go_roundw
        case rel => exact ⟨j + 1 + 1, ⟨by omega, .inl (by omega)⟩, by first | rfl | go_num, keepH ⟨fun m x y hm hx hy => by
          by_cases z : m = j
          · subst z
            rw [HXY.out.1] at hx
            rw [HXY.out.2] at hy
            injection hx with hx
            injection hy with hy
            subst hx hy
            exact HT.out
          · exact HX.out.1 m x y (by omega) hx hy, HA.out _⟩⟩
        case measure => simp [intOf]; omega
      · have t1 : decide ((d : Int) ≤ (a : Int)) = true := decide_eq_true (by omega)
        have t2 : (d : Int) ≤ (a : Int) := by omega
        have HT := keepH t
        clear t
        have HR : Hid (riseB l = false) := by
          cases hb : riseB l with
          | false => exact keepH rfl
          | true => exact absurd ((riseB_iff l).1 hb j _ _ HXY.out.1 HXY.out.2) HT.out
        go_wp2_with fail
        go_quiet (fail)
        go_wp2_with fail
        go_ret
        exact ⟨by rw [HR.out]; rfl, HA.out _⟩
    · have q1 : ¬ (i : Int) < (l.length : Int) := by omega
      have HR : Hid (riseB l = true) := keepH ((riseB_iff l).2 (fun j x y hx hy => by
        have := (List.getElem?_eq_some_iff.1 hy).1
        exact HX.out.1 j x y (by omega) hx hy))
      go_wp2_with fail
      go_ret
      exact ⟨by rw [HR.out]; rfl, HX.out.2⟩
set_option maxRecDepth 100000 in
set_option maxHeartbeats 4000000 in
theorem e_diff_no {W : World} {pa pb : Option Addr} {la lb : List (Nat × Nat)} (HA : PairsAt W pa la) (HB : PairsAt W pb lb) (ca cb : Nat) (hla : la.length ≤ 10000000) (hlb : lb.length ≤ 10000000) (hr : ¬ (riseB la = true ∧ riseB lb = true)) :
    Calls Try.prog 21 #[.slice pa la.length ca, .slice pb lb.length cb] W fun e W' => e = .returned (.tuple #[.slice none 0 0, .int .i64 52]) ∧ Below W.heap.size W W' := by
  have HC := keepH (e_right HA ca (by omega))
  have HD := keepH (fun W1 (h : Below W.heap.size W W1) => e_right (W := W1) (HB.chgF (below_chgE h) (fun _ _ _ x => x)) cb (by omega))
  clear HA HB
  by_cases ra : riseB la = true
  · have rb : riseB lb = false := by
      cases h : riseB lb with
      | false => rfl
      | true => exact absurd ⟨ra, h⟩ hr
    rw [ra] at HC
    rw [rb] at HD
    go_enter Try.func21, Try.ntmps21
    go_wp2_with (first | (go_at_call 39; refine HC.out.mono ?_; clear HC; rintro e W1 ⟨rfl, hB1⟩; have HB1 := keepH hB1; clear hB1) | (go_at_call 39; refine (HD.out _ HB1.out).mono ?_; clear HD; rintro e W2 ⟨rfl, hB2⟩; have HB2 := keepH (below_trans HB1.out hB2); clear hB2))
    go_ret2
    exact ⟨rfl, HB2.out⟩
  · have ra : riseB la = false := by simpa using ra
    rw [ra] at HC
    go_enter Try.func21, Try.ntmps21
    go_wp2_with (first | (go_at_call 39; refine HC.out.mono ?_; clear HC; rintro e W1 ⟨rfl, hB1⟩; have HB1 := keepH hB1; clear hB1))
    go_ret2
    exact ⟨rfl, HB1.out⟩
end Go.Proofs.Ytbmfjcdafjknaaa
