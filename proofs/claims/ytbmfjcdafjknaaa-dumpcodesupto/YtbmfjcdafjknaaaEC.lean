/- The document's: are changes right. -/
import Derived.Test.YtbmfjcdafjknaaaEB
namespace Go.Proofs.Ytbmfjcdafjknaaa
open Go.RowKit
set_option linter.unusedVariables false

theorem not_right {l : List Ch} {i : Nat} {c : Ch} (hi : l[i]? = some c) (h : c.right = false) : rightC l = false := by
  unfold rightC
  rw [Bool.and_eq_false_iff]
  left
  rw [List.all_eq_false]
  exact ⟨c, List.mem_of_getElem? hi, by rw [h]; simp⟩
theorem not_rise {l : List Ch} {i : Nat} {x y : Ch} (hx : l[i]? = some x) (hy : l[i + 1]? = some y) (h : ¬ x.k < y.k) : rightC l = false := by
  unfold rightC
  rw [Bool.and_eq_false_iff]
  right
  cases hb : riseC l with
  | false => rfl
  | true => exact absurd ((riseC_iff l).1 hb i x y hx hy) h
set_option maxRecDepth 100000 in
set_option maxHeartbeats 8000000 in
theorem e_changes {W : World} {p : Option Addr} {l : List Ch} (H : ChAt W p l) (c : Nat) (hl : l.length ≤ 1000000000000) :
    Calls Try.prog 54 #[.slice p l.length c] W fun e W' => e = .returned (.bool (rightC l)) ∧ Below W.heap.size W W' := by
  have HH := keepH H
  clear H
  go_enter Try.func54, Try.ntmps54
  go_wp2_with fail
  go_loopw [3] (fun q wr => ∃ i : Nat, i ≤ l.length ∧ q = .int .i64 (i : Int) ∧ Hid ((∀ (j : Nat) (x : Ch), j < i → l[j]? = some x → x.right = true) ∧ (∀ (j : Nat) (x y : Ch), j + 1 < i → l[j]? = some x → l[j + 1]? = some y → x.k < y.k) ∧ Below W.heap.size W wr)) (fun q _ => l.length - (intOf q).toNat)
  case atStart => exact ⟨0, Nat.zero_le _, rfl, keepH ⟨fun j x h => absurd h (by omega), fun j x y h => absurd h (by omega), Below.refl _ _⟩⟩
  case round =>
    obtain ⟨i, hil, rfl, HX⟩ := hrel
    by_cases hlt : i < l.length
    · have q1 : (i : Int) < (l.length : Int) := by omega
      obtain ⟨⟨k, hd, hs, od, nw⟩, hk⟩ : ∃ y : Ch, l[i]? = some y := ⟨l[i], List.getElem?_eq_getElem hlt⟩
      obtain ⟨bk, off, rfl, hbk, hcs⟩ := (HH.out.below HX.out.2.2).resolve_left (by intro e; subst e; simp at hk)
      obtain ⟨c0, c1, c2, c3, c4⟩ := hcs i _ hk
      simp only at c0 c1 c2 c3 c4
      have HK := keepH hk
      have HCS := keepH hcs
      clear hk hcs
      have HA : Hid (∀ o n, Below W.heap.size W ((wr.alloc o).drewN n)) := keepH (fun o n => below_drew (below_trans HX.out.2.2 ((Below.refl _ wr).alloc (Nat.le_refl _) o)) n)
      cases hd with
      | false =>
        cases hs with
        | false =>
          have HR : Hid (rightC l = false) := keepH (not_right HK.out (by simp [Ch.right]))
          go_wp2_with fail
          go_quiet (fail)
          go_wp2_with fail
          go_ret
          exact ⟨by rw [HR.out]; rfl, HA.out _ _⟩
        | true =>
          by_cases v : od = 0
          · have v1 : ((od : Int) != 0) = false := by simp; omega
            have HV := keepH v
            clear v
            have HG : Hid (Ch.right ⟨k, false, true, od, nw⟩ = true) := keepH (by simp [Ch.right, HV.out])
            by_cases i0 : i = 0
            · subst i0
              simp only [Nat.zero_mul, Nat.add_zero] at c0 c1 c2 c3 c4
              have z0 : ¬ (0 : Int) < ((0 : Nat) : Int) := by omega
              go_wp2_with fail
              go_quiet (fail)
              go_wp2_with fail
              go_roundw
              case rel => exact ⟨0 + 1, by omega, by first | rfl | go_num, keepH ⟨fun m x hm hx => by
                by_cases z : m = 0
                · subst z
                  rw [HK.out] at hx
                  injection hx with hx
                  rw [← hx]
                  exact HG.out
                · exact HX.out.1 m x (by omega) hx, fun m x y hm => absurd hm (by omega), HA.out _ _⟩⟩
              case measure => simp [intOf]; omega
            · obtain ⟨m, rfl⟩ : ∃ m, i = m + 1 := ⟨i - 1, by omega⟩
              obtain ⟨⟨kp, hp1, hp2, hp3, hp4⟩, hpk⟩ : ∃ y : Ch, l[m]? = some y := ⟨l[m]'(by omega), List.getElem?_eq_getElem _⟩
              obtain ⟨d0, _⟩ := HCS.out m _ hpk
              simp only at d0
              have HP := keepH hpk
              clear hpk
              have z0 : (0 : Int) < (m : Int) + 1 := by omega
              have wj : IntKind.i64.wrap (m : Int) = (m : Int) := by rw [IntKind.wrap_i64]; omega
              have jb : (m : Int) < (l.length : Int) := by omega
              by_cases t : kp < k
              · have t1 : decide ((k : Int) ≤ (kp : Int)) = false := decide_eq_false (by omega)
                have t2 : ¬ (k : Int) ≤ (kp : Int) := by omega
                have HT := keepH t
                clear t
                go_wp2_with fail
                go_quiet (fail)
                go_wp2_with fail
                go_roundw
                case rel => exact ⟨m + 1 + 1, by omega, by first | rfl | go_num, keepH ⟨fun mm x hm hx => by
                  by_cases z : mm = m + 1
                  · subst z
                    rw [HK.out] at hx
                    injection hx with hx
                    rw [← hx]
                    exact HG.out
                  · exact HX.out.1 mm x (by omega) hx, fun mm x y hm hx hy => by
                    by_cases z : mm = m
                    · subst z
                      rw [HP.out] at hx
                      rw [HK.out] at hy
                      injection hx with hx
                      injection hy with hy
                      subst hx hy
                      exact HT.out
                    · exact HX.out.2.1 mm x y (by omega) hx hy, HA.out _ _⟩⟩
                case measure => simp [intOf]; omega
              · have t1 : decide ((k : Int) ≤ (kp : Int)) = true := decide_eq_true (by omega)
                have t2 : (k : Int) ≤ (kp : Int) := by omega
                have HT := keepH t
                clear t
                have HR : Hid (rightC l = false) := keepH (not_rise HP.out HK.out HT.out)
                go_wp2_with fail
                go_quiet (fail)
                go_wp2_with fail
                go_ret
                exact ⟨by rw [HR.out]; rfl, HA.out _ _⟩
          · have v1 : ((od : Int) != 0) = true := by simp; omega
            have HV := keepH v
            clear v
            have HR : Hid (rightC l = false) := keepH (not_right HK.out (by simp [Ch.right, HV.out]))
            go_wp2_with fail
            go_quiet (fail)
            go_wp2_with fail
            go_ret
            exact ⟨by rw [HR.out]; rfl, HA.out _ _⟩
      | true =>
        cases hs with
        | false =>
          by_cases v : nw = 0
          · have v1 : ((nw : Int) != 0) = false := by simp; omega
            have HV := keepH v
            clear v
            have HG : Hid (Ch.right ⟨k, true, false, od, nw⟩ = true) := keepH (by simp [Ch.right, HV.out])
            by_cases i0 : i = 0
            · subst i0
              simp only [Nat.zero_mul, Nat.add_zero] at c0 c1 c2 c3 c4
              have z0 : ¬ (0 : Int) < ((0 : Nat) : Int) := by omega
              go_wp2_with fail
              go_quiet (fail)
              go_wp2_with fail
              go_roundw
              case rel => exact ⟨0 + 1, by omega, by first | rfl | go_num, keepH ⟨fun m x hm hx => by
                by_cases z : m = 0
                · subst z
                  rw [HK.out] at hx
                  injection hx with hx
                  rw [← hx]
                  exact HG.out
                · exact HX.out.1 m x (by omega) hx, fun m x y hm => absurd hm (by omega), HA.out _ _⟩⟩
              case measure => simp [intOf]; omega
            · obtain ⟨m, rfl⟩ : ∃ m, i = m + 1 := ⟨i - 1, by omega⟩
              obtain ⟨⟨kp, hp1, hp2, hp3, hp4⟩, hpk⟩ : ∃ y : Ch, l[m]? = some y := ⟨l[m]'(by omega), List.getElem?_eq_getElem _⟩
              obtain ⟨d0, _⟩ := HCS.out m _ hpk
              simp only at d0
              have HP := keepH hpk
              clear hpk
              have z0 : (0 : Int) < (m : Int) + 1 := by omega
              have wj : IntKind.i64.wrap (m : Int) = (m : Int) := by rw [IntKind.wrap_i64]; omega
              have jb : (m : Int) < (l.length : Int) := by omega
              by_cases t : kp < k
              · have t1 : decide ((k : Int) ≤ (kp : Int)) = false := decide_eq_false (by omega)
                have t2 : ¬ (k : Int) ≤ (kp : Int) := by omega
                have HT := keepH t
                clear t
                go_wp2_with fail
                go_quiet (fail)
                go_wp2_with fail
                go_roundw
                case rel => exact ⟨m + 1 + 1, by omega, by first | rfl | go_num, keepH ⟨fun mm x hm hx => by
                  by_cases z : mm = m + 1
                  · subst z
                    rw [HK.out] at hx
                    injection hx with hx
                    rw [← hx]
                    exact HG.out
                  · exact HX.out.1 mm x (by omega) hx, fun mm x y hm hx hy => by
                    by_cases z : mm = m
                    · subst z
                      rw [HP.out] at hx
                      rw [HK.out] at hy
                      injection hx with hx
                      injection hy with hy
                      subst hx hy
                      exact HT.out
                    · exact HX.out.2.1 mm x y (by omega) hx hy, HA.out _ _⟩⟩
                case measure => simp [intOf]; omega
              · have t1 : decide ((k : Int) ≤ (kp : Int)) = true := decide_eq_true (by omega)
                have t2 : (k : Int) ≤ (kp : Int) := by omega
                have HT := keepH t
                clear t
                have HR : Hid (rightC l = false) := keepH (not_rise HP.out HK.out HT.out)
                go_wp2_with fail
                go_quiet (fail)
                go_wp2_with fail
                go_ret
                exact ⟨by rw [HR.out]; rfl, HA.out _ _⟩
          · have v1 : ((nw : Int) != 0) = true := by simp; omega
            have HV := keepH v
            clear v
            have HR : Hid (rightC l = false) := keepH (not_right HK.out (by simp [Ch.right, HV.out]))
            go_wp2_with fail
            go_quiet (fail)
            go_wp2_with fail
            go_ret
            exact ⟨by rw [HR.out]; rfl, HA.out _ _⟩
        | true =>
          by_cases v : od = nw
          · have v1 : ((od : Int) == (nw : Int)) = true := by simp; omega
            have HV := keepH v
            clear v
            have HR : Hid (rightC l = false) := keepH (not_right HK.out (by simp [Ch.right, HV.out]))
            go_wp2_with fail
            go_quiet (fail)
            go_wp2_with fail
            go_ret
            exact ⟨by rw [HR.out]; rfl, HA.out _ _⟩
          · have v1 : ((od : Int) == (nw : Int)) = false := by simp; omega
            have HV := keepH v
            clear v
            have HG : Hid (Ch.right ⟨k, true, true, od, nw⟩ = true) := keepH (by simp [Ch.right, HV.out])
            by_cases i0 : i = 0
            · subst i0
              simp only [Nat.zero_mul, Nat.add_zero] at c0 c1 c2 c3 c4
              have z0 : ¬ (0 : Int) < ((0 : Nat) : Int) := by omega
              go_wp2_with fail
              go_quiet (fail)
              go_wp2_with fail
              go_roundw
              case rel => exact ⟨0 + 1, by omega, by first | rfl | go_num, keepH ⟨fun m x hm hx => by
                by_cases z : m = 0
                · subst z
                  rw [HK.out] at hx
                  injection hx with hx
                  rw [← hx]
                  exact HG.out
                · exact HX.out.1 m x (by omega) hx, fun m x y hm => absurd hm (by omega), HA.out _ _⟩⟩
              case measure => simp [intOf]; omega
            · obtain ⟨m, rfl⟩ : ∃ m, i = m + 1 := ⟨i - 1, by omega⟩
              obtain ⟨⟨kp, hp1, hp2, hp3, hp4⟩, hpk⟩ : ∃ y : Ch, l[m]? = some y := ⟨l[m]'(by omega), List.getElem?_eq_getElem _⟩
              obtain ⟨d0, _⟩ := HCS.out m _ hpk
              simp only at d0
              have HP := keepH hpk
              clear hpk
              have z0 : (0 : Int) < (m : Int) + 1 := by omega
              have wj : IntKind.i64.wrap (m : Int) = (m : Int) := by rw [IntKind.wrap_i64]; omega
              have jb : (m : Int) < (l.length : Int) := by omega
              by_cases t : kp < k
              · have t1 : decide ((k : Int) ≤ (kp : Int)) = false := decide_eq_false (by omega)
                have t2 : ¬ (k : Int) ≤ (kp : Int) := by omega
                have HT := keepH t
                clear t
                go_wp2_with fail
                go_quiet (fail)
                go_wp2_with fail
                go_roundw
                case rel => exact ⟨m + 1 + 1, by omega, by first | rfl | go_num, keepH ⟨fun mm x hm hx => by
                  by_cases z : mm = m + 1
                  · subst z
                    rw [HK.out] at hx
                    injection hx with hx
                    rw [← hx]
                    exact HG.out
                  · exact HX.out.1 mm x (by omega) hx, fun mm x y hm hx hy => by
                    by_cases z : mm = m
                    · subst z
                      rw [HP.out] at hx
                      rw [HK.out] at hy
                      injection hx with hx
                      injection hy with hy
                      subst hx hy
                      exact HT.out
                    · exact HX.out.2.1 mm x y (by omega) hx hy, HA.out _ _⟩⟩
                case measure => simp [intOf]; omega
              · have t1 : decide ((k : Int) ≤ (kp : Int)) = true := decide_eq_true (by omega)
                have t2 : (k : Int) ≤ (kp : Int) := by omega
                have HT := keepH t
                clear t
                have HR : Hid (rightC l = false) := keepH (not_rise HP.out HK.out HT.out)
                go_wp2_with fail
                go_quiet (fail)
                go_wp2_with fail
                go_ret
                exact ⟨by rw [HR.out]; rfl, HA.out _ _⟩
    · have q1 : ¬ (i : Int) < (l.length : Int) := by omega
      have HR : Hid (rightC l = true) := keepH (by
        unfold rightC
        rw [Bool.and_eq_true]
        refine ⟨?_, (riseC_iff l).2 (fun j x y hx hy => HX.out.2.1 j x y (by have := (List.getElem?_eq_some_iff.1 hy).1; omega) hx hy)⟩
        rw [List.all_eq_true]
        intro x hx
        obtain ⟨j, hj⟩ := List.mem_iff_getElem?.1 hx
        exact HX.out.1 j x (by have := (List.getElem?_eq_some_iff.1 hj).1; omega) hj)
      go_wp2_with fail
      go_ret
      exact ⟨by rw [HR.out]; rfl, HX.out.2.2⟩
end Go.Proofs.Ytbmfjcdafjknaaa
