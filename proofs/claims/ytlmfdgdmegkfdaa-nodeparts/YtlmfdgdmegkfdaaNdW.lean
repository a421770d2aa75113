/- A Fork alone: each of its steps. -/
import Derived.Test.YtlmfdgdmegkfdaaNdV
namespace Go.Proofs.Ytlmfdgdmegkfdaa
open Go.RowKit Go.Shelf
set_option linter.unusedVariables false

theorem al3 (nx : Nat) (h1 : 1 ≤ nx) (h : nx + 3 ≤ 4000) : alAt 4000 nx 3 = nx ∧ alNext 4000 nx 3 = nx + 3 := by
  have ok : alOk 4000 nx 3 := by unfold alOk; omega
  exact ⟨if_pos ok, if_pos ok⟩
theorem al64 (nx : Nat) (h1 : 1 ≤ nx) (h : nx + 64 ≤ 4000) : alAt 4000 nx 64 = nx ∧ alNext 4000 nx 64 = nx + 64 := by
  have ok : alOk 4000 nx 64 := by unfold alOk; omega
  exact ⟨if_pos ok, if_pos ok⟩
theorem first3 (aw : Nat) : cellN (alN 4000 1 [] [aw, 1, 0]) 1 = aw ∧ cellN (alN 4000 1 [] [aw, 1, 0]) 2 = 1 ∧ cellN (alN 4000 1 [] [aw, 1, 0]) 3 = 0 := by
  have ok : alOk 4000 1 [aw, 1, 0].length := by simp [alOk]
  simp only [alN_cell _ _ _ _ ok]
  exact ⟨by simp [cellN], by simp [cellN], by simp [cellN]⟩
theorem wdN_small (aw J : Nat) (h : aw < 18446744073709551616) (hJ : J ≤ 11) : wdN aw J < 18446744073709551616 := by
  unfold wdN
  split <;> omega

set_option maxHeartbeats 1000000 in
theorem finv_step {W : World} {m b v p aw ha bw hb tp L s : Nat} {w : World} (h : FInv W m b v p aw ha bw hb tp L s w) (hL : partN ha hb tp = some L) (h0 : ha < 18446744073709551616) (h1 : hb < 18446744073709551616) (hA : aw < 18446744073709551616) (hB : bw < 18446744073709551616) :
    Calls Try.prog 23 #[.pointer (some ⟨p, 0, none⟩), .pointer (some ⟨v, 0, none⟩)] w fun e w' => ∃ d, e = .returned (.bool d) ∧ (d = false ∧ FInv W m b v p aw ha bw hb tp L (s + 1) w' ∧ s + 1 < 2 * (L - tp) + 3 ∨ d = true ∧ s + 1 = 2 * (L - tp) + 3 ∧ FDone W m b v p aw ha bw hb tp L w') := by
  obtain ⟨q1, q2, q3, q4⟩ := partF_some _ _ _ _ _ hL
  have hL10 : L < 11 := by omega
  have htp : tp ≤ L := q1
  rcases h with ⟨rfl, ⟨F, l, S, hl, nF, z1, z2, z3⟩, P⟩ | ⟨rfl, cs, ⟨F, l, S, hl, nF, z1, z2, z3⟩, c3, P⟩ | ⟨J, cs, rfl, hJ, ⟨F, l, S, hl, nF, z1, z2, z3⟩, M, P⟩ | ⟨J, cs, rfl, hJ, ⟨F, l, S, hl, nF, z1, z2, z3⟩, M, BR, P⟩
  · have e3 := al3 1 (by omega) (by omega)
    refine (fork_s0 p v b 4000 1 0 0 F [] l w P S.view S.bank S.nv nF z2 (by omega) (by omega) h0 h1 (by omega) hA L hL hL10 1 e3.1 (by omega) (dgN ha L) (dgN_eq ha L) (dgN_lt ha L)).mono ?_
    rintro e w' ⟨rfl, P', G⟩
    rw [e3.2] at G
    refine ⟨false, rfl, .inl ⟨rfl, .inr (.inl ⟨rfl, _, SP.step S hl nF (lt_of P.2) z1 z2 z3 G (fun vs => by simp), first3 aw, P'⟩), by omega⟩⟩
  · have e3 := al3 4 (by omega) (by omega)
    refine (fork_s1 p v b 4000 4 1 0 F cs l w P S.view S.bank S.nv nF z2 (by omega) (by omega) hB h1 hL10 4 e3.1 (by omega) (dgN hb L) (dgN_eq hb L) (dgN_lt hb L)).mono ?_
    rintro e w' ⟨rfl, P', G⟩
    rw [e3.2] at G
    refine ⟨false, rfl, .inl ⟨rfl, .inr (.inr (.inl ⟨0, _, rfl, by omega, SP.step S hl nF (lt_of P.2) z1 z2 z3 G (fun vs => by simp), FM.zero c3, P'⟩)), by omega⟩⟩
  · have e3 := al64 (7 + 67 * J) (by omega) (by omega)
    have MJ := M.join (by omega)
    refine (fork_s2 p v b 4000 (7 + 67 * J) (2 * J + 2) 0 F cs l w P S.view S.bank S.nv nF z2 (by omega) (by omega) (brL_small ha hb L J (by omega)) (by omega) (by omega) (by omega) (by omega) (7 + 67 * J) e3.1 (by omega)).mono ?_
    rintro e w' ⟨rfl, P', G⟩
    rw [e3.2] at G
    have S' := SP.step S hl nF (lt_of P.2) z1 z2 z3 G (fun vs => by simp)
    unfold JoinP at P'
    by_cases c : L - J = tp
    · rw [if_pos c] at P'
      have eJ : J = L - tp := by omega
      refine ⟨true, by simp [c], .inr ⟨rfl, by omega, ?_⟩⟩
      subst eJ
      exact ⟨_, _, S', MJ.2, MJ.1, P'⟩
    · rw [if_neg c] at P'
      refine ⟨false, by simp [c], .inl ⟨rfl, .inr (.inr (.inr ⟨J, _, rfl, by omega, ?_, MJ.2, MJ.1, ?_⟩)), by omega⟩⟩
      · rw [show 4 + 67 * (J + 1) = 7 + 67 * J + 64 by omega]
        exact S'
      · rw [show wdN aw (J + 1) = 2 * (7 + 67 * J) from if_neg (by omega), show L - (J + 1) = L - J - 1 by omega]
        exact P'
  · have e3 := al3 (4 + 67 * (J + 1)) (by omega) (by omega)
    refine (fork_s3 p v b 4000 (4 + 67 * (J + 1)) (2 * J + 3) 0 F cs l w P S.view S.bank S.nv nF z2 (by omega) (by omega) (wdN_small aw (J + 1) hA (by omega)) h0 (by omega) (4 + 67 * (J + 1)) e3.1 (by omega) (dgN ha (L - (J + 1))) (dgN_eq ha _) (dgN_lt ha _)).mono ?_
    rintro e w' ⟨rfl, P', G⟩
    rw [e3.2] at G
    have S' := SP.step S hl nF (lt_of P.2) z1 z2 z3 G (fun vs => by simp)
    refine ⟨false, rfl, .inl ⟨rfl, .inr (.inr (.inl ⟨J + 1, _, by omega, by omega, ?_, M.hang BR (by omega), ?_⟩)), by omega⟩⟩
    · rw [show 7 + 67 * (J + 1) = 4 + 67 * (J + 1) + 3 by omega]
      exact S'
    · rw [show brL ha hb L (J + 1) = (List.replicate 64 0).set (dgN ha (L - (J + 1))) (4 + 67 * (J + 1)) from if_neg (by omega)]
      exact P'
end Go.Proofs.Ytlmfdgdmegkfdaa
