/- A Fork alone, from any address on: each of its steps, blocks D beside it. -/
import Derived.Test.YtmhflmjhphhppabNdPb
namespace Go.Proofs.Ytmhflmjhphhppab
open Go.RowKit Go.Shelf
set_option linter.unusedVariables false

theorem SR.went {W : World} {m b v p : Nat} {w w' : World} {next made next' n : Nat} {cs cs' : List Nat} {D F : Nat → Prop} {l : List Acc} {f : Value → List Acc} (S : St W w m b v F 0 4096 next made cs l) (hL : l.length = n) (A : ∀ k, D k → ¬ F k ∧ k ≠ v ∧ k ≠ m ∧ W.heap.size ≤ k ∧ k < w.heap.size) (hp : D p) (hw : Went w w' F v p b 4096 next' cs' 0 (made + 1) f) (hf : ∀ vs, (f vs).length = l.length + 1) :
    SR W m b v 0 4096 w' next' (made + 1) cs' (n + 1) D ∧ ∀ k, D k → k ≠ p → w'.heap[k]? = w.heap[k]? := by
  obtain ⟨F', vs, B, V, G⟩ := hw
  have a := A p hp
  refine ⟨⟨F', f vs, ⟨B, V, S.mem.chg G.chg (fun e => e.elim (fun e => e.elim S.nm S.mv) (fun e => a.2.2.1 e.symm)), fun x => (G.new v x).elim S.nv (fun y => by have := S.view.lt; omega), fun x => (G.new m x).elim S.nm (fun y => by have := S.mem.lt; omega), S.mv, fun k e => (G.new k e).elim (S.inF k) (fun e => Nat.le_trans S.chg.size e), S.hv, S.chg.trans G.chg (fun _ _ x => x) (fun i hi x => x.elim (fun x => x.elim (fun y => by have := S.inF i y; omega) (fun y => by have := S.hv; omega)) (fun y => by omega))⟩, by rw [hf, hL], fun k hk => ?_⟩, fun k hk hne => G.chg.block k (A k hk).2.2.2.2 (fun e => e.elim (fun e => e.elim (A k hk).1 (A k hk).2.1) hne)⟩
  exact ⟨fun x => (G.new k x).elim (A k hk).1 (fun y => by have := (A k hk).2.2.2.2; omega), (A k hk).2.1, (A k hk).2.2.1, (A k hk).2.2.2.1, Nat.lt_of_lt_of_le (A k hk).2.2.2.2 G.chg.size⟩
def with1 (D : Nat → Prop) (p : Nat) : Nat → Prop := fun k => D k ∨ k = p
def FInv (W : World) (m b v p aw ha bw hb tp L B m0 : Nat) (D : Nat → Prop) (s : Nat) (w : World) : Prop :=
  (s = 0 ∧ ∃ cs, SR W m b v 0 4096 w B m0 cs m0 (with1 D p) ∧ IsFork w p false 0 aw ha bw hb tp 0 (List.replicate 64 0) 0 0) ∨
  (s = 1 ∧ ∃ cs, SR W m b v 0 4096 w (B + 3) (m0 + 1) cs (m0 + 1) (with1 D p) ∧ (cellN cs B = aw ∧ cellN cs (B + 1) = 1 ∧ cellN cs (B + 2) = 0) ∧ IsFork w p false 0 aw ha bw hb tp L ((List.replicate 64 0).set (dgN ha L) B) 1 0) ∨
  (∃ J cs, s = 2 * J + 2 ∧ J + tp ≤ L ∧ SR W m b v 0 4096 w (B + 6 + 67 * J) (m0 + s) cs (m0 + s) (with1 D p) ∧ FM B cs aw bw ha hb L J ∧ IsFork w p false 0 (wdN B aw J) ha bw hb tp (L - J) (brL B ha hb L J) 2 0) ∨
  (∃ J cs, s = 2 * J + 3 ∧ J + 1 + tp ≤ L ∧ SR W m b v 0 4096 w (B + 3 + 67 * (J + 1)) (m0 + s) cs (m0 + s) (with1 D p) ∧ FM B cs aw bw ha hb L J ∧ (∀ i, i ≤ J → ∀ d, d < 64 → cellN cs (B + 6 + 67 * i + d) = cellN (brL B ha hb L i) d) ∧ IsFork w p false 0 (wdN B aw (J + 1)) ha bw hb tp (L - (J + 1)) (List.replicate 64 0) 3 0)
def FDone (W : World) (m b v p aw ha bw hb tp L B m0 : Nat) (D : Nat → Prop) (w : World) : Prop := ∃ cs nx, SR W m b v 0 4096 w nx (m0 + (2 * (L - tp) + 3)) cs (m0 + (2 * (L - tp) + 3)) (with1 D p) ∧ FM B cs aw bw ha hb L (L - tp) ∧ (∀ i, i ≤ L - tp → ∀ d, d < 64 → cellN cs (B + 6 + 67 * i + d) = cellN (brL B ha hb L i) d) ∧ IsFork w p true 0 (2 * (B + 6 + 67 * (L - tp))) ha bw hb tp (L - (L - tp)) (brL B ha hb L (L - tp)) 2 (2 * (B + 6 + 67 * (L - tp)))
theorem al3 (nx : Nat) (h1 : 1 ≤ nx) (h : nx + 3 ≤ 4096) : alAt 4096 nx 3 = nx ∧ alNext 4096 nx 3 = nx + 3 := by
  have ok : alOk 4096 nx 3 := by unfold alOk; omega
  exact ⟨if_pos ok, if_pos ok⟩
theorem al64 (nx : Nat) (h1 : 1 ≤ nx) (h : nx + 64 ≤ 4096) : alAt 4096 nx 64 = nx ∧ alNext 4096 nx 64 = nx + 64 := by
  have ok : alOk 4096 nx 64 := by unfold alOk; omega
  exact ⟨if_pos ok, if_pos ok⟩
theorem first3 (aw B : Nat) (cs : List Nat) (hB : B ≤ 1000) : cellN (alN 4096 B cs [aw, 1, 0]) B = aw ∧ cellN (alN 4096 B cs [aw, 1, 0]) (B + 1) = 1 ∧ cellN (alN 4096 B cs [aw, 1, 0]) (B + 2) = 0 := by
  have ok : alOk 4096 B [aw, 1, 0].length := by simp [alOk]; omega
  simp only [alN_cell _ _ _ _ ok]
  rw [if_pos (by simp), if_pos (by simp), if_pos (by simp), show B - B = 0 by omega, show B + 1 - B = 1 by omega, show B + 2 - B = 2 by omega]
  exact ⟨rfl, rfl, rfl⟩
theorem wdN_small (B aw J : Nat) (hB : B ≤ 1000) (h : aw < 18446744073709551616) (hJ : J ≤ 11) : wdN B aw J < 18446744073709551616 := by
  unfold wdN
  split <;> omega

set_option maxHeartbeats 1000000 in
theorem finv_step {W : World} {m b v p aw ha bw hb tp L s B m0 : Nat} {D : Nat → Prop} {w : World} (h : FInv W m b v p aw ha bw hb tp L B m0 D s w) (hL : partN ha hb tp = some L) (h0 : ha < 18446744073709551616) (h1 : hb < 18446744073709551616) (hA : aw < 18446744073709551616) (hB : bw < 18446744073709551616) (hb1 : 1 ≤ B) (hb2 : B ≤ 1000) (hm0 : m0 ≤ 1000) (hDp : ¬ D p) :
    Calls Try.prog 38 #[.pointer (some ⟨p, 0, none⟩), .pointer (some ⟨v, 0, none⟩)] w fun e w' => ∃ d, e = .returned (.bool d) ∧ (d = false ∧ FInv W m b v p aw ha bw hb tp L B m0 D (s + 1) w' ∧ s + 1 < 2 * (L - tp) + 3 ∨ d = true ∧ s + 1 = 2 * (L - tp) + 3 ∧ FDone W m b v p aw ha bw hb tp L B m0 D w') ∧ ∀ k, D k → w'.heap[k]? = w.heap[k]? := by
  obtain ⟨q1, q2, q3, q4⟩ := partF_some _ _ _ _ _ hL
  have hL10 : L < 11 := by omega
  have htp : tp ≤ L := q1
  have dp : with1 D p p := .inr rfl
  have fr : ∀ {w w' : World}, (∀ k, with1 D p k → k ≠ p → w'.heap[k]? = w.heap[k]?) → ∀ k, D k → w'.heap[k]? = w.heap[k]? := fun hh k e => hh k (.inl e) (fun z => hDp (z ▸ e))
  rcases h with ⟨rfl, cs, ⟨F, l, S, hl, A⟩, P⟩ | ⟨rfl, cs, ⟨F, l, S, hl, A⟩, c3, P⟩ | ⟨J, cs, rfl, hJ, ⟨F, l, S, hl, A⟩, M, P⟩ | ⟨J, cs, rfl, hJ, ⟨F, l, S, hl, A⟩, M, BR, P⟩
  · have e3 := al3 B hb1 (by omega)
    have a := A p dp
    refine (fork_s0 p v b 4096 B m0 0 F cs l w P S.view S.bank S.nv a.1 a.2.1 (by omega) (by omega) h0 h1 (by omega) hA L hL hL10 B e3.1 (by omega) (dgN ha L) (dgN_eq ha L) (dgN_lt ha L)).mono ?_
    rintro e w' ⟨rfl, P', G⟩
    rw [e3.2] at G
    have S' := SR.went S hl A dp G (fun vs => by simp)
    exact ⟨false, rfl, .inl ⟨rfl, .inr (.inl ⟨rfl, _, S'.1, first3 aw B cs hb2, P'⟩), by omega⟩, fr S'.2⟩
  · have e3 := al3 (B + 3) (by omega) (by omega)
    have a := A p dp
    refine (fork_s1 p v b 4096 (B + 3) (m0 + 1) 0 F cs l w P S.view S.bank S.nv a.1 a.2.1 (by omega) (by omega) hB h1 hL10 (B + 3) e3.1 (by omega) (dgN hb L) (dgN_eq hb L) (dgN_lt hb L)).mono ?_
    rintro e w' ⟨rfl, P', G⟩
    rw [e3.2] at G
    have S' := SR.went S hl A dp G (fun vs => by simp)
    exact ⟨false, rfl, .inl ⟨rfl, .inr (.inr (.inl ⟨0, _, rfl, by omega, S'.1, FM.zero hb2 c3, P'⟩)), by omega⟩, fr S'.2⟩
  · have e3 := al64 (B + 6 + 67 * J) (by omega) (by omega)
    have MJ := M.join hb2 (by omega)
    have a := A p dp
    refine (fork_s2 p v b 4096 (B + 6 + 67 * J) (m0 + (2 * J + 2)) 0 F cs l w P S.view S.bank S.nv a.1 a.2.1 (by omega) (by omega) (brL_small B ha hb L J hb2 (by omega)) (by omega) (by omega) (by omega) (by omega) (B + 6 + 67 * J) e3.1 (by omega)).mono ?_
    rintro e w' ⟨rfl, P', G⟩
    rw [e3.2] at G
    have S' := SR.went S hl A dp G (fun vs => by simp)
    unfold JoinP at P'
    by_cases c : L - J = tp
    · rw [if_pos c] at P'
      have eJ : J = L - tp := by omega
      refine ⟨true, by simp [c], .inr ⟨rfl, by omega, ?_⟩, fr S'.2⟩
      subst eJ
      exact ⟨_, _, S'.1, MJ.2, MJ.1, P'⟩
    · rw [if_neg c] at P'
      refine ⟨false, by simp [c], .inl ⟨rfl, .inr (.inr (.inr ⟨J, _, rfl, by omega, ?_, MJ.2, MJ.1, ?_⟩)), by omega⟩, fr S'.2⟩
      · rw [show B + 3 + 67 * (J + 1) = B + 6 + 67 * J + 64 by omega]
        exact S'.1
      · rw [show wdN B aw (J + 1) = 2 * (B + 6 + 67 * J) from if_neg (by omega), show L - (J + 1) = L - J - 1 by omega]
        exact P'
  · have e3 := al3 (B + 3 + 67 * (J + 1)) (by omega) (by omega)
    have a := A p dp
    refine (fork_s3 p v b 4096 (B + 3 + 67 * (J + 1)) (m0 + (2 * J + 3)) 0 F cs l w P S.view S.bank S.nv a.1 a.2.1 (by omega) (by omega) (wdN_small B aw (J + 1) hb2 hA (by omega)) h0 (by omega) (B + 3 + 67 * (J + 1)) e3.1 (by omega) (dgN ha (L - (J + 1))) (dgN_eq ha _) (dgN_lt ha _)).mono ?_
    rintro e w' ⟨rfl, P', G⟩
    rw [e3.2] at G
    have S' := SR.went S hl A dp G (fun vs => by simp)
    refine ⟨false, rfl, .inl ⟨rfl, .inr (.inr (.inl ⟨J + 1, _, by omega, by omega, ?_, M.hang BR hb2 (by omega), ?_⟩)), by omega⟩, fr S'.2⟩
    · rw [show B + 6 + 67 * (J + 1) = B + 3 + 67 * (J + 1) + 3 by omega]
      exact S'.1
    · rw [show brL B ha hb L (J + 1) = (List.replicate 64 0).set (dgN ha (L - (J + 1))) (B + 3 + 67 * (J + 1)) from if_neg (by omega)]
      exact P'
end Go.Proofs.Ytmhflmjhphhppab
