/- The document's run of the plans, in plain numbers. -/
import Derived.Test.YtphlhpnhieomiaaYe
namespace Go.Proofs.Ytphlhpnhieomiaa
open Go.RowKit
set_option linter.unusedVariables false

def dM (m0 : Mu) (l : List PlP) (n I S i : Nat) : Mu := if pre l i ≤ n then mF 200 m0 l i else mS 200 m0 l I S
def dT (m0 : Mu) (l : List PlP) (n I S i : Nat) : List Acc := if pre l i ≤ n then tF 3 200 m0 l i else tS 3 200 m0 l I S
/-- What is left of the steps, when i plans were come by. -/
def LeftAt (l : List PlP) (n i : Nat) (z : Int) : Prop := (pre l i ≤ n → z = (n : Int) - (pre l i : Int)) ∧ (n < pre l i → z ≤ 0) ∧ -(i : Int) ≤ z
theorem pos_le {l : List PlP} {n I S i : Nat} (h : Pos l (min n (pre l l.length)) I S) (hi : i ≤ l.length) : pre l i ≤ n ↔ i ≤ I := by
  have h1 := h.at_
  have h2 := pre_mono l hi
  constructor
  · intro q
    rcases Nat.lt_or_ge I i with e | e
    · obtain ⟨p, hp⟩ : ∃ p, l[I]? = some p := ⟨l[I]'(by omega), List.getElem?_eq_getElem _⟩
      have h3 := h.lt p hp
      have h4 := pre_succ hp
      have h5 := pre_mono l (show I + 1 ≤ i by omega)
      omega
    · exact e
  · intro q
    have h3 := pre_mono l q
    omega
theorem pos_left {l : List PlP} {n I S : Nat} (h : Pos l (min n (pre l l.length)) I S) {q : PlP} (hq : l[I]? = some q) : n = pre l I + S := by
  have h1 := h.at_
  have h3 := h.lt q hq
  have h4 := pre_succ hq
  have hI := (List.getElem?_eq_some_iff.1 hq).1
  have h5 := pre_mono l (show I + 1 ≤ l.length by omega)
  omega
theorem d_end {m0 : Mu} {l : List PlP} {n I S : Nat} (h : Pos l (min n (pre l l.length)) I S) : dM m0 l n I S l.length = mS 200 m0 l I S ∧ dT m0 l n I S l.length = tS 3 200 m0 l I S := by
  unfold dM dT
  by_cases e : pre l l.length ≤ n
  · rw [if_pos e, if_pos e]
    have hI : I = l.length := by have := (pos_le h (Nat.le_refl _)).1 e; have := h.le; omega
    have hN : l[I]? = none := List.getElem?_eq_none (by omega)
    have hS := h.z hN
    rw [hS, mS_zero, tS_zero, hI]
    exact ⟨rfl, rfl⟩
  · rw [if_neg e, if_neg e]
    exact ⟨rfl, rfl⟩
theorem d_start {m0 : Mu} {l : List PlP} {n I S : Nat} : dM m0 l n I S 0 = m0 ∧ dT m0 l n I S 0 = [] := by
  unfold dM dT
  rw [if_pos (by rw [pre_zero]; omega), if_pos (by rw [pre_zero]; omega)]
  exact ⟨rfl, rfl⟩
/-- A plan that is none. -/
theorem d_none {m0 : Mu} {l : List PlP} {n I S i : Nat} (h : Pos l (min n (pre l l.length)) I S) {q : PlP} (hq : l[i]? = some q) (hn : q.none = true) {z : Int} (hz : LeftAt l n i z) :
    dM m0 l n I S (i + 1) = dM m0 l n I S i ∧ dT m0 l n I S (i + 1) = dT m0 l n I S i ∧ LeftAt l n (i + 1) (z - 1) := by
  have hi := (List.getElem?_eq_some_iff.1 hq).1
  have e1 : nst q = 1 := by unfold nst; rw [if_pos hn]
  have e2 : ∀ r, doL q r = [] := fun r => by unfold doL; rw [if_pos hn]
  have hp := pre_succ hq
  have eM : mF 200 m0 l (i + 1) = mF 200 m0 l i := by simp only [mF, hq]; rw [e2]; rfl
  have eT : tF 3 200 m0 l (i + 1) = tF 3 200 m0 l i := by simp only [tF, hq]; rw [e2]; simp [runT]
  obtain ⟨z1, z2, z3⟩ := hz
  refine ⟨?_, ?_, ⟨fun e => ?_, fun e => ?_, by omega⟩⟩
  · unfold dM
    by_cases e : pre l (i + 1) ≤ n
    · rw [if_pos e, if_pos (by omega), eM]
    · rw [if_neg e]
      by_cases e' : pre l i ≤ n
      · rw [if_pos e']
        have a1 := (pos_le h (show i ≤ l.length by omega)).1 e'
        have a2 : ¬ i + 1 ≤ I := fun x => e ((pos_le h (show i + 1 ≤ l.length by omega)).2 x)
        have a3 : I = i := by omega
        subst a3
        unfold mS
        simp only [hq]
        rw [e2]; rfl
      · rw [if_neg e']
  · unfold dT
    by_cases e : pre l (i + 1) ≤ n
    · rw [if_pos e, if_pos (by omega), eT]
    · rw [if_neg e]
      by_cases e' : pre l i ≤ n
      · rw [if_pos e']
        have a1 := (pos_le h (show i ≤ l.length by omega)).1 e'
        have a2 : ¬ i + 1 ≤ I := fun x => e ((pos_le h (show i + 1 ≤ l.length by omega)).2 x)
        have a3 : I = i := by omega
        subst a3
        unfold tS
        simp only [hq]
        rw [e2]; simp [runT]
      · rw [if_neg e']
  · have := z1 (by omega); omega
  · by_cases e' : pre l i ≤ n
    · have := z1 e'; omega
    · have := z2 (by omega); omega
/-- A plan of a proc: e of its steps are made. -/
theorem d_some {m0 : Mu} {l : List PlP} {n I S i : Nat} (h : Pos l (min n (pre l l.length)) I S) {q : PlP} (hq : l[i]? = some q) {z : Int} (hz : LeftAt l n i z) :
    dM m0 l n I S (i + 1) = runM 200 (dM m0 l n I S i) (doL q (min (nst q) z.toNat)) ∧ dT m0 l n I S (i + 1) = dT m0 l n I S i ++ runT 3 200 (dM m0 l n I S i) (doL q (min (nst q) z.toNat)) ∧ LeftAt l n (i + 1) (z - (min (nst q) z.toNat : Nat)) ∧ gF 200 m0 l I S i = runG 200 (dM m0 l n I S i) (doL q (min (nst q) z.toNat)) := by
  have hi := (List.getElem?_eq_some_iff.1 hq).1
  have hp := pre_succ hq
  have hpos := nst_pos q
  obtain ⟨z1, z2, z3⟩ := hz
  by_cases e' : pre l i ≤ n
  · have ez := z1 e'
    have a1 := (pos_le h (show i ≤ l.length by omega)).1 e'
    have eD : dM m0 l n I S i = mF 200 m0 l i := by unfold dM; rw [if_pos e']
    have eD' : dT m0 l n I S i = tF 3 200 m0 l i := by unfold dT; rw [if_pos e']
    by_cases e : pre l (i + 1) ≤ n
    · have a2 := (pos_le h (show i + 1 ≤ l.length by omega)).1 e
      have em : min (nst q) z.toNat = nst q := by omega
      rw [em, eD, eD']
      refine ⟨?_, ?_, ⟨fun _ => by omega, fun _ => by omega, by omega⟩, ?_⟩
      · unfold dM; rw [if_pos e]; simp only [mF, hq]
      · unfold dT; rw [if_pos e]; simp only [tF, hq]
      · unfold gF; simp only [hq]; rw [if_pos (by omega)]
    · have a2 : ¬ i + 1 ≤ I := fun x => e ((pos_le h (show i + 1 ≤ l.length by omega)).2 x)
      have a3 : I = i := by omega
      subst a3
      have hl := pos_left h hq
      have hS := h.lt q hq
      have em : min (nst q) z.toNat = S := by omega
      rw [em, eD, eD']
      refine ⟨?_, ?_, ⟨fun _ => by omega, fun _ => by omega, by omega⟩, ?_⟩
      · unfold dM; rw [if_neg e]; unfold mS; simp only [hq]
      · unfold dT; rw [if_neg e]; unfold tS; simp only [hq]
      · unfold gF; simp only [hq]; rw [if_neg (by omega)]; simp
  · have ez := z2 (by omega)
    have em : min (nst q) z.toNat = 0 := by omega
    have a1 : ¬ i ≤ I := fun x => e' ((pos_le h (show i ≤ l.length by omega)).2 x)
    have e : ¬ pre l (i + 1) ≤ n := by omega
    rw [em, doL_zero]
    refine ⟨?_, ?_, ⟨fun _ => by omega, fun _ => by omega, by omega⟩, ?_⟩
    · unfold dM; rw [if_neg e, if_neg e']; rfl
    · unfold dT; rw [if_neg e, if_neg e']; simp [runT]
    · unfold gF; simp only [hq]; rw [if_neg (by omega), if_neg (by omega)]; rfl
theorem dT_len {m0 : Mu} {l : List PlP} {n I S i : Nat} (hi : i ≤ l.length) {z : Int} (hz : LeftAt l n i z) (h0 : 0 < z) : (dT m0 l n I S i).length ≤ pre l i := by
  have e : pre l i ≤ n := by
    rcases Nat.lt_or_ge n (pre l i) with e | e
    · have := hz.2.1 e; omega
    · exact e
  unfold dT
  rw [if_pos e]
  exact tF_len 3 200 m0 l i hi
theorem mS_nx {m0 : Mu} {l : List PlP} (h : m0.next ≤ 200) (hx : ∀ (ds : List DoP) {m : Mu}, m.next ≤ 200 → (runM 200 m ds).next ≤ 200) (hf : ∀ i, (mF 200 m0 l i).next ≤ 200) (I S : Nat) : (mS 200 m0 l I S).next ≤ 200 := by
  unfold mS
  split
  · exact hf I
  · exact hx _ (hf I)
theorem pre_le {l : List PlP} {M : Nat} (h : ∀ q ∈ l, nst q ≤ M) : ∀ i, i ≤ l.length → pre l i ≤ i * M := by
  intro i
  induction i with
  | zero => intro _; rw [pre_zero]; omega
  | succ i ih =>
    intro hi
    have hp : l[i]? = some l[i] := List.getElem?_eq_getElem (by omega)
    have := h l[i] (List.getElem_mem _)
    have := ih (by omega)
    rw [pre_succ hp, Nat.succ_mul]
    omega
theorem pre_all {l : List PlP} (hl : l.length ≤ 1048576) (h : ∀ q ∈ l, q.L.length ≤ 1048576) : pre l l.length ≤ 1099511627776 := by
  have h1 := pre_le (M := 1048576) (fun q hq => by have := h q hq; unfold nst; split; omega; split <;> omega) l.length (Nat.le_refl _)
  have h2 : l.length * 1048576 ≤ 1048576 * 1048576 := Nat.mul_le_mul_right _ hl
  omega
theorem nst_loop {q : PlP} (hn : q.none = false) (s : Nat) : s < nst q ↔ (s < q.L.length ∨ s < 1) := by
  unfold nst
  rw [if_neg (by simp [hn])]
  split <;> omega
theorem mkT_vals {th : Int} {most : Nat} {m : Mu} {d : DoP} (h : d.vals.length ≤ 1099511627776) : ∀ x ∈ mkT th most m d, x.vals.length ≤ 1099511627776 := by
  intro x hx
  unfold mkT at hx
  split at hx
  · simp at hx
    subst hx
    unfold mkA
    split
    · simp
    · split
      · simp
      · split
        · simp
        · split
          · simp
          · exact h
  · simp at hx
theorem runT_vals {th : Int} {most : Nat} : ∀ (ds : List DoP) (m : Mu), (∀ d ∈ ds, d.vals.length ≤ 1099511627776) → ∀ x ∈ runT th most m ds, x.vals.length ≤ 1099511627776
  | [], m, _, x, hx => by simp [runT] at hx
  | d :: r, m, h, x, hx => by
    simp only [runT, List.mem_append] at hx
    rcases hx with hx | hx
    · exact mkT_vals (h d (by simp)) x hx
    · exact runT_vals r _ (fun y hy => h y (by simp [hy])) x hx
theorem doL_mem {q : PlP} {r : Nat} {d : DoP} (h : d ∈ doL q r) : d ∈ q.L := by
  unfold doL at h
  split at h
  · simp at h
  · exact List.mem_of_mem_take h
theorem tF_vals {th : Int} {most : Nat} {m0 : Mu} {l : List PlP} (h : ∀ q ∈ l, ∀ d ∈ q.L, d.vals.length ≤ 1099511627776) : ∀ i, ∀ x ∈ tF th most m0 l i, x.vals.length ≤ 1099511627776 := by
  intro i
  induction i with
  | zero => intro x hx; simp [tF] at hx
  | succ i ih =>
    intro x hx
    simp only [tF] at hx
    split at hx
    · rename_i p hp
      rcases List.mem_append.1 hx with hx | hx
      · exact ih x hx
      · exact runT_vals _ _ (fun d hd => h p (List.mem_of_getElem? hp) d (doL_mem hd)) x hx
    · exact ih x hx
theorem tS_vals {th : Int} {most : Nat} {m0 : Mu} {l : List PlP} (h : ∀ q ∈ l, ∀ d ∈ q.L, d.vals.length ≤ 1099511627776) (I S : Nat) : ∀ x ∈ tS th most m0 l I S, x.vals.length ≤ 1099511627776 := by
  intro x hx
  unfold tS at hx
  split at hx
  · exact tF_vals h I x hx
  · rename_i p hp
    rcases List.mem_append.1 hx with hx | hx
    · exact tF_vals h I x hx
    · exact runT_vals _ _ (fun d hd => h p (List.mem_of_getElem? hp) d (doL_mem hd)) x hx
theorem tS_le {th : Int} {most : Nat} {m0 : Mu} {l : List PlP} {k I S : Nat} (h : Pos l k I S) : (tS th most m0 l I S).length ≤ pre l l.length := by
  unfold tS
  split
  · exact Nat.le_trans (tF_len th most m0 l I h.le) (pre_mono l h.le)
  · rename_i p hp
    have h1 := tF_len th most m0 l I h.le
    have h2 := runT_len th most (mF most m0 l I) (doL p S)
    have h3 : (doL p S).length ≤ S := by unfold doL; split <;> simp; omega
    have h4 := h.lt p hp
    have h5 := pre_succ hp
    have hI := (List.getElem?_eq_some_iff.1 hp).1
    have h6 := pre_mono l (show I + 1 ≤ l.length by omega)
    rw [List.length_append]
    omega
end Go.Proofs.Ytphlhpnhieomiaa
