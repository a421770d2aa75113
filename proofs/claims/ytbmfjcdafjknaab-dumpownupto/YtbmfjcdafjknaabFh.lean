/- DumpHurt: pure. -/
import Derived.Test.YtbmfjcdafjknaabER
import Derived.Test.YtbmfjcdafjknaabEe
namespace Go.Proofs.Ytbmfjcdafjknaab
open Go.RowKit Go.Joins
set_option linter.unusedVariables false

theorem rdA_noneH (bs : List Nat) : (rdA bs).2.1 ≠ 0 → (rdA bs).1 = [] := by
  intro h
  revert h
  unfold rdA
  split
  · intro _; rfl
  · split
    · intro _; rfl
    · split
      · intro _; rfl
      · split <;> simp
theorem encI_geH (l : List (Nat × Nat)) (i : Nat) : i ≤ (encI l i).length := by
  induction i with
  | zero => simp
  | succ i ih =>
    have h1 := List.length_pos_iff.2 (numB_ne ((l[i]?.getD (0, 0)).2))
    simp only [encI, List.length_append]
    omega
theorem encL_geH (l : List (Nat × Nat)) : l.length + 9 ≤ (encL l).length := by
  have := encI_geH l l.length
  have h1 := List.length_pos_iff.2 (numB_ne l.length)
  unfold encL encH
  simp only [List.length_append, markB, sum4, List.length_cons, List.length_nil]
  omega
theorem encL_leH {l : List (Nat × Nat)} (hs : small64 l) (hl : l.length ≤ 10000000) : (encL l).length ≤ 1000000000 := by
  have := encH_len hs hl l.length
  unfold encL
  simp only [List.length_append, sum4, List.length_cons, List.length_nil]
  omega
theorem encL_eqH (l : List (Nat × Nat)) : encL l = markB ++ (numB l.length ++ (encS 0 l ++ sum4 (sumF (encH l l.length)))) := by
  have q := encS_all l l.length (Nat.le_refl _)
  rw [List.drop_length] at q
  simp only [encS, List.append_nil] at q
  conv => lhs; unfold encL encH
  rw [q]
  simp [encH, q]
theorem rdC_encH {l : List (Nat × Nat)} (hr : riseB l = true) (hs : small64 l) (hl : l.length ≤ 1000000000) (t : List Nat) : (rdC (markB ++ (numB l.length ++ (encS 0 l ++ t))) 4).1 = l := by
  obtain ⟨bs, hbs⟩ : ∃ bs, bs = markB ++ (numB l.length ++ (encS 0 l ++ t)) := ⟨_, rfl⟩
  rw [← hbs]
  have d4 : bs.drop 4 = numB l.length ++ (encS 0 l ++ t) := by rw [hbs]; rfl
  have r1 : rdN (bs.drop 4) 0 0 = (l.length, 0, (numB l.length).length) := by
    rw [d4, rdN_num _ _ 0 0 (by omega) (by rw [lim0]; omega) (.inl rfl)]
    simp
  have d5 := drop_add _ _ _ _ d4
  have r2 := rdPs_enc bs l [] (4 + (numB l.length).length) _ d5 (by simpa using riseB_pair hr) (by simpa using hs)
  unfold rdC
  rw [r1]
  simp only [ne_eq, not_true, if_false]
  rw [r2]
  rfl
/-- A dump whose end is lost is not taken. -/
theorem short_bad {l : List (Nat × Nat)} (hr : riseB l = true) (hs : small64 l) (hl : l.length ≤ 10000000) (h8 : small8 (encL l)) {k : Nat} (hk : k < (encL l).length) : (rdA ((encL l).take k)).2.1 ≠ 0 := by
  intro h0
  obtain ⟨r1, r2, r3⟩ := enc_dec (bs := (encL l).take k) (fun x hx => h8 x (List.mem_of_mem_take hx)) h0
  obtain ⟨l', hl'⟩ : ∃ l', l' = (rdA ((encL l).take k)).1 := ⟨_, rfl⟩
  rw [← hl'] at r1 r2 r3
  have hlen : l'.length ≤ 1000000000 := by
    have a := encL_geH l'
    rw [r3, List.length_take] at a
    have := encL_leH hs hl
    omega
  have e : encL l = encL l' ++ (encL l).drop k := by rw [r3, List.take_append_drop]
  have c1 := rdC_encH hr hs (by omega) (sum4 (sumF (encH l l.length)))
  rw [← encL_eqH, e] at c1
  have c2 := rdC_encH r1 r2 hlen (sum4 (sumF (encH l' l'.length)) ++ (encL l).drop k)
  have e2 : markB ++ (numB l'.length ++ (encS 0 l' ++ (sum4 (sumF (encH l' l'.length)) ++ (encL l).drop k))) = encL l' ++ (encL l).drop k := by
    rw [encL_eqH l']
    simp
  rw [e2, c1] at c2
  rw [← c2] at r3
  have := congrArg List.length r3
  rw [List.length_take] at this
  omega
/-- A dump with another byte is not taken as the same. -/
theorem other_bad {l : List (Nat × Nat)} (hr : riseB l = true) (hs : small64 l) (hl : l.length ≤ 10000000) (h8 : small8 (encL l)) {k q y by_ : Nat} (hq : (encL l)[k]? = some q) (hy : y < 256) (hby : y = q ↔ by_ = 0) :
    decide (by_ = 0) = (decide ((rdA ((encL l).set k y)).2.1 = 0) && decide ((rdA ((encL l).set k y)).1 = l)) := by
  have hk := (List.getElem?_eq_some_iff.1 hq)
  obtain ⟨hlt, hqe⟩ := hk
  by_cases h : by_ = 0
  · have e : (encL l).set k y = encL l := by
      rw [hby.2 h, ← hqe, List.set_getElem_self]
    rw [e, dec_enc hr hs hl]
    simp [h]
  · rw [decide_eq_false h]
    symm
    rw [Bool.and_eq_false_iff]
    by_cases h0 : (rdA ((encL l).set k y)).2.1 = 0
    · right
      rw [decide_eq_false_iff_not]
      intro e
      have s8 : small8 ((encL l).set k y) := fun x hx => by
        rcases List.mem_or_eq_of_mem_set hx with q | q
        · exact h8 x q
        · rw [q]; exact hy
      have := (enc_dec s8 h0).2.2
      rw [e] at this
      have e2 := congrArg (fun z : List Nat => z[k]?) this
      rw [hq, List.getElem?_set_self (by omega)] at e2
      injection e2 with e2
      exact h (hby.1 e2.symm)
    · left
      exact decide_eq_false h0
end Go.Proofs.Ytbmfjcdafjknaab
