/- Decode takes just what Encode writes. -/
import Derived.Test.YtbmfjcdafjknaaaEJ
namespace Go.Proofs.Ytbmfjcdafjknaaa
open Go.RowKit
set_option linter.unusedVariables false

theorem riseB_of_pair {l : List (Nat × Nat)} (h : l.Pairwise (fun a b => a.1 < b.1)) : riseB l = true := (riseB_iff l).2 (fun i x y hx hy => by
  obtain ⟨h1, e1⟩ := List.getElem?_eq_some_iff.1 hx
  obtain ⟨h2, e2⟩ := List.getElem?_eq_some_iff.1 hy
  have := List.pairwise_iff_getElem.1 h i (i + 1) h1 h2 (by omega)
  rw [e1, e2] at this
  exact this)
theorem lastK_nil : lastK [] = none := rfl
theorem lastK_add (f : List (Nat × Nat)) (x : Nat × Nat) : lastK (f ++ [x]) = some x.1 := by simp [lastK]
theorem drop_add (bs : List Nat) (i : Nat) (a t : List Nat) (h : bs.drop i = a ++ t) : bs.drop (i + a.length) = t := by
  rw [← List.drop_drop, h, List.drop_append, List.drop_length]
  simp
theorem key_of {f : List (Nat × Nat)} {x : Nat × Nat} (hp : (f ++ [x]).Pairwise (fun a b => a.1 < b.1)) : badK (lastK f) (x.1 - (lastK f).getD 0) = true → 18446744073709551616 ≤ x.1 := by
  rcases List.eq_nil_or_concat f with rfl | ⟨g, y, rfl⟩
  · simp [lastK_nil, badK]
  · rw [List.concat_eq_append] at *
    rw [lastK_add]
    intro h
    rw [List.pairwise_append] at hp
    have := hp.2.2 y (by simp) x (by simp)
    simp only [badK, Option.getD_some, Bool.or_eq_true, decide_eq_true_eq] at h
    omega
theorem last_le {f : List (Nat × Nat)} {x : Nat × Nat} (hp : (f ++ [x]).Pairwise (fun a b => a.1 < b.1)) : (lastK f).getD 0 ≤ x.1 := by
  rcases List.eq_nil_or_concat f with rfl | ⟨g, y, rfl⟩
  · simp [lastK_nil]
  · rw [List.concat_eq_append] at *
    rw [lastK_add]
    rw [List.pairwise_append] at hp
    have := hp.2.2 y (by simp) x (by simp)
    simp
    omega
theorem rdPs_enc (bs : List Nat) : ∀ (r f : List (Nat × Nat)) (i : Nat) (t : List Nat), bs.drop i = encS ((lastK f).getD 0) r ++ t → (f ++ r).Pairwise (fun a b => a.1 < b.1) → small64 (f ++ r) → rdPs bs r.length i f = (f ++ r, 0, i + (encS ((lastK f).getD 0) r).length) := by
  intro r
  induction r with
  | nil => intro f i t _ _ _; simp [rdPs, encS]
  | cons x r ih =>
    obtain ⟨k, v⟩ := x
    intro f i t h hp hs
    have hs' : small64 ((f ++ [(k, v)]) ++ r) := by simpa using hs
    have hp' : ((f ++ [(k, v)]) ++ r).Pairwise (fun a b => a.1 < b.1) := by simpa using hp
    have hp2 : (f ++ [(k, v)]).Pairwise (fun a b => a.1 < b.1) := (List.pairwise_append.1 hp').1
    have hk := hs (k, v) (by simp)
    have hl := last_le hp2
    have hb : badK (lastK f) (k - (lastK f).getD 0) = false := by
      cases e : badK (lastK f) (k - (lastK f).getD 0) with
      | false => rfl
      | true => have := key_of hp2 e; omega
    simp only [encS, List.append_assoc] at h
    have r1 : rdN (bs.drop i) 0 0 = (k - (lastK f).getD 0, 0, (numB (k - (lastK f).getD 0)).length) := by
      rw [h, rdN_num _ _ 0 0 (by omega) (by rw [lim0]; omega) (.inl rfl)]
      simp
    have h2 := drop_add bs i _ _ h
    have r2 : rdN (bs.drop (i + (numB (k - (lastK f).getD 0)).length)) 0 0 = (v, 0, (numB v).length) := by
      rw [h2, rdN_num _ _ 0 0 (by omega) (by rw [lim0]; omega) (.inl rfl)]
      simp
    have h3 := drop_add bs _ _ _ h2
    have e : rdPr bs i (lastK f) = ((k, v), 0, i + (numB (k - (lastK f).getD 0)).length + (numB v).length) := by
      unfold rdPr
      rw [r1]
      simp only [ne_eq, not_true, if_false, hb, r2, Bool.false_eq_true]
      rw [Nat.sub_add_cancel hl]
    have q := ih (f ++ [(k, v)]) (i + (numB (k - (lastK f).getD 0)).length + (numB v).length) t (by rw [lastK_add]; exact h3) hp' hs'
    rw [List.length_cons, rdPs, e]
    simp only [ne_eq, not_true, if_false]
    rw [q, lastK_add]
    simp [encS, Nat.add_assoc]
theorem rdPr_back {bs : List Nat} {i : Nat} {last : Option Nat} (hs : small8 bs) (hi : i ≤ bs.length) (hl : ∀ y, last = some y → y < 18446744073709551616) (h : (rdPr bs i last).2.1 = 0) :
    ∃ k v, (rdPr bs i last).1 = (k, v) ∧ bs.drop i = numB (k - last.getD 0) ++ numB v ++ bs.drop (rdPr bs i last).2.2 ∧ i ≤ (rdPr bs i last).2.2 ∧ (rdPr bs i last).2.2 ≤ bs.length ∧ k < 18446744073709551616 ∧ v < 18446744073709551616 ∧ ∀ y, last = some y → y < k := by
  have sd : ∀ j, small8 (bs.drop j) := fun j x hx => hs x (List.mem_of_mem_drop hx)
  by_cases h1 : (rdN (bs.drop i) 0 0).2.1 = 0
  · obtain ⟨m, a1, a2, a3, a4, a5⟩ := rdN_back (bs.drop i) 0 0 (by omega) (sd i) h1
    by_cases hb : badK last (rdN (bs.drop i) 0 0).1 = true
    · unfold rdPr at h; rw [if_neg (by simpa using h1), if_pos hb] at h; simp at h
    · by_cases h2 : (rdN (bs.drop (i + (rdN (bs.drop i) 0 0).2.2)) 0 0).2.1 = 0
      · obtain ⟨v, b1, b2, b3, b4, b5⟩ := rdN_back _ 0 0 (by omega) (sd _) h2
        have e : rdPr bs i last = (((rdN (bs.drop i) 0 0).1 + last.getD 0, (rdN (bs.drop (i + (rdN (bs.drop i) 0 0).2.2)) 0 0).1), 0, i + (rdN (bs.drop i) 0 0).2.2 + (rdN (bs.drop (i + (rdN (bs.drop i) 0 0).2.2)) 0 0).2.2) := by
          unfold rdPr
          rw [if_neg (by simpa using h1), if_neg hb, if_neg (by simpa using h2)]
        have n1 : (rdN (bs.drop i) 0 0).1 = m := by rw [a1]; simp
        have n2 : (rdN (bs.drop (i + (rdN (bs.drop i) 0 0).2.2)) 0 0).1 = v := by rw [b1]; simp
        have l1 := congrArg List.length a2
        have l2 := congrArg List.length b2
        simp only [List.length_append, List.length_drop] at l1 l2
        have hm1 : 1 ≤ (numB m).length := List.length_pos_iff.2 (numB_ne m)
        have hv1 : 1 ≤ (numB v).length := List.length_pos_iff.2 (numB_ne v)
        rw [lim0] at a5 b5
        rw [e]
        rw [n1] at hb ⊢
        rw [n2]
        refine ⟨m + last.getD 0, v, rfl, ?_, by simp only; omega, by simp only; omega, ?_, b5, ?_⟩
        · rw [Nat.add_sub_cancel]
          simp only
          rw [List.append_assoc]
          have d1 : bs.drop i = numB m ++ bs.drop (i + (rdN (bs.drop i) 0 0).2.2) := by
            have q := a2
            rw [List.drop_drop] at q
            exact q
          have d2 : bs.drop (i + (rdN (bs.drop i) 0 0).2.2) = numB v ++ bs.drop (i + (rdN (bs.drop i) 0 0).2.2 + (rdN (bs.drop (i + (rdN (bs.drop i) 0 0).2.2)) 0 0).2.2) := by
            have q := b2
            rw [List.drop_drop] at q
            exact q
          rw [← d2]
          exact d1
        · cases last with
          | none => simpa using a5
          | some y =>
            simp only [badK, Bool.or_eq_true, decide_eq_true_eq, not_or] at hb
            have := hl y rfl
            simp only [Option.getD_some]
            omega
        · intro y hy
          subst hy
          simp only [badK, Bool.or_eq_true, decide_eq_true_eq, not_or] at hb
          simp only [Option.getD_some]
          omega
      · unfold rdPr at h; rw [if_neg (by simpa using h1), if_neg hb, if_pos (by simpa using h2)] at h; exact absurd h h2
  · unfold rdPr at h; rw [if_pos (by simpa using h1)] at h; exact absurd h h1
theorem pair_add {f : List (Nat × Nat)} {x : Nat × Nat} (hp : f.Pairwise (fun a b => a.1 < b.1)) (h : ∀ y, lastK f = some y → y < x.1) : (f ++ [x]).Pairwise (fun a b => a.1 < b.1) := by
  rcases List.eq_nil_or_concat f with rfl | ⟨g, y, rfl⟩
  · simp
  · rw [List.concat_eq_append] at *
    have hy := h y.1 (lastK_add g y)
    rw [List.pairwise_append]
    refine ⟨hp, by simp, fun a ha b hb => ?_⟩
    simp at hb
    subst hb
    rcases List.mem_append.1 ha with q | q
    · have := (List.pairwise_append.1 hp).2.2 a q y (by simp)
      omega
    · simp at q
      subst q
      exact hy
theorem last_small {f : List (Nat × Nat)} (hs : small64 f) : ∀ y, lastK f = some y → y < 18446744073709551616 := by
  intro y h
  rcases List.eq_nil_or_concat f with rfl | ⟨g, x, rfl⟩
  · simp [lastK_nil] at h
  · rw [List.concat_eq_append] at *
    rw [lastK_add] at h
    injection h with h
    subst h
    exact (hs x (by simp)).1
theorem rdPs_back (bs : List Nat) (hb : small8 bs) : ∀ (m i : Nat) (f : List (Nat × Nat)), i ≤ bs.length → f.Pairwise (fun a b => a.1 < b.1) → small64 f → (rdPs bs m i f).2.1 = 0 →
    ∃ r, (rdPs bs m i f).1 = f ++ r ∧ r.length = m ∧ bs.drop i = encS ((lastK f).getD 0) r ++ bs.drop (rdPs bs m i f).2.2 ∧ i ≤ (rdPs bs m i f).2.2 ∧ (rdPs bs m i f).2.2 ≤ bs.length ∧ (f ++ r).Pairwise (fun a b => a.1 < b.1) ∧ small64 (f ++ r) := by
  intro m
  induction m with
  | zero => intro i f hi hp hs _; exact ⟨[], by simp [rdPs], rfl, by simp [rdPs, encS], by simp [rdPs], by simpa [rdPs] using hi, by simpa using hp, by simpa using hs⟩
  | succ m ih =>
    intro i f hi hp hs h
    by_cases h1 : (rdPr bs i (lastK f)).2.1 = 0
    · have e : rdPs bs (m + 1) i f = rdPs bs m (rdPr bs i (lastK f)).2.2 (f ++ [(rdPr bs i (lastK f)).1]) := by
        rw [rdPs, if_neg (by simpa using h1)]
      rw [e] at h ⊢
      obtain ⟨k, v, a1, a2, a3, a4, a5, a6, a7⟩ := rdPr_back hb hi (last_small hs) h1
      rw [a1] at h ⊢
      have hp' : (f ++ [(k, v)]).Pairwise (fun a b => a.1 < b.1) := pair_add hp a7
      have hs' : small64 (f ++ [(k, v)]) := by
        intro x hx
        rcases List.mem_append.1 hx with q | q
        · exact hs x q
        · simp at q; subst q; exact ⟨a5, a6⟩
      obtain ⟨r, b1, b2, b3, b4, b5, b6, b7⟩ := ih _ _ a4 hp' hs' h
      refine ⟨(k, v) :: r, by rw [b1]; simp, by simp [b2], ?_, by omega, b5, by simpa using b6, by simpa using b7⟩
      rw [lastK_add] at b3
      rw [a2, b3]
      simp [encS]
    · rw [rdPs, if_pos (by simpa using h1)] at h
      exact absurd h h1
theorem rdM_iff (bs : List Nat) : (rdM bs 4).1 = 0 → bs.take 4 = markB := by
  match bs with
  | [] => simp [rdM]
  | [a] => simp only [rdM, markB]; intro h; revert h; simp; split <;> simp
  | [a, b] => simp only [rdM, markB]; intro h; revert h; simp; split <;> (try split) <;> simp
  | [a, b, c] => simp only [rdM, markB]; intro h; revert h; simp; split <;> (try split) <;> (try split) <;> simp
  | a :: b :: c :: d :: t => simp only [rdM, markB]; intro h; revert h; simp; split <;> (try split) <;> (try split) <;> (try split) <;> simp_all
theorem rdM_mark (t : List Nat) : rdM (markB ++ t) 4 = (0, 4) := by
  simp [rdM, markB]
theorem enc_dec {bs : List Nat} (hb : small8 bs) (h : (rdA bs).2.1 = 0) : riseB (rdA bs).1 = true ∧ small64 (rdA bs).1 ∧ encL (rdA bs).1 = bs := by
  unfold rdA at h ⊢
  by_cases h1 : (rdM bs 4).1 = 0
  · rw [if_neg (by simpa using h1)] at h ⊢
    by_cases h2 : (rdC bs 4).2.1 = 0
    · rw [if_neg (by simpa using h2)] at h ⊢
      by_cases h3 : (rdS bs (rdC bs 4).2.2).1 = 0
      · rw [if_neg (by simpa using h3)] at h ⊢
        by_cases h4 : (rdS bs (rdC bs 4).2.2).2 = bs.length
        · rw [if_neg (by simpa using h4)]
          simp only
          have m4 := rdM_iff bs h1
          have l4 : 4 ≤ bs.length := by have := congrArg List.length m4; simp [markB] at this; omega
          by_cases c0 : (rdN (bs.drop 4) 0 0).2.1 = 0
          · have ec : rdC bs 4 = rdPs bs (rdN (bs.drop 4) 0 0).1 (4 + (rdN (bs.drop 4) 0 0).2.2) [] := by unfold rdC; rw [if_neg (by simpa using c0)]
            rw [ec] at h2 h3 h4 ⊢
            obtain ⟨n, a1, a2, a3, a4, a5⟩ := rdN_back (bs.drop 4) 0 0 (by omega) (fun x hx => hb x (List.mem_of_mem_drop hx)) c0
            have n1 : (rdN (bs.drop 4) 0 0).1 = n := by rw [a1]; simp
            have l1 := congrArg List.length a2
            simp only [List.length_append, List.length_drop] at l1
            rw [n1] at h2 h3 h4 ⊢
            have hn1 : 1 ≤ (numB n).length := List.length_pos_iff.2 (numB_ne n)
            obtain ⟨r, b1, b2, b3, b4, b5, b6, b7⟩ := rdPs_back bs hb n (4 + (rdN (bs.drop 4) 0 0).2.2) [] (by omega) (by simp) (by intro x hx; simp at hx) h2
            generalize hJ : (rdPs bs n (4 + (rdN (bs.drop 4) 0 0).2.2) []).2.2 = j at *
            rw [b1]
            simp only [List.nil_append] at *
            refine ⟨(riseB_of_pair b6), b7, ?_⟩
            have d1 : bs.drop 4 = numB n ++ bs.drop (4 + (rdN (bs.drop 4) 0 0).2.2) := by
              have q := a2
              rw [List.drop_drop] at q
              exact q
            rw [lastK_nil] at b3
            simp only [Option.getD_none] at b3
            have eH : encH r r.length = bs.take j := by
              have w : bs = (markB ++ numB n ++ encS 0 r) ++ bs.drop j := by
                conv => lhs; rw [← List.take_append_drop 4 bs, m4, d1, b3]
                simp
              have lw : (markB ++ numB n ++ encS 0 r).length = j := by
                have := congrArg List.length w
                simp only [List.length_append, List.length_drop] at this ⊢
                omega
              unfold encH
              have q := encS_all r r.length (Nat.le_refl _)
              rw [List.drop_length] at q
              simp only [encS, List.append_nil] at q
              rw [q, b2]
              conv => rhs; rw [w]
              rw [← lw, List.take_append_of_le_length (Nat.le_refl _), List.take_length]
            unfold encL
            rw [eH]
            unfold rdS at h3 h4
            by_cases s1 : bs.length - j < 4
            · rw [if_pos s1] at h3; simp at h3
            · rw [if_neg s1] at h3 h4
              by_cases s2 : (bs.drop j).take 4 = sum4 (sumF (bs.take j))
              · rw [if_pos s2] at h4
                simp only at h4
                have : (bs.drop j).take 4 = bs.drop j := List.take_of_length_le (by simp; omega)
                rw [← s2, this, List.take_append_drop]
              · rw [if_neg s2] at h3; simp at h3
          · unfold rdC at h2; rw [if_pos (by simpa using c0)] at h2; exact absurd h2 c0
        · rw [if_pos (by simpa using h4)] at h; simp at h
      · rw [if_pos (by simpa using h3)] at h; exact absurd h h3
    · rw [if_pos (by simpa using h2)] at h; exact absurd h h2
  · rw [if_pos (by simpa using h1)] at h; exact absurd h h1
theorem dec_enc {l : List (Nat × Nat)} (hr : riseB l = true) (hs : small64 l) (hl : l.length ≤ 10000000) : rdA (encL l) = (l, 0, 0) := by
  have e : encL l = markB ++ (numB l.length ++ (encS 0 l ++ sum4 (sumF (encH l l.length)))) := by
    have q := encS_all l l.length (Nat.le_refl _)
    rw [List.drop_length] at q
    simp only [encS, List.append_nil] at q
    conv => lhs; unfold encL encH
    rw [q]
    simp [encH, q]
  have hM : rdM (encL l) 4 = (0, 4) := by rw [e]; exact rdM_mark _
  have d4 : (encL l).drop 4 = numB l.length ++ (encS 0 l ++ sum4 (sumF (encH l l.length))) := by rw [e]; rfl
  have r1 : rdN ((encL l).drop 4) 0 0 = (l.length, 0, (numB l.length).length) := by
    rw [d4, rdN_num _ _ 0 0 (by omega) (by rw [lim0]; omega) (.inl rfl)]
    simp
  have d5 := drop_add _ _ _ _ d4
  have hp := riseB_pair hr
  have r2 := rdPs_enc (encL l) l [] (4 + (numB l.length).length) _ d5 (by simpa using hp) (by simpa using hs)
  have hC : rdC (encL l) 4 = (l, 0, 4 + (numB l.length).length + (encS 0 l).length) := by
    unfold rdC
    rw [r1]
    simp only [ne_eq, not_true, if_false]
    rw [r2]
    simp [lastK_nil]
  have d6 := drop_add _ _ _ _ d5
  have eH : encH l l.length = (encL l).take (4 + (numB l.length).length + (encS 0 l).length) := by
    have q := encS_all l l.length (Nat.le_refl _)
    rw [List.drop_length] at q
    simp only [encS, List.append_nil] at q
    unfold encL
    have hlen : (encH l l.length).length = 4 + (numB l.length).length + (encS 0 l).length := by
      unfold encH
      rw [q]
      simp [markB]
      omega
    rw [← hlen, List.take_append_of_le_length (Nat.le_refl _), List.take_length]
  have hlen : (encL l).length = 4 + (numB l.length).length + (encS 0 l).length + 4 := by
    rw [e]
    simp [markB, sum4]
    omega
  have hS : rdS (encL l) (4 + (numB l.length).length + (encS 0 l).length) = (0, 4 + (numB l.length).length + (encS 0 l).length + 4) := by
    unfold rdS
    rw [if_neg (by omega), ← eH, d6, if_pos (by simp [sum4])]
  unfold rdA
  rw [hM, hC]
  simp only [ne_eq, not_true, if_false, hS, hlen]
end Go.Proofs.Ytbmfjcdafjknaaa
