/- The reader's dump; Decode. -/
import Derived.Test.YtbmfjcdafjknaabEQ
namespace Go.Proofs.Ytbmfjcdafjknaab
open Go.RowKit Go.Joins
set_option linter.unusedVariables false

theorem row_prC {W : World} {B : Nat} {v : Value} {l : List (Nat × Nat)} (h : W.ownsRow B 59 2 v l.length (prRow l)) (hs : small64 l) : ∃ p c, v = .slice p l.length c ∧ PairsAt W p l ∧ (l.length ≤ c ∧ c ≤ 9223372036854775807) := by
  obtain ⟨p, c, hv, hat, _⟩ := PRow.slice (⟨h, hs⟩ : PRow W B v l)
  refine ⟨p, c, hv, hat, ?_⟩
  rcases h.2 with ⟨z, z0⟩ | ⟨g', cap', cur, z, _, _, hcap, hmax, _⟩
  · rw [hv] at z
    injection z with z1 z2 z3
    omega
  · rw [hv] at z
    injection z with z1 z2 z3
    unfold maxLen at hmax
    omega
theorem row_ne {W : World} {B R : Nat} {p : Option Addr} {c : Nat} {l : List (Nat × Nat)} (h : W.ownsRow B 59 2 (.slice p l.length c) l.length (prRow l)) (hs : small64 l) (hat : PairsAt W p l) (hR : R < B) : ∀ b o, p = some ⟨b, o, none⟩ → ¬ b = R := by
  intro b o e
  obtain ⟨p', c', hv, _, hb⟩ := PRow.slice (⟨h, hs⟩ : PRow W B _ l)
  injection hv with z1 z2 z3
  have := hb b o (z1.symm.trans e)
  omega
theorem dec_below {W W1 : World} {o : Obj} (h : Chg (fun j => j = W.heap.size) (W.alloc o) W1) : Below W.heap.size W W1 := by
  have := ((Chg.refl (fun j => j = W.heap.size) W).alloc o).trans h (H := fun j => W.heap.size ≤ j) (fun _ _ x => by omega) (fun _ _ x => by omega)
  exact this.below (Nat.le_refl _)
theorem rdM_one {bs : List Nat} (h : (rdM bs 4).1 = 0) : (rdM bs 4).2 = 4 := by
  have e := rdM_iff bs h
  have : bs = markB ++ bs.drop 4 := by rw [← e, List.take_append_drop]
  rw [this, rdM_mark]
theorem rdC_row {bs : List Nat} {i : Nat} (h : (rdC bs i).2.1 ≠ 0) : (rdC bs i).1 = [] := by
  have gen : ∀ m i l, (rdPs bs m i l).2.1 ≠ 0 → (rdPs bs m i l).1 = [] := by
    intro m
    induction m with
    | zero => intro i l h; simp [rdPs] at h
    | succ m ih =>
      intro i l h
      rw [rdPs] at h ⊢
      split
      · rfl
      · rename_i q
        rw [if_neg q] at h
        exact ih _ _ h
  unfold rdC at h ⊢
  split
  · rfl
  · rename_i q
    rw [if_neg q] at h
    exact gen _ _ _ h
set_option maxRecDepth 100000 in
set_option maxHeartbeats 4000000 in
theorem rd_dump {W : World} {R : Nat} {p : Option Addr} {bs : List Nat} {c : Nat} (H : Rd W R p bs c 0) (hc : bs.length ≤ c ∧ c ≤ 9223372036854775807) (hp : ∀ b o, pB bs p = some ⟨b, o, none⟩ → b < W.heap.size) :
    Calls Try.prog 18 #[.pointer (some ⟨R, 0, none⟩)] W fun e W' => (∃ pq cq, e = .returned (.tuple #[.slice pq (rdA bs).1.length cq, .int .i64 ((rdA bs).2.1 : Int)]) ∧ PairsAt W' pq (rdA bs).1 ∧ (rdA bs).1.length ≤ cq ∧ cq ≤ 9223372036854775807) ∧ (∃ j, W'.cell? ⟨R, 1, none⟩ = some (.int .i64 (j : Int)) ∧ ((rdA bs).2.1 ≠ 0 → j = (rdA bs).2.2)) ∧ Chg (fun j => j = R) W W' := by
  have N1 := keepH (rd_mark H)
  have HBP := keepH hp
  have HL := keepH H.lt
  clear H hp
  obtain ⟨r1, hr1⟩ : ∃ r, r = rdM bs 4 := ⟨_, rfl⟩
  obtain ⟨e1, i1⟩ := r1
  rw [← hr1] at N1
  simp only at N1
  by_cases he1 : e1 = 0
  · subst he1
    have hi1 : i1 = 4 := by have := rdM_one (bs := bs) (by rw [← hr1]); rw [← hr1] at this; exact this
    subst hi1
    obtain ⟨r2, hr2⟩ : ∃ r, r = rdC bs 4 := ⟨_, rfl⟩
    obtain ⟨l, e2, i2⟩ := r2
    by_cases he2 : e2 = 0
    · subst he2
      obtain ⟨r3, hr3⟩ : ∃ r, r = rdS bs i2 := ⟨_, rfl⟩
      obtain ⟨e3, i3⟩ := r3
      by_cases he3 : e3 = 0
      · subst he3
        by_cases hl : i3 = bs.length
        · have HA : Hid (rdA bs = (l, 0, 0)) := keepH (by unfold rdA; rw [← hr1, ← hr2]; simp only [ne_eq, not_true, if_false]; rw [← hr3]; simp [hl])
          have HQ2 := keepH hr2.symm
          have HQ3 := keepH hr3.symm
          have HL4 := keepH (decide_eq_true hl)
          clear hr1 hr2 hr3 hl
          go_enter Try.func18, Try.ntmps18
          go_wp2_with (first | (go_at_call 45; refine N1.out.mono ?_; clear N1; rintro e W1 ⟨rfl, hR1, hC1⟩; have HR1 := keepH hR1; have HC1 := keepH hC1; clear hR1 hC1) | (go_at_call 46; have N2 := rd_pairs HR1.out (fun b o e => Nat.lt_of_lt_of_le (HBP.out b o e) HC1.out.size); rw [HQ2.out] at N2; refine N2.mono ?_; clear N2; rintro e W2 ⟨⟨v2, rfl, r2, s2⟩, hR2, hC2⟩; obtain ⟨pq, cq, hv2, hat, hcc⟩ := row_prC r2 s2; subst hv2; have HAT := keepH hat; have HCC := keepH hcc; have HR2 := keepH hR2; have HC2 := keepH (HC1.out.trans hC2 (H := fun j => j = R) (fun _ _ x => x) (fun _ _ x => x)); have HNE := keepH (row_ne r2 s2 hat (Nat.lt_of_lt_of_le HL.out HC1.out.size)); clear r2 s2 hat hcc hR2 hC2) | (go_at_call 47; have N3 := rd_sum HR2.out hc (fun b o e => Nat.lt_of_lt_of_le (HBP.out b o e) HC2.out.size); rw [HQ3.out] at N3; refine N3.mono ?_; clear N3; rintro e W3 ⟨rfl, hR3, hC3⟩; have HR3 := keepH hR3; have HAT3 := keepH (HAT.out.chgF hC3 HNE.out); have HC3 := keepH (HC2.out.trans hC3 (H := fun j => j = R) (fun _ _ x => x) (fun _ _ x => x)); clear hR3 hC3) | (go_at_call 48; have N4 := at_end HR3.out; rw [HL4.out] at N4; refine N4.mono ?_; clear N4; rintro e W4 ⟨rfl, hC4⟩; have HC4 := keepH hC4; clear hC4))
          go_ret2
          rw [HA.out]
          exact ⟨⟨pq, cq, rfl, HAT3.out.chgF HC4.out (fun _ _ _ x => x), HCC.out⟩, ⟨_, (HR3.out.on HC4.out (fun x => x) (fun _ _ _ x => x)).c1, fun h => absurd rfl h⟩, HC3.out.trans HC4.out (fun _ _ x => x) (fun _ _ x => x.elim)⟩
        · have HA : Hid (rdA bs = ([], 272, i3)) := keepH (by unfold rdA; rw [← hr1, ← hr2]; simp only [ne_eq, not_true, if_false]; rw [← hr3]; simp [hl])
          have HQ2 := keepH hr2.symm
          have HQ3 := keepH hr3.symm
          have HL4 := keepH (decide_eq_false hl)
          clear hr1 hr2 hr3 hl
          go_enter Try.func18, Try.ntmps18
          go_wp2_with (first | (go_at_call 45; refine N1.out.mono ?_; clear N1; rintro e W1 ⟨rfl, hR1, hC1⟩; have HR1 := keepH hR1; have HC1 := keepH hC1; clear hR1 hC1) | (go_at_call 46; have N2 := rd_pairs HR1.out (fun b o e => Nat.lt_of_lt_of_le (HBP.out b o e) HC1.out.size); rw [HQ2.out] at N2; refine N2.mono ?_; clear N2; rintro e W2 ⟨⟨v2, rfl, r2, s2⟩, hR2, hC2⟩; obtain ⟨pq, cq, hv2, hat, hcc⟩ := row_prC r2 s2; subst hv2; have HAT := keepH hat; have HCC := keepH hcc; have HR2 := keepH hR2; have HC2 := keepH (HC1.out.trans hC2 (H := fun j => j = R) (fun _ _ x => x) (fun _ _ x => x)); have HNE := keepH (row_ne r2 s2 hat (Nat.lt_of_lt_of_le HL.out HC1.out.size)); clear r2 s2 hat hcc hR2 hC2) | (go_at_call 47; have N3 := rd_sum HR2.out hc (fun b o e => Nat.lt_of_lt_of_le (HBP.out b o e) HC2.out.size); rw [HQ3.out] at N3; refine N3.mono ?_; clear N3; rintro e W3 ⟨rfl, hR3, hC3⟩; have HR3 := keepH hR3; have HAT3 := keepH (HAT.out.chgF hC3 HNE.out); have HC3 := keepH (HC2.out.trans hC3 (H := fun j => j = R) (fun _ _ x => x) (fun _ _ x => x)); clear hR3 hC3) | (go_at_call 48; have N4 := at_end HR3.out; rw [HL4.out] at N4; refine N4.mono ?_; clear N4; rintro e W4 ⟨rfl, hC4⟩; have HC4 := keepH hC4; clear hC4))
          go_ret2
          rw [HA.out]
          exact ⟨⟨none, 0, rfl, .inl rfl, by simp⟩, ⟨_, (HR3.out.on HC4.out (fun x => x) (fun _ _ _ x => x)).c1, fun _ => rfl⟩, HC3.out.trans HC4.out (fun _ _ x => x) (fun _ _ x => x.elim)⟩
      · have t3 : ((e3 : Int) != 0) = true := by simp; omega
        have HA : Hid (rdA bs = ([], e3, i3)) := keepH (by unfold rdA; rw [← hr1, ← hr2]; simp only [ne_eq, not_true, if_false]; rw [← hr3]; simp [he3])
        have HQ2 := keepH hr2.symm
        have HQ3 := keepH hr3.symm
        clear hr1 hr2 hr3
        go_enter Try.func18, Try.ntmps18
        go_wp2_with (first | (go_at_call 45; refine N1.out.mono ?_; clear N1; rintro e W1 ⟨rfl, hR1, hC1⟩; have HR1 := keepH hR1; have HC1 := keepH hC1; clear hR1 hC1) | (go_at_call 46; have N2 := rd_pairs HR1.out (fun b o e => Nat.lt_of_lt_of_le (HBP.out b o e) HC1.out.size); rw [HQ2.out] at N2; refine N2.mono ?_; clear N2; rintro e W2 ⟨⟨v2, rfl, r2, s2⟩, hR2, hC2⟩; obtain ⟨pq, cq, hv2, hat, hcc⟩ := row_prC r2 s2; subst hv2; have HAT := keepH hat; have HCC := keepH hcc; have HR2 := keepH hR2; have HC2 := keepH (HC1.out.trans hC2 (H := fun j => j = R) (fun _ _ x => x) (fun _ _ x => x)); have HNE := keepH (row_ne r2 s2 hat (Nat.lt_of_lt_of_le HL.out HC1.out.size)); clear r2 s2 hat hcc hR2 hC2) | (go_at_call 47; have N3 := rd_sum HR2.out hc (fun b o e => Nat.lt_of_lt_of_le (HBP.out b o e) HC2.out.size); rw [HQ3.out] at N3; refine N3.mono ?_; clear N3; rintro e W3 ⟨rfl, hR3, hC3⟩; have HR3 := keepH hR3; have HAT3 := keepH (HAT.out.chgF hC3 HNE.out); have HC3 := keepH (HC2.out.trans hC3 (H := fun j => j = R) (fun _ _ x => x) (fun _ _ x => x)); clear hR3 hC3))
        go_ret2
        rw [HA.out]
        exact ⟨⟨none, 0, rfl, .inl rfl, by simp⟩, ⟨_, HR3.out.c1, fun _ => rfl⟩, HC3.out⟩
    · have t2 : ((e2 : Int) != 0) = true := by simp; omega
      have HA : Hid (rdA bs = ([], e2, i2)) := keepH (by unfold rdA; rw [← hr1, ← hr2]; simp [he2])
      have HQ2 := keepH hr2.symm
      clear hr1 hr2
      go_enter Try.func18, Try.ntmps18
      go_wp2_with (first | (go_at_call 45; refine N1.out.mono ?_; clear N1; rintro e W1 ⟨rfl, hR1, hC1⟩; have HR1 := keepH hR1; have HC1 := keepH hC1; clear hR1 hC1) | (go_at_call 46; have N2 := rd_pairs HR1.out (fun b o e => Nat.lt_of_lt_of_le (HBP.out b o e) HC1.out.size); rw [HQ2.out] at N2; refine N2.mono ?_; clear N2; rintro e W2 ⟨⟨v2, rfl, r2, s2⟩, hR2, hC2⟩; obtain ⟨pq, cq, hv2, hat, hcc⟩ := row_prC r2 s2; subst hv2; have HAT := keepH hat; have HCC := keepH hcc; have HR2 := keepH hR2; have HC2 := keepH (HC1.out.trans hC2 (H := fun j => j = R) (fun _ _ x => x) (fun _ _ x => x)); have HNE := keepH (row_ne r2 s2 hat (Nat.lt_of_lt_of_le HL.out HC1.out.size)); clear r2 s2 hat hcc hR2 hC2))
      go_ret2
      rw [HA.out]
      exact ⟨⟨none, 0, rfl, .inl rfl, by simp⟩, ⟨_, HR2.out.c1, fun _ => rfl⟩, HC2.out⟩
  · have t1 : ((e1 : Int) != 0) = true := by simp; omega
    have HA : Hid (rdA bs = ([], e1, i1)) := keepH (by unfold rdA; rw [← hr1]; simp [he1])
    clear hr1
    go_enter Try.func18, Try.ntmps18
    go_wp2_with (first | (go_at_call 45; refine N1.out.mono ?_; clear N1; rintro e W1 ⟨rfl, hR1, hC1⟩; have HR1 := keepH hR1; have HC1 := keepH hC1; clear hR1 hC1))
    go_ret2
    rw [HA.out]
    exact ⟨⟨none, 0, rfl, .inl rfl, by simp⟩, ⟨_, HR1.out.c1, fun _ => rfl⟩, HC1.out⟩
set_option maxRecDepth 100000 in
set_option maxHeartbeats 4000000 in
/-- DECODE OF ANY BYTES. -/
theorem decode_any {W : World} {p : Option Addr} {bs : List Nat} (H : BytesAt W p bs) {c : Nat} (hc : bs.length ≤ c ∧ c ≤ 9223372036854775807) (hn : bs.length ≤ 1000000000) :
    Calls Try.prog 7 #[.slice p bs.length c] W fun e W' => (∃ pq cq, e = .returned (.tuple #[.slice pq (rdA bs).1.length cq, .int .i64 ((rdA bs).2.1 : Int), .int .i64 ((rdA bs).2.2 : Int)]) ∧ PairsAt W' pq (rdA bs).1 ∧ (rdA bs).1.length ≤ cq ∧ cq ≤ 9223372036854775807) ∧ Below W.heap.size W W' := by
  have hp := H.ltB
  have hA : Chg (fun _ => False) W (W.alloc (.cells #[.slice p bs.length c, .int .i64 0] 70 (0, 0))) := (Chg.refl _ _).alloc _
  have HR : Rd (W.alloc (.cells #[.slice p bs.length c, .int .i64 0] 70 (0, 0))) W.heap.size p bs c 0 := ⟨Array.getElem?_push_size, H.chg hA (fun _ _ _ x => x), Nat.zero_le _, hn, fun b o e x => by have := hp b o e; omega⟩
  have N1 := keepH (rd_dump HR hc (fun b o e => by have := hp b o e; simp; omega))
  have HZ : Hid ((rdA bs).2.1 = 0 → (rdA bs).2.2 = 0) := keepH (fun h => by
    revert h
    unfold rdA
    split
    · intro h; contradiction
    · split
      · intro h; contradiction
      · split
        · intro h; contradiction
        · split <;> simp)
  have HE0 : Hid ((rdA bs).2.1 ≠ 0 → (rdA bs).1 = []) := keepH (fun h => by
    revert h
    unfold rdA
    split
    · intro _; rfl
    · split
      · intro _; rfl
      · split
        · intro _; rfl
        · split <;> simp)
  clear H hc hn hp HR hA
  obtain ⟨r, hr⟩ : ∃ r, r = rdA bs := ⟨_, rfl⟩
  rw [← hr] at N1 HZ HE0 ⊢
  obtain ⟨l, e1, j1⟩ := r
  simp only at N1 HZ HE0 ⊢
  clear hr
  by_cases he : e1 = 0
  · subst he
    obtain rfl := HZ.out rfl
    go_enter Try.func7, Try.ntmps7
    go_wp2_with (first | (go_at_call 18; refine N1.out.mono ?_; clear N1; rintro e W1 ⟨⟨pq, cq, rfl, hat, hcq⟩, hj, hC⟩; have HAT := keepH hat; have HC := keepH hC; clear hat hC hj))
    refine bodyPost_ret (v := .tuple #[.slice pq l.length cq, .int .i64 0, .int .i64 0]) (by simp [results, Try.results7, go_sem]) rfl ⟨⟨pq, cq, rfl, HAT.out, hcq⟩, ?_⟩
    exact dec_below HC.out
  · obtain rfl := HE0.out he
    have t1 : ((e1 : Int) != 0) = true := by simp; omega
    go_enter Try.func7, Try.ntmps7
    go_wp2_with (first | (go_at_call 18; refine N1.out.mono ?_; clear N1; rintro e W1 ⟨⟨pq, cq, rfl, hat, hcq⟩, ⟨j, hj, hj2⟩, hC⟩; obtain rfl := hj2 he; have HC := keepH hC; clear hat hC hj2))
    go_quiet (fail)
    go_wp2_with fail
    refine bodyPost_ret (v := .tuple #[.slice none 0 0, .int .i64 (e1 : Int), .int .i64 (j1 : Int)]) (by simp [results, Try.results7, go_sem]) rfl ⟨⟨none, 0, rfl, .inl rfl, by simp⟩, ?_⟩
    exact dec_below (chg_drewL HC.out _)
end Go.Proofs.Ytbmfjcdafjknaab
