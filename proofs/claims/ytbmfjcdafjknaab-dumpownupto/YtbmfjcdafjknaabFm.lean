/- Decode once more: its pairs are a row of one's own. -/
import Derived.Test.YtbmfjcdafjknaabFi
import Derived.Laws.OwnMore
import Derived.Test.YtbmfjcdafjknaabBkAB
import Derived.Test.YtbmfjcdafjknaabEt
import Derived.Test.YtbmfjcdafjknaabPrO
import Derived.Test.YtbmfjcdafjknaabEk
namespace Go.Proofs.Ytbmfjcdafjknaab
open Go.RowKit Go.Joins
set_option linter.unusedVariables false

set_option maxRecDepth 100000 in
set_option maxHeartbeats 4000000 in
theorem rd_dumpR {W : World} {R : Nat} {p : Option Addr} {bs : List Nat} {c : Nat} (H : Rd W R p bs c 0) (hc : bs.length ≤ c ∧ c ≤ 9223372036854775807) (hp : ∀ b o, pB bs p = some ⟨b, o, none⟩ → b < W.heap.size) :
    Calls Try.prog 18 #[.pointer (some ⟨R, 0, none⟩)] W fun e W' => (∃ v, e = .returned (.tuple #[v, .int .i64 ((rdA bs).2.1 : Int)]) ∧ W'.ownsRow W.heap.size 59 2 v (rdA bs).1.length (prRow (rdA bs).1)) ∧ (∃ j, W'.cell? ⟨R, 1, none⟩ = some (.int .i64 (j : Int)) ∧ ((rdA bs).2.1 ≠ 0 → j = (rdA bs).2.2)) ∧ Chg (fun j => j = R) W W' := by
  have N1 := keepH (rd_mark H)
  have HBP := keepH hp
  have HL := keepH H.lt
  clear H hp
  obtain ⟨r1, hr1⟩ : ∃ r, r = rdM bs 4 := ⟨_, rfl⟩
  obtain ⟨e1, i1⟩ := r1
  rw [← hr1] at N1
  simp only at N1
  by_cases he1 : e1 = 0
  · subst he1
    have hi1 : i1 = 4 := by have := rdM_one (bs := bs) (by rw [← hr1]); rw [← hr1] at this; exact this
    subst hi1
    obtain ⟨r2, hr2⟩ : ∃ r, r = rdC bs 4 := ⟨_, rfl⟩
    obtain ⟨l, e2, i2⟩ := r2
    by_cases he2 : e2 = 0
    · subst he2
      obtain ⟨r3, hr3⟩ : ∃ r, r = rdS bs i2 := ⟨_, rfl⟩
      obtain ⟨e3, i3⟩ := r3
      by_cases he3 : e3 = 0
      · subst he3
        by_cases hl : i3 = bs.length
        · have HA : Hid (rdA bs = (l, 0, 0)) := keepH (by unfold rdA; rw [← hr1, ← hr2]; simp only [ne_eq, not_true, if_false]; rw [← hr3]; simp [hl])
          have HQ2 := keepH hr2.symm
          have HQ3 := keepH hr3.symm
          have HL4 := keepH (decide_eq_true hl)
          clear hr1 hr2 hr3 hl
          go_enter Try.func18, Try.ntmps18
          go_wp2_with (first | (go_at_call 45; refine N1.out.mono ?_; clear N1; rintro e W1 ⟨rfl, hR1, hC1⟩; have HR1 := keepH hR1; have HC1 := keepH hC1; clear hR1 hC1) | (go_at_call 46; have N2 := rd_pairs HR1.out (fun b o e => Nat.lt_of_lt_of_le (HBP.out b o e) HC1.out.size); rw [HQ2.out] at N2; refine N2.mono ?_; clear N2; rintro e W2 ⟨⟨v2, rfl, r2, s2⟩, hR2, hC2⟩; obtain ⟨pq, cq, hv2, hat, hcc⟩ := row_prC r2 s2; subst hv2; have HAT := keepH hat; have HRW := keepH (row_base r2 HC1.out.size); have HRL := keepH r2.lt; have HCC := keepH hcc; have HR2 := keepH hR2; have HC2 := keepH (HC1.out.trans hC2 (H := fun j => j = R) (fun _ _ x => x) (fun _ _ x => x)); have HNE := keepH (row_ne r2 s2 hat (Nat.lt_of_lt_of_le HL.out HC1.out.size)); clear r2 s2 hat hcc hR2 hC2) | (go_at_call 47; have N3 := rd_sum HR2.out hc (fun b o e => Nat.lt_of_lt_of_le (HBP.out b o e) HC2.out.size); rw [HQ3.out] at N3; refine N3.mono ?_; clear N3; rintro e W3 ⟨rfl, hR3, hC3⟩; have HR3 := keepH hR3; have HRW3 := keepH (row_kept' HRW.out (fun k e => hC3.block k (HRW.out.lt k e).2 (fun x => by have := (HRL.out k e).1; have := HC1.out.size; have := HL.out; omega))); have HC3 := keepH (HC2.out.trans hC3 (H := fun j => j = R) (fun _ _ x => x) (fun _ _ x => x)); clear hR3 hC3) | (go_at_call 48; have N4 := at_end HR3.out; rw [HL4.out] at N4; refine N4.mono ?_; clear N4; rintro e W4 ⟨rfl, hC4⟩; have HC4 := keepH hC4; clear hC4))
          go_ret2
          rw [HA.out]
          exact ⟨⟨_, rfl, row_kept' HRW3.out (fun k e => HC4.out.block k (HRW3.out.lt k e).2 (fun x => x))⟩, ⟨_, (HR3.out.on HC4.out (fun x => x) (fun _ _ _ x => x)).c1, fun h => absurd rfl h⟩, HC3.out.trans HC4.out (fun _ _ x => x) (fun _ _ x => x.elim)⟩
        · have HA : Hid (rdA bs = ([], 272, i3)) := keepH (by unfold rdA; rw [← hr1, ← hr2]; simp only [ne_eq, not_true, if_false]; rw [← hr3]; simp [hl])
          have HQ2 := keepH hr2.symm
          have HQ3 := keepH hr3.symm
          have HL4 := keepH (decide_eq_false hl)
          clear hr1 hr2 hr3 hl
          go_enter Try.func18, Try.ntmps18
          go_wp2_with (first | (go_at_call 45; refine N1.out.mono ?_; clear N1; rintro e W1 ⟨rfl, hR1, hC1⟩; have HR1 := keepH hR1; have HC1 := keepH hC1; clear hR1 hC1) | (go_at_call 46; have N2 := rd_pairs HR1.out (fun b o e => Nat.lt_of_lt_of_le (HBP.out b o e) HC1.out.size); rw [HQ2.out] at N2; refine N2.mono ?_; clear N2; rintro e W2 ⟨⟨v2, rfl, r2, s2⟩, hR2, hC2⟩; obtain ⟨pq, cq, hv2, hat, hcc⟩ := row_prC r2 s2; subst hv2; have HAT := keepH hat; have HRW := keepH (row_base r2 HC1.out.size); have HRL := keepH r2.lt; have HCC := keepH hcc; have HR2 := keepH hR2; have HC2 := keepH (HC1.out.trans hC2 (H := fun j => j = R) (fun _ _ x => x) (fun _ _ x => x)); have HNE := keepH (row_ne r2 s2 hat (Nat.lt_of_lt_of_le HL.out HC1.out.size)); clear r2 s2 hat hcc hR2 hC2) | (go_at_call 47; have N3 := rd_sum HR2.out hc (fun b o e => Nat.lt_of_lt_of_le (HBP.out b o e) HC2.out.size); rw [HQ3.out] at N3; refine N3.mono ?_; clear N3; rintro e W3 ⟨rfl, hR3, hC3⟩; have HR3 := keepH hR3; have HRW3 := keepH (row_kept' HRW.out (fun k e => hC3.block k (HRW.out.lt k e).2 (fun x => by have := (HRL.out k e).1; have := HC1.out.size; have := HL.out; omega))); have HC3 := keepH (HC2.out.trans hC3 (H := fun j => j = R) (fun _ _ x => x) (fun _ _ x => x)); clear hR3 hC3) | (go_at_call 48; have N4 := at_end HR3.out; rw [HL4.out] at N4; refine N4.mono ?_; clear N4; rintro e W4 ⟨rfl, hC4⟩; have HC4 := keepH hC4; clear hC4))
          go_ret2
          rw [HA.out]
          exact ⟨⟨_, rfl, World.ownsRow_nil _ _ _ _⟩, ⟨_, (HR3.out.on HC4.out (fun x => x) (fun _ _ _ x => x)).c1, fun _ => rfl⟩, HC3.out.trans HC4.out (fun _ _ x => x) (fun _ _ x => x.elim)⟩
      · have t3 : ((e3 : Int) != 0) = true := by simp; omega
        have HA : Hid (rdA bs = ([], e3, i3)) := keepH (by unfold rdA; rw [← hr1, ← hr2]; simp only [ne_eq, not_true, if_false]; rw [← hr3]; simp [he3])
        have HQ2 := keepH hr2.symm
        have HQ3 := keepH hr3.symm
        clear hr1 hr2 hr3
        go_enter Try.func18, Try.ntmps18
        go_wp2_with (first | (go_at_call 45; refine N1.out.mono ?_; clear N1; rintro e W1 ⟨rfl, hR1, hC1⟩; have HR1 := keepH hR1; have HC1 := keepH hC1; clear hR1 hC1) | (go_at_call 46; have N2 := rd_pairs HR1.out (fun b o e => Nat.lt_of_lt_of_le (HBP.out b o e) HC1.out.size); rw [HQ2.out] at N2; refine N2.mono ?_; clear N2; rintro e W2 ⟨⟨v2, rfl, r2, s2⟩, hR2, hC2⟩; obtain ⟨pq, cq, hv2, hat, hcc⟩ := row_prC r2 s2; subst hv2; have HAT := keepH hat; have HRW := keepH (row_base r2 HC1.out.size); have HRL := keepH r2.lt; have HCC := keepH hcc; have HR2 := keepH hR2; have HC2 := keepH (HC1.out.trans hC2 (H := fun j => j = R) (fun _ _ x => x) (fun _ _ x => x)); have HNE := keepH (row_ne r2 s2 hat (Nat.lt_of_lt_of_le HL.out HC1.out.size)); clear r2 s2 hat hcc hR2 hC2) | (go_at_call 47; have N3 := rd_sum HR2.out hc (fun b o e => Nat.lt_of_lt_of_le (HBP.out b o e) HC2.out.size); rw [HQ3.out] at N3; refine N3.mono ?_; clear N3; rintro e W3 ⟨rfl, hR3, hC3⟩; have HR3 := keepH hR3; have HRW3 := keepH (row_kept' HRW.out (fun k e => hC3.block k (HRW.out.lt k e).2 (fun x => by have := (HRL.out k e).1; have := HC1.out.size; have := HL.out; omega))); have HC3 := keepH (HC2.out.trans hC3 (H := fun j => j = R) (fun _ _ x => x) (fun _ _ x => x)); clear hR3 hC3))
        go_ret2
        rw [HA.out]
        exact ⟨⟨_, rfl, World.ownsRow_nil _ _ _ _⟩, ⟨_, HR3.out.c1, fun _ => rfl⟩, HC3.out⟩
    · have t2 : ((e2 : Int) != 0) = true := by simp; omega
      have HA : Hid (rdA bs = ([], e2, i2)) := keepH (by unfold rdA; rw [← hr1, ← hr2]; simp [he2])
      have HQ2 := keepH hr2.symm
      clear hr1 hr2
      go_enter Try.func18, Try.ntmps18
      go_wp2_with (first | (go_at_call 45; refine N1.out.mono ?_; clear N1; rintro e W1 ⟨rfl, hR1, hC1⟩; have HR1 := keepH hR1; have HC1 := keepH hC1; clear hR1 hC1) | (go_at_call 46; have N2 := rd_pairs HR1.out (fun b o e => Nat.lt_of_lt_of_le (HBP.out b o e) HC1.out.size); rw [HQ2.out] at N2; refine N2.mono ?_; clear N2; rintro e W2 ⟨⟨v2, rfl, r2, s2⟩, hR2, hC2⟩; obtain ⟨pq, cq, hv2, hat, hcc⟩ := row_prC r2 s2; subst hv2; have HAT := keepH hat; have HRW := keepH (row_base r2 HC1.out.size); have HRL := keepH r2.lt; have HCC := keepH hcc; have HR2 := keepH hR2; have HC2 := keepH (HC1.out.trans hC2 (H := fun j => j = R) (fun _ _ x => x) (fun _ _ x => x)); have HNE := keepH (row_ne r2 s2 hat (Nat.lt_of_lt_of_le HL.out HC1.out.size)); clear r2 s2 hat hcc hR2 hC2))
      go_ret2
      rw [HA.out]
      exact ⟨⟨_, rfl, World.ownsRow_nil _ _ _ _⟩, ⟨_, HR2.out.c1, fun _ => rfl⟩, HC2.out⟩
  · have t1 : ((e1 : Int) != 0) = true := by simp; omega
    have HA : Hid (rdA bs = ([], e1, i1)) := keepH (by unfold rdA; rw [← hr1]; simp [he1])
    clear hr1
    go_enter Try.func18, Try.ntmps18
    go_wp2_with (first | (go_at_call 45; refine N1.out.mono ?_; clear N1; rintro e W1 ⟨rfl, hR1, hC1⟩; have HR1 := keepH hR1; have HC1 := keepH hC1; clear hR1 hC1))
    go_ret2
    rw [HA.out]
    exact ⟨⟨_, rfl, World.ownsRow_nil _ _ _ _⟩, ⟨_, HR1.out.c1, fun _ => rfl⟩, HC1.out⟩
set_option maxRecDepth 100000 in
set_option maxHeartbeats 4000000 in
/-- Decode of any bytes: the pairs are a row of one's own. -/
theorem decodeR {W : World} {p : Option Addr} {bs : List Nat} (H : BytesAt W p bs) {c : Nat} (hc : bs.length ≤ c ∧ c ≤ 9223372036854775807) (hn : bs.length ≤ 1000000000) :
    Calls Try.prog 7 #[.slice p bs.length c] W fun e W' => (∃ v, e = .returned (.tuple #[v, .int .i64 ((rdA bs).2.1 : Int), .int .i64 ((rdA bs).2.2 : Int)]) ∧ W'.ownsRow W.heap.size 59 2 v (rdA bs).1.length (prRow (rdA bs).1)) ∧ Below W.heap.size W W' := by
  have hp := H.ltB
  have hA : Chg (fun _ => False) W (W.alloc (.cells #[.slice p bs.length c, .int .i64 0] 70 (0, 0))) := (Chg.refl _ _).alloc _
  have HR : Rd (W.alloc (.cells #[.slice p bs.length c, .int .i64 0] 70 (0, 0))) W.heap.size p bs c 0 := ⟨Array.getElem?_push_size, H.chg hA (fun _ _ _ x => x), Nat.zero_le _, hn, fun b o e x => by have := hp b o e; omega⟩
  have N1 := keepH (rd_dumpR HR hc (fun b o e => by have := hp b o e; simp; omega))
  have HZ : Hid ((rdA bs).2.1 = 0 → (rdA bs).2.2 = 0) := keepH (fun h => by
    revert h
    unfold rdA
    split
    · intro h; contradiction
    · split
      · intro h; contradiction
      · split
        · intro h; contradiction
        · split <;> simp)
  have HE0 : Hid ((rdA bs).2.1 ≠ 0 → (rdA bs).1 = []) := keepH (fun h => by
    revert h
    unfold rdA
    split
    · intro _; rfl
    · split
      · intro _; rfl
      · split
        · intro _; rfl
        · split <;> simp)
  clear H hc hn hp HR hA
  obtain ⟨r, hr⟩ : ∃ r, r = rdA bs := ⟨_, rfl⟩
  rw [← hr] at N1 HZ HE0 ⊢
  obtain ⟨l, e1, j1⟩ := r
  simp only at N1 HZ HE0 ⊢
  clear hr
  by_cases he : e1 = 0
  · subst he
    obtain rfl := HZ.out rfl
    go_enter Try.func7, Try.ntmps7
    go_wp2_with (first | (go_at_call 18; refine N1.out.mono ?_; clear N1; rintro e W1 ⟨⟨v1, rfl, hrow⟩, hj, hC⟩; obtain ⟨pq, cq, hv1⟩ := slice_row hrow; subst hv1; have HROW := keepH (row_base hrow (show W.heap.size ≤ _ by simp)); have HC := keepH hC; clear hrow hC hj))
    refine bodyPost_ret (v := .tuple #[.slice pq l.length cq, .int .i64 0, .int .i64 0]) (by simp [results, Try.results7, go_sem]) rfl ⟨⟨_, rfl, HROW.out⟩, ?_⟩
    exact dec_below HC.out
  · obtain rfl := HE0.out he
    have t1 : ((e1 : Int) != 0) = true := by simp; omega
    go_enter Try.func7, Try.ntmps7
    go_wp2_with (first | (go_at_call 18; refine N1.out.mono ?_; clear N1; rintro e W1 ⟨⟨v1, rfl, hrow⟩, ⟨j, hj, hj2⟩, hC⟩; obtain ⟨pq, cq, hv1⟩ := slice_row hrow; subst hv1; obtain rfl := hj2 he; have HC := keepH hC; clear hrow hC hj2))
    go_quiet (fail)
    go_wp2_with fail
    refine bodyPost_ret (v := .tuple #[.slice none 0 0, .int .i64 (e1 : Int), .int .i64 (j1 : Int)]) (by simp [results, Try.results7, go_sem]) rfl ⟨⟨_, rfl, World.ownsRow_nil _ _ _ _⟩, ?_⟩
    exact dec_below (chg_drewL HC.out _)
end Go.Proofs.Ytbmfjcdafjknaab
/- DumpOwn, walked. -/
namespace Go.Proofs.Ytbmfjcdafjknaab
open Go.RowKit Go.Joins
set_option linter.unusedVariables false

theorem patch_nilM (a : List (Nat × Nat)) : patchM (mrg (fun y : Ch => y.k) a []) = some a := by
  induction a with
  | nil => rw [mrg_nil]; rfl
  | cons x a ih => rw [mrg_left]; simp [patchM, pStep, ih]
/-- Patch by no changes: pairs of one's own, or none. -/
theorem patch_nil {W : World} {pa : Option Addr} {la : List (Nat × Nat)} (HA : PairsAt W pa la) {ca : Nat} (hca : la.length ≤ ca ∧ ca ≤ 9223372036854775807) (hla : la.length ≤ 10000000) :
    Calls Try.prog 11 #[.slice pa la.length ca, .slice none 0 0] W fun e W' => (∃ (v : Value) (n : Nat) (xs : List Value) (e1 : Int), e = .returned (.tuple #[v, .int .i64 e1]) ∧ n ≤ 10000000 ∧ W'.ownsRow W.heap.size 59 2 v n xs) ∧ Below W.heap.size W W' := by
  by_cases hr : riseB la = true ∧ rightC ([] : List Ch) = true
  · refine (patch_yes (lb := []) HA (.inl rfl) hca (cb := 0) (by simp) hla (by simp) hr.1 hr.2).mono ?_
    rintro e W1 ⟨h, hb⟩
    rw [patch_nilM] at h
    rcases h with ⟨v, out, ho, rfl, r⟩ | ⟨ho, _⟩
    · injection ho with ho
      subst ho
      exact ⟨⟨v, _, _, 0, rfl, hla, r⟩, hb⟩
    · cases ho
  · refine (patch_no (lb := []) HA (.inl rfl) ca 0 hla (by simp) hr).mono ?_
    rintro e W1 ⟨rfl, hb⟩
    exact ⟨⟨_, 0, [], 52, rfl, by omega, World.ownsRow_nil _ _ _ _⟩, hb⟩
/-- Encode: bytes of one's own, or none. -/
theorem enc_own {W : World} {p : Option Addr} {l : List (Nat × Nat)} (H : PairsAt W p l) (c : Nat) (hl : l.length ≤ 10000000) :
    Calls Try.prog 5 #[.slice p l.length c] W fun e W' => (∃ (px : Option Addr) (k cx : Nat) (xs : List Value) (e1 : Int), e = .returned (.tuple #[.slice px k cx, .int .i64 e1]) ∧ k ≤ 1000000000 ∧ W'.ownsRow W.heap.size 5 1 (.slice px k cx) k xs) ∧ Below W.heap.size W W' := by
  cases hr : riseB l with
  | true =>
    refine (enc_yes H c hl hr).mono ?_
    rintro e W1 ⟨⟨v, rfl, r⟩, hb⟩
    obtain ⟨px, cx, rfl, _, _⟩ := BRow.slice r
    exact ⟨⟨px, _, cx, _, 0, rfl, encL_leH H.small hl, r.1⟩, hb⟩
  | false =>
    refine (enc_no H c hl hr).mono ?_
    rintro e W1 ⟨rfl, hb⟩
    exact ⟨⟨none, 0, 0, [], 52, rfl, by omega, World.ownsRow_nil _ _ _ _⟩, hb⟩
/-- What stays while the pairs that were told are written over. -/
structure WI (X wr : World) (v : Value) (n : Nat) : Prop where
  row : ∃ xs, wr.ownsRow X.heap.size 59 2 v n xs
  bel : Below X.heap.size X wr
theorem WI.cell {X wr : World} {g n c k : Nat} (h : WI X wr (.slice (some ⟨g, 0, none⟩) n c) n) (hk : k < n) : (∃ u, wr.cell? ⟨g, k * 2 + 1, none⟩ = some u) ∧ wr.frozen? ⟨g, k * 2 + 1, none⟩ = false := by
  obtain ⟨xs, hx⟩ := h.row
  have e := World.ownsRow.cellAt hx (k * 2 + 1) (by omega)
  have l := hx.1
  exact ⟨⟨xs[k * 2 + 1]'(by omega), by rw [e]; simp⟩, World.ownsRow.frozenAt hx _⟩
theorem WI.put {X wr : World} {g n c k : Nat} (h : WI X wr (.slice (some ⟨g, 0, none⟩) n c) n) (u : Value) : WI X (wr.setCell ⟨g, k * 2 + 1, none⟩ u) (.slice (some ⟨g, 0, none⟩) n c) n := by
  obtain ⟨xs, hx⟩ := h.row
  have hg : X.heap.size ≤ g := (hx.lt g rfl).1
  exact ⟨⟨_, (World.ownsRow.stored hx (k * 2 + 1) u).1⟩, chg_belowE (Chg.setCell (F := fun j => X.heap.size ≤ j) (p := ⟨g, k * 2 + 1, none⟩) (chg_below h.bel) (fun _ => hg) u)⟩
theorem row_opened {W : World} {B : Nat} {v : Value} {n : Nat} {xs : List Value} (h : W.ownsRow B 59 2 v n xs) : (v = .slice none 0 0 ∧ n = 0) ∨ ∃ g c, v = .slice (some ⟨g, 0, none⟩) n c := by
  rcases h.2 with ⟨z, z0⟩ | ⟨g, cap, cur, z, _⟩
  · exact .inl ⟨z, z0⟩
  · exact .inr ⟨g, cap, z⟩
/-- What stays in the law: the book, what was lent. -/
structure OI (W wr : World) (Bk i g cap : Nat) (la : List (Nat × Nat)) : Prop where
  bk : ∃ v len sv, BKept W.heap.size wr Bk i v len sv ∧ ∀ j, j < i → len j ≤ 1000000000
  own : ∃ B, LentAt wr B g cap la
  bel : Below W.heap.size W wr
theorem OI.on {W wr X : World} {Bk i g cap : Nat} {la : List (Nat × Nat)} (h : OI W wr Bk i g cap la) (hb : Below wr.heap.size wr X) : OI W X Bk i g cap la := by
  obtain ⟨⟨v, len, sv, h1, h2⟩, ⟨B, h3⟩, h4⟩ := h
  exact ⟨⟨v, len, sv, h1.quiet (below_chgE hb), h2⟩, ⟨B, h3.below hb⟩, below_trans h4 hb⟩
theorem lent_ne {W : World} {B g cap : Nat} {la : List (Nat × Nat)} (h : LentAt W B g cap la) : W.ownsRow 0 59 2 (.slice (some ⟨g, 0, none⟩) (la.length + 1) cap) (la ++ [(77, 77)]).length (prRow (la ++ [(77, 77)])) := row_base h.1 (Nat.zero_le _)
theorem lent_chg {W X : World} {B g cap : Nat} {la : List (Nat × Nat)} {F : Nat → Prop} (h : LentAt W B g cap la) (c : Chg F W X) (hF : ¬ F g) : LentAt X B g cap la :=
  ⟨row_kept' h.1 (fun k e => by
    have e2 : g = k := by simpa [Value.ownBlock] using e
    subst e2
    exact c.block g (h.1.lt g rfl).2 hF), h.2⟩
theorem OI.take {W X X' : World} {Bk i g cap k c B : Nat} {la : List (Nat × Nat)} {p : Option Addr} {v : Nat → Value} {len : Nat → Nat} {sv sv' : Value} (hB : BKept W.heap.size X Bk i v len sv) (hl : ∀ j, j < i → len j ≤ 1000000000) (hL : LentAt X B g cap la) (hb : Below W.heap.size W X) (hk : k ≤ 1000000000) (hB' : BKept W.heap.size X' Bk (i + 1) (fun j => if j = i then .slice p k c else v j) (fun j => if j = i then k else len j) sv') (hc : Chg (fun b => b = Bk ∨ sv.ownBlock = some b) X X') : OI W X' Bk (i + 1) g cap la := by
  refine ⟨⟨_, _, _, hB', fun j hj => ?_⟩, ⟨B, lent_chg hL hc (fun x => ?_)⟩, chg_belowE ((chg_below hb).trans hc (fun _ _ x => x) (fun b _ x => ?_))⟩
  · by_cases e : j = i
    · simp only [if_pos e]; exact hk
    · simp only [if_neg e]; exact hl j (by omega)
  · rcases x with x | x
    · exact block_apart (lent_ne hL) hB.blk (by decide) (by rw [x]; rfl)
    · exact rows_apart (lent_ne hL) hB.outer (by decide) g rfl x
  · rcases x with x | x
    · rw [x]; exact hB.bn
    · exact hB.sn b x
theorem OI.alone {W X X' : World} {Bk i g cap B : Nat} {la : List (Nat × Nat)} {v : Nat → Value} {len : Nat → Nat} {sv : Value} (hB : BKept W.heap.size X Bk i v len sv) (hL : LentAt X B g cap la) (hb : Below W.heap.size W X) (hc : Chg (fun b => b = Bk ∨ Fv i v b) X X') : LentAt X' B g cap la ∧ Below W.heap.size W X' := by
  refine ⟨lent_chg hL hc (fun x => ?_), chg_belowE ((chg_below hb).trans hc (fun _ _ x => x) (fun b _ x => ?_))⟩
  · rcases x with x | ⟨j, hj, x⟩
    · exact block_apart (lent_ne hL) hB.blk (by decide) (by rw [x]; rfl)
    · obtain ⟨xs, hx⟩ := hB.rows j hj
      exact rows_apart (lent_ne hL) hx (by decide) g rfl x
  · rcases x with x | ⟨j, hj, x⟩
    · rw [x]; exact hB.bn
    · exact hB.rn j b hj x
set_option maxRecDepth 100000 in
set_option maxHeartbeats 8000000 in
theorem own_walk {W : World} {pa pc : Option Addr} {la : List (Nat × Nat)} {bs : List Nat} (HA : PairsAt W pa la) (HC : BytesAt W pc bs) {ca cc : Nat} (hcc : bs.length ≤ cc ∧ cc ≤ 9223372036854775807) (hla : la.length ≤ 1048576) (hbs : bs.length ≤ 1048576) :
    Calls Try.prog 4 #[.slice pa la.length ca, .slice pc bs.length cc] W fun e W' => e = .returned (.bool true) ∧ Below W.heap.size W W' := by
  have HAA : Hid (∀ X, Below W.heap.size W X → PairsAt X pa la) := keepH (fun X h => HA.chgF (below_chgE h) (fun _ _ _ x => x))
  have HCC : Hid (∀ X, Below W.heap.size W X → BytesAt X pc bs) := keepH (fun X h => HC.chg (below_chgE h) (fun _ _ _ x => x))
  have HS0 := keepH (BKept.start W W.heap.size (Nat.le_refl _))
  have B0 : Hid (Below W.heap.size W (W.alloc (.cells (bookCells (.slice none 0 0)) 54))) := keepH ((Below.refl _ W).alloc (Nat.le_refl _) _)
  have HD := keepH (fun X h => decodeR (HCC.out X h) hcc (by omega))
  have HLL : Hid ((rdA bs).1.length ≤ bs.length) := keepH (by
    by_cases h : (rdA bs).2.1 = 0
    · have := encL_geH (rdA bs).1
      rw [(enc_dec HC.small h).2.2] at this
      omega
    · rw [rdA_noneH bs h]; simp)
  have H1 := keepH (lent_any (HAA.out _ B0.out) ca (by omega))
  obtain ⟨r, hr⟩ : ∃ r, r = rdA bs := ⟨_, rfl⟩
  rw [← hr] at HD HLL
  obtain ⟨l8, e8, j8⟩ := r
  simp only at HD HLL
  obtain ⟨n8, hn8⟩ : ∃ n, n = l8.length := ⟨_, rfl⟩
  rw [← hn8] at HD HLL
  clear HA HC hr hn8
  go_enter Try.func4, Try.ntmps4
  go_wp2_with (first
    | (go_at_call 9; refine H1.out.mono ?_; clear H1; rintro e W1 ⟨⟨g, cap, rfl, hL⟩, hB⟩; have HO := keepH (OI.mk (W := W) (wr := W1) (Bk := W.heap.size) (i := 0) (g := g) (cap := cap) (la := la) ⟨_, _, _, HS0.out.quiet (below_chgE hB), fun j hj => absurd hj (Nat.not_lt_zero j)⟩ ⟨_, hL⟩ (below_trans B0.out hB)); have HCAP := keepH hL.mark; clear hL hB))
  have hcap : la.length ≤ cap ∧ cap ≤ 9223372036854775807 := by
    obtain ⟨_, _, h1, h2⟩ := HCAP.out
    unfold maxLen at h2
    omega
  clear HCAP HS0
  go_loopw [7] (fun s wr => ∃ i : Nat, i ≤ 2 ∧ s = .int .i64 (i : Int) ∧ Hid (OI W wr W.heap.size i g cap la)) (fun s _ => 2 - (intOf s).toNat)
  case atStart => exact ⟨0, by omega, rfl, HO⟩
  case round =>
    clear HO
    obtain ⟨wo, hwo⟩ : ∃ wo, wo = wr := ⟨_, rfl⟩
    rw [← hwo] at hrel ⊢
    clear hwo
    obtain ⟨i, hi2, rfl, HX⟩ := hrel
    obtain ⟨v, len, sv, hbk, hlen⟩ := HX.out.bk
    obtain ⟨B, hL⟩ := HX.out.own
    have HBK := keepH hbk
    have HLN := keepH hlen
    have HL := keepH hL
    clear hbk hlen hL
    by_cases hlt : i < 2
    · have t1 : (i : Int) < 2 := by omega
      go_wp2_with (first
        | (go_at_call 5; refine (enc_own HL.out.pairs _ (by omega)).mono ?_; rintro e W3 ⟨⟨px, k, cx, xs, e1, rfl, hk, hr⟩, hB⟩; have HR3 := keepH hr; have hk3 := hk; have B3 := keepH hB; clear hr hB hk)
        | (go_at_call 10; refine (take_g W.heap.size W.heap.size i k cx px v len sv xs _ (by omega) (HBK.out.quiet (below_chgE B3.out)) (row_base HR3.out (Nat.zero_le _)) (fun j b hj hb e => by have z1 := (HR3.out.lt b e).1; obtain ⟨ys, hy⟩ := HBK.out.rows j hj; have z2 := row_lt hy b hb; omega) (fun b e => Nat.le_trans HX.out.bel.size (HR3.out.lt b e).1)).mono ?_; rintro e W4 ⟨rfl, ⟨sv4, hb4⟩, hc4⟩; have HO4 := keepH (OI.take (HBK.out.quiet (below_chgE B3.out)) HLN.out (HL.out.below B3.out) (below_trans HX.out.bel B3.out) hk3 hb4 hc4); clear hb4 hc4)
        | (go_at_call 7; refine (HD.out _ HO4.out.bel).mono ?_; rintro e W5 ⟨⟨v5, rfl, hr5⟩, hB⟩; obtain ⟨p5, c5, hv5⟩ := slice_row hr5; subst hv5; have HW5 := keepH (WI.mk ⟨_, hr5⟩ hB); clear hr5 hB))
      go_loopw [13] (fun s wr => ∃ q : Nat, q ≤ n8 ∧ s = .int .i64 (q : Int) ∧ Hid (WI W4 wr (.slice p5 n8 c5) n8)) (fun s _ => n8 - (intOf s).toNat)
      case atStart => exact ⟨0, by omega, rfl, HW5⟩
      case round =>
        clear HW5
        obtain ⟨w5, hw5⟩ : ∃ w5, w5 = wr := ⟨_, rfl⟩
        rw [← hw5] at hrel ⊢
        clear hw5
        obtain ⟨q, hq, rfl, HY⟩ := hrel
        have hn8 := HLL.out
        by_cases hqn : q < n8
        · have t2 : (q : Int) < (n8 : Int) := by omega
          obtain ⟨g5, c5', hg5⟩ : ∃ g5 c5', Value.slice p5 n8 c5 = .slice (some ⟨g5, 0, none⟩) n8 c5' := by
            obtain ⟨xs, hx⟩ := HY.out.row
            rcases row_opened hx with ⟨_, z⟩ | ⟨g5, c5', z⟩
            · omega
            · exact ⟨g5, c5', z⟩
          injection hg5 with z1 z2 z3
          subst z1 z3
          obtain ⟨⟨u, d0⟩, f0⟩ := HY.out.cell hqn
          have HZ := keepH (HY.out.put (k := q) (.int .u64 5))
          go_wp2_with fail
          go_roundw
          case rel => exact ⟨q + 1, by omega, by first | rfl | go_num, HZ⟩
          case measure => simp [intOf]; omega
        · obtain rfl : q = n8 := by omega
          have t2 : ¬ (q : Int) < (q : Int) := by omega
          have HO6 := keepH (HO4.out.on HY.out.bel)
          obtain ⟨B6, hL6⟩ := HO6.out.own
          have HL6 := keepH hL6
          clear hL6
          go_wp2_with (first
            | (go_at_call 11; refine (patch_nil HL6.out.pairs hcap (by omega)).mono ?_; rintro e W7 ⟨⟨v7, n7, xs7, e7, rfl, hn7, hr7⟩, hB⟩; obtain ⟨p7, c7, hv7⟩ := slice_row hr7; subst hv7; have HW7 := keepH (WI.mk ⟨_, hr7⟩ hB); clear hr7 hB))
          go_loopw [16] (fun s wr => ∃ q : Nat, q ≤ n7 ∧ s = .int .i64 (q : Int) ∧ Hid (WI w5 wr (.slice p7 n7 c7) n7)) (fun s _ => n7 - (intOf s).toNat)
          case atStart => exact ⟨0, by omega, rfl, HW7⟩
          case round =>
            clear HW7
            obtain ⟨q2, hq2, rfl, HV⟩ := hrel
            by_cases hqn2 : q2 < n7
            · have t3 : (q2 : Int) < (n7 : Int) := by omega
              obtain ⟨g7, c7', hg7⟩ : ∃ g7 c7', Value.slice p7 n7 c7 = .slice (some ⟨g7, 0, none⟩) n7 c7' := by
                obtain ⟨xs, hx⟩ := HV.out.row
                rcases row_opened hx with ⟨_, z⟩ | ⟨g7, c7', z⟩
                · omega
                · exact ⟨g7, c7', z⟩
              injection hg7 with z1 z2 z3
              subst z1 z3
              obtain ⟨⟨u, d0⟩, f0⟩ := HV.out.cell hqn2
              have HZ := keepH (HV.out.put (k := q2) (.int .u64 5))
              go_wp2_with fail
              go_roundw
              case rel => exact ⟨q2 + 1, by omega, by first | rfl | go_num, HZ⟩
              case measure => simp [intOf]; omega
            · obtain rfl : q2 = n7 := by omega
              have t3 : ¬ (q2 : Int) < (q2 : Int) := by omega
              have HO8 := keepH (HO6.out.on HV.out.bel)
              go_wp2_with fail
              go_roundw
              case rel => exact ⟨i + 1, by omega, by first | rfl | go_num, HO8⟩
              case measure => simp [intOf]; omega
    · obtain rfl : i = 2 := by omega
      have t1 : ¬ (2 : Int) < 2 := by omega
      go_wp2_with (first
        | (go_at_call 6; refine (live_27 _).mono ?_; rintro e W4 ⟨rfl, hB⟩; have B4 := keepH hB; clear hB)
        | (go_at_call 12; refine (aloneAll_g W.heap.size W.heap.size 2 v len sv _ (by omega) (by omega) (HBK.out.quiet (below_chgE B4.out)) (fun j hj => Nat.le_trans (HLN.out j hj) (by omega))).mono ?_; rintro e W5 ⟨rfl, hc⟩; have HF := keepH (OI.alone (HBK.out.quiet (below_chgE B4.out)) (HL.out.below B4.out) (below_trans HX.out.bel B4.out) hc); clear hc)
        | (go_at_call 13; refine (kept_any HF.out.1 (HAA.out _ HF.out.2) _ (by omega)).mono ?_; rintro e W6 ⟨rfl, hB⟩; have B6 := keepH (below_trans HF.out.2 hB); clear hB))
      go_ret
      exact ⟨rfl, B6.out⟩
end Go.Proofs.Ytbmfjcdafjknaab
/- Bytes that come in. -/
namespace Go.Proofs.Ytbmfjcdafjknaab
open Go.RowKit Go.Joins Go.ChangeShapes Go.WideShapes
set_option linter.unusedVariables false

theorem coU8 : Try.prog.cellsOf 5 = 1 := by kernel_rfl
theorem nat_u8 {n : Int} (h : (Lit.int .u8 n).wf = true) : ∃ m : Nat, n = (m : Int) ∧ m < 256 := by
  have h' : IntKind.u8.min ≤ n ∧ n ≤ IntKind.u8.max := by simpa [Lit.wf] using h
  have h1 : IntKind.u8.min = 0 := by decide
  have h2 : IntKind.u8.max = 255 := by decide
  rw [h1, h2] at h'
  exact ⟨n.toNat, by omega, by omega⟩
theorem bytes_open {H : Type} {enc : TypeId × Value → H} {W : World} {sp : Nat → Bool} {held : Bool} {p : Option Addr} {n c : Nat} {d : DataW H} {ps : List MemPlace} (h : DataW.Trod enc Try.prog W 0 sp held 23 (.slice p n c) d ps) :
    ∃ l : List Nat, l.length = n ∧ BytesAt W p l := by
  obtain ⟨fuel, hf⟩ := h
  obtain ⟨p', n', c', hcs, hb, h⟩ := slice_rows (Q := fun cs => ∃ k : Nat, cs = [.int .u8 (k : Int)] ∧ k < 256) Try.underlying23 coU8 (by decide) (fun fuel cs y hy => by
    obtain ⟨z, e, _, w⟩ := DataW.trod_int (by kernel_rfl : Try.prog.underlying 5 = some (.int .u8)) hy
    obtain ⟨m, rfl, hm⟩ := nat_u8 w
    subst e
    exact ⟨⟨m, rfl, hm⟩, rfl⟩) hf
  have e : p = p' ∧ n = n' ∧ c = c' := by simpa [Value.cells] using hcs
  obtain ⟨rfl, rfl, rfl⟩ := e
  rcases h with rfl | ⟨bk, off, rfl, hbk, h⟩
  · exact ⟨[], rfl, .inl rfl⟩
  · obtain ⟨l, hl, hp⟩ := choose_list (P := fun i (k : Nat) => k < 256 ∧ W.cell? ⟨bk, off + i, none⟩ = some (.int .u8 (k : Int))) n (fun i hi => by
      obtain ⟨cs', ⟨k, rfl, hk⟩, ho⟩ := h i hi
      exact ⟨k, hk, by simpa using ho 0 _ rfl⟩)
    exact ⟨l, hl, .inr ⟨bk, off, rfl, hbk, hp⟩⟩
end Go.Proofs.Ytbmfjcdafjknaab
