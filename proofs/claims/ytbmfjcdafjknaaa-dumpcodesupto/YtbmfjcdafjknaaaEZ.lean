/- Patch of Diff, pure. -/
import Derived.Test.YtbmfjcdafjknaaaEI
import Derived.Test.YtbmfjcdafjknaaaER
namespace Go.Proofs.Ytbmfjcdafjknaaa
open Go.RowKit
set_option linter.unusedVariables false

theorem diffL_nil : diffL [] [] = [] := by simp [diffL, diffX, mrg_nil]
theorem diffL_right (y : Nat × Nat) (b : List (Nat × Nat)) : diffL [] (y :: b) = ⟨y.1, false, true, 0, y.2⟩ :: diffL [] b := by simp [diffL, diffX, mrg_right, chOf, Ch.right]
theorem diffL_left (x : Nat × Nat) (a : List (Nat × Nat)) : diffL (x :: a) [] = ⟨x.1, true, false, x.2, 0⟩ :: diffL a [] := by simp [diffL, diffX, mrg_left, chOf, Ch.right]
theorem diffL_lt {x y : Nat × Nat} (h : x.1 < y.1) (a b : List (Nat × Nat)) : diffL (x :: a) (y :: b) = ⟨x.1, true, false, x.2, 0⟩ :: diffL a (y :: b) := by simp [diffL, diffX, mrg_lt _ h, chOf, Ch.right]
theorem diffL_gt {x y : Nat × Nat} (h : y.1 < x.1) (a b : List (Nat × Nat)) : diffL (x :: a) (y :: b) = ⟨y.1, false, true, 0, y.2⟩ :: diffL (x :: a) b := by simp [diffL, diffX, mrg_gt (fun y : Nat × Nat => y.1) h, chOf, Ch.right]
theorem diffL_ne {x y : Nat × Nat} (h : x.1 = y.1) (h2 : x.2 ≠ y.2) (a b : List (Nat × Nat)) : diffL (x :: a) (y :: b) = ⟨y.1, true, true, x.2, y.2⟩ :: diffL a b := by simp [diffL, diffX, mrg_eq _ h, chOf, Ch.right, h2]
theorem diffL_eq {x y : Nat × Nat} (h : x.1 = y.1) (h2 : x.2 = y.2) (a b : List (Nat × Nat)) : diffL (x :: a) (y :: b) = diffL a b := by simp [diffL, diffX, mrg_eq _ h, chOf, Ch.right, h2]
theorem patch_cons (p : Option (Nat × Nat) × Option Ch) (m : List (Option (Nat × Nat) × Option Ch)) {o r : List (Nat × Nat)} (h : pStep p = some o) (hr : patchM m = some r) : patchM (p :: m) = some (o ++ r) := by simp [patchM, h, hr]
abbrev kC : Ch → Nat := fun y => y.k
/-- Patch of Diff is the second; its keys rise, and none is below both rows. -/
theorem patch_diff (n : Nat) : ∀ (a b : List (Nat × Nat)), a.length + b.length ≤ n → a.Pairwise (fun x y => x.1 < y.1) → b.Pairwise (fun x y => x.1 < y.1) →
    patchM (mrg kC a (diffL a b)) = some b ∧ (diffL a b).Pairwise (fun c d => c.k < d.k) ∧ ∀ m, (∀ x ∈ a, m < x.1) → (∀ y ∈ b, m < y.1) → ∀ c ∈ diffL a b, m < c.k := by
  induction n with
  | zero =>
    intro a b h _ _
    have ha : a = [] := List.length_eq_zero_iff.1 (by omega)
    have hb : b = [] := List.length_eq_zero_iff.1 (by omega)
    subst ha hb
    rw [diffL_nil, mrg_nil]
    exact ⟨rfl, List.Pairwise.nil, fun m _ _ c hc => by simp at hc⟩
  | succ n ih =>
    intro a b h pa pb
    cases a with
    | nil =>
      cases b with
      | nil =>
        rw [diffL_nil, mrg_nil]
        exact ⟨rfl, List.Pairwise.nil, fun m _ _ c hc => by simp at hc⟩
      | cons y b =>
        obtain ⟨hy, pb'⟩ := List.pairwise_cons.1 pb
        obtain ⟨i1, i2, i3⟩ := ih [] b (by simp at h ⊢; omega) pa pb'
        rw [diffL_right, mrg_right]
        refine ⟨patch_cons _ _ (o := [y]) (by simp [pStep, fitsB]) i1, List.pairwise_cons.2 ⟨fun c hc => i3 y.1 (by simp) hy c hc, i2⟩, fun m h1 h2 c hc => ?_⟩
        rcases List.mem_cons.1 hc with rfl | hc
        · exact h2 y (by simp)
        · exact i3 m h1 (fun z hz => h2 z (by simp [hz])) c hc
    | cons x a =>
      obtain ⟨hx, pa'⟩ := List.pairwise_cons.1 pa
      cases b with
      | nil =>
        obtain ⟨i1, i2, i3⟩ := ih a [] (by simp at h ⊢; omega) pa' pb
        rw [diffL_left, mrg_eq kC (show x.1 = kC ⟨x.1, true, false, x.2, 0⟩ from rfl)]
        refine ⟨patch_cons _ _ (o := []) (by simp [pStep, fitsB]) i1, List.pairwise_cons.2 ⟨fun c hc => i3 x.1 hx (by simp) c hc, i2⟩, fun m h1 h2 c hc => ?_⟩
        rcases List.mem_cons.1 hc with rfl | hc
        · exact h1 x (by simp)
        · exact i3 m (fun z hz => h1 z (by simp [hz])) h2 c hc
      | cons y b =>
        obtain ⟨hy, pb'⟩ := List.pairwise_cons.1 pb
        rcases Nat.lt_trichotomy x.1 y.1 with t | t | t
        · obtain ⟨i1, i2, i3⟩ := ih a (y :: b) (by simp at h ⊢; omega) pa' pb
          rw [diffL_lt t, mrg_eq kC (show x.1 = kC ⟨x.1, true, false, x.2, 0⟩ from rfl)]
          refine ⟨patch_cons _ _ (o := []) (by simp [pStep, fitsB]) i1, List.pairwise_cons.2 ⟨fun c hc => i3 x.1 hx (fun z hz => ?_) c hc, i2⟩, fun m h1 h2 c hc => ?_⟩
          · rcases List.mem_cons.1 hz with rfl | hz
            · exact t
            · exact Nat.lt_trans t (hy z hz)
          · rcases List.mem_cons.1 hc with rfl | hc
            · exact h1 x (by simp)
            · exact i3 m (fun z hz => h1 z (by simp [hz])) h2 c hc
        · obtain ⟨i1, i2, i3⟩ := ih a b (by simp at h ⊢; omega) pa' pb'
          by_cases e : x.2 = y.2
          · have exy : x = y := Prod.ext t e
            rw [diffL_eq t e]
            refine ⟨?_, i2, fun m h1 h2 c hc => i3 m (fun z hz => h1 z (by simp [hz])) (fun z hz => h2 z (by simp [hz])) c hc⟩
            have q : mrg kC (x :: a) (diffL a b) = (some x, none) :: mrg kC a (diffL a b) := by
              cases hd : diffL a b with
              | nil => rw [mrg_left]
              | cons c L => exact mrg_lt kC (i3 x.1 hx (fun z hz => by rw [t]; exact hy z hz) c (by rw [hd]; simp))
            rw [q]
            have := patch_cons (some x, none) _ (o := [x]) rfl i1
            rw [this, exy]
            rfl
          · rw [diffL_ne t e, mrg_eq kC (show x.1 = kC ⟨y.1, true, true, x.2, y.2⟩ from t)]
            refine ⟨patch_cons _ _ (o := [y]) (by simp [pStep, fitsB]) i1, List.pairwise_cons.2 ⟨fun c hc => i3 y.1 (fun z hz => by rw [← t]; exact hx z hz) hy c hc, i2⟩, fun m h1 h2 c hc => ?_⟩
            rcases List.mem_cons.1 hc with rfl | hc
            · exact h2 y (by simp)
            · exact i3 m (fun z hz => h1 z (by simp [hz])) (fun z hz => h2 z (by simp [hz])) c hc
        · obtain ⟨i1, i2, i3⟩ := ih (x :: a) b (by simp at h ⊢; omega) pa pb'
          rw [diffL_gt t, mrg_gt kC (show kC ⟨y.1, false, true, 0, y.2⟩ < x.1 from t)]
          refine ⟨patch_cons _ _ (o := [y]) (by simp [pStep, fitsB]) i1, List.pairwise_cons.2 ⟨fun c hc => i3 y.1 (fun z hz => ?_) hy c hc, i2⟩, fun m h1 h2 c hc => ?_⟩
          · rcases List.mem_cons.1 hz with rfl | hz
            · exact t
            · exact Nat.lt_trans t (hx z hz)
          · rcases List.mem_cons.1 hc with rfl | hc
            · exact h2 y (by simp)
            · exact i3 m h1 (fun z hz => h2 z (by simp [hz])) c hc
theorem diff_right {a b : List (Nat × Nat)} (ra : riseB a = true) (rb : riseB b = true) : rightC (diffL a b) = true := by
  unfold rightC riseC
  rw [Bool.and_eq_true]
  refine ⟨?_, ?_⟩
  · rw [List.all_eq_true]
    intro c hc
    unfold diffL diffX at hc
    exact (List.mem_filter.1 hc).2
  · have h := (patch_diff _ a b (Nat.le_refl _) (riseB_pair ra) (riseB_pair rb)).2.1
    rw [riseB_iff]
    intro i x y hx hy
    unfold keysC at hx hy
    rw [List.getElem?_map] at hx hy
    cases h1 : (diffL a b)[i]? with
    | none => rw [h1] at hx; simp at hx
    | some c =>
      cases h2 : (diffL a b)[i + 1]? with
      | none => rw [h2] at hy; simp at hy
      | some d =>
        rw [h1] at hx
        rw [h2] at hy
        simp at hx hy
        subst hx hy
        obtain ⟨l1, e1⟩ := List.getElem?_eq_some_iff.1 h1
        obtain ⟨l2, e2⟩ := List.getElem?_eq_some_iff.1 h2
        have := List.pairwise_iff_getElem.1 h i (i + 1) l1 l2 (by omega)
        rw [e1, e2] at this
        exact this
/-- What Patch tells of Diff. -/
theorem pl_diff {a b : List (Nat × Nat)} (ra : riseB a = true) (rb : riseB b = true) : pl a (diffL a b) = b ∧ pe a (diffL a b) = 0 := by
  have rc := diff_right ra rb
  have h := (patch_diff _ a b (Nat.le_refl _) (riseB_pair ra) (riseB_pair rb)).1
  have q := patch_is ra rc
  rw [show (fun y : Ch => y.k) = kC from rfl, h] at q
  by_cases hf : (diffL a b).all (fitsR a) = true
  · rw [if_pos hf] at q
    injection q with q
    unfold pl pe
    simp only [ra, rc, hf, Bool.and_self, if_true]
    exact ⟨q.symm, trivial⟩
  · rw [if_neg hf] at q
    cases q
theorem diff_same (a : List (Nat × Nat)) : diffL a a = [] := by
  induction a with
  | nil => exact diffL_nil
  | cons x a ih => rw [diffL_eq rfl rfl, ih]
theorem patch_none_ch (a : List (Nat × Nat)) : patchM (mrg kC a []) = some a := by
  induction a with
  | nil => rw [mrg_nil]; rfl
  | cons x a ih => rw [mrg_left]; exact patch_cons (some x, none) _ (o := [x]) rfl ih
theorem diff_none {a b : List (Nat × Nat)} (ra : riseB a = true) (rb : riseB b = true) : (diffL a b).length = 0 ↔ a = b := by
  constructor
  · intro h
    have e := List.length_eq_zero_iff.1 h
    have q := (patch_diff _ a b (Nat.le_refl _) (riseB_pair ra) (riseB_pair rb)).1
    rw [e, patch_none_ch] at q
    injection q
  · intro h; rw [h, diff_same]; rfl
theorem encI_ge (l : List (Nat × Nat)) (i : Nat) : i ≤ (encI l i).length := by
  induction i with
  | zero => simp
  | succ i ih =>
    have h1 := List.length_pos_iff.2 (numB_ne ((l[i]?.getD (0, 0)).2))
    simp only [encI, List.length_append]
    omega
theorem encL_ge (l : List (Nat × Nat)) : l.length ≤ (encL l).length := by
  have := encI_ge l l.length
  unfold encL encH
  simp only [List.length_append]
  omega
theorem encL_le {l : List (Nat × Nat)} (hs : small64 l) (hl : l.length ≤ 10000000) : (encL l).length ≤ 1000000000 := by
  have := encH_len hs hl l.length
  unfold encL
  simp only [List.length_append, sum4, List.length_cons, List.length_nil]
  omega
end Go.Proofs.Ytbmfjcdafjknaaa
/- DumpBack, walked. -/
namespace Go.Proofs.Ytbmfjcdafjknaaa
open Go.RowKit Go.Joins
set_option linter.unusedVariables false

theorem below_of0 {W X : World} (h : Chg (fun _ => False) W X) : Below W.heap.size W X := ⟨h.os, h.tape, h.output, h.size, fun k hk => h.block k hk (fun x => x)⟩
theorem brow_caps {W : World} {B : Nat} {v : Value} {l : List Nat} (h : BRow W B v l) : ∃ p c, v = .slice p l.length c ∧ BytesAt W p l ∧ (l.length ≤ c ∧ c ≤ 9223372036854775807) := by
  obtain ⟨p, c, hv, hat, _⟩ := BRow.slice h
  refine ⟨p, c, hv, hat, ?_⟩
  rcases h.1.2 with ⟨z, z0⟩ | ⟨g', cap', cur, z, _, _, hcap, hmax, _⟩
  · rw [hv] at z
    injection z with z1 z2 z3
    omega
  · rw [hv] at z
    injection z with z1 z2 z3
    unfold maxLen at hmax
    omega
theorem dec_of {W : World} {p : Option Addr} {bs : List Nat} {c : Nat} {l : List (Nat × Nat)} (H : BytesAt W p bs) (hc : bs.length ≤ c ∧ c ≤ 9223372036854775807) (he : rdA bs = (l, 0, 0)) (hn : bs.length ≤ 1000000000) :
    Calls Try.prog 13 #[.slice p bs.length c] W fun e W' => (∃ pq cq, e = .returned (.tuple #[.slice pq l.length cq, .int .i64 0, .int .i64 0]) ∧ PairsAt W' pq l ∧ l.length ≤ cq ∧ cq ≤ 9223372036854775807) ∧ Below W.heap.size W W' := by
  have := decode_any H hc hn
  rw [he] at this
  exact this
theorem rdA_none (bs : List Nat) : (rdA bs).2.1 ≠ 0 → (rdA bs).1 = [] := by
  intro h
  revert h
  unfold rdA
  split
  · intro _; rfl
  · split
    · intro _; rfl
    · split
      · intro _; rfl
      · split <;> simp
set_option maxRecDepth 100000 in
set_option maxHeartbeats 4000000 in
theorem mem_same {W : World} {pa pb : Option Addr} {l : List Nat} (HA : BytesAt W pa l) (HB : BytesAt W pb l) (ca cb : Nat) (hl : l.length ≤ 1000000000) :
    Calls Try.prog 16 #[.slice pa l.length ca, .slice pb l.length cb] W fun e W' => e = .returned (.bool true) ∧ Below W.heap.size W W' := by
  have HAA := keepH HA
  have HBB := keepH HB
  clear HA HB
  go_enter Try.func16, Try.ntmps16
  go_wp2_with fail
  go_loopw [5] (fun q wr => ∃ i : Nat, i ≤ l.length ∧ q = .int .i64 (i : Int) ∧ Hid (Below W.heap.size W wr)) (fun q _ => l.length - (intOf q).toNat)
  case atStart => exact ⟨0, Nat.zero_le _, rfl, keepH (Below.refl _ _)⟩
  case round =>
    obtain ⟨i, hil, rfl, HX⟩ := hrel
    by_cases hlt : i < l.length
    · have q1 : (i : Int) < (l.length : Int) := by omega
      obtain ⟨q, hq⟩ : ∃ q, l[i]? = some q := ⟨l[i], List.getElem?_eq_getElem hlt⟩
      obtain ⟨b1, o1, rfl, _, h1⟩ := (HAA.out.chg (below_chgE HX.out) (fun _ _ _ x => x)).resolve_left (by intro e; subst e; simp at hq)
      obtain ⟨b2, o2, rfl, _, h2⟩ := (HBB.out.chg (below_chgE HX.out) (fun _ _ _ x => x)).resolve_left (by intro e; subst e; simp at hq)
      have c1 := (h1 i q hq).2
      have c2 := (h2 i q hq).2
      have tq : ((q : Int) != (q : Int)) = false := by simp
      have HI := keepH (below_drew HX.out)
      clear hq h1 h2 HX
      go_wp2_with fail
      go_quiet (fail)
      go_wp2_with fail
      go_roundw
      case rel => exact ⟨i + 1, by omega, by first | rfl | go_num, keepH (HI.out _)⟩
      case measure => simp [intOf]; omega
    · have q1 : ¬ (i : Int) < (l.length : Int) := by omega
      go_wp2_with fail
      go_ret
      exact ⟨rfl, HX.out⟩
set_option maxRecDepth 100000 in
set_option maxHeartbeats 4000000 in
theorem back_walk {W : World} {pa pb pc : Option Addr} {la lb : List (Nat × Nat)} {bs : List Nat} (HA : PairsAt W pa la) (HB : PairsAt W pb lb) (HC : BytesAt W pc bs) {ca cb cc : Nat} (hca : la.length ≤ ca ∧ ca ≤ 9223372036854775807) (hcb : lb.length ≤ cb ∧ cb ≤ 9223372036854775807) (hcc : bs.length ≤ cc ∧ cc ≤ 9223372036854775807) (hla : la.length ≤ 1048576) (hlb : lb.length ≤ 1048576) (hbs : bs.length ≤ 1048576) :
    Calls Try.prog 6 #[.slice pa la.length ca, .slice pb lb.length cb, .slice pc bs.length cc] W fun e W' => e = .returned (.bool true) ∧ Below W.heap.size W W' := by
  have HAA : Hid (∀ X, Below W.heap.size W X → PairsAt X pa la) := keepH (fun X h => HA.chgF (below_chgE h) (fun _ _ _ x => x))
  have HBB : Hid (∀ X, Below W.heap.size W X → PairsAt X pb lb) := keepH (fun X h => HB.chgF (below_chgE h) (fun _ _ _ x => x))
  have HCC : Hid (∀ X, Below W.heap.size W X → BytesAt X pc bs) := keepH (fun X h => HC.chg (below_chgE h) (fun _ _ _ x => x))
  have D2 := keepH (fun X h => decode_any (HCC.out X h) hcc (by omega))
  have HRL : Hid ((rdA bs).2.1 = 0 → riseB (rdA bs).1 = true) := keepH (fun h => (enc_dec HC.small h).1)
  have HRE : Hid ((rdA bs).2.1 = 0 → encL (rdA bs).1 = bs) := keepH (fun h => (enc_dec HC.small h).2.2)
  have HL0 : Hid ((rdA bs).2.1 ≠ 0 → (rdA bs).1 = []) := keepH (rdA_none bs)
  have HLL : Hid ((rdA bs).1.length ≤ bs.length) := keepH (by
    by_cases h : (rdA bs).2.1 = 0
    · have := encL_ge (rdA bs).1
      rw [(enc_dec HC.small h).2.2] at this
      exact this
    · rw [rdA_none bs h]; simp)
  obtain ⟨r, hr⟩ : ∃ r, r = rdA bs := ⟨_, rfl⟩
  rw [← hr] at D2 HRL HRE HL0 HLL
  obtain ⟨l8, e8, j8⟩ := r
  simp only at D2 HRL HRE HL0 HLL
  clear hr HC
  by_cases ra : riseB la = true
  · have E1 := keepH (enc_yes HA ca (by omega) ra)
    have HE1 := keepH (dec_enc ra HA.small (by omega))
    have HL1 := keepH (encL_le HA.small (by omega))
    by_cases rb : riseB lb = true
    · have DF := keepH (fun X h => diff_yes (HAA.out X h) (HBB.out X h) hca hcb (by omega) (by omega) ra rb)
      obtain ⟨q1, q2⟩ := pl_diff ra rb
      have PT := keepH (fun X (h : Below W.heap.size W X) p c (hd : ChAt X p (diffL la lb)) (hk : (diffL la lb).length ≤ c ∧ c ≤ 9223372036854775807) => dp_any (HAA.out X h) hd (diff_small HA.small HB.small) hca hk (by omega) (by have := diff_len la lb (mrg_len (fun y : Nat × Nat => y.1) _ la lb (Nat.le_refl _)); omega))
      rw [q1, q2] at PT
      have hdn : (diffL la lb).length ≤ 10000000 := by have := diff_len la lb (mrg_len (fun y : Nat × Nat => y.1) _ la lb (Nat.le_refl _)); omega
      have hdz := diff_none ra rb
      obtain ⟨d, hd⟩ : ∃ d, d = diffL la lb := ⟨_, rfl⟩
      rw [← hd] at DF PT hdn hdz
      obtain ⟨z, hz⟩ : ∃ z, z = decide (la = lb) := ⟨_, rfl⟩
      have HZ := keepH hz
      have tz : ((d.length : Int) == 0) = z := by
        rw [hz, int_eq0]
        exact decide_eq_decide.2 hdz
      have tzz : (z != z) = false := by cases z <;> rfl
      clear HA HB ra rb q1 q2 hd hz hdz
      by_cases he : e8 = 0
      · subst he
        have E2 := keepH (fun X p c (h : PairsAt X p l8) => enc_yes h c (by have := HLL.out; omega) (HRL.out rfl))
        have HEN := keepH (HRE.out rfl)
        go_enter Try.func6, Try.ntmps6
        go_wp2_with (first
          | (go_at_call 11; refine E1.out.mono ?_; clear E1; rintro e W1 ⟨⟨v1, rfl, r1⟩, hB⟩; obtain ⟨p1, c1, hv1, hat1, hc1⟩ := brow_caps r1; subst hv1; have B1 := keepH hB; have D1 := keepH (dec_of hat1 hc1 HE1.out HL1.out); clear r1 hat1 hB)
          | (go_at_call 13; refine D1.out.mono ?_; clear D1; rintro e W2 ⟨⟨p2, c2, rfl, hat2, hc2⟩, hB⟩; have H2 := keepH hat2; have B2 := keepH (below_trans B1.out hB); clear hat2 hB)
          | (go_at_call 17; refine (r_pairs _ _ _ _ la la _ H2.out (HAA.out _ B2.out) (by omega) (by omega)).mono ?_; clear H2; rintro e W3 ⟨rfl, hC⟩; rw [decide_eq_true (rfl : la = la)]; have B3 := keepH (below_trans B2.out (below_of0 hC)); clear hC)
          | (go_at_call 20; refine (DF.out _ B3.out).mono ?_; clear DF; rintro e W4 ⟨⟨v4, rfl, r4⟩, hB⟩; obtain ⟨p4, c4, hv4, hat4, hk4⟩ := row_chC r4; subst hv4; have H4 := keepH hat4; have B4 := keepH (below_trans B3.out hB); clear r4 hat4 hB)
          | (go_at_call 30; refine (PT.out _ B4.out _ _ H4.out hk4).mono ?_; clear PT H4; rintro e W5 ⟨⟨p5, c5, rfl, hat5⟩, hB⟩; have H5 := keepH hat5; have B5 := keepH (below_trans B4.out hB); clear hat5 hB)
          | (go_at_call 17; refine (r_pairs _ _ _ _ lb lb _ H5.out (HBB.out _ B5.out) (by omega) (by omega)).mono ?_; clear H5; rintro e W6 ⟨rfl, hC⟩; rw [decide_eq_true (rfl : lb = lb)]; have B6 := keepH (below_trans B5.out (below_of0 hC)); clear hC)
          | (go_at_call 17; refine (r_pairs _ _ _ _ la lb _ (HAA.out _ B6.out) (HBB.out _ B6.out) (by omega) (by omega)).mono ?_; rintro e W7 ⟨rfl, hC⟩; rw [← HZ.out]; have B7 := keepH (below_trans B6.out (below_of0 hC)); clear hC)
          | (go_at_call 13; refine (D2.out _ B7.out).mono ?_; clear D2; rintro e W8 ⟨⟨p8, c8, rfl, hat8, hc8⟩, hB⟩; have H8 := keepH hat8; have B8 := keepH (below_trans B7.out hB); clear hat8 hB)
          | (go_at_call 11; refine (E2.out _ _ _ H8.out).mono ?_; clear E2; rintro e WE ⟨⟨vE, rfl, rE⟩, hB⟩; obtain ⟨pE, cE, hvE, hatE, hcE⟩ := brow_caps rE; subst hvE; rw [HEN.out] at hatE ⊢; have HBE := keepH hatE; have BE := keepH (below_trans B8.out hB); clear rE hatE hB)
          | (go_at_call 15; refine (live_27 _).mono ?_; rintro e W9 ⟨rfl, hB⟩; have HL9 := keepH hB; have B9 := keepH (below_trans BE.out hB); clear hB)
          | (go_at_call 16; refine (mem_same (HBE.out.chg (below_chgE HL9.out) (fun _ _ _ x => x)) (HCC.out _ B9.out) _ _ (by omega)).mono ?_; rintro e WS ⟨rfl, hB⟩; have BS := keepH (below_trans B9.out hB); clear hB))
        go_ret
        exact ⟨rfl, BS.out⟩
      · have t8 : ((e8 : Int) != 0) = true := by simp; omega
        obtain rfl := HL0.out he
        go_enter Try.func6, Try.ntmps6
        go_wp2_with (first
          | (go_at_call 11; refine E1.out.mono ?_; clear E1; rintro e W1 ⟨⟨v1, rfl, r1⟩, hB⟩; obtain ⟨p1, c1, hv1, hat1, hc1⟩ := brow_caps r1; subst hv1; have B1 := keepH hB; have D1 := keepH (dec_of hat1 hc1 HE1.out HL1.out); clear r1 hat1 hB)
          | (go_at_call 13; refine D1.out.mono ?_; clear D1; rintro e W2 ⟨⟨p2, c2, rfl, hat2, hc2⟩, hB⟩; have H2 := keepH hat2; have B2 := keepH (below_trans B1.out hB); clear hat2 hB)
          | (go_at_call 17; refine (r_pairs _ _ _ _ la la _ H2.out (HAA.out _ B2.out) (by omega) (by omega)).mono ?_; clear H2; rintro e W3 ⟨rfl, hC⟩; rw [decide_eq_true (rfl : la = la)]; have B3 := keepH (below_trans B2.out (below_of0 hC)); clear hC)
          | (go_at_call 20; refine (DF.out _ B3.out).mono ?_; clear DF; rintro e W4 ⟨⟨v4, rfl, r4⟩, hB⟩; obtain ⟨p4, c4, hv4, hat4, hk4⟩ := row_chC r4; subst hv4; have H4 := keepH hat4; have B4 := keepH (below_trans B3.out hB); clear r4 hat4 hB)
          | (go_at_call 30; refine (PT.out _ B4.out _ _ H4.out hk4).mono ?_; clear PT H4; rintro e W5 ⟨⟨p5, c5, rfl, hat5⟩, hB⟩; have H5 := keepH hat5; have B5 := keepH (below_trans B4.out hB); clear hat5 hB)
          | (go_at_call 17; refine (r_pairs _ _ _ _ lb lb _ H5.out (HBB.out _ B5.out) (by omega) (by omega)).mono ?_; clear H5; rintro e W6 ⟨rfl, hC⟩; rw [decide_eq_true (rfl : lb = lb)]; have B6 := keepH (below_trans B5.out (below_of0 hC)); clear hC)
          | (go_at_call 17; refine (r_pairs _ _ _ _ la lb _ (HAA.out _ B6.out) (HBB.out _ B6.out) (by omega) (by omega)).mono ?_; rintro e W7 ⟨rfl, hC⟩; rw [← HZ.out]; have B7 := keepH (below_trans B6.out (below_of0 hC)); clear hC)
          | (go_at_call 13; refine (D2.out _ B7.out).mono ?_; clear D2; rintro e W8 ⟨⟨p8, c8, rfl, hat8, hc8⟩, hB⟩; have H8 := keepH hat8; have B8 := keepH (below_trans B7.out hB); clear hat8 hB)
          | (go_at_call 15; refine (live_27 _).mono ?_; rintro e W9 ⟨rfl, hB⟩; have B9 := keepH (below_trans B8.out hB); clear hB))
        go_ret
        exact ⟨rfl, B9.out⟩
    · have DF := keepH (fun X h => diff_no (HAA.out X h) (HBB.out X h) ca cb (by omega) (by omega) (fun q => rb q.2))
      clear HA HB ra rb
      by_cases he : e8 = 0
      · subst he
        have E2 := keepH (fun X p c (h : PairsAt X p l8) => enc_yes h c (by have := HLL.out; omega) (HRL.out rfl))
        have HEN := keepH (HRE.out rfl)
        go_enter Try.func6, Try.ntmps6
        go_wp2_with (first
          | (go_at_call 11; refine E1.out.mono ?_; clear E1; rintro e W1 ⟨⟨v1, rfl, r1⟩, hB⟩; obtain ⟨p1, c1, hv1, hat1, hc1⟩ := brow_caps r1; subst hv1; have B1 := keepH hB; have D1 := keepH (dec_of hat1 hc1 HE1.out HL1.out); clear r1 hat1 hB)
          | (go_at_call 13; refine D1.out.mono ?_; clear D1; rintro e W2 ⟨⟨p2, c2, rfl, hat2, hc2⟩, hB⟩; have H2 := keepH hat2; have B2 := keepH (below_trans B1.out hB); clear hat2 hB)
          | (go_at_call 17; refine (r_pairs _ _ _ _ la la _ H2.out (HAA.out _ B2.out) (by omega) (by omega)).mono ?_; clear H2; rintro e W3 ⟨rfl, hC⟩; rw [decide_eq_true (rfl : la = la)]; have B3 := keepH (below_trans B2.out (below_of0 hC)); clear hC)
          | (go_at_call 20; refine (DF.out _ B3.out).mono ?_; clear DF; rintro e W4 ⟨rfl, hB⟩; have B4 := keepH (below_trans B3.out hB); clear hB)
          | (go_at_call 13; refine (D2.out _ B4.out).mono ?_; clear D2; rintro e W8 ⟨⟨p8, c8, rfl, hat8, hc8⟩, hB⟩; have H8 := keepH hat8; have B8 := keepH (below_trans B4.out hB); clear hat8 hB)
          | (go_at_call 11; refine (E2.out _ _ _ H8.out).mono ?_; clear E2; rintro e WE ⟨⟨vE, rfl, rE⟩, hB⟩; obtain ⟨pE, cE, hvE, hatE, hcE⟩ := brow_caps rE; subst hvE; rw [HEN.out] at hatE ⊢; have HBE := keepH hatE; have BE := keepH (below_trans B8.out hB); clear rE hatE hB)
          | (go_at_call 15; refine (live_27 _).mono ?_; rintro e W9 ⟨rfl, hB⟩; have HL9 := keepH hB; have B9 := keepH (below_trans BE.out hB); clear hB)
          | (go_at_call 16; refine (mem_same (HBE.out.chg (below_chgE HL9.out) (fun _ _ _ x => x)) (HCC.out _ B9.out) _ _ (by omega)).mono ?_; rintro e WS ⟨rfl, hB⟩; have BS := keepH (below_trans B9.out hB); clear hB))
        go_ret
        exact ⟨rfl, BS.out⟩
      · have t8 : ((e8 : Int) != 0) = true := by simp; omega
        obtain rfl := HL0.out he
        go_enter Try.func6, Try.ntmps6
        go_wp2_with (first
          | (go_at_call 11; refine E1.out.mono ?_; clear E1; rintro e W1 ⟨⟨v1, rfl, r1⟩, hB⟩; obtain ⟨p1, c1, hv1, hat1, hc1⟩ := brow_caps r1; subst hv1; have B1 := keepH hB; have D1 := keepH (dec_of hat1 hc1 HE1.out HL1.out); clear r1 hat1 hB)
          | (go_at_call 13; refine D1.out.mono ?_; clear D1; rintro e W2 ⟨⟨p2, c2, rfl, hat2, hc2⟩, hB⟩; have H2 := keepH hat2; have B2 := keepH (below_trans B1.out hB); clear hat2 hB)
          | (go_at_call 17; refine (r_pairs _ _ _ _ la la _ H2.out (HAA.out _ B2.out) (by omega) (by omega)).mono ?_; clear H2; rintro e W3 ⟨rfl, hC⟩; rw [decide_eq_true (rfl : la = la)]; have B3 := keepH (below_trans B2.out (below_of0 hC)); clear hC)
          | (go_at_call 20; refine (DF.out _ B3.out).mono ?_; clear DF; rintro e W4 ⟨rfl, hB⟩; have B4 := keepH (below_trans B3.out hB); clear hB)
          | (go_at_call 13; refine (D2.out _ B4.out).mono ?_; clear D2; rintro e W8 ⟨⟨p8, c8, rfl, hat8, hc8⟩, hB⟩; have H8 := keepH hat8; have B8 := keepH (below_trans B4.out hB); clear hat8 hB)
          | (go_at_call 15; refine (live_27 _).mono ?_; rintro e W9 ⟨rfl, hB⟩; have B9 := keepH (below_trans B8.out hB); clear hB))
        go_ret
        exact ⟨rfl, B9.out⟩
  · have E1 := keepH (enc_no HA ca (by omega) (by simpa using ra))
    have DF := keepH (fun X h => diff_no (HAA.out X h) (HBB.out X h) ca cb (by omega) (by omega) (fun q => ra q.1))
    clear HA HB ra
    by_cases he : e8 = 0
    · subst he
      have E2 := keepH (fun X p c (h : PairsAt X p l8) => enc_yes h c (by have := HLL.out; omega) (HRL.out rfl))
      have HEN := keepH (HRE.out rfl)
      go_enter Try.func6, Try.ntmps6
      go_wp2_with (first
        | (go_at_call 11; refine E1.out.mono ?_; clear E1; rintro e W1 ⟨rfl, hB⟩; have B1 := keepH hB; clear hB)
        | (go_at_call 20; refine (DF.out _ B1.out).mono ?_; clear DF; rintro e W4 ⟨rfl, hB⟩; have B4 := keepH (below_trans B1.out hB); clear hB)
        | (go_at_call 13; refine (D2.out _ B4.out).mono ?_; clear D2; rintro e W8 ⟨⟨p8, c8, rfl, hat8, hc8⟩, hB⟩; have H8 := keepH hat8; have B8 := keepH (below_trans B4.out hB); clear hat8 hB)
        | (go_at_call 11; refine (E2.out _ _ _ H8.out).mono ?_; clear E2; rintro e WE ⟨⟨vE, rfl, rE⟩, hB⟩; obtain ⟨pE, cE, hvE, hatE, hcE⟩ := brow_caps rE; subst hvE; rw [HEN.out] at hatE ⊢; have HBE := keepH hatE; have BE := keepH (below_trans B8.out hB); clear rE hatE hB)
        | (go_at_call 15; refine (live_27 _).mono ?_; rintro e W9 ⟨rfl, hB⟩; have HL9 := keepH hB; have B9 := keepH (below_trans BE.out hB); clear hB)
        | (go_at_call 16; refine (mem_same (HBE.out.chg (below_chgE HL9.out) (fun _ _ _ x => x)) (HCC.out _ B9.out) _ _ (by omega)).mono ?_; rintro e WS ⟨rfl, hB⟩; have BS := keepH (below_trans B9.out hB); clear hB))
      go_ret
      exact ⟨rfl, BS.out⟩
    · have t8 : ((e8 : Int) != 0) = true := by simp; omega
      obtain rfl := HL0.out he
      go_enter Try.func6, Try.ntmps6
      go_wp2_with (first
        | (go_at_call 11; refine E1.out.mono ?_; clear E1; rintro e W1 ⟨rfl, hB⟩; have B1 := keepH hB; clear hB)
        | (go_at_call 20; refine (DF.out _ B1.out).mono ?_; clear DF; rintro e W4 ⟨rfl, hB⟩; have B4 := keepH (below_trans B1.out hB); clear hB)
        | (go_at_call 13; refine (D2.out _ B4.out).mono ?_; clear D2; rintro e W8 ⟨⟨p8, c8, rfl, hat8, hc8⟩, hB⟩; have H8 := keepH hat8; have B8 := keepH (below_trans B4.out hB); clear hat8 hB)
        | (go_at_call 15; refine (live_27 _).mono ?_; rintro e W9 ⟨rfl, hB⟩; have B9 := keepH (below_trans B8.out hB); clear hB))
      go_ret
      exact ⟨rfl, B9.out⟩
end Go.Proofs.Ytbmfjcdafjknaaa
