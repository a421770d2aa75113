/- DumpDiffs, walked. -/
import Derived.Test.YtnhfpnhmdfgckaaEp
import Derived.Test.YtnhfpnhmdfgckaaEr
import Derived.Test.YtnhfpnhmdfgckaaEt
import Derived.Test.YtnhfpnhmdfgckaaEu
namespace Go.Proofs.Ytnhfpnhmdfgckaa
open Go.RowKit Go.Joins
set_option linter.unusedVariables false

/-- What Diff tells: the changes, or none and an error. -/
def dl (a b : List (Nat × Nat)) : List Ch := if riseB a && riseB b then diffL a b else []
def de (a b : List (Nat × Nat)) : Int := if riseB a && riseB b then 0 else 52
theorem dl_small {a b : List (Nat × Nat)} (ha : small64 a) (hb : small64 b) : ∀ c ∈ dl a b, c.small := by
  unfold dl
  split
  · exact diff_small ha hb
  · intro c hc; simp at hc
theorem dl_len (a b : List (Nat × Nat)) (ha : a.length ≤ 10000000) (hb : b.length ≤ 10000000) : (dl a b).length ≤ 100000000 := by
  unfold dl
  split
  · refine Nat.le_trans (diffX_len _) ?_
    have := mrg_len (fun y : Nat × Nat => y.1) _ a b (Nat.le_refl _)
    omega
  · simp
theorem dd_any {W : World} {pa pb : Option Addr} {la lb : List (Nat × Nat)} (HA : PairsAt W pa la) (HB : PairsAt W pb lb) {ca cb : Nat} (hca : la.length ≤ ca ∧ ca ≤ 9223372036854775807) (hcb : lb.length ≤ cb ∧ cb ≤ 9223372036854775807) (hla : la.length ≤ 10000000) (hlb : lb.length ≤ 10000000) :
    Calls Try.prog 20 #[.slice pa la.length ca, .slice pb lb.length cb] W fun e W' => (∃ p c, e = .returned (.tuple #[.slice p (dl la lb).length c, .int .i64 (de la lb)]) ∧ ChAt W' p (dl la lb)) ∧ Below W.heap.size W W' := by
  by_cases hr : riseB la = true ∧ riseB lb = true
  · have e1 : dl la lb = diffL la lb := by simp [dl, hr.1, hr.2]
    have e2 : de la lb = 0 := by simp [de, hr.1, hr.2]
    rw [e1, e2]
    refine (diff_yes HA HB hca hcb hla hlb hr.1 hr.2).mono ?_
    rintro e W1 ⟨⟨v, rfl, r⟩, hb⟩
    obtain ⟨p, c, rfl, hat, _⟩ := row_ch r
    exact ⟨⟨p, c, rfl, hat⟩, hb⟩
  · have q : (riseB la && riseB lb) = false := by
      cases h1 : riseB la <;> cases h2 : riseB lb <;> simp_all
    have e1 : dl la lb = [] := by simp [dl, q]
    have e2 : de la lb = 52 := by simp [de, q]
    rw [e1, e2]
    refine (diff_no HA HB ca cb hla hlb hr).mono ?_
    rintro e W1 ⟨rfl, hb⟩
    exact ⟨⟨none, 0, rfl, .inl rfl⟩, hb⟩
theorem ed_any {W : World} {pa pb : Option Addr} {la lb : List (Nat × Nat)} (HA : PairsAt W pa la) (HB : PairsAt W pb lb) {ca cb : Nat} (hca : la.length ≤ ca ∧ ca ≤ 9223372036854775807) (hcb : lb.length ≤ cb ∧ cb ≤ 9223372036854775807) (hla : la.length ≤ 10000000) (hlb : lb.length ≤ 10000000) :
    Calls Try.prog 21 #[.slice pa la.length ca, .slice pb lb.length cb] W fun e W' => (∃ p c, e = .returned (.tuple #[.slice p (dl la lb).length c, .int .i64 (de la lb)]) ∧ ChAt W' p (dl la lb)) ∧ Below W.heap.size W W' := by
  by_cases hr : riseB la = true ∧ riseB lb = true
  · have e1 : dl la lb = diffL la lb := by simp [dl, hr.1, hr.2]
    have e2 : de la lb = 0 := by simp [de, hr.1, hr.2]
    rw [e1, e2]
    refine (e_diff_yes HA HB ca cb hla hlb hr.1 hr.2).mono ?_
    rintro e W1 ⟨⟨v, rfl, r⟩, hb⟩
    obtain ⟨p, c, rfl, hat, _⟩ := row_ch r
    exact ⟨⟨p, c, rfl, hat⟩, hb⟩
  · have q : (riseB la && riseB lb) = false := by
      cases h1 : riseB la <;> cases h2 : riseB lb <;> simp_all
    have e1 : dl la lb = [] := by simp [dl, q]
    have e2 : de la lb = 52 := by simp [de, q]
    rw [e1, e2]
    refine (e_diff_no HA HB ca cb hla hlb hr).mono ?_
    rintro e W1 ⟨rfl, hb⟩
    exact ⟨⟨none, 0, rfl, .inl rfl⟩, hb⟩
theorem ds_any {W : World} {pa pb : Option Addr} {la lb : List (Nat × Nat)} (HA : PairsAt W pa la) (HB : PairsAt W pb lb) {ca cb : Nat} (hca : la.length ≤ ca ∧ ca ≤ 9223372036854775807) (hcb : lb.length ≤ cb ∧ cb ≤ 9223372036854775807) (hla : la.length ≤ 10000000) (hlb : lb.length ≤ 10000000) :
    Calls Try.prog 22 #[.slice pa la.length ca, .slice pb lb.length cb] W fun e W' => (∃ p c, e = .returned (.tuple #[.slice p ((dl la lb).map opOf).length c, .int .i64 (de la lb)]) ∧ OpSAt W' p ((dl la lb).map opOf)) ∧ Below W.heap.size W W' := by
  by_cases hr : riseB la = true ∧ riseB lb = true
  · have e1 : dl la lb = diffL la lb := by simp [dl, hr.1, hr.2]
    have e2 : de la lb = 0 := by simp [de, hr.1, hr.2]
    rw [e1, e2]
    refine (sync_yes HA HB hca hcb hla hlb hr.1 hr.2).mono ?_
    rintro e W1 ⟨⟨v, rfl, r⟩, hb⟩
    obtain ⟨p, c, rfl, hat, _⟩ := row_op r
    exact ⟨⟨p, c, rfl, hat⟩, hb⟩
  · have q : (riseB la && riseB lb) = false := by
      cases h1 : riseB la <;> cases h2 : riseB lb <;> simp_all
    have e1 : dl la lb = [] := by simp [dl, q]
    have e2 : de la lb = 52 := by simp [de, q]
    rw [e1, e2]
    refine (sync_no HA HB ca cb hla hlb hr).mono ?_
    rintro e W1 ⟨rfl, hb⟩
    exact ⟨⟨none, 0, rfl, .inl rfl⟩, hb⟩
theorem es_any {W : World} {pa pb : Option Addr} {la lb : List (Nat × Nat)} (HA : PairsAt W pa la) (HB : PairsAt W pb lb) {ca cb : Nat} (hca : la.length ≤ ca ∧ ca ≤ 9223372036854775807) (hcb : lb.length ≤ cb ∧ cb ≤ 9223372036854775807) (hla : la.length ≤ 10000000) (hlb : lb.length ≤ 10000000) :
    Calls Try.prog 23 #[.slice pa la.length ca, .slice pb lb.length cb] W fun e W' => (∃ p c, e = .returned (.tuple #[.slice p ((dl la lb).map opOf).length c, .int .i64 (de la lb)]) ∧ OpSAt W' p ((dl la lb).map opOf)) ∧ Below W.heap.size W W' := by
  by_cases hr : riseB la = true ∧ riseB lb = true
  · have e1 : dl la lb = diffL la lb := by simp [dl, hr.1, hr.2]
    have e2 : de la lb = 0 := by simp [de, hr.1, hr.2]
    rw [e1, e2]
    refine (e_sync_of (e_diff_yes HA HB ca cb hla hlb hr.1 hr.2) (by have := dl_len la lb hla hlb; rw [e1] at this; exact this)).mono ?_
    rintro e W1 ⟨⟨v, rfl, r⟩, hb⟩
    obtain ⟨p, c, rfl, hat, _⟩ := row_op r
    exact ⟨⟨p, c, rfl, hat⟩, hb⟩
  · have q : (riseB la && riseB lb) = false := by
      cases h1 : riseB la <;> cases h2 : riseB lb <;> simp_all
    have e1 : dl la lb = [] := by simp [dl, q]
    have e2 : de la lb = 52 := by simp [de, q]
    rw [e1, e2]
    refine (e_sync_no (e_diff_no HA HB ca cb hla hlb hr)).mono ?_
    rintro e W1 ⟨rfl, hb⟩
    exact ⟨⟨none, 0, rfl, .inl rfl⟩, hb⟩
theorem caps_of {W : World} {B g cap : Nat} {l : List (Nat × Nat)} (h : LentAt W B g cap l) : l.length ≤ cap ∧ cap ≤ 9223372036854775807 := by
  obtain ⟨_, _, h1, h2⟩ := h.mark
  unfold maxLen at h2
  exact ⟨by omega, h2⟩
theorem ld_any {W : World} {pb : Option Addr} {lb : List (Nat × Nat)} (HB : PairsAt W pb lb) {cb : Nat} (hcb : lb.length ≤ cb ∧ cb ≤ 9223372036854775807) (hlb : lb.length ≤ 10000000) :
    Calls Try.prog 24 #[.slice pb lb.length cb] W fun e W' => (∃ p c, e = .returned (.tuple #[.slice p ((dl [] lb).map opOf).length c, .int .i64 (de [] lb)]) ∧ OpSAt W' p ((dl [] lb).map opOf)) ∧ Below W.heap.size W W' := by
  cases rb : riseB lb with
  | true =>
    have e1 : dl [] lb = diffL [] lb := by simp [dl, rb, riseB]
    have e2 : de [] lb = 0 := by simp [de, rb, riseB]
    rw [e1, e2]
    refine (load_yes HB hcb hlb rb).mono ?_
    rintro e W1 ⟨⟨v, rfl, r⟩, hb⟩
    obtain ⟨p, c, rfl, hat, _⟩ := row_op r
    exact ⟨⟨p, c, rfl, hat⟩, hb⟩
  | false =>
    have e1 : dl [] lb = [] := by simp [dl, rb]
    have e2 : de [] lb = 52 := by simp [de, rb]
    rw [e1, e2]
    refine (load_no HB cb hlb rb).mono ?_
    rintro e W1 ⟨rfl, hb⟩
    exact ⟨⟨none, 0, rfl, .inl rfl⟩, hb⟩
theorem le_any {W : World} {pb : Option Addr} {lb : List (Nat × Nat)} (HB : PairsAt W pb lb) (cb : Nat) (hlb : lb.length ≤ 10000000) :
    Calls Try.prog 25 #[.slice pb lb.length cb] W fun e W' => (∃ p c, e = .returned (.tuple #[.slice p ((dl [] lb).map opOf).length c, .int .i64 (de [] lb)]) ∧ OpSAt W' p ((dl [] lb).map opOf)) ∧ Below W.heap.size W W' := by
  cases rb : riseB lb with
  | true =>
    have e1 : dl [] lb = diffL [] lb := by simp [dl, rb, riseB]
    have e2 : de [] lb = 0 := by simp [de, rb, riseB]
    have hn := dl_len [] lb (by simp) hlb
    rw [e1] at hn
    rw [e1, e2]
    have q := e_diff_yes (W := W) (pa := none) (la := []) (.inl rfl) HB 0 cb (by simp) hlb rfl rb
    refine (e_load_of (e_sync_of (na := 0) q hn)).mono ?_
    rintro e W1 ⟨⟨v, rfl, r⟩, hb⟩
    obtain ⟨p, c, rfl, hat, _⟩ := row_op r
    exact ⟨⟨p, c, rfl, hat⟩, hb⟩
  | false =>
    have e1 : dl [] lb = [] := by simp [dl, rb]
    have e2 : de [] lb = 52 := by simp [de, rb]
    rw [e1, e2]
    have q := e_diff_no (W := W) (pa := none) (la := []) (.inl rfl) HB 0 cb (by simp) hlb (by rw [rb]; simp)
    refine (e_load_no (e_sync_no (na := 0) q)).mono ?_
    rintro e W1 ⟨rfl, hb⟩
    exact ⟨⟨none, 0, rfl, .inl rfl⟩, hb⟩
set_option maxRecDepth 100000 in
set_option maxHeartbeats 4000000 in
theorem diffs_walk {W : World} {pa pb : Option Addr} {la lb : List (Nat × Nat)} (HA : PairsAt W pa la) (HB : PairsAt W pb lb) {ca cb : Nat} (hca : la.length ≤ ca ∧ ca ≤ 9223372036854775807) (hcb : lb.length ≤ cb ∧ cb ≤ 9223372036854775807) (hla : la.length ≤ 1048576) (hlb : lb.length ≤ 1048576) :
    Calls Try.prog 4 #[.slice pa la.length ca, .slice pb lb.length cb] W fun e W' => e = .returned (.bool true) ∧ Below W.heap.size W W' := by
  have HAA : Hid (∀ X, Below W.heap.size W X → PairsAt X pa la) := keepH (fun X h => HA.chgF (below_chgE h) (fun _ _ _ x => x))
  have HBB : Hid (∀ X, Below W.heap.size W X → PairsAt X pb lb) := keepH (fun X h => HB.chgF (below_chgE h) (fun _ _ _ x => x))
  have HS := keepH (dl_small HA.small HB.small)
  have hn1 := dl_len la lb (by omega) (by omega)
  have hn2 := dl_len [] la (by simp) (by omega)
  have H1 := keepH (lent_any HA ca (by omega))
  have H2 := keepH (fun X h => lent_any (HBB.out X h) cb (by omega))
  have HdD := keepH (fun X (x : Option Addr) (y : Option Addr) c c' (h1 : PairsAt X x la) (h2 : PairsAt X y lb) k1 k2 => dd_any (ca := c) (cb := c') h1 h2 k1 k2 (by omega) (by omega))
  have HdS := keepH (fun X (x : Option Addr) (y : Option Addr) c c' (h1 : PairsAt X x la) (h2 : PairsAt X y lb) k1 k2 => ds_any (ca := c) (cb := c') h1 h2 k1 k2 (by omega) (by omega))
  have HeD := keepH (fun X h => ed_any (HAA.out X h) (HBB.out X h) hca hcb (by omega) (by omega))
  have HeS := keepH (fun X h => es_any (HAA.out X h) (HBB.out X h) hca hcb (by omega) (by omega))
  have HdL := keepH (fun X (x : Option Addr) c (h1 : PairsAt X x la) k1 => ld_any (cb := c) h1 k1 (by omega))
  have HeL := keepH (fun X h => le_any (HAA.out X h) ca (by omega))
  obtain ⟨l, hl⟩ : ∃ l, l = dl la lb := ⟨_, rfl⟩
  obtain ⟨o, ho⟩ : ∃ o, o = (dl [] la).map opOf := ⟨_, rfl⟩
  obtain ⟨e1, he1⟩ : ∃ e, e = de la lb := ⟨_, rfl⟩
  obtain ⟨e2, he2⟩ : ∃ e, e = de [] la := ⟨_, rfl⟩
  have ho9 : o.length ≤ 100000000 := by rw [ho, List.length_map]; exact hn2
  rw [← hl] at HS hn1 HdD HdS HeD HeS
  rw [← ho] at HdL HeL
  rw [← he1] at HdD HdS HeD HeS
  rw [← he2] at HdL HeL
  obtain ⟨s, hs⟩ : ∃ s, s = l.map opOf := ⟨_, rfl⟩
  have hs9 : s.length ≤ 100000000 := by rw [hs, List.length_map]; exact hn1
  rw [← hs] at HdS HeS
  clear HA HB hl ho he1 he2 hs hn2
  go_enter Try.func4, Try.ntmps4
  go_wp2_with (first
    | (go_at_call 9; refine H1.out.mono ?_; clear H1; rintro e W1 ⟨⟨g1, k1, rfl, hL⟩, hB⟩; have HL1 := keepH hL; have B1 := keepH hB; clear hL hB)
    | (go_at_call 9; refine (H2.out _ B1.out).mono ?_; clear H2; rintro e W2 ⟨⟨g2, k2, rfl, hL⟩, hB⟩; have HL2 := keepH hL; have C1 := keepH (HL1.out.below hB); have B2 := keepH (below_trans B1.out hB); have hk1 := caps_of C1.out; have hk2 := caps_of HL2.out; clear hL hB HL1)
    | (go_at_call 20; refine (HdD.out _ _ _ _ _ C1.out.pairs HL2.out.pairs hk1 hk2).mono ?_; clear HdD; rintro e W3 ⟨⟨p3, c3, rfl, hat⟩, hB⟩; have D3 := keepH hat; have B3 := keepH hB; clear hat hB)
    | (go_at_call 21; refine (HeD.out _ (below_trans B2.out B3.out)).mono ?_; clear HeD; rintro e W4 ⟨⟨p4, c4, rfl, hat⟩, hB⟩; have D4 := keepH hat; have E3 := keepH (D3.out.below hB); have B4 := keepH (below_trans B3.out hB); clear hat hB D3 B3)
    | (go_at_call 22; refine (HdS.out _ _ _ _ _ (C1.out.below B4.out).pairs (HL2.out.below B4.out).pairs hk1 hk2).mono ?_; clear HdS; rintro e W5 ⟨⟨p5, c5, rfl, hat⟩, hB⟩; have S5 := keepH hat; have E34 := keepH (And.intro (E3.out.below hB) (D4.out.below hB)); have B5 := keepH (below_trans B4.out hB); clear hat hB E3 D4 B4)
    | (go_at_call 23; refine (HeS.out _ (below_trans B2.out B5.out)).mono ?_; clear HeS; rintro e W6 ⟨⟨p6, c6, rfl, hat⟩, hB⟩; have S56 := keepH (And.intro (S5.out.chg (below_chgE hB) (fun _ _ _ x => x)) hat); have F34 := keepH (And.intro (E34.out.1.below hB) (E34.out.2.below hB)); have B6 := keepH (below_trans B5.out hB); clear hat hB E34 S5 B5)
    | (go_at_call 24; refine (HdL.out _ _ _ (C1.out.below B6.out).pairs hk1).mono ?_; clear HdL; rintro e W7 ⟨⟨p7, c7, rfl, hat⟩, hB⟩; have L7 := keepH hat; have B7 := keepH hB; clear hat hB)
    | (go_at_call 25; refine (HeL.out _ (below_trans (below_trans B2.out B6.out) B7.out)).mono ?_; clear HeL; rintro e W8 ⟨⟨p8, c8, rfl, hat⟩, hB⟩; have L78 := keepH (And.intro (L7.out.chg (below_chgE hB) (fun _ _ _ x => x)) hat); have B8 := keepH (below_trans B7.out hB); clear hat hB L7 B7)
    | (go_at_call 15; refine (live_27 _).mono ?_; rintro e W9 ⟨rfl, hB⟩; have G9 := keepH hB; clear hB)
    | (go_at_call 27; refine (turn_any (F34.out.1.below (below_trans B8.out G9.out)) _ hn1).mono ?_; rintro e W10 ⟨⟨v10, rfl, r10⟩, hB⟩; obtain ⟨p10, c10, rfl, hat, _⟩ := row_ch r10; have T10 := keepH hat; have G10 := keepH (below_trans G9.out hB); clear r10 hat hB G9)
    | (go_at_call 26; refine (same_chr T10.out (F34.out.2.below (below_trans B8.out G10.out)) HS.out _ _ (by omega)).mono ?_; clear T10; rintro e W11 ⟨rfl, hB⟩; have G11 := keepH (below_trans G10.out hB); clear hB G10)
    | (go_at_call 28; refine (same_ops (S56.out.1.chg (below_chgE (below_trans B8.out G11.out)) (fun _ _ _ x => x)) (S56.out.2.chg (below_chgE (below_trans B8.out G11.out)) (fun _ _ _ x => x)) _ _ (by omega)).mono ?_; clear S56; rintro e W12 ⟨rfl, hB⟩; have G12 := keepH (below_trans G11.out hB); clear hB G11)
    | (go_at_call 28; refine (same_ops (L78.out.1.chg (below_chgE G12.out) (fun _ _ _ x => x)) (L78.out.2.chg (below_chgE G12.out) (fun _ _ _ x => x)) _ _ (by omega)).mono ?_; clear L78; rintro e W13 ⟨rfl, hB⟩; have G13 := keepH (below_trans (below_trans B6.out B8.out) (below_trans G12.out hB)); clear hB G12)
    | (go_at_call 18; refine (kept_any (C1.out.below G13.out) (HAA.out _ (below_trans B2.out G13.out)) _ (by omega)).mono ?_; clear C1; rintro e W14 ⟨rfl, hB⟩; have G14 := keepH (below_trans G13.out hB); clear hB G13)
    | (go_at_call 18; refine (kept_any (HL2.out.below G14.out) (HBB.out _ (below_trans B2.out G14.out)) _ (by omega)).mono ?_; clear HL2; rintro e W15 ⟨rfl, hB⟩; have G15 := keepH (below_trans G14.out hB); clear hB G14))
  go_ret
  exact ⟨rfl, below_trans B2.out G15.out⟩
end Go.Proofs.Ytnhfpnhmdfgckaa
