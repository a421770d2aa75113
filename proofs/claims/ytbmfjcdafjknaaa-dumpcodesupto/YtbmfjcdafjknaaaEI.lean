/- DumpPatches, walked. -/
import Derived.Test.YtbmfjcdafjknaaaEA
import Derived.Test.YtbmfjcdafjknaaaEF
import Derived.Test.YtbmfjcdafjknaaaEG
import Derived.Test.YtbmfjcdafjknaaaEH
import Derived.Test.YtbmfjcdafjknaaaEt
import Derived.Test.YtbmfjcdafjknaaaEe
namespace Go.Proofs.Ytbmfjcdafjknaaa
open Go.RowKit Go.Joins
set_option linter.unusedVariables false

def pT (l : List Ch) : Nat → Bool := fun key => l.any (fun x => x.k == key)
/-- What Patch tells: pairs, or none and an error. -/
def pl (a : List (Nat × Nat)) (l : List Ch) : List (Nat × Nat) := if (riseB a && rightC l) && l.all (fitsR a) then ro (pT l) a l else []
def pe (a : List (Nat × Nat)) (l : List Ch) : Int := if riseB a && rightC l then (if l.all (fitsR a) then 0 else 4) else 52
theorem ro_mem (T : Nat → Bool) (a : List (Nat × Nat)) (l : List Ch) : ∀ y ∈ ro T a l, y ∈ a ∨ ∃ c ∈ l, y = (c.k, c.new) := by
  have gen : ∀ n a l, a.length + l.length ≤ n → ∀ y ∈ ro T a l, y ∈ a ∨ ∃ c ∈ l, y = (c.k, c.new) := by
    intro n
    have hh : ∀ (c : Ch) (y : Nat × Nat), y ∈ hasL c → y = (c.k, c.new) := fun c y h => by unfold hasL at h; split at h <;> simp_all
    have ht : ∀ x y : Nat × Nat, y ∈ (if T x.1 then [] else [x]) → y = x := fun x y h => by split at h <;> simp_all
    induction n with
    | zero =>
      intro a l h
      have ha : a = [] := List.length_eq_zero_iff.1 (by omega)
      have hl : l = [] := List.length_eq_zero_iff.1 (by omega)
      subst ha hl
      rw [ro_nil]; simp
    | succ n ih =>
      intro a l h y hy
      cases a with
      | nil =>
        cases l with
        | nil => rw [ro_nil] at hy; simp at hy
        | cons c l =>
          rw [ro_l, List.mem_append] at hy
          rcases hy with q | q
          · exact .inr ⟨c, by simp, hh c y q⟩
          · rcases ih [] l (by simp at h ⊢; omega) y q with r | ⟨d, hd, r⟩
            · exact .inl r
            · exact .inr ⟨d, by simp [hd], r⟩
      | cons x a =>
        cases l with
        | nil =>
          rw [ro_a, List.mem_append] at hy
          rcases hy with q | q
          · exact .inl (by rw [ht x y q]; simp)
          · rcases ih a [] (by simp at h ⊢; omega) y q with r | ⟨d, hd, r⟩
            · exact .inl (by simp [r])
            · simp at hd
        | cons c l =>
          by_cases hc : x.1 < c.k
          · rw [ro_lt T hc, List.mem_append] at hy
            rcases hy with q | q
            · exact .inl (by rw [ht x y q]; simp)
            · rcases ih a (c :: l) (by simp at h ⊢; omega) y q with r | ⟨d, hd, r⟩
              · exact .inl (by simp [r])
              · exact .inr ⟨d, hd, r⟩
          · rw [ro_ge T hc, List.mem_append] at hy
            rcases hy with q | q
            · exact .inr ⟨c, by simp, hh c y q⟩
            · rcases ih (x :: a) l (by simp at h ⊢; omega) y q with r | ⟨d, hd, r⟩
              · exact .inl r
              · exact .inr ⟨d, by simp [hd], r⟩
  exact gen _ a l (Nat.le_refl _)
theorem pl_small {a : List (Nat × Nat)} {l : List Ch} (ha : small64 a) (hl : ∀ c ∈ l, c.small) : small64 (pl a l) := by
  unfold pl
  split
  · intro y hy
    rcases ro_mem _ _ _ y hy with h | ⟨c, hc, rfl⟩
    · exact ha y h
    · exact ⟨(hl c hc).1, (hl c hc).2.2⟩
  · intro y hy; simp at hy
theorem pl_len (a : List (Nat × Nat)) (l : List Ch) (ha : a.length ≤ 10000000) (hl : l.length ≤ 10000000) : (pl a l).length ≤ 17592186044416 := by
  unfold pl
  split
  · have := ro_len (pT l) a l
    omega
  · simp
theorem patch_is {a : List (Nat × Nat)} {l : List Ch} (ra : riseB a = true) (rl : rightC l = true) : patchM (mrg (fun y : Ch => y.k) a l) = if l.all (fitsR a) then some (ro (pT l) a l) else none := by
  obtain ⟨h1, h2⟩ := rightC_pair rl
  refine patch_doc (pT l) _ a l (Nat.le_refl _) (riseB_pair ra) h1 h2 (fun x _ => ?_)
  unfold pT
  rw [List.any_eq_true]
  simp
theorem pl_row {W : World} {B : Nat} {v : Value} {l : List (Nat × Nat)} (h : W.ownsRow B 71 2 v l.length (prRow l)) (hs : small64 l) : ∃ p c, v = .slice p l.length c ∧ PairsAt W p l := by
  obtain ⟨p, c, e, hat, _⟩ := PRow.slice (⟨h, hs⟩ : PRow W B v l)
  exact ⟨p, c, e, hat⟩
theorem dp_any {W : World} {pa pb : Option Addr} {la : List (Nat × Nat)} {lb : List Ch} (HA : PairsAt W pa la) (HB : ChAt W pb lb) (HS : ∀ c ∈ lb, c.small) {ca cb : Nat} (hca : la.length ≤ ca ∧ ca ≤ 9223372036854775807) (hcb : lb.length ≤ cb ∧ cb ≤ 9223372036854775807) (hla : la.length ≤ 10000000) (hlb : lb.length ≤ 10000000) :
    Calls Try.prog 30 #[.slice pa la.length ca, .slice pb lb.length cb] W fun e W' => (∃ p c, e = .returned (.tuple #[.slice p (pl la lb).length c, .int .i64 (pe la lb)]) ∧ PairsAt W' p (pl la lb)) ∧ Below W.heap.size W W' := by
  by_cases hr : riseB la = true ∧ rightC lb = true
  · have hp := patch_is hr.1 hr.2
    have hs := pl_small HA.small HS
    refine (patch_yes HA HB hca hcb hla hlb hr.1 hr.2).mono ?_
    rintro e W1 ⟨h, hb⟩
    rw [hp] at h
    by_cases hf : lb.all (fitsR la) = true
    · have e1 : pl la lb = ro (pT lb) la lb := by simp only [pl, hr.1, hr.2, hf, Bool.and_self, if_true]
      have e2 : pe la lb = 0 := by simp only [pe, hr.1, hr.2, hf, Bool.and_self, if_true]
      rw [e1] at hs
      rw [e1, e2]
      rw [if_pos hf] at h
      rcases h with ⟨v, out, ho, rfl, r⟩ | ⟨ho, _⟩
      · injection ho with ho
        subst ho
        obtain ⟨p, c, rfl, hat⟩ := pl_row r hs
        exact ⟨⟨p, c, rfl, hat⟩, hb⟩
      · cases ho
    · have e1 : pl la lb = [] := by simp [pl, hf]
      have e2 : pe la lb = 4 := by simp [pe, hr.1, hr.2, hf]
      rw [e1, e2]
      rw [if_neg hf] at h
      rcases h with ⟨v, out, ho, _⟩ | ⟨_, rfl⟩
      · cases ho
      · exact ⟨⟨none, 0, rfl, .inl rfl⟩, hb⟩
  · have q : (riseB la && rightC lb) = false := by
      cases h1 : riseB la <;> cases h2 : rightC lb <;> simp_all
    have e1 : pl la lb = [] := by simp [pl, q]
    have e2 : pe la lb = 52 := by simp [pe, q]
    rw [e1, e2]
    refine (patch_no HA HB ca cb hla hlb hr).mono ?_
    rintro e W1 ⟨rfl, hb⟩
    exact ⟨⟨none, 0, rfl, .inl rfl⟩, hb⟩
theorem ep_any {W : World} {pa pb : Option Addr} {la : List (Nat × Nat)} {lb : List Ch} (HA : PairsAt W pa la) (HB : ChAt W pb lb) (HS : ∀ c ∈ lb, c.small) (ca cb : Nat) (hla : la.length ≤ 10000000) (hlb : lb.length ≤ 10000000) :
    Calls Try.prog 31 #[.slice pa la.length ca, .slice pb lb.length cb] W fun e W' => (∃ p c, e = .returned (.tuple #[.slice p (pl la lb).length c, .int .i64 (pe la lb)]) ∧ PairsAt W' p (pl la lb)) ∧ Below W.heap.size W W' := by
  by_cases hr : riseB la = true ∧ rightC lb = true
  · have hs := pl_small HA.small HS
    by_cases hf : lb.all (fitsR la) = true
    · have e1 : pl la lb = ro (pT lb) la lb := by simp only [pl, hr.1, hr.2, hf, Bool.and_self, if_true]
      have e2 : pe la lb = 0 := by simp only [pe, hr.1, hr.2, hf, Bool.and_self, if_true]
      rw [e1] at hs
      rw [e1, e2]
      refine (e_patch_yes HA HB ca cb hla hlb hr.1 hr.2 hf (pT lb) (fun _ => rfl)).mono ?_
      rintro e W1 ⟨⟨v, rfl, r⟩, hb⟩
      obtain ⟨p, c, rfl, hat⟩ := pl_row r hs
      exact ⟨⟨p, c, rfl, hat⟩, hb⟩
    · have e1 : pl la lb = [] := by simp [pl, hf]
      have e2 : pe la lb = 4 := by simp [pe, hr.1, hr.2, hf]
      rw [e1, e2]
      refine (e_patch_none HA HB ca cb hla hlb hr.1 hr.2 hf).mono ?_
      rintro e W1 ⟨rfl, hb⟩
      exact ⟨⟨none, 0, rfl, .inl rfl⟩, hb⟩
  · have q : (riseB la && rightC lb) = false := by
      cases h1 : riseB la <;> cases h2 : rightC lb <;> simp_all
    have e1 : pl la lb = [] := by simp [pl, q]
    have e2 : pe la lb = 52 := by simp [pe, q]
    rw [e1, e2]
    refine (e_patch_form HA HB ca cb hla hlb hr).mono ?_
    rintro e W1 ⟨rfl, hb⟩
    exact ⟨⟨none, 0, rfl, .inl rfl⟩, hb⟩
theorem caps_lent {W : World} {B g cap : Nat} {l : List (Nat × Nat)} (h : LentAt W B g cap l) : l.length ≤ cap ∧ cap ≤ 9223372036854775807 := by
  obtain ⟨_, _, h1, h2⟩ := h.mark
  unfold maxLen at h2
  exact ⟨by omega, h2⟩
theorem row_chC {W : World} {B : Nat} {T : TypeId} {v : Value} {l : List Ch} (h : W.ownsRow B T 5 v l.length (chRow l)) : ∃ p c, v = .slice p l.length c ∧ ChAt W p l ∧ (l.length ≤ c ∧ c ≤ 9223372036854775807) := by
  obtain ⟨p, c, hv, hat, hc⟩ := row_ch h
  refine ⟨p, c, hv, hat, hc, ?_⟩
  rcases h.2 with ⟨z, _⟩ | ⟨g', cap', cur, z, _, _, hcap, hmax, _⟩
  · rw [hv] at z
    injection z with z1 z2 z3
    omega
  · rw [hv] at z
    injection z with z1 z2 z3
    unfold maxLen at hmax
    omega
set_option maxRecDepth 100000 in
set_option maxHeartbeats 4000000 in
theorem patches_walk {W : World} {pa pb : Option Addr} {la : List (Nat × Nat)} {lb : List Ch} (HA : PairsAt W pa la) (HB : ChAt W pb lb) (HS : ∀ c ∈ lb, c.small) {ca cb : Nat} (hla : la.length ≤ 1048576) (hlb : lb.length ≤ 1048576) :
    Calls Try.prog 5 #[.slice pa la.length ca, .slice pb lb.length cb] W fun e W' => e = .returned (.bool true) ∧ Below W.heap.size W W' := by
  have HAA : Hid (∀ X, Below W.heap.size W X → PairsAt X pa la) := keepH (fun X h => HA.chgF (below_chgE h) (fun _ _ _ x => x))
  have HBB : Hid (∀ X, Below W.heap.size W X → ChAt X pb lb) := keepH (fun X h => HB.below h)
  have H1 := keepH (lent_any HA ca (by omega))
  have H2 := keepH (fun X h => back_any (HBB.out X h) cb (by omega))
  have HdP := keepH (fun X (x : Option Addr) (y : Option Addr) c c' (h1 : PairsAt X x la) (h2 : ChAt X y lb) k1 k2 => dp_any (ca := c) (cb := c') h1 h2 HS k1 k2 (by omega) (by omega))
  have HeP := keepH (fun X h => ep_any (HAA.out X h) (HBB.out X h) HS ca cb (by omega) (by omega))
  have hn := pl_len la lb (by omega) (by omega)
  have HSS := keepH HS
  obtain ⟨o, ho⟩ : ∃ o, o = pl la lb := ⟨_, rfl⟩
  obtain ⟨e1, he1⟩ : ∃ e, e = pe la lb := ⟨_, rfl⟩
  rw [← ho] at HdP HeP hn
  rw [← he1] at HdP HeP
  clear HA HB HS ho he1
  go_enter Try.func5, Try.ntmps5
  go_wp2_with (first
    | (go_at_call 9; refine H1.out.mono ?_; clear H1; rintro e W1 ⟨⟨g1, k1, rfl, hL⟩, hB⟩; have HL1 := keepH hL; have B1 := keepH hB; clear hL hB)
    | (go_at_call 29; refine (H2.out _ B1.out).mono ?_; clear H2; rintro e W2 ⟨⟨v2, rfl, r2⟩, hB⟩; obtain ⟨p2, c2, rfl, hat, hk2⟩ := row_chC r2; have C2 := keepH hat; have C1 := keepH (HL1.out.below hB); have B2 := keepH (below_trans B1.out hB); have hk1 := caps_lent C1.out; clear hB HL1 r2 hat)
    | (go_at_call 30; refine (HdP.out _ _ _ _ _ C1.out.pairs C2.out hk1 hk2).mono ?_; clear HdP; rintro e W3 ⟨⟨p3, c3, rfl, hat⟩, hB⟩; have D3 := keepH hat; have B3 := keepH hB; clear hat hB)
    | (go_at_call 31; refine (HeP.out _ (below_trans B2.out B3.out)).mono ?_; clear HeP; rintro e W4 ⟨⟨p4, c4, rfl, hat⟩, hB⟩; have D4 := keepH hat; have E3 := keepH (D3.out.chgF (below_chgE hB) (fun _ _ _ x => x)); have B4 := keepH (below_trans B3.out hB); clear hat hB D3 B3)
    | (go_at_call 15; refine (live_27 _).mono ?_; rintro e W5 ⟨rfl, hB⟩; have G5 := keepH hB; clear hB)
    | (go_at_call 17; refine (r_pairs _ _ _ _ o o _ (E3.out.chgF (below_chgE G5.out) (fun _ _ _ x => x)) (D4.out.chgF (below_chgE G5.out) (fun _ _ _ x => x)) hn hn).mono ?_; rintro e W6 ⟨rfl, hC⟩; have G6 := keepH (below_trans (below_trans B4.out G5.out) ⟨hC.os, hC.tape, hC.output, hC.size, fun k hk => hC.block k hk (fun x => x)⟩); clear hC; rw [decide_eq_true (rfl : o = o)])
    | (go_at_call 18; refine (kept_any (C1.out.below G6.out) (HAA.out _ (below_trans B2.out G6.out)) _ (by omega)).mono ?_; clear C1; rintro e W7 ⟨rfl, hB⟩; have G7 := keepH (below_trans G6.out hB); clear hB)
    | (go_at_call 27; refine (turn_any (C2.out.below G7.out) _ (by omega)).mono ?_; rintro e W8 ⟨⟨v8, rfl, r8⟩, hB⟩; obtain ⟨p8, c8, rfl, hat, _⟩ := row_ch r8; have T8 := keepH hat; have G8 := keepH (below_trans G7.out hB); clear r8 hat hB)
    | (go_at_call 26; refine (same_chr T8.out (HBB.out _ (below_trans B2.out G8.out)) HSS.out _ _ (by omega)).mono ?_; clear T8; rintro e W9 ⟨rfl, hB⟩; have G9 := keepH (below_trans G8.out hB); clear hB))
  go_ret
  exact ⟨rfl, below_trans B2.out G9.out⟩
end Go.Proofs.Ytbmfjcdafjknaaa
