/- The document's events: which may follow, what is told: the same as the program's. -/
import Derived.Test.YtmdeodijcmeflaaHEvP
namespace Go.Proofs.Ytmdeodijcmeflaa
open Go.RowKit

def lastEv (es : List Evt) : Nat → Int → Option Evt
  | 0, _ => none
  | k + 1, th => match es[k]? with
    | none => lastEv es k th
    | some e => if e.th = th then some e else lastEv es k th
structure Fol (es : List Evt) (k : Nat) (e : Evt) : Prop where
  st : 0 ≤ e.st
  one : ∀ a : Evt, 0 < k → es[k - 1]? = some a → a.st ≤ e.st ∧ (e.st = a.st → e.ret = true ∧ a.ret = false ∧ a.th = e.th)
  two : ∀ a b : Evt, 1 < k → es[k - 1]? = some a → es[k - 2]? = some b → ¬ (e.st = a.st ∧ e.st = b.st)
  last : match lastEv es k e.th with | none => e.ret = false ∧ e.ix = 0 | some w => (e.ret = true → w.ret = false ∧ w.ix = e.ix) ∧ (e.ret = false → w.ret = true ∧ e.ix = wrap64 (w.ix + 1))
inductive Link (sp : List Sp) : Option Nat → Option Evt → Prop
  | none : Link sp none none
  | some (n : Nat) (s : Sp) (w : Evt) : sp[n]? = some s → w.ix = s.ix → (w.ret = true ↔ s.to ≠ -1) → Link sp (some n) (some w)
structure EvL (es : List Evt) (k : Nat) (sp : List Sp) : Prop where
  i : EvI es k sp
  link : ∀ th, Link sp (lastN sp sp.length th) (lastEv es k th)
  step : ∀ a b : Evt, 1 < k → es[k - 1]? = some a → es[k - 2]? = some b → b.st = a.st → a.ret = true
theorem fol_iff {es : List Evt} {k : Nat} {sp : List Sp} {e : Evt} (h : EvL es k sp) (he : es[k]? = some e) : Fol es k e ↔ (evOk es k e = true ∧ evNext sp e ≠ none) := by
  have hlt := (List.getElem?_eq_some_iff.1 he).1
  have hok : evOk es k e = true ↔ 0 ≤ e.st ∧ ∀ a : Evt, 0 < k → es[k - 1]? = some a → a.st ≤ e.st ∧ (e.st = a.st → e.ret = true ∧ a.ret = false ∧ a.th = e.th) := by
    unfold evOk
    simp only [Bool.and_eq_true, decide_eq_true_eq]
    by_cases hk : k = 0
    · rw [if_pos hk]
      exact ⟨fun h => ⟨h.1, fun a h0 => by omega⟩, fun h => ⟨h.1, rfl⟩⟩
    · rw [if_neg hk]
      obtain ⟨a, ha⟩ : ∃ a, es[k - 1]? = some a := ⟨es[k - 1], List.getElem?_eq_getElem (by omega)⟩
      rw [ha]
      simp only
      have hm : mayB a e = true ↔ a.st ≤ e.st ∧ (e.st = a.st → e.ret = true ∧ a.ret = false ∧ a.th = e.th) := by
        unfold mayB
        by_cases c : e.st = a.st
        · rw [if_pos c]
          simp only [Bool.and_eq_true, decide_eq_true_eq, Bool.not_eq_true']
          exact ⟨fun h => ⟨by omega, fun _ => ⟨h.1.2, h.1.1, h.2.symm⟩⟩, fun h => ⟨⟨(h.2 c).2.1, (h.2 c).1⟩, (h.2 c).2.2.symm⟩⟩
        · rw [if_neg c]
          simp only [decide_eq_true_eq]
          exact ⟨fun h => ⟨by omega, fun e => absurd e c⟩, fun h => by have := h.1; omega⟩
      rw [hm]
      exact ⟨fun h => ⟨h.1, fun b _ hb => by simp at hb; subst hb; exact h.2⟩, fun h => ⟨h.1, h.2 a (by omega) rfl⟩⟩
  have hnx : evNext sp e ≠ none ↔ (match lastEv es k e.th with | none => e.ret = false ∧ e.ix = 0 | some w => (e.ret = true → w.ret = false ∧ w.ix = e.ix) ∧ (e.ret = false → w.ret = true ∧ e.ix = wrap64 (w.ix + 1))) := by
    have hl := h.link e.th
    unfold evNext
    generalize lastN sp sp.length e.th = A at hl
    generalize lastEv es k e.th = B at hl
    cases hl with
    | none =>
      simp only
      by_cases c : e.ret = false ∧ e.ix = 0
      · rw [if_pos c]
        simp [c]
      · rw [if_neg c]
        simp [c]
    | some n s w hs hix hret =>
      simp only [hs]
      rw [hix]
      cases hr : e.ret with
      | true =>
        simp only [true_and, Bool.true_eq_false, false_and, if_false, forall_const, false_implies, and_true]
        have hw : w.ret = false ↔ s.to = -1 := by
          cases hw : w.ret with
          | true => have := hret.1 hw; simp [this]
          | false => simp; by_cases c : s.to = -1; exact c; exact absurd (hret.2 c) (by simp [hw])
        rw [hw]
        by_cases c : s.to = -1 ∧ e.ix = s.ix
        · rw [if_pos c]
          simp [c.1, c.2]
        · rw [if_neg c]
          simp
          intro h1 h2
          exact c ⟨h1, h2.symm⟩
      | false =>
        simp only [Bool.false_eq_true, false_and, if_false, true_and, false_implies, forall_const]
        rw [hret]
        by_cases c : s.to ≠ -1 ∧ e.ix = wrap64 (s.ix + 1)
        · rw [if_pos c]
          simp [c.1, c.2]
        · rw [if_neg c]
          simp
          intro h1 h2
          exact c ⟨h1, h2⟩
  rw [hok, hnx]
  constructor
  · rintro ⟨h1, h2, h3, h4⟩
    exact ⟨⟨h1, h2⟩, h4⟩
  · rintro ⟨⟨h1, h2⟩, h4⟩
    refine ⟨h1, h2, fun a b hk ha hb hc => ?_, h4⟩
    have q := (h2 a (by omega) ha).2 hc.1
    have q2 := h.step a b hk ha hb (by omega)
    rw [q.2.1] at q2
    simp at q2
theorem lastEv_succ {es : List Evt} {k : Nat} {e : Evt} (he : es[k]? = some e) (th : Int) : lastEv es (k + 1) th = if e.th = th then some e else lastEv es k th := by
  rw [lastEv, he]
theorem lastN_snoc (sp : List Sp) (x : Sp) (th : Int) : lastN (sp ++ [x]) (sp ++ [x]).length th = if x.th = th then some sp.length else lastN sp sp.length th := by
  rw [List.length_append]
  show lastN (sp ++ [x]) (sp.length + 1) th = _
  rw [lastN]
  simp only [List.getElem?_append_right (Nat.le_refl _), Nat.sub_self, List.getElem?_cons_zero]
  rw [lastN_append sp x _ (Nat.le_refl _)]
theorem link_call {es : List Evt} {k : Nat} {sp : List Sp} {e : Evt} (h : ∀ th, Link sp (lastN sp sp.length th) (lastEv es k th)) (he : es[k]? = some e) (hr : e.ret = false) (th : Int) : Link (sp ++ [(⟨e.th, e.ix, e.st, -1⟩ : Sp)]) (lastN (sp ++ [(⟨e.th, e.ix, e.st, -1⟩ : Sp)]) (sp ++ [(⟨e.th, e.ix, e.st, -1⟩ : Sp)]).length th) (lastEv es (k + 1) th) := by
  rw [lastN_snoc, lastEv_succ he]
  by_cases c : e.th = th
  · rw [if_pos c, if_pos c]
    exact .some _ ⟨e.th, e.ix, e.st, -1⟩ e (by simp) rfl (by simp [hr])
  · rw [if_neg c, if_neg c]
    have hl := h th
    cases hA : lastN sp sp.length th with
    | none =>
      rw [hA] at hl
      cases hB : lastEv es k th with
      | none => exact .none
      | some w => rw [hB] at hl; cases hl
    | some n =>
      rw [hA] at hl
      cases hB : lastEv es k th with
      | none => rw [hB] at hl; cases hl
      | some w =>
        rw [hB] at hl
        cases hl with
        | some _ s _ hs h1 h2 => exact .some n s w (by rw [List.getElem?_append_left (List.getElem?_eq_some_iff.1 hs).1]; exact hs) h1 h2
theorem link_ret {es : List Evt} {k : Nat} {sp : List Sp} {e : Evt} {n : Nat} {s : Sp} (h : ∀ th, Link sp (lastN sp sp.length th) (lastEv es k th)) (he : es[k]? = some e) (hr : e.ret = true) (h0 : 0 ≤ e.st) (hs : sp[n]? = some s) (hn : lastN sp sp.length e.th = some n) (hth : s.th = e.th) (hix : e.ix = s.ix) (th : Int) :
    Link (sp.set n ⟨s.th, s.ix, s.fr, e.st⟩) (lastN (sp.set n ⟨s.th, s.ix, s.fr, e.st⟩) (sp.set n ⟨s.th, s.ix, s.fr, e.st⟩).length th) (lastEv es (k + 1) th) := by
  have hln := (List.getElem?_eq_some_iff.1 hs).1
  rw [List.length_set, lastN_set sp n s ⟨s.th, s.ix, s.fr, e.st⟩ hs rfl, lastEv_succ he]
  by_cases c : e.th = th
  · subst c
    rw [if_pos rfl, hn]
    refine .some n ⟨s.th, s.ix, s.fr, e.st⟩ e (by rw [List.getElem?_set, if_pos rfl, if_pos hln]) hix ?_
    simp only [hr, true_iff, ne_eq]
    omega
  · rw [if_neg c]
    have hl := h th
    cases hA : lastN sp sp.length th with
    | none =>
      rw [hA] at hl
      cases hB : lastEv es k th with
      | none => exact .none
      | some w => rw [hB] at hl; cases hl
    | some m =>
      rw [hA] at hl
      cases hB : lastEv es k th with
      | none => rw [hB] at hl; cases hl
      | some w =>
        rw [hB] at hl
        cases hl with
        | some _ t _ ht h1 h2 =>
          obtain ⟨_, ⟨t', ht', hth'⟩, _⟩ := lastN_some hA
          have hne : n ≠ m := fun e2 => by
            subst e2
            rw [hs] at ht'
            simp at ht'
            subst ht'
            exact c (by rw [← hth, hth'])
          exact .some m t w (by rw [List.getElem?_set, if_neg hne]; exact ht) h1 h2
theorem EvL.next {es : List Evt} {k : Nat} {sp sp' : List Sp} {e : Evt} (h : EvL es k sp) (hk : k < 1000000000000000) (he : es[k]? = some e) (ho : evOk es k e = true) (hn : evNext sp e = some sp') : EvL es (k + 1) sp' := by
  have hI := h.i.step hk he ho hn
  have h0 : 0 ≤ e.st := by
    unfold evOk at ho
    simp at ho
    exact ho.1
  refine ⟨hI, ?_, fun a b h1 ha hb hab => ?_⟩
  · unfold evNext at hn
    cases hl : lastN sp sp.length e.th with
    | none =>
      rw [hl] at hn
      simp only at hn
      by_cases c : e.ret = false ∧ e.ix = 0
      · rw [if_pos c] at hn
        simp at hn
        subst hn
        exact link_call h.link he c.1
      · rw [if_neg c] at hn
        simp at hn
    | some n =>
      rw [hl] at hn
      obtain ⟨p1, ⟨s, ps, pth⟩, p3, p4⟩ := lastN_some hl
      simp only [ps] at hn
      by_cases c : e.ret = true ∧ s.to = -1 ∧ e.ix = s.ix
      · rw [if_pos c] at hn
        simp at hn
        subst hn
        exact link_ret h.link he c.1 h0 ps hl pth c.2.2
      · rw [if_neg c] at hn
        by_cases c2 : e.ret = false ∧ s.to ≠ -1 ∧ e.ix = wrap64 (s.ix + 1)
        · rw [if_pos c2] at hn
          simp at hn
          subst hn
          exact link_call h.link he c2.1
        · rw [if_neg c2] at hn
          simp at hn
  · simp at ha
    rw [he] at ha
    simp at ha
    subst ha
    rw [show k + 1 - 2 = k - 1 by omega] at hb
    have ho2 := ho
    unfold evOk at ho2
    simp only [Bool.and_eq_true] at ho2
    have q := ho2.2
    rw [if_neg (by omega), hb] at q
    simp only [mayB] at q
    rw [if_pos hab.symm] at q
    simp at q
    exact q.1.2
theorem evl_inv {es : List Evt} (k : Nat) (hk : k < 1000000000000000) (sp : List Sp) (h : runEv es k = some sp) : EvL es k sp := by
  induction k generalizing sp with
  | zero =>
    simp [runEv] at h
    subst h
    exact ⟨ev_inv 0 hk [] rfl, fun _ => .none, fun a b h0 => by omega⟩
  | succ k ih =>
    rw [runEv] at h
    cases h1 : runEv es k with
    | none => simp [h1] at h
    | some sp0 =>
      cases h2 : es[k]? with
      | none => simp [h1, h2] at h
      | some e =>
        simp only [h1, h2] at h
        by_cases c : evOk es k e = true
        · rw [if_pos c] at h
          exact (ih (by omega) sp0 h1).next (by omega) h2 c h
        · rw [if_neg c] at h
          simp at h

def setN (sp : List Sp) (e : Evt) : Nat → List Sp
  | 0 => sp
  | j + 1 => match sp[j]? with
    | none => setN sp e j
    | some t => if t.th = e.th ∧ t.ix = e.ix then (setN sp e j).set j ⟨t.th, t.ix, t.fr, e.st⟩ else setN sp e j
theorem cntN_mono (sp : List Sp) (th : Int) (a b : Nat) (h : a ≤ b) : cntN sp a th ≤ cntN sp b th := by
  induction b with
  | zero => obtain rfl : a = 0 := by omega
            exact Nat.le_refl _
  | succ b ih =>
    by_cases c : a = b + 1
    · subst c; exact Nat.le_refl _
    · have := ih (by omega)
      rw [show cntN sp (b + 1) th = (match sp[b]? with | none => cntN sp b th | some s => if s.th = th then cntN sp b th + 1 else cntN sp b th) from rfl]
      split
      · exact this
      · split
        · exact Nat.le_succ_of_le this
        · exact this
theorem cntN_lt {sp : List Sp} {th : Int} {i n : Nat} {t : Sp} (h : i < n) (ht : sp[i]? = some t) (hth : t.th = th) : cntN sp i th < cntN sp n th := by
  have := cntN_mono sp th (i + 1) n (by omega)
  rw [cntN, ht] at this
  simp only [hth, if_true] at this
  omega
theorem setN_get (sp : List Sp) (e : Evt) (j : Nat) (i : Nat) (hi : j ≤ i) : (setN sp e j)[i]? = sp[i]? := by
  induction j with
  | zero => rfl
  | succ j ih =>
    rw [setN]
    split
    · exact ih (by omega)
    · split
      · rw [List.getElem?_set, if_neg (by omega)]
        exact ih (by omega)
      · exact ih (by omega)
theorem setN_length (sp : List Sp) (e : Evt) (j : Nat) : (setN sp e j).length = sp.length := by
  induction j with
  | zero => rfl
  | succ j ih =>
    rw [setN]
    split
    · exact ih
    · split
      · rw [List.length_set]; exact ih
      · exact ih
theorem setN_eq {sp : List Sp} {e : Evt} {n : Nat} {s : Sp} (hR : RightP sp) (hn : lastN sp sp.length e.th = some n) (hs : sp[n]? = some s) (hix : e.ix = s.ix) (j : Nat) : setN sp e j = if n < j then sp.set n ⟨s.th, s.ix, s.fr, e.st⟩ else sp := by
  obtain ⟨p1, ⟨s', ps, pth⟩, p3, p4⟩ := lastN_some hn
  rw [hs] at ps
  simp at ps
  subst ps
  induction j with
  | zero => rw [if_neg (by omega)]; rfl
  | succ j ih =>
    rw [setN, ih]
    by_cases c : j = n
    · subst c
      rw [hs, if_neg (Nat.lt_irrefl _), if_pos (by omega)]
      simp only
      rw [if_pos ⟨pth, hix.symm⟩]
    · have key : ∀ t, sp[j]? = some t → ¬ (t.th = e.th ∧ t.ix = e.ix) := fun t ht hh => by
        have hj := (List.getElem?_eq_some_iff.1 ht).1
        by_cases c2 : n < j
        · exact p3 j t c2 hj ht hh.1
        · have o1 := (hR j t hj ht).ix
          have o2 := (hR n s p1 hs).ix
          have := cntN_lt (sp := sp) (th := e.th) (i := j) (n := n) (by omega) ht hh.1
          rw [hh.1] at o1
          rw [pth] at o2
          have := hh.2
          omega
      have hif : (if n < j then sp.set n ⟨s.th, s.ix, s.fr, e.st⟩ else sp) = (if n < j + 1 then sp.set n ⟨s.th, s.ix, s.fr, e.st⟩ else sp) := by
        by_cases c2 : n < j
        · rw [if_pos c2, if_pos (by omega)]
        · rw [if_neg c2, if_neg (by omega)]
      split
      · exact hif
      · rename_i t ht
        rw [if_neg (key t ht)]
        exact hif
end Go.Proofs.Ytmdeodijcmeflaa
