/- What events tell is right: their spans, event by event. -/
import Derived.Test.YtfohpbpekdcneaaDoorHSpansP
namespace Go.Proofs.YtfohpbpekdcneaaDoor
open Go.RowKit

theorem cntN_append (sp : List Sp) (x : Sp) (k : Nat) (hk : k ≤ sp.length) (th : Int) : cntN (sp ++ [x]) k th = cntN sp k th := by
  induction k with
  | zero => rfl
  | succ k ih => rw [cntN, cntN, List.getElem?_append_left (by omega), ih (by omega)]
theorem cntN_set (sp : List Sp) (n : Nat) (s s' : Sp) (hs : sp[n]? = some s) (ht : s'.th = s.th) (k : Nat) (th : Int) : cntN (sp.set n s') k th = cntN sp k th := by
  induction k with
  | zero => rfl
  | succ k ih =>
    rw [cntN, cntN, ih, List.getElem?_set]
    by_cases e : n = k
    · subst e
      have hl := (List.getElem?_eq_some_iff.1 hs).1
      rw [if_pos rfl, if_pos hl, hs]
      simp only [ht]
    · rw [if_neg e]
theorem OkAt.append {sp : List Sp} {x s : Sp} {i : Nat} (hi : i ≤ sp.length) (h : OkAt sp i s) : OkAt (sp ++ [x]) i s :=
  ⟨h.fr, h.to, by rw [cntN_append sp x i hi]; exact h.ix, fun j t hj ht => h.same j t hj (by rwa [List.getElem?_append_left (by omega)] at ht), fun j t hj ht => h.apart j t hj (by rwa [List.getElem?_append_left (by omega)] at ht)⟩
theorem RightP.snoc {sp : List Sp} {x : Sp} (h : RightP sp) (ho : OkAt sp sp.length x) : RightP (sp ++ [x]) := fun i s hi hs => by
  by_cases c : i < sp.length
  · rw [List.getElem?_append_left c] at hs
    exact (h i s c hs).append (by omega)
  · simp at hi
    obtain rfl : i = sp.length := by omega
    simp at hs
    subst hs
    exact ho.append (Nat.le_refl _)
theorem RightP.setTo {sp : List Sp} {n : Nat} {s : Sp} {st : Int} (h : RightP sp) (hs : sp[n]? = some s) (hlast : ∀ (i : Nat) (t : Sp), n < i → sp[i]? = some t → t.th ≠ s.th) (hst : s.fr ≤ st) (hoth : ∀ (i : Nat) (t : Sp), sp[i]? = some t → t.th ≠ s.th → t.fr < st ∧ t.to < st) :
    RightP (sp.set n ⟨s.th, s.ix, s.fr, st⟩) := fun i u hi hu => by
  have hn := (List.getElem?_eq_some_iff.1 hs).1
  rw [List.length_set] at hi
  have get : ∀ j t, j ≠ n → (sp.set n ⟨s.th, s.ix, s.fr, st⟩)[j]? = some t → sp[j]? = some t := fun j t hj ht => by
    rw [List.getElem?_set, if_neg (fun e => hj e.symm)] at ht
    exact ht
  by_cases c : i = n
  · subst c
    rw [List.getElem?_set, if_pos rfl, if_pos hn] at hu
    simp at hu
    subst hu
    have o := h i s hn hs
    refine ⟨o.fr, .inr hst, by rw [cntN_set sp i s ⟨s.th, s.ix, s.fr, st⟩ hs rfl]; exact o.ix, fun j t hj ht => o.same j t hj (get j t (by omega) ht), fun j t hj ht hne => ?_⟩
    have ht' := get j t (by omega) ht
    obtain ⟨p1, p2, p3, p4⟩ := o.apart j t hj ht' hne
    obtain ⟨q1, q2⟩ := hoth j t ht' hne
    refine ⟨p1, ?_, p3, .inl ?_⟩
    · show t.fr ≠ st; omega
    · show t.to ≠ st; omega
  · have hu' := get i u c hu
    have o := h i u hi hu'
    refine ⟨o.fr, o.to, by rw [cntN_set sp n s ⟨s.th, s.ix, s.fr, st⟩ hs rfl]; exact o.ix, fun j t hj ht hth => ?_, fun j t hj ht hne => ?_⟩
    · by_cases e : j = n
      · subst e
        rw [List.getElem?_set, if_pos rfl, if_pos hn] at ht
        simp at ht
        subst ht
        exact absurd hth.symm (hlast i u hj hu')
      · exact o.same j t hj (get j t e ht) hth
    · by_cases e : j = n
      · subst e
        rw [List.getElem?_set, if_pos rfl, if_pos hn] at ht
        simp at ht
        subst ht
        obtain ⟨p1, p2, p3, p4⟩ := o.apart j s hj hs hne
        obtain ⟨q1, q2⟩ := hoth i u hu' (fun e => hne e.symm)
        refine ⟨p1, p2, ?_, .inl ?_⟩
        · show u.fr ≠ st; omega
        · show st ≠ u.to; omega
      · exact o.apart j t hj (get j t e ht) hne

def callsN (es : List Evt) : Nat → Nat
  | 0 => 0
  | k + 1 => match es[k]? with
    | none => callsN es k
    | some e => if e.ret = true then callsN es k else callsN es k + 1
theorem callsN_le (es : List Evt) (k : Nat) : callsN es k ≤ k := by
  induction k with
  | zero => simp [callsN]
  | succ k ih =>
    rw [callsN]
    split
    · omega
    · split <;> omega
structure EvI (es : List Evt) (k : Nat) (sp : List Sp) : Prop where
  right : RightP sp
  past : ∀ e : Evt, 0 < k → es[k - 1]? = some e → 0 ≤ e.st ∧ ∀ (i : Nat) (t : Sp), sp[i]? = some t → t.fr ≤ e.st ∧ t.to ≤ e.st ∧ (t.th ≠ e.th → t.fr < e.st ∧ t.to < e.st)
  none : k = 0 → sp = []
  count : sp.length = callsN es k
theorem EvI.ahead {es : List Evt} {k : Nat} {sp : List Sp} {e : Evt} (h : EvI es k sp) (he : es[k]? = some e) (ho : evOk es k e = true) :
    0 ≤ e.st ∧ ∀ (i : Nat) (t : Sp), sp[i]? = some t → t.fr ≤ e.st ∧ t.to ≤ e.st ∧ (t.th ≠ e.th → t.fr < e.st ∧ t.to < e.st) ∧ (e.ret = false → t.fr < e.st ∧ t.to < e.st) := by
  unfold evOk at ho
  simp only [Bool.and_eq_true, decide_eq_true_eq] at ho
  obtain ⟨h0, h1⟩ := ho
  refine ⟨h0, fun i t ht => ?_⟩
  by_cases hk : k = 0
  · rw [h.none hk] at ht
    simp at ht
  · rw [if_neg hk] at h1
    have hlt := (List.getElem?_eq_some_iff.1 he).1
    obtain ⟨a, ha⟩ : ∃ a, es[k - 1]? = some a := ⟨es[k - 1], List.getElem?_eq_getElem (by omega)⟩
    rw [ha] at h1
    simp only at h1
    obtain ⟨_, hp⟩ := h.past a (by omega) ha
    obtain ⟨p1, p2, p3⟩ := hp i t ht
    unfold mayB at h1
    by_cases c : e.st = a.st
    · rw [if_pos c] at h1
      simp only [Bool.and_eq_true, decide_eq_true_eq, Bool.not_eq_true'] at h1
      obtain ⟨⟨_, h3⟩, h4⟩ := h1
      refine ⟨by omega, by omega, fun hne => ?_, fun hf => ?_⟩
      · obtain ⟨q1, q2⟩ := p3 (by rw [← h4]; exact hne)
        omega
      · rw [hf] at h3
        simp at h3
    · rw [if_neg c] at h1
      simp at h1
      refine ⟨by omega, by omega, fun _ => by omega, fun _ => by omega⟩
theorem callsN_succ {es : List Evt} {k : Nat} {e : Evt} (he : es[k]? = some e) : callsN es (k + 1) = if e.ret = true then callsN es k else callsN es k + 1 := by
  rw [callsN, he]
theorem EvI.call {es : List Evt} {k : Nat} {sp : List Sp} {e : Evt} (h : EvI es k sp) (he : es[k]? = some e) (ho : evOk es k e = true) (hr : e.ret = false)
    (hix : e.ix = (cntN sp sp.length e.th : Int)) (hsame : ∀ (i : Nat) (t : Sp), sp[i]? = some t → t.th = e.th → 0 ≤ t.to) : EvI es (k + 1) (sp ++ [⟨e.th, e.ix, e.st, -1⟩]) := by
  obtain ⟨h0, h1⟩ := h.ahead he ho
  have hfr : ∀ i t, i < sp.length → sp[i]? = some t → 0 ≤ t.fr := fun i t hi ht => (h.right i t hi ht).fr
  refine ⟨h.right.snoc ⟨h0, .inl rfl, hix, fun i t hi ht hth => ⟨hsame i t ht hth, ((h1 i t ht).2.2.2 hr).2⟩, fun i t hi ht hne => ?_⟩, fun a _ ha => ?_, fun e => by omega, ?_⟩
  · obtain ⟨q1, q2⟩ := (h1 i t ht).2.2.2 hr
    have q3 := hfr i t hi ht
    refine ⟨?_, ?_, ?_, ?_⟩
    · show t.fr ≠ e.st; omega
    · show t.fr ≠ -1; omega
    · show e.st ≠ t.to; omega
    · by_cases c : t.to = -1
      · exact .inr c
      · exact .inl c
  · simp at ha
    rw [he] at ha
    simp at ha
    subst ha
    refine ⟨h0, fun i t ht => ?_⟩
    by_cases c : i < sp.length
    · rw [List.getElem?_append_left c] at ht
      obtain ⟨q1, q2, q3, _⟩ := h1 i t ht
      exact ⟨q1, q2, q3⟩
    · have hi2 := (List.getElem?_eq_some_iff.1 ht).1
      simp at hi2
      obtain rfl : i = sp.length := by omega
      simp at ht
      subst ht
      refine ⟨Int.le_refl _, ?_, fun h => absurd rfl h⟩
      show -1 ≤ e.st
      omega
  · rw [callsN_succ he, if_neg (by simp [hr]), List.length_append, h.count]
    rfl
theorem EvI.ret {es : List Evt} {k : Nat} {sp : List Sp} {e : Evt} {n : Nat} {s : Sp} (h : EvI es k sp) (he : es[k]? = some e) (ho : evOk es k e = true) (hr : e.ret = true)
    (hs : sp[n]? = some s) (hth : s.th = e.th) (hlast : ∀ (i : Nat) (t : Sp), n < i → sp[i]? = some t → t.th ≠ s.th) : EvI es (k + 1) (sp.set n ⟨s.th, s.ix, s.fr, e.st⟩) := by
  obtain ⟨h0, h1⟩ := h.ahead he ho
  have hn := (List.getElem?_eq_some_iff.1 hs).1
  refine ⟨h.right.setTo hs hlast (h1 n s hs).1 (fun i t ht hne => (h1 i t ht).2.2.1 (by rw [← hth]; exact hne)), fun a _ ha => ?_, fun e => by omega, ?_⟩
  · simp at ha
    rw [he] at ha
    simp at ha
    subst ha
    refine ⟨h0, fun i t ht => ?_⟩
    rw [List.getElem?_set] at ht
    by_cases c : n = i
    · subst c
      rw [if_pos rfl, if_pos hn] at ht
      simp at ht
      subst ht
      exact ⟨(h1 n s hs).1, Int.le_refl _, fun hh => absurd hth hh⟩
    · rw [if_neg c] at ht
      obtain ⟨q1, q2, q3, _⟩ := h1 i t ht
      exact ⟨q1, q2, q3⟩
  · rw [callsN_succ he, if_pos hr, List.length_set, h.count]
theorem EvI.step {es : List Evt} {k : Nat} {sp sp' : List Sp} {e : Evt} (h : EvI es k sp) (hk : k < 1000000000000000) (he : es[k]? = some e) (ho : evOk es k e = true) (hn : evNext sp e = some sp') : EvI es (k + 1) sp' := by
  have hlen : sp.length ≤ k := by rw [h.count]; exact callsN_le es k
  unfold evNext at hn
  cases hl : lastN sp sp.length e.th with
  | none =>
    rw [hl] at hn
    simp only at hn
    obtain ⟨l1, l2⟩ := lastN_none hl
    by_cases c : e.ret = false ∧ e.ix = 0
    · rw [if_pos c] at hn
      simp at hn
      subst hn
      exact h.call he ho c.1 (by rw [l2]; exact c.2) (fun i t ht hth => absurd hth (l1 i t (List.getElem?_eq_some_iff.1 ht).1 ht))
    · rw [if_neg c] at hn
      simp at hn
  | some n =>
    rw [hl] at hn
    obtain ⟨p1, ⟨s, ps, pth⟩, p3, p4⟩ := lastN_some hl
    simp only [ps] at hn
    have os := h.right n s p1 ps
    by_cases c : e.ret = true ∧ s.to = -1 ∧ e.ix = s.ix
    · rw [if_pos c] at hn
      simp at hn
      subst hn
      exact h.ret he ho c.1 ps pth (fun i t hi ht => by rw [pth]; exact p3 i t hi (List.getElem?_eq_some_iff.1 ht).1 ht)
    · rw [if_neg c] at hn
      by_cases c2 : e.ret = false ∧ s.to ≠ -1 ∧ e.ix = wrap64 (s.ix + 1)
      · rw [if_pos c2] at hn
        simp at hn
        subst hn
        have e1 := os.ix
        have c1 := cntN_le sp n s.th
        have e2 : wrap64 (s.ix + 1) = s.ix + 1 := by unfold wrap64; omega
        refine h.call he ho c2.1 (by rw [c2.2.2, e2, p4, e1, pth]; omega) (fun i t ht hth => ?_)
        have hi := (List.getElem?_eq_some_iff.1 ht).1
        have q1 := os.fr
        have q2 := os.to
        by_cases e3 : i = n
        · subst e3
          rw [ps] at ht
          simp at ht
          subst ht
          have := c2.2.1
          omega
        · by_cases e4 : i < n
          · exact (os.same i t e4 ht (by rw [hth, pth])).1
          · exact absurd hth (p3 i t (by omega) hi ht)
      · rw [if_neg c2] at hn
        simp at hn
theorem ev_inv {es : List Evt} (k : Nat) (hk : k < 1000000000000000) (sp : List Sp) (h : runEv es k = some sp) : EvI es k sp := by
  induction k generalizing sp with
  | zero =>
    simp [runEv] at h
    subst h
    exact ⟨fun i s hi => by simp at hi, fun e h0 => by omega, fun _ => rfl, rfl⟩
  | succ k ih =>
    rw [runEv] at h
    cases h1 : runEv es k with
    | none => simp [h1] at h
    | some sp0 =>
      cases h2 : es[k]? with
      | none => simp [h1, h2] at h
      | some e =>
        simp only [h1, h2] at h
        by_cases c : evOk es k e = true
        · rw [if_pos c] at h
          exact (ih (by omega) sp0 h1).step (by omega) h2 c h
        · rw [if_neg c] at h
          simp at h
end Go.Proofs.YtfohpbpekdcneaaDoor
