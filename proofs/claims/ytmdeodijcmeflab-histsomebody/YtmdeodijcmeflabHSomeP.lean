/- Of right spans some stand first, and to take one away each time gives an order that keeps them. -/
import Derived.Test.YtmdeodijcmeflabHFirstP
import Derived.Test.YtmdeodijcmeflabHKeepsP
namespace Go.Proofs.Ytmdeodijcmeflab
open Go.RowKit

theorem right_good {l : List Sp} (h : RightP l) {i : Nat} {s : Sp} (hs : l[i]? = some s) : 0 ≤ s.to → s.fr ≤ s.to := fun h0 => by
  have o := (h i s (List.getElem?_eq_some_iff.1 hs).1 hs).to
  omega
def frAt (l : List Sp) (i : Nat) : Int := match l[i]? with | some s => s.fr | none => 0
/-- The one that begins first, of those that are left. -/
theorem least_left {l : List Sp} {bs : List Bool} (k : Nat) : (∀ i, i < k → leftB bs i = false) ∨ ∃ m, m < k ∧ leftB bs m = true ∧ ∀ i, i < k → leftB bs i = true → frAt l m ≤ frAt l i := by
  induction k with
  | zero => exact .inl fun i hi => by omega
  | succ k ih =>
    cases hl : leftB bs k with
    | false =>
      rcases ih with h | ⟨m, h1, h2, h3⟩
      · refine .inl fun i hi => ?_
        by_cases e : i = k
        · subst e; exact hl
        · exact h i (by omega)
      · refine .inr ⟨m, by omega, h2, fun i hi hi2 => ?_⟩
        by_cases e : i = k
        · subst e; rw [hl] at hi2; simp at hi2
        · exact h3 i (by omega) hi2
    | true =>
      rcases ih with h | ⟨m, h1, h2, h3⟩
      · refine .inr ⟨k, by omega, hl, fun i hi hi2 => ?_⟩
        by_cases e : i = k
        · subst e; exact Int.le_refl _
        · rw [h i (by omega)] at hi2; simp at hi2
      · by_cases c : frAt l m ≤ frAt l k
        · refine .inr ⟨m, by omega, h2, fun i hi hi2 => ?_⟩
          by_cases e : i = k
          · subst e; exact c
          · exact h3 i (by omega) hi2
        · refine .inr ⟨k, by omega, hl, fun i hi hi2 => ?_⟩
          by_cases e : i = k
          · subst e; exact Int.le_refl _
          · have := h3 i (by omega) hi2
            omega
theorem some_first {l : List Sp} {bs : List Bool} (h : RightP l) {n : Nat} (hn : n < l.length) (hl : leftB bs n = true) : firstsN l bs l.length ≠ [] := by
  rcases least_left (l := l) (bs := bs) l.length with h0 | ⟨m, h1, h2, h3⟩
  · rw [h0 n hn] at hl
    simp at hl
  · have hF : FirstP l bs m := ⟨h2, fun k hk hne hlk => by
      obtain ⟨t, ht⟩ : ∃ t, l[k]? = some t := ⟨l[k], List.getElem?_eq_getElem hk⟩
      obtain ⟨s, hs⟩ : ∃ s, l[m]? = some s := ⟨l[m], List.getElem?_eq_getElem h1⟩
      rw [aheadAt_of ht hs]
      have e := h3 k hk hlk
      unfold frAt at e
      rw [ht, hs] at e
      simp only at e
      have g := right_good h ht
      unfold aheadB
      by_cases c : 0 ≤ t.to
      · have := g c
        simp [c]
        omega
      · simp [c]⟩
    intro e
    have := firstsN_has h1 hF
    rw [e] at this
    simp at this
/-- Behind each taking: left are those that are not in the order, and the order keeps. -/
structure Tak (l : List Sp) (bs : List Bool) (o : List Nat) : Prop where
  len : bs.length = l.length
  left : ∀ i, i < l.length → (leftB bs i = false ↔ i ∈ o)
  range : ∀ i ∈ o, i < l.length
  once : o.Nodup
  order : ∀ (i j : Nat) (a b : Nat) (s t : Sp), i < j → o[i]? = some a → o[j]? = some b → l[a]? = some s → l[b]? = some t → aheadB t s = false
  now : ∀ (i a b : Nat) (s t : Sp), o[i]? = some a → b < l.length → b ∉ o → l[a]? = some s → l[b]? = some t → aheadB t s = false
theorem Tak.zero (l : List Sp) : Tak l (List.replicate l.length true) [] :=
  ⟨by simp, fun i hi => by unfold leftB; rw [List.getElem?_replicate, if_pos hi]; simp, fun i hi => by simp at hi, by simp, fun i j a b s t _ h => by simp at h, fun i a b s t h => by simp at h⟩
theorem Tak.count {l : List Sp} {bs : List Bool} {o : List Nat} (h : Tak l bs o) (hlt : o.length < l.length) : ∃ n, n < l.length ∧ leftB bs n = true := by
  have : ∃ n, n < l.length ∧ n ∉ o := by
    by_cases c : ∃ n, n < l.length ∧ n ∉ o
    · exact c
    · exfalso
      have hsub : List.range l.length ⊆ o := fun n hn => by
        rw [List.mem_range] at hn
        by_cases c2 : n ∈ o
        · exact c2
        · exact absurd ⟨n, hn, c2⟩ c
      have := (List.nodup_range (n := l.length)).length_le_of_subset hsub
      rw [List.length_range] at this
      omega
  obtain ⟨n, hn, hno⟩ := this
  refine ⟨n, hn, ?_⟩
  cases hl : leftB bs n with
  | true => rfl
  | false => exact absurd ((h.left n hn).1 hl) hno
theorem leftB_set {bs : List Bool} {m i : Nat} {x : Bool} (hm : m < bs.length) : leftB (bs.set m x) i = if i = m then x else leftB bs i := by
  unfold leftB
  rw [List.getElem?_set]
  by_cases c : m = i
  · subst c
    rw [if_pos rfl, if_pos hm, if_pos rfl]
    rfl
  · rw [if_neg c, if_neg (fun e => c e.symm)]
theorem Tak.next {l : List Sp} {bs : List Bool} {o : List Nat} {m : Nat} (h : Tak l bs o) (hm : m < l.length) (hf : FirstP l bs m) : Tak l (bs.set m false) (o ++ [m]) := by
  have hmo : m ∉ o := fun hin => by
    have := (h.left m hm).2 hin
    rw [hf.1] at this
    simp at this
  have hml : m < bs.length := by rw [h.len]; exact hm
  refine ⟨by rw [List.length_set]; exact h.len, fun i hi => ?_, fun i hi => ?_, ?_, fun i j a b s t hij ha hb hs ht => ?_, fun i a b s t ha hb hbo hs ht => ?_⟩
  · rw [leftB_set hml, List.mem_append, List.mem_singleton]
    by_cases c : i = m
    · simp [c]
    · rw [if_neg c, h.left i hi]
      simp [c]
  · rw [List.mem_append, List.mem_singleton] at hi
    rcases hi with hi | rfl
    · exact h.range i hi
    · exact hm
  · rw [List.nodup_append]
    refine ⟨h.once, by simp, fun a ha b hb => ?_⟩
    simp at hb
    subst hb
    intro e
    subst e
    exact hmo ha
  · have hjl := (List.getElem?_eq_some_iff.1 hb).1
    simp at hjl
    have ha' : o[i]? = some a := by rwa [List.getElem?_append_left (by omega)] at ha
    by_cases c : j < o.length
    · rw [List.getElem?_append_left c] at hb
      exact h.order i j a b s t hij ha' hb hs ht
    · obtain rfl : j = o.length := by omega
      simp at hb
      subst hb
      exact h.now i a m s t ha' hm hmo hs ht
  · rw [List.mem_append, List.mem_singleton, not_or] at hbo
    have hil := (List.getElem?_eq_some_iff.1 ha).1
    simp at hil
    by_cases c : i < o.length
    · rw [List.getElem?_append_left c] at ha
      exact h.now i a b s t ha hb hbo.1 hs ht
    · obtain rfl : i = o.length := by omega
      simp at ha
      subst ha
      have hlb : leftB bs b = true := by
        cases hl : leftB bs b with
        | true => rfl
        | false => exact absurd ((h.left b hb).1 hl) hbo.1
      have := hf.2 b hb hbo.2 hlb
      rw [aheadAt_of ht hs] at this
      exact this
def oInts (o : List Nat) : List Int := o.map Int.ofNat
theorem oInts_get {o : List Nat} {i : Nat} {a : Int} (h : (oInts o)[i]? = some a) : ∃ n, o[i]? = some n ∧ a = (n : Int) := by
  unfold oInts at h
  rw [List.getElem?_map] at h
  cases hn : o[i]? with
  | none => rw [hn] at h; simp at h
  | some n => rw [hn] at h; simp at h; exact ⟨n, rfl, h.symm⟩
theorem Tak.keeps {l : List Sp} {bs : List Bool} {o : List Nat} (h : Tak l bs o) (hl : l.length ≤ o.length) : KeepsP l (oInts o) := by
  refine ⟨⟨fun i n _ hn => ?_, fun i j n hi hj h1 h2 => ?_, fun i j a b s t hi hj ha hb hs ht => ?_⟩, fun n s hn hs h0 => ?_⟩
  · obtain ⟨m, hm, rfl⟩ := oInts_get hn
    have := h.range m (List.mem_of_getElem? hm)
    omega
  · obtain ⟨m, hm, rfl⟩ := oInts_get h1
    obtain ⟨m', hm', e⟩ := oInts_get h2
    obtain rfl : m = m' := by omega
    obtain ⟨h3, h4⟩ := List.getElem?_eq_some_iff.1 hm
    obtain ⟨h5, h6⟩ := List.getElem?_eq_some_iff.1 hm'
    exact (List.pairwise_iff_getElem.1 h.once) i j h3 h5 hi (by rw [h4, h6])
  · obtain ⟨m, hm, rfl⟩ := oInts_get ha
    obtain ⟨m', hm', rfl⟩ := oInts_get hb
    rw [Int.toNat_natCast] at hs ht
    exact h.order i j m m' s t hi hm hm' hs ht
  · have hin : n ∈ o := by
      by_cases c : n ∈ o
      · exact c
      · exfalso
        have hsub : n :: o ⊆ List.range l.length := fun x hx => by
          rw [List.mem_range]
          simp at hx
          rcases hx with rfl | hx
          · exact hn
          · exact h.range x hx
        have := (List.nodup_cons.2 ⟨c, h.once⟩).length_le_of_subset hsub
        simp at this
        omega
    obtain ⟨i, hi⟩ := List.getElem?_of_mem hin
    exact ⟨i, by unfold oInts; rw [List.getElem?_map, hi]; rfl⟩
end Go.Proofs.Ytmdeodijcmeflab
