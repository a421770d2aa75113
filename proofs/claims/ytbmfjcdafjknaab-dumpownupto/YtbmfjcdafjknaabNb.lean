/- A content as a list by rising keys; how many keys there are between two. -/
import Derived.Test.YtbmfjcdafjknaabNa
import Derived.Test.YtbmfjcdafjknaabMsX
namespace Go.Proofs.Ytbmfjcdafjknaab
open Go.RowKit Go.Maps
set_option linter.unusedVariables false

/-- The pairs of f from lo to hi, by rising keys. -/
def Lists (f : Nat → Option Nat) (lo hi : Nat) (l : List (Nat × Nat)) : Prop := l.Pairwise (fun a b => a.1 < b.1) ∧ ∀ k v, (k, v) ∈ l ↔ f k = some v ∧ lo ≤ k ∧ k ≤ hi
theorem rising_unique : ∀ {l₁ l₂ : List (Nat × Nat)}, l₁.Pairwise (fun a b => a.1 < b.1) → l₂.Pairwise (fun a b => a.1 < b.1) → (∀ p, p ∈ l₁ ↔ p ∈ l₂) → l₁ = l₂
  | [], [], _, _, _ => rfl
  | [], y :: r, _, _, h => absurd ((h y).2 (by simp)) (by simp)
  | x :: r, [], _, _, h => absurd ((h x).1 (by simp)) (by simp)
  | x :: r, y :: s, h1, h2, h => by
    obtain ⟨a1, b1⟩ := List.pairwise_cons.1 h1
    obtain ⟨a2, b2⟩ := List.pairwise_cons.1 h2
    have e : x = y := by
      rcases List.mem_cons.1 ((h x).1 (by simp)) with e | e
      · exact e
      · rcases List.mem_cons.1 ((h y).2 (by simp)) with e' | e'
        · exact e'.symm
        · have q1 := a2 x e
          have q2 := a1 y e'
          omega
    subst e
    rw [rising_unique b1 b2 (fun p => ?_)]
    constructor
    · intro hp
      rcases List.mem_cons.1 ((h p).1 (by simp [hp])) with e | e
      · subst e; have := a1 p hp; omega
      · exact e
    · intro hp
      rcases List.mem_cons.1 ((h p).2 (by simp [hp])) with e | e
      · subst e; have := a2 p hp; omega
      · exact e
theorem Lists.unique {f : Nat → Option Nat} {lo hi : Nat} {l₁ l₂ : List (Nat × Nat)} (h1 : Lists f lo hi l₁) (h2 : Lists f lo hi l₂) : l₁ = l₂ :=
  rising_unique h1.1 h2.1 (fun ⟨k, v⟩ => (h1.2 k v).trans (h2.2 k v).symm)
/-- What has come of f so far. -/
structure Part (f : Nat → Option Nat) (lo hi : Nat) (left : Lit → Bool) (l : List (Nat × Nat)) : Prop where
  nd : (l.map Prod.fst).Nodup
  mem : ∀ k v, (k, v) ∈ l ↔ f k = some v ∧ lo ≤ k ∧ k ≤ hi ∧ left (.int .u64 (k : Int)) = false
theorem Part.start {H : Type} {el : Nat → DataW H} {ok : Nat → Prop} {D : DataW H} {f : Nat → Option Nat} (r : RdM el ok D f) (lo hi : Nat) : Part f lo hi (Maps.has D) [] :=
  ⟨List.nodup_nil, fun k v => ⟨fun h => by simp at h, fun ⟨h, _, _, h2⟩ => by rw [r.has k, h] at h2; cases h2⟩⟩
theorem left_step {left : Lit → Bool} (x k : Nat) : ((fun z : Lit => left z && !z.sameKey (.int .u64 (x : Int))) (.int .u64 (k : Int)) = false) ↔ left (.int .u64 (k : Int)) = false ∨ k = x := by
  by_cases e : k = x
  · subst e
    simp [WideAt.sameKey_self (show WideAt.IsKeyLit (.int .u64 (k : Int)) by trivial)]
  · simp [sameKey_ne (lit_ne e), e]
theorem Part.more {f : Nat → Option Nat} {lo hi : Nat} {left : Lit → Bool} {l : List (Nat × Nat)} (h : Part f lo hi left l) {x c : Nat} (hf : f x = some c) (hl : left (.int .u64 (x : Int)) = true) (h1 : lo ≤ x) (h2 : x ≤ hi) : Part f lo hi (fun z => left z && !z.sameKey (.int .u64 (x : Int))) (l ++ [(x, c)]) := by
  refine ⟨?_, fun k v => ?_⟩
  · rw [List.map_append, List.nodup_append]
    refine ⟨h.nd, by simp, fun a ha b hb => ?_⟩
    simp at hb
    subst hb
    rintro rfl
    obtain ⟨⟨k, v⟩, hm, e⟩ := List.mem_map.1 ha
    simp at e
    subst e
    have := ((h.mem k v).1 hm).2.2.2
    rw [hl] at this
    cases this
  · rw [left_step, List.mem_append, h.mem k v]
    constructor
    · rintro (⟨a, b, c, d⟩ | q)
      · exact ⟨a, b, c, .inl d⟩
      · simp at q
        obtain ⟨rfl, rfl⟩ := q
        exact ⟨hf, h1, h2, .inr rfl⟩
    · rintro ⟨a, b, c, d | d⟩
      · exact .inl ⟨a, b, c, d⟩
      · subst d
        rw [hf] at a
        injection a with a
        subst a
        exact .inr (by simp)
theorem Part.skip {f : Nat → Option Nat} {lo hi : Nat} {left : Lit → Bool} {l : List (Nat × Nat)} (h : Part f lo hi left l) {x : Nat} (h1 : ¬ (lo ≤ x ∧ x ≤ hi)) : Part f lo hi (fun z => left z && !z.sameKey (.int .u64 (x : Int))) l := by
  refine ⟨h.nd, fun k v => ?_⟩
  rw [left_step, h.mem k v]
  constructor
  · rintro ⟨a, b, c, d⟩; exact ⟨a, b, c, .inl d⟩
  · rintro ⟨a, b, c, d | d⟩
    · exact ⟨a, b, c, d⟩
    · subst d; exact absurd ⟨b, c⟩ h1
theorem RdM.came {D : DataW Unit} {ok : Nat → Prop} {f : Nat → Option Nat} (r : RdM elU ok D f) {x c : Nat} (h : ∀ zd, D.atKey (.int .u64 (x : Int)) zd = .lit (.int .u64 (c : Int))) : f x = some c := by
  have hh := has_true_of_atKey h
  rw [r.has x] at hh
  obtain ⟨v, hv⟩ := Option.isSome_iff_exists.1 hh
  have e := (r.val x v hv .nil).symm.trans (h .nil)
  simp [elU] at e
  rw [hv]
  exact congrArg some (by omega)
def byK (a b : Nat × Nat) : Bool := decide (a.1 ≤ b.1)
theorem Part.lists {f : Nat → Option Nat} {lo hi : Nat} {left : Lit → Bool} {l : List (Nat × Nat)} (h : Part f lo hi left l) (hl : ∀ k, left k = false) {l' : List (Nat × Nat)} (hp : l'.Perm l) (hs : l'.Pairwise (fun a b => a.1 ≤ b.1)) : Lists f lo hi l' := by
  refine ⟨?_, fun k v => ?_⟩
  · have nd : (l'.map Prod.fst).Nodup := (hp.map Prod.fst).nodup_iff.2 h.nd
    have nd2 : l'.Pairwise (fun a b => a.1 ≠ b.1) := List.pairwise_map.1 nd
    refine (hs.and nd2).imp ?_
    rintro a b ⟨h1, h2⟩
    omega
  · rw [hp.mem_iff, h.mem k v]
    simp [hl]
theorem Part.exists {f : Nat → Option Nat} {lo hi : Nat} {left : Lit → Bool} {l : List (Nat × Nat)} (h : Part f lo hi left l) (hl : ∀ k, left k = false) : ∃ l', Lists f lo hi l' ∧ l'.length = l.length := by
  have hp := List.mergeSort_perm l byK
  refine ⟨l.mergeSort byK, h.lists hl hp ?_, hp.length_eq⟩
  refine (List.pairwise_mergeSort (le := byK) ?_ ?_ l).imp ?_
  · intro a b c h1 h2; simp [byK] at *; omega
  · intro a b; simp [byK]; omega
  · intro a b h; simpa [byK] using h
def natOf (v : Value) : Nat := (intOf v).toNat
end Go.Proofs.Ytbmfjcdafjknaab
