/- A content as a list by rising keys; how many keys there are between two. -/
import Derived.Test.YtbmfjcdafjknaaaNa
import Derived.Test.YtbmfjcdafjknaaaMsX
namespace Go.Proofs.Ytbmfjcdafjknaaa
open Go.RowKit Go.Maps
set_option linter.unusedVariables false

/-- The pairs of f from lo to hi, by rising keys. -/
def Lists (f : Nat → Option Nat) (lo hi : Nat) (l : List (Nat × Nat)) : Prop := l.Pairwise (fun a b => a.1 < b.1) ∧ ∀ k v, (k, v) ∈ l ↔ f k = some v ∧ lo ≤ k ∧ k ≤ hi
theorem rising_unique : ∀ {l₁ l₂ : List (Nat × Nat)}, l₁.Pairwise (fun a b => a.1 < b.1) → l₂.Pairwise (fun a b => a.1 < b.1) → (∀ p, p ∈ l₁ ↔ p ∈ l₂) → l₁ = l₂
  | [], [], _, _, _ => rfl
  | [], y :: r, _, _, h => absurd ((h y).2 (by simp)) (by simp)
  | x :: r, [], _, _, h => absurd ((h x).1 (by simp)) (by simp)
  | x :: r, y :: s, h1, h2, h => by
    obtain ⟨a1, b1⟩ := List.pairwise_cons.1 h1
    obtain ⟨a2, b2⟩ := List.pairwise_cons.1 h2
    have e : x = y := by
      rcases List.mem_cons.1 ((h x).1 (by simp)) with e | e
      · exact e
      · rcases List.mem_cons.1 ((h y).2 (by simp)) with e' | e'
        · exact e'.symm
        · have q1 := a2 x e
          have q2 := a1 y e'
          omega
    subst e
    rw [rising_unique b1 b2 (fun p => ?_)]
    constructor
    · intro hp
      rcases List.mem_cons.1 ((h p).1 (by simp [hp])) with e | e
      · subst e; have := a1 p hp; omega
      · exact e
    · intro hp
      rcases List.mem_cons.1 ((h p).2 (by simp [hp])) with e | e
      · subst e; have := a2 p hp; omega
      · exact e
theorem Lists.unique {f : Nat → Option Nat} {lo hi : Nat} {l₁ l₂ : List (Nat × Nat)} (h1 : Lists f lo hi l₁) (h2 : Lists f lo hi l₂) : l₁ = l₂ :=
  rising_unique h1.1 h2.1 (fun ⟨k, v⟩ => (h1.2 k v).trans (h2.2 k v).symm)
/-- What has come of f so far. -/
structure Part (f : Nat → Option Nat) (lo hi : Nat) (left : Lit → Bool) (l : List (Nat × Nat)) : Prop where
  nd : (l.map Prod.fst).Nodup
  mem : ∀ k v, (k, v) ∈ l ↔ f k = some v ∧ lo ≤ k ∧ k ≤ hi ∧ left (.int .u64 (k : Int)) = false
theorem Part.start {H : Type} {el : Nat → DataW H} {ok : Nat → Prop} {D : DataW H} {f : Nat → Option Nat} (r : RdM el ok D f) (lo hi : Nat) : Part f lo hi (Maps.has D) [] :=
  ⟨List.nodup_nil, fun k v => ⟨fun h => by simp at h, fun ⟨h, _, _, h2⟩ => by rw [r.has k, h] at h2; cases h2⟩⟩
theorem left_step {left : Lit → Bool} (x k : Nat) : ((fun z : Lit => left z && !z.sameKey (.int .u64 (x : Int))) (.int .u64 (k : Int)) = false) ↔ left (.int .u64 (k : Int)) = false ∨ k = x := by
  by_cases e : k = x
  · subst e
    simp [WideAt.sameKey_self (show WideAt.IsKeyLit (.int .u64 (k : Int)) by trivial)]
  · simp [sameKey_ne (lit_ne e), e]
theorem Part.more {f : Nat → Option Nat} {lo hi : Nat} {left : Lit → Bool} {l : List (Nat × Nat)} (h : Part f lo hi left l) {x c : Nat} (hf : f x = some c) (hl : left (.int .u64 (x : Int)) = true) (h1 : lo ≤ x) (h2 : x ≤ hi) : Part f lo hi (fun z => left z && !z.sameKey (.int .u64 (x : Int))) (l ++ [(x, c)]) := by
  refine ⟨?_, fun k v => ?_⟩
  · rw [List.map_append, List.nodup_append]
    refine ⟨h.nd, by simp, fun a ha b hb => ?_⟩
    simp at hb
    subst hb
    rintro rfl
    obtain ⟨⟨k, v⟩, hm, e⟩ := List.mem_map.1 ha
    simp at e
    subst e
    have := ((h.mem k v).1 hm).2.2.2
    rw [hl] at this
    cases this
  · rw [left_step, List.mem_append, h.mem k v]
    constructor
    · rintro (⟨a, b, c, d⟩ | q)
      · exact ⟨a, b, c, .inl d⟩
      · simp at q
        obtain ⟨rfl, rfl⟩ := q
        exact ⟨hf, h1, h2, .inr rfl⟩
    · rintro ⟨a, b, c, d | d⟩
      · exact .inl ⟨a, b, c, d⟩
      · subst d
        rw [hf] at a
        injection a with a
        subst a
        exact .inr (by simp)
theorem Part.skip {f : Nat → Option Nat} {lo hi : Nat} {left : Lit → Bool} {l : List (Nat × Nat)} (h : Part f lo hi left l) {x : Nat} (h1 : ¬ (lo ≤ x ∧ x ≤ hi)) : Part f lo hi (fun z => left z && !z.sameKey (.int .u64 (x : Int))) l := by
  refine ⟨h.nd, fun k v => ?_⟩
  rw [left_step, h.mem k v]
  constructor
  · rintro ⟨a, b, c, d⟩; exact ⟨a, b, c, .inl d⟩
  · rintro ⟨a, b, c, d | d⟩
    · exact ⟨a, b, c, d⟩
    · subst d; exact absurd ⟨b, c⟩ h1
theorem RdM.came {D : DataW Unit} {ok : Nat → Prop} {f : Nat → Option Nat} (r : RdM elU ok D f) {x c : Nat} (h : ∀ zd, D.atKey (.int .u64 (x : Int)) zd = .lit (.int .u64 (c : Int))) : f x = some c := by
  have hh := has_true_of_atKey h
  rw [r.has x] at hh
  obtain ⟨v, hv⟩ := Option.isSome_iff_exists.1 hh
  have e := (r.val x v hv .nil).symm.trans (h .nil)
  simp [elU] at e
  rw [hv]
  exact congrArg some (by omega)
def byK (a b : Nat × Nat) : Bool := decide (a.1 ≤ b.1)
theorem Part.lists {f : Nat → Option Nat} {lo hi : Nat} {left : Lit → Bool} {l : List (Nat × Nat)} (h : Part f lo hi left l) (hl : ∀ k, left k = false) {l' : List (Nat × Nat)} (hp : l'.Perm l) (hs : l'.Pairwise (fun a b => a.1 ≤ b.1)) : Lists f lo hi l' := by
  refine ⟨?_, fun k v => ?_⟩
  · have nd : (l'.map Prod.fst).Nodup := (hp.map Prod.fst).nodup_iff.2 h.nd
    have nd2 : l'.Pairwise (fun a b => a.1 ≠ b.1) := List.pairwise_map.1 nd
    refine (hs.and nd2).imp ?_
    rintro a b ⟨h1, h2⟩
    omega
  · rw [hp.mem_iff, h.mem k v]
    simp [hl]
theorem Part.exists {f : Nat → Option Nat} {lo hi : Nat} {left : Lit → Bool} {l : List (Nat × Nat)} (h : Part f lo hi left l) (hl : ∀ k, left k = false) : ∃ l', Lists f lo hi l' ∧ l'.length = l.length := by
  have hp := List.mergeSort_perm l byK
  refine ⟨l.mergeSort byK, h.lists hl hp ?_, hp.length_eq⟩
  refine (List.pairwise_mergeSort (le := byK) ?_ ?_ l).imp ?_
  · intro a b c h1 h2; simp [byK] at *; omega
  · intro a b; simp [byK]; omega
  · intro a b h; simpa [byK] using h
def natOf (v : Value) : Nat := (intOf v).toNat
set_option maxRecDepth 100000 in
set_option maxHeartbeats 2000000 in
theorem c_count {W : World} {b n : Nat} {f : Nat → Option Nat} (h : MapAt W b n f) (hn : n ≤ 8796093022000) {lo hi : Nat} (hlo : lo < 18446744073709551616) (hhi : hi < 18446744073709551616) :
    Calls Try.prog 76 #[.map (some b), .int .u64 (lo : Int), .int .u64 (hi : Int)] W fun e W' => (∃ l, Lists f lo hi l ∧ e = .returned (.int .u64 (l.length : Int)) ∧ l.length ≤ n) ∧ Chg (fun _ => False) W W' := by
  obtain ⟨D, hown, r⟩ := h
  have hsz := hown.size_le
  have HR := keepH r
  clear r
  go_enter Try.func76, Try.ntmps76
  go_wp2_with (first | (at_range; refine wpList_range_own _ rfl _ 105 rfl 57 57 K64 Try.underlying105 _ b n _ rfl hown ?_; intro w1 hrg1 hg1 hs1))
  have HC1 : Hid (Chg (fun _ => False) W w1) := grown_chg hg1 (fun k e => by simp at e)
  have HRG := keepH hrg1
  clear hg1 hrg1 hown hs1
  go_frame
  go_loopw [7] (fun s wr => ∃ (left : Lit → Bool) (cnt : Nat) (l : List (Nat × Nat)), s = .int .u64 (l.length : Int) ∧ Hid (wr.ranges Try.prog 57 (plainElem Try.prog 57) b W.heap.size n D left cnt ∧ Part f lo hi left l ∧ l.length + cnt ≤ Maps.size D ∧ Chg (fun _ => False) W wr)) (fun _ wr => wr.rangeLeft b W.heap.size)
  case atStart => exact ⟨_, _, [], rfl, ⟨HRG.out, Part.start HR.out lo hi, by simp, HC1.out⟩⟩
  case round =>
    obtain ⟨left, cnt, l, rfl, HK⟩ := hrel
    have hrg := HK.out.1
    have hlc := HK.out.2.2.1
    go_wp2_with (first | (at_next; refine wpList_next_ranges_ii _ rfl _ rfl 57 57 .u64 .u64 K64 Try.underlying57 Try.underlying57 b W.heap.size n _ _ _ rfl hrg ?_ ?_))
    · intro h0 hl0
      go_wp2_with fail
      go_ret
      obtain ⟨l', h1, h2⟩ := HK.out.2.1.exists hl0
      exact ⟨⟨l', h1, by simp [h2], by omega⟩, HK.out.2.2.2⟩
    · intro x c w2 cnt2 hwx hwc hlx hat hrg2 hlt hg2 hs2 hen
      obtain ⟨x, rfl, hx⟩ := nat_u64 hwx
      obtain ⟨c, rfl, hc⟩ := nat_u64 hwc
      have hf := HR.out.came hat
      have HC2 : Hid (Chg (fun _ => False) W w2) := HK.out.2.2.2.trans (grown_chg hg2 (F := fun k => k = W.heap.size) (fun k e => (Option.some.inj e).symm)) (fun _ _ x => x) (fun i hi e => by omega)
      have HF : Hid (f x = some c ∧ left (.int .u64 (x : Int)) = true) := ⟨hf, hlx⟩
      have HG2 := keepH hrg2
      have hmeas := hrg2.left_eq
      have hmeas0 := hrg.left_eq
      clear hat hf hlx hwx hwc hg2 hs2 hrg2 hrg
      by_cases t1 : lo ≤ x
      · have q1 : (lo : Int) ≤ (x : Int) := by omega
        by_cases t2 : x ≤ hi
        · have q2 : (x : Int) ≤ (hi : Int) := by omega
          have T := keepH (And.intro t1 t2)
          clear t1 t2
          go_wp2_with fail
          go_roundw
          case rel => exact ⟨_, cnt2, l ++ [(x, c)], by first | rfl | go_num | simp, HG2.out, HK.out.2.1.more HF.out.1 HF.out.2 T.out.1 T.out.2, by simp; omega, HC2.out⟩
          case measure => rw [hmeas, hmeas0]; exact hlt
        · have q2 : ¬ (x : Int) ≤ (hi : Int) := by omega
          have T : Hid (¬ (lo ≤ x ∧ x ≤ hi)) := fun z => t2 z.2
          clear t1 t2
          go_wp2_with fail
          go_roundw
          case rel => exact ⟨_, cnt2, l, rfl, HG2.out, HK.out.2.1.skip T.out, by omega, HC2.out⟩
          case measure => rw [hmeas, hmeas0]; exact hlt
      · have q1 : ¬ (lo : Int) ≤ (x : Int) := by omega
        have T : Hid (¬ (lo ≤ x ∧ x ≤ hi)) := fun z => t1 z.1
        clear t1
        go_wp2_with fail
        go_roundw
        case rel => exact ⟨_, cnt2, l, rfl, HG2.out, HK.out.2.1.skip T.out, by omega, HC2.out⟩
        case measure => rw [hmeas, hmeas0]; exact hlt
end Go.Proofs.Ytbmfjcdafjknaaa
