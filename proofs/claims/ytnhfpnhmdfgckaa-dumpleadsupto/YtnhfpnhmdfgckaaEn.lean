/- The operations lead there: what they leave in any map. -/
import Derived.Test.YtnhfpnhmdfgckaaEm
namespace Go.Proofs.Ytnhfpnhmdfgckaa
open Go.RowKit Go.Joins
set_option linter.unusedVariables false

def appO (f : Nat → Option Nat) (o : OpS) : Nat → Option Nat := if o.kd = 2 then updO f o.k (some o.v) else updO f o.k none
def appF (f : Nat → Option Nat) (l : List OpS) : Nat → Option Nat := l.foldl appO f
theorem appF_cons (f : Nat → Option Nat) (o : OpS) (l : List OpS) : appF f (o :: l) = appF (appO f o) l := rfl
theorem appF_take (f : Nat → Option Nat) (l : List OpS) (i : Nat) (o : OpS) (h : l[i]? = some o) : appF f (l.take (i + 1)) = appO (appF f (l.take i)) o := by
  rw [List.take_add_one, h]
  simp [appF]
/-- What the operations leave: the second's pairs, none of the first's that is not there, and all else as it was. -/
structure Left (f g : Nat → Option Nat) (a b : List (Nat × Nat)) : Prop where
  has : ∀ y ∈ b, g y.1 = some y.2
  gone : ∀ k, (∀ y ∈ b, y.1 ≠ k) → (∃ x ∈ a, x.1 = k) → g k = none
  same : ∀ k, (∀ y ∈ b, y.1 ≠ k) → (∀ x ∈ a, x.1 ≠ k) → g k = f k
def opsX (m : List (Option (Nat × Nat) × Option (Nat × Nat))) : List OpS := (diffX m).map opOf
theorem opsX_cons (p : Option (Nat × Nat) × Option (Nat × Nat)) (m : List (Option (Nat × Nat) × Option (Nat × Nat))) : opsX (p :: m) = if (chOf p).right then opOf (chOf p) :: opsX m else opsX m := by
  unfold opsX diffX
  by_cases h : (chOf p).right = true <;> simp [h]
theorem sync_left (n : Nat) : ∀ (a b : List (Nat × Nat)) (f : Nat → Option Nat), a.length + b.length ≤ n → a.Pairwise (fun x y => x.1 < y.1) → b.Pairwise (fun x y => x.1 < y.1) → (∀ x ∈ a, f x.1 = some x.2) → (∀ y ∈ b, (∀ x ∈ a, x.1 ≠ y.1) → f y.1 = none) →
    Left f (appF f (opsX (mrg (fun y : Nat × Nat => y.1) a b))) a b := by
  induction n with
  | zero =>
    intro a b f h _ _ _ _
    have ea : a = [] := List.length_eq_zero_iff.1 (by omega)
    have eb : b = [] := List.length_eq_zero_iff.1 (by omega)
    subst ea eb
    rw [mrg_nil]
    exact ⟨fun y hy => by simp at hy, fun k _ hx => by simp at hx, fun k _ _ => rfl⟩
  | succ n ih =>
    intro a b f h pa pb ha hb
    -- a key of the first alone
    have cA : ∀ (x : Nat × Nat) (a' : List (Nat × Nat)), a = x :: a' → (∀ y ∈ b, x.1 < y.1) → Left f (appF f (opsX ((some x, none) :: mrg (fun y : Nat × Nat => y.1) a' b))) a b := by
      intro x a' e hlt
      subst e
      obtain ⟨h1, h2⟩ := List.pairwise_cons.1 pa
      rw [opsX_cons, if_pos (by simp [chOf, Ch.right]), appF_cons]
      have ef : appO f (opOf (chOf (some x, none))) = updO f x.1 none := by simp [appO, opOf, chOf]
      rw [ef]
      have L := ih a' b (updO f x.1 none) (by simp at h ⊢; omega) h2 pb (fun z hz => by rw [updO_other _ _ (by have := h1 z hz; omega)]; exact ha z (List.mem_cons_of_mem _ hz)) (fun y hy hn => by
        rw [updO_other _ _ (by have := hlt y hy; omega)]
        exact hb y hy (fun z hz => by
          rcases List.mem_cons.1 hz with rfl | hz
          · have := hlt y hy; omega
          · exact hn z hz))
      refine ⟨L.has, fun k hk hx => ?_, fun k hk hx => ?_⟩
      · by_cases q : ∃ z ∈ a', z.1 = k
        · exact L.gone k hk q
        · have e : x.1 = k := by
            obtain ⟨z, hz, e⟩ := hx
            rcases List.mem_cons.1 hz with rfl | hz
            · exact e
            · exact absurd ⟨z, hz, e⟩ q
          rw [L.same k hk (fun z hz e => q ⟨z, hz, e⟩), ← e, updO_same]
      · rw [L.same k hk (fun z hz => hx z (List.mem_cons_of_mem _ hz)), updO_other _ _ (fun e => hx x (by simp) e.symm)]
    -- a key of the second alone
    have cB : ∀ (y : Nat × Nat) (b' : List (Nat × Nat)), b = y :: b' → (∀ x ∈ a, y.1 < x.1) → Left f (appF f (opsX ((none, some y) :: mrg (fun y : Nat × Nat => y.1) a b'))) a b := by
      intro y b' e hlt
      subst e
      obtain ⟨h1, h2⟩ := List.pairwise_cons.1 pb
      rw [opsX_cons, if_pos (by simp [chOf, Ch.right]), appF_cons]
      have ef : appO f (opOf (chOf (none, some y))) = updO f y.1 (some y.2) := by simp [appO, opOf, chOf]
      rw [ef]
      have L := ih a b' (updO f y.1 (some y.2)) (by simp at h ⊢; omega) pa h2 (fun z hz => by rw [updO_other _ _ (by have := hlt z hz; omega)]; exact ha z hz) (fun z hz hn => by
        rw [updO_other _ _ (by have := h1 z hz; omega)]
        exact hb z (List.mem_cons_of_mem _ hz) hn)
      refine ⟨fun z hz => ?_, fun k hk hx => L.gone k (fun z hz => hk z (List.mem_cons_of_mem _ hz)) hx, fun k hk hx => ?_⟩
      · rcases List.mem_cons.1 hz with rfl | hz
        · rw [L.same z.1 (fun w hw => by have := h1 w hw; omega) (fun w hw => by have := hlt w hw; omega), updO_same]
        · exact L.has z hz
      · rw [L.same k (fun z hz => hk z (List.mem_cons_of_mem _ hz)) hx, updO_other _ _ (fun e => hk y (by simp) e.symm)]
    cases a with
    | nil =>
      cases b with
      | nil =>
        rw [mrg_nil]
        exact ⟨fun y hy => by simp at hy, fun k _ hx => by simp at hx, fun k _ _ => rfl⟩
      | cons y b =>
        rw [mrg_right]
        exact cB y b rfl (fun x hx => by simp at hx)
    | cons x a =>
      cases b with
      | nil =>
        rw [mrg_left]
        exact cA x a rfl (fun y hy => by simp at hy)
      | cons y b =>
        obtain ⟨x1, x2⟩ := List.pairwise_cons.1 pa
        obtain ⟨y1, y2⟩ := List.pairwise_cons.1 pb
        rcases Nat.lt_trichotomy x.1 y.1 with t | t | t
        · rw [mrg_lt _ t]
          exact cA x a rfl (fun z hz => by
            rcases List.mem_cons.1 hz with rfl | hz
            · exact t
            · exact Nat.lt_trans t (y1 z hz))
        · rw [mrg_eq _ t, opsX_cons]
          have fx := ha x (by simp)
          obtain ⟨f', hf', he⟩ : ∃ f', f' = updO f y.1 (some y.2) ∧ appF f (if (chOf (some x, some y)).right = true then opOf (chOf (some x, some y)) :: opsX (mrg (fun y : Nat × Nat => y.1) a b) else opsX (mrg (fun y : Nat × Nat => y.1) a b)) = appF f' (opsX (mrg (fun y : Nat × Nat => y.1) a b)) := by
            refine ⟨_, rfl, ?_⟩
            by_cases q : x.2 = y.2
            · rw [if_neg (by simp [chOf, Ch.right, q])]
              have : updO f y.1 (some y.2) = f := by
                funext k
                by_cases e : k = y.1
                · subst e; rw [updO_same, ← t, fx, q]
                · rw [updO_other _ _ e]
              rw [this]
            · rw [if_pos (by simp [chOf, Ch.right, q]), appF_cons]
              have ef : appO f (opOf (chOf (some x, some y))) = updO f y.1 (some y.2) := by simp [appO, opOf, chOf]
              rw [ef]
          rw [he]
          have L := ih a b f' (by simp at h ⊢; omega) x2 y2 (fun z hz => by rw [hf', updO_other _ _ (by have := x1 z hz; omega)]; exact ha z (List.mem_cons_of_mem _ hz)) (fun z hz hn => by
            rw [hf', updO_other _ _ (by have := y1 z hz; omega)]
            exact hb z (List.mem_cons_of_mem _ hz) (fun w hw => by
              rcases List.mem_cons.1 hw with rfl | hw
              · have := y1 z hz; omega
              · exact hn w hw))
          refine ⟨fun z hz => ?_, fun k hk hx => ?_, fun k hk hx => ?_⟩
          · rcases List.mem_cons.1 hz with rfl | hz
            · rw [L.same z.1 (fun w hw => by have := y1 w hw; omega) (fun w hw => by have := x1 w hw; omega), hf', updO_same]
            · exact L.has z hz
          · refine L.gone k (fun z hz => hk z (List.mem_cons_of_mem _ hz)) ?_
            obtain ⟨z, hz, e⟩ := hx
            rcases List.mem_cons.1 hz with rfl | hz
            · exact absurd (t.symm.trans e) (hk y (by simp))
            · exact ⟨z, hz, e⟩
          · rw [L.same k (fun z hz => hk z (List.mem_cons_of_mem _ hz)) (fun z hz => hx z (List.mem_cons_of_mem _ hz)), hf', updO_other _ _ (fun e => hk y (by simp) e.symm)]
        · rw [mrg_gt _ t]
          exact cB y b rfl (fun z hz => by
            rcases List.mem_cons.1 hz with rfl | hz
            · exact t
            · exact Nat.lt_trans t (x1 z hz))
theorem syncL_ops (a b : List (Nat × Nat)) : syncL a b = opsX (mrg (fun y : Nat × Nat => y.1) a b) := rfl
/-- A map that has just these pairs. -/
structure Just (g : Nat → Option Nat) (b : List (Nat × Nat)) : Prop where
  has : ∀ y ∈ b, g y.1 = some y.2
  none : ∀ k, (∀ y ∈ b, y.1 ≠ k) → g k = none
theorem Just.lists {g : Nat → Option Nat} {b : List (Nat × Nat)} (h : Just g b) (hr : riseB b = true) (hs : small64 b) : Lists g 0 18446744073709551615 b := by
  refine ⟨riseB_pair hr, fun k v => ⟨fun hm => ?_, fun hm => ?_⟩⟩
  · have := (hs _ hm).1
    exact ⟨h.has (k, v) hm, Nat.zero_le _, by simp at this; omega⟩
  · by_cases q : ∃ y ∈ b, y.1 = k
    · obtain ⟨y, hy, rfl⟩ := q
      have e := (h.has y hy).symm.trans hm.1
      injection e with e
      rw [← e]
      exact hy
    · have e := h.none k (fun y hy e => q ⟨y, hy, e⟩)
      rw [e] at hm
      cases hm.1
theorem just_first {b : List (Nat × Nat)} (hr : riseB b = true) : Just (appF (fun _ => Option.none) (syncL [] b)) b := by
  have L := sync_left _ [] b (fun _ => Option.none) (Nat.le_refl _) .nil (riseB_pair hr) (fun x hx => by simp at hx) (fun _ _ _ => rfl)
  rw [← syncL_ops] at L
  exact ⟨L.has, fun k hk => L.same k hk (fun x hx => by simp at hx)⟩
theorem just_then {a b : List (Nat × Nat)} {f : Nat → Option Nat} (hf : Just f a) (ra : riseB a = true) (rb : riseB b = true) : Just (appF f (syncL a b)) b := by
  have L := sync_left _ a b f (Nat.le_refl _) (riseB_pair ra) (riseB_pair rb) hf.has (fun y hy hn => hf.none y.1 hn)
  rw [← syncL_ops] at L
  refine ⟨L.has, fun k hk => ?_⟩
  by_cases q : ∃ x ∈ a, x.1 = k
  · exact L.gone k hk q
  · rw [L.same k hk (fun x hx e => q ⟨x, hx, e⟩)]
    exact hf.none k (fun x hx e => q ⟨x, hx, e⟩)
end Go.Proofs.Ytnhfpnhmdfgckaa
