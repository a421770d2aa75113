/- Runs of procs: stepOf over any proc; kinds side by side; a Cas. -/
import Derived.Test.YtadbgmcfjemkeaaGe
namespace Go.Proofs.Ytadbgmcfjemkeaa
open Go.RowKit Go.Shelf
set_option linter.unusedVariables false

section
variable {X0 X : World} {F0 D0 F D : Nat → Prop} {b v most next : Nat} {th : Int} {made : Nat} {cs : List Nat} {t : List Acc}
theorem AS.base (A : AS X0 X F0 D0 F D b v most next th made cs t) : AS X X F D F D b v most next th made cs t := ⟨A.bank, A.view, A.nv, A.dis, Chg.refl _ _, fun _ e => .inl e, fun _ e => .inl e⟩
theorem AS.wrap {W1 : World} {o : Obj} {F' D' : Nat → Prop} {next' made' : Nat} {cs' : List Nat} {t' : List Acc} (A0 : AS X X F D F D b v most next th made cs t) (A : AS (X.alloc o) W1 F D F' D' b v most next' th made' cs' t') (u : Value) : AS X (W1.setCell ⟨X.heap.size, 0, none⟩ u) F D F' D' b v most next' th made' cs' t' ∧ ∀ k, D' k → (W1.setCell ⟨X.heap.size, 0, none⟩ u).heap[k]? = W1.heap[k]? := by
  obtain ⟨l, B, L⟩ := A.bank
  obtain ⟨l0, B0, _⟩ := A0.bank
  have sz : (X.alloc o).heap.size = X.heap.size + 1 := by simp
  have vl := lt_of A0.view
  have nF : ¬ F' X.heap.size := fun e => (A.newF _ e).elim (fun x => by have := B0.ltF _ x; omega) (fun x => by omega)
  have nD : ¬ D' X.heap.size := fun e => (A.newD _ e).elim (fun x => by have := (A0.dis _ x).2.2; omega) (fun x => by omega)
  have c : Chg (fun k => k = X.heap.size) W1 (W1.setCell ⟨X.heap.size, 0, none⟩ u) := (Chg.refl (fun k => k = X.heap.size) W1).setCell (p := ⟨X.heap.size, 0, none⟩) (fun _ => rfl) u
  refine ⟨⟨⟨l, B.chg c (fun k hk e => nF (e ▸ hk)), L⟩, A.view.chg c (by omega), A.nv, fun k hk => ⟨(A.dis k hk).1, (A.dis k hk).2.1, Nat.lt_of_lt_of_le (A.dis k hk).2.2 c.size⟩, (((Chg.refl (fun k => F k ∨ k = v ∨ D k) X).alloc o).trans A.chg (fun _ _ x => x) (fun _ _ x => x)).trans c (fun _ _ x => x) (fun i hi e => by omega), fun k e => (A.newF k e).elim .inl (fun x => .inr (by omega)), fun k e => (A.newD k e).elim .inl (fun x => .inr (by omega))⟩, fun k hk => other_set u (fun e => nD (e ▸ hk))⟩

def SoAt (st : Nat) (pv : Value) (p : Nat) : Prop := ∀ (v : Value) (d : Bool) (K : World → Prop) (W : World), (Calls Try.prog st #[.pointer (some ⟨p, 0, none⟩), v] (W.alloc (.cells #[.bool false] 4)) fun e W' => e = .returned (.bool d) ∧ K W' ∧ W'.heap[W.heap.size]? = (W.alloc (.cells #[.bool false] 4)).heap[W.heap.size]?) →
    Calls Try.prog 35 #[pv, v] W fun e W' => e = .returned (.bool d) ∧ ∃ W1, K W1 ∧ W' = W1.setCell ⟨W.heap.size, 0, none⟩ (.bool d)
theorem as_so {st p : Nat} {pv : Value} {d : Bool} {next' made' : Nat} {cs' : List Nat} {t' : List Acc} (so : SoAt st pv p) (A : AS X X F D F D b v most next th made cs t) (Q : World → (Nat → Prop) → Prop) (keepQ : ∀ Y Y' D', Q Y D' → (∀ k, D' k → Y'.heap[k]? = Y.heap[k]?) → Q Y' D')
    (step : ∀ X1, (∀ k, D k → X1.heap[k]? = X.heap[k]?) → AS X1 X1 F D F D b v most next th made cs t → Calls Try.prog st #[.pointer (some ⟨p, 0, none⟩), .pointer (some ⟨v, 0, none⟩)] X1 fun e Y => e = .returned (.bool d) ∧ ∃ F' D', AS X1 Y F D F' D' b v most next' th made' cs' t' ∧ Q Y D') :
    Calls Try.prog 35 #[pv, .pointer (some ⟨v, 0, none⟩)] X fun e Y => e = .returned (.bool d) ∧ ∃ F' D', AS X Y F D F' D' b v most next' th made' cs' t' ∧ Q Y D' := by
  have c : Chg (fun _ => False) X (X.alloc (.cells #[.bool false] 4)) := (Chg.refl _ _).alloc _
  have A1 := (A.own (D' := D) (c.mono (fun _ _ x => x.elim)) (fun k e => .inl e) (fun k e => Nat.lt_of_lt_of_le (A.dis k e).2.2 c.size)).base
  obtain ⟨l0, B0, _⟩ := A.bank
  have vl := lt_of A.view
  refine (so (.pointer (some ⟨v, 0, none⟩)) d (fun Y => ∃ F' D', AS (X.alloc (.cells #[.bool false] 4)) Y F D F' D' b v most next' th made' cs' t' ∧ Q Y D') X ?_).mono ?_
  · refine (step _ (fun k e => Below.heap_alloc _ _ _ (A.dis k e).2.2) A1).mono ?_
    rintro e Y ⟨rfl, F', D', A', q⟩
    refine ⟨rfl, ⟨F', D', A', q⟩, A'.chg.block _ (by simp) (fun e => ?_)⟩
    rcases e with e | e | e
    · have := B0.ltF _ e; omega
    · omega
    · have := (A.dis _ e).2.2; omega
  · rintro e Y ⟨rfl, W1, ⟨F', D', A', q⟩, rfl⟩
    obtain ⟨A2, hk⟩ := A.wrap A' (.bool d)
    exact ⟨rfl, F', D', A2, keepQ _ _ _ q hk⟩
end

theorem kept_lt {X Y : World} {D : Nat → Prop} (h : ∀ k, D k → k < X.heap.size) (hk : ∀ k, D k → Y.heap[k]? = X.heap[k]?) (k : Nat) (e : D k) : k < Y.heap.size := by
  have h1 := hk k e
  rw [Array.getElem?_eq_getElem (h k e)] at h1
  exact (Array.getElem?_eq_some_iff.1 h1).1

/-- Two kinds side by side. -/
def Kind.or {P Q : Type} (κ : Kind P) (μ : Kind Q) : Kind (P ⊕ Q) where
  H := fun X D pv s => s.elim (fun s => κ.H X D pv s) (fun s => μ.H X D pv s)
  ok := fun n s => s.elim (κ.ok n) (μ.ok n)
  okM := fun n n' s h hs => by
    cases s with
    | inl s => exact κ.okM n n' s h hs
    | inr s => exact μ.okM n n' s h hs
  stp := fun th most next cs s => s.elim (fun s => (fun o : Out P => ⟨o.done, o.next, o.cs, o.acc, .inl o.s⟩) (κ.stp th most next cs s)) (fun s => (fun o : Out Q => ⟨o.done, o.next, o.cs, o.acc, .inr o.s⟩) (μ.stp th most next cs s))
  kept := fun {X Y D pv s} h hk => by
    cases s with
    | inl s => exact κ.kept h hk
    | inr s => exact μ.kept h hk
  lt := fun {X D pv s k} h hk => by
    cases s with
    | inl s => exact κ.lt h hk
    | inr s => exact μ.lt h hk
  few := fun th most next cs s => by
    cases s with
    | inl s => exact κ.few th most next cs s
    | inr s => exact μ.few th most next cs s
  okS := fun n th most next cs s h1 h2 h3 h4 => by
    cases s with
    | inl s => exact κ.okS n th most next cs s h1 h2 h3 h4
    | inr s => exact μ.okS n th most next cs s h1 h2 h3 h4
  step := fun n X F D b v most next th made cs t pv s A h ok hn h1 h2 => by
    cases s with
    | inl s => exact κ.step n X F D b v most next th made cs t pv s A h ok hn h1 h2
    | inr s => exact μ.step n X F D b v most next th made cs t pv s A h ok hn h1 h2
end Go.Proofs.Ytadbgmcfjemkeaa
