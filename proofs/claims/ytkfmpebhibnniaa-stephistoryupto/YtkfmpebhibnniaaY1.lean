/- Plans' procs as a kind, over a memory whose low part stays. -/
import Derived.Test.YtkfmpebhibnniaaYd
import Derived.Test.YtkfmpebhibnniaaSOf
namespace Go.Proofs.Ytkfmpebhibnniaa
open Go.RowKit Go.Shelf
set_option linter.unusedVariables false

/-- A kind of procs that lean on what lies below B and stays as it was in W0. -/
structure KindL (P : Type) (B : Nat) (W0 : World) where
  H : World → (Nat → Prop) → Value → P → Prop
  ok : Nat → P → Prop
  stp : Int → Nat → Nat → List Nat → P → Out P
  kept : ∀ {X Y : World} {D : Nat → Prop} {pv : Value} {s : P}, H X D pv s → (∀ k, D k → Y.heap[k]? = X.heap[k]?) → H Y D pv s
  lt : ∀ {X : World} {D : Nat → Prop} {pv : Value} {s : P} {k : Nat}, H X D pv s → D k → k < X.heap.size
  lo : ∀ {X : World} {D : Nat → Prop} {pv : Value} {s : P} {k : Nat}, H X D pv s → D k → B ≤ k
  few : ∀ th most next cs s, (stp th most next cs s).acc.length ≤ 1
  okM : ∀ n n' s, n ≤ n' → ok n s → ok n' s
  okS : ∀ n th most next cs s, ok n s → (∀ i, cellN cs i < 18446744073709551616) → most ≤ 4194304 → (stp th most next cs s).done = false → ok (n + 1) (stp th most next cs s).s
  step : ∀ (n : Nat) (X : World) (F D : Nat → Prop) (b v most next : Nat) (th : Int) (made : Nat) (cs : List Nat) (t : List Acc) (pv : Value) (s : P), AS X X F D F D b v most next th made cs t → H X D pv s → ok n s → n < 500000000000 → made < 549755813888 → t.length < 549755813888 → (∀ k, k < B → X.heap[k]? = W0.heap[k]?) → (∀ k, F k → B ≤ k) → B ≤ v → B ≤ X.heap.size →
    Calls Try.prog 37 #[pv, .pointer (some ⟨v, 0, none⟩)] X fun e Y => e = .returned (.bool (stp th most next cs s).done) ∧ ∃ F' D' made', AS X Y F D F' D' b v most (stp th most next cs s).next th made' (stp th most next cs s).cs (t ++ (stp th most next cs s).acc) ∧ made' ≤ made + 1 ∧ H Y D' pv (stp th most next cs s).s
/-- A plan's proc: the plan, where it lies, how far it is, what it was told. -/
structure PS where
  pl : PlP
  lp : Option Addr
  lc : Nat
  at_ : Nat
  got : List Nat
def psH (B : Nat) (X : World) (D : Nat → Prop) (pv : Value) (s : PS) : Prop := (∀ k, D k → B ≤ k) ∧ if s.pl.none = true then pv = .nilIface ∧ ∀ k, ¬ D k else ∃ pb, pv = .iface 59 (.pointer (some ⟨pb, 0, none⟩)) ∧ PlAt X D pb s.lp s.pl.L.length s.lc s.at_ s.got
def psOk (B : Nat) (W0 : World) (n : Nat) (s : PS) : Prop := DosAt W0 B s.lp s.pl.L ∧ s.pl.L.length ≤ 1048576 ∧ s.got.length ≤ n
def psS (th : Int) (most next : Nat) (cs : List Nat) (s : PS) : Out PS := if s.pl.none = true then ⟨true, next, cs, [], s⟩ else ⟨decide (s.pl.L.length ≤ s.at_ + 1), (nxtM most ⟨next, cs⟩ s.pl.L[s.at_]?).next, (nxtM most ⟨next, cs⟩ s.pl.L[s.at_]?).cs, nxtT th most ⟨next, cs⟩ s.pl.L[s.at_]?, ⟨s.pl, s.lp, s.lc, nxtA s.at_ s.pl.L[s.at_]?, s.got ++ nxtG most ⟨next, cs⟩ s.pl.L[s.at_]?⟩⟩
theorem nxtT_few (th : Int) (most : Nat) (m : Mu) (o : Option DoP) : (nxtT th most m o).length ≤ 1 := by
  unfold nxtT
  split
  · unfold mkT; split <;> simp
  · simp
theorem nxtG_few (most : Nat) (m : Mu) (o : Option DoP) : (nxtG most m o).length ≤ 1 := by
  unfold nxtG
  split
  · unfold mkG; split <;> simp
  · simp
theorem PlAt.lt {X : World} {D : Nat → Prop} {pb : Nat} {lp : Option Addr} {ln lc at_ : Nat} {got : List Nat} (h : PlAt X D pb lp ln lc at_ got) (k : Nat) (hk : D k) : k < X.heap.size := by
  obtain ⟨gv, h1, h2, h3⟩ := h.ex
  rcases (h3 k).1 hk with e | e
  · rw [e]; exact lt_of h1
  · exact row_lt h2 k e
def plK (B : Nat) (W0 : World) : KindL PS B W0 where
  H := psH B
  ok := psOk B W0
  stp := psS
  kept := fun {X Y D pv s} h hk => by
    unfold psH at h ⊢
    refine ⟨h.1, ?_⟩
    split
    · rename_i hn
      have := h.2
      rw [if_pos hn] at this
      exact this
    · rename_i hn
      have := h.2
      rw [if_neg hn] at this
      obtain ⟨pb, e, hp⟩ := this
      exact ⟨pb, e, hp.kept hk⟩
  lt := fun {X D pv s k} h hk => by
    unfold psH at h
    have := h.2
    split at this
    · exact absurd hk (this.2 k)
    · obtain ⟨pb, e, hp⟩ := this
      exact hp.lt k hk
  lo := fun {X D pv s k} h hk => h.1 k hk
  few := fun th most next cs s => by
    unfold psS
    split
    · simp
    · exact nxtT_few _ _ _ _
  okM := fun n n' s h ho => ⟨ho.1, ho.2.1, Nat.le_trans ho.2.2 h⟩
  okS := fun n th most next cs s ho _ _ _ => by
    obtain ⟨h1, h2, h3⟩ := ho
    unfold psS
    split
    · exact ⟨h1, h2, Nat.le_succ_of_le h3⟩
    · refine ⟨h1, h2, ?_⟩
      have := nxtG_few most ⟨next, cs⟩ s.pl.L[s.at_]?
      simp only [List.length_append]
      omega
  step := fun n X F D b v most next th made cs t pv s A hH ho hn h1 h2 hlow hF hv hB => by
    obtain ⟨o1, o2, o3⟩ := ho
    unfold psH at hH
    obtain ⟨hD, hH⟩ := hH
    by_cases hnn : s.pl.none = true
    · rw [if_pos hnn] at hH
      obtain ⟨rfl, hD0⟩ := hH
      refine (s_stepOf_nil _ X).mono ?_
      rintro e Y ⟨rfl, c⟩
      unfold psS
      simp only [if_pos hnn]
      refine ⟨trivial, F, D, made, ?_, by omega, ?_⟩
      · rw [List.append_nil]
        exact A.put (c.mono (fun _ _ x => x.elim))
      · unfold psH
        rw [if_pos hnn]
        exact ⟨hD, rfl, hD0⟩
    · rw [if_neg hnn] at hH
      obtain ⟨pb, rfl, hp⟩ := hH
      refine (pl_so A hp (o1.low (fun k hk => hlow k hk)) hB hD hF hv (by omega) (by omega) (by omega) (by omega)).mono ?_
      rintro e Y ⟨rfl, F', D', made', A', hm, hp'⟩
      unfold psS
      simp only [if_neg hnn]
      refine ⟨trivial, F', D', made', A', hm, ?_⟩
      unfold psH
      simp only [if_neg hnn]
      exact ⟨fun k e => (A'.newD k e).elim (hD k) (fun q => by omega), pb, rfl, hp'⟩
end Go.Proofs.Ytkfmpebhibnniaa
