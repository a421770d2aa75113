/- Runs of procs: Cas as a kind; an At, step by step, and as a kind. -/
import Derived.Test.YtadbgmcfjemkeaaGh
namespace Go.Proofs.Ytadbgmcfjemkeaa
open Go.RowKit Go.Shelf
set_option linter.unusedVariables false

theorem alAt_le (most next n : Nat) (h : most ≤ 4194304) : alAt most next n < 18446744073709551616 := by
  unfold alAt
  split
  · next c => simp [alOk] at c; omega
  · omega
theorem tlP_not {cs : List Nat} {ver pos : Nat} (h : tlD cs ver pos = false) : tlP cs ver pos ≤ 2 := by
  unfold tlD at h
  unfold tlP at h ⊢
  split at h <;> split <;> simp_all
theorem tlS_lt {cs : List Nat} {cam pos st : Nat} (hc : ∀ i, cellN cs i < 18446744073709551616) (h : st < 18446744073709551616) : tlS cs cam pos st < 18446744073709551616 := by
  unfold tlS
  split
  · exact hc _
  · exact h
theorem fdO_ok {th : Int} {most next : Nat} {cs : List Nat} {cam obj : Nat} {s : VS} (hc : ∀ i, cellN cs i < 18446744073709551616) (hst : s.st < 18446744073709551616) (hhd : s.head < 18446744073709551616) : ((fdO th most next cs cam obj s).done = false → (fdO th most next cs cam obj s).s.fok) ∧ (fdO th most next cs cam obj s).s.st < 18446744073709551616 ∧ (fdO th most next cs cam obj s).s.head < 18446744073709551616 := by
  unfold fdO
  split
  · refine ⟨fun h => ?_, hst, hc _⟩
    simp at h
    exact .inr ⟨by simp [fpN, h], by simp⟩
  · refine ⟨fun h => ?_, tlS_lt hc hst, hhd⟩
    simp only at h
    exact .inr ⟨by simp [h], tlP_not h⟩
theorem rdO_ok {th : Int} {most next : Nat} {cs : List Nat} {cam obj : Nat} {s : RS} (hc : ∀ i, cellN cs i < 18446744073709551616) (hst : s.f.st < 18446744073709551616) (hhd : s.f.head < 18446744073709551616) : ((rdO th most next cs cam obj s).done = false → (rdO th most next cs cam obj s).s.rok) ∧ (rdO th most next cs cam obj s).s.f.st < 18446744073709551616 ∧ (rdO th most next cs cam obj s).s.f.head < 18446744073709551616 := by
  unfold rdO
  split
  · obtain ⟨h1, h2, h3⟩ := fdO_ok (th := th) (most := most) (next := next) (cam := cam) (obj := obj) hc hst hhd
    refine ⟨fun h => ?_, h2, h3⟩
    cases hd : (fdO th most next cs cam obj s.f).done
    · exact .inl ⟨by simp [hd], h1 hd⟩
    · refine .inr ?_
      simp [hd] at h
      simp [hd, h]
  · exact ⟨fun h => by simp at h, hst, hhd⟩

structure CasP where
  cam : Nat
  obj : Nat
  s : CasS
theorem casO_ok {th : Int} {most next : Nat} {cs : List Nat} {cam obj : Nat} {s : CasS} (hc : ∀ i, cellN cs i < 18446744073709551616) (hm : most ≤ 4194304) (h : s.cok) (hd : (casO th most next cs cam obj s).done = false) : (casO th most next cs cam obj s).s.cok := by
  obtain ⟨hf, hst, hhd, hnow, hmd⟩ := h
  unfold casO at hd ⊢
  by_cases h0 : s.nx = 0
  · simp only [if_pos h0] at hd ⊢
    obtain ⟨h1, h2, h3⟩ := rdO_ok (th := th) (most := most) (next := next) (cam := cam) (obj := obj) hc hst hhd
    cases hq : (rdO th most next cs cam obj s.r).done
    · simp only [Bool.false_eq_true, if_false]
      exact ⟨.inl ⟨h0, h1 hq⟩, h2, h3, hnow, hmd⟩
    · simp only [hq, if_true] at hd ⊢
      unfold CasS.comp at hd ⊢
      split at hd
      · next c => rw [if_pos c]; exact ⟨.inr (.inl rfl), h2, h3, hnow, hmd⟩
      · simp at hd
  · simp only [if_neg h0] at hd ⊢
    by_cases h1 : s.nx = 1
    · simp only [if_pos h1] at hd ⊢
      simp at hd
      exact ⟨.inr (.inr (.inl (by simp [CasS.grown, hd]))), hst, hhd, hnow, alAt_le _ _ _ hm⟩
    · simp only [if_neg h1] at hd ⊢
      by_cases h2 : s.nx = 2
      · simp only [if_pos h2] at hd ⊢
        split
        · exact ⟨.inr (.inr (.inr (.inr ⟨.inl rfl, Nat.zero_le _⟩))), hst, hhd, hnow, hmd⟩
        · exact ⟨.inr (.inr (.inr (.inl rfl))), hst, hhd, hnow, hmd⟩
      · simp only [if_neg h2] at hd ⊢
        by_cases h3 : s.nx = 3
        · simp only [if_pos h3] at hd ⊢
          exact ⟨.inr (.inr (.inr (.inr ⟨.inr rfl, Nat.zero_le _⟩))), hst, hhd, hnow, hmd⟩
        · simp only [if_neg h3] at hd ⊢
          have h45 : s.nx = 4 ∨ s.nx = 5 := by
            rcases hf with h | h | h | h | h
            · exact absurd h.1 h0
            · exact absurd h h1
            · exact absurd h h2
            · exact absurd h h3
            · exact h.1
          exact ⟨.inr (.inr (.inr (.inr ⟨by simp [CasS.told, hd]; exact h45, tlP_not hd⟩))), tlS_lt hc hst, hhd, hnow, hmd⟩
theorem casO_few (th : Int) (most next : Nat) (cs : List Nat) (cam obj : Nat) (s : CasS) : (casO th most next cs cam obj s).acc.length ≤ 1 := by
  have hf : ∀ s, (fdO th most next cs cam obj s).acc.length ≤ 1 := fun s => by unfold fdO; split <;> simp
  have hr : ∀ s, (rdO th most next cs cam obj s).acc.length ≤ 1 := fun s => by
    unfold rdO
    split
    · exact hf _
    · simp
  unfold casO
  split
  · have := hr s.r
    simp only
    split <;> exact this
  · split
    · simp
    · split
      · simp
      · split <;> simp
def casK : Kind CasP where
  H := fun X D pv s => ∃ p, pv = .iface 53 (.pointer (some ⟨p, 0, none⟩)) ∧ FH X D p 95 s.cam s.obj (csL s.s) s.s.r.f ∧ ∀ k, D k → k < X.heap.size
  ok := fun _ s => s.s.cok ∧ s.cam < 18446744073709551616 ∧ s.obj < 18446744073709551616
  okM := fun _ _ _ _ h => h
  stp := fun th most next cs s => (fun o : Out CasS => ⟨o.done, o.next, o.cs, o.acc, ⟨s.cam, s.obj, o.s⟩⟩) (casO th most next cs s.cam s.obj s.s)
  kept := fun {X Y D pv s} h hk => by
    obtain ⟨p, e, H, L⟩ := h
    exact ⟨p, e, H.kept hk, kept_lt L hk⟩
  lt := fun {X D pv s k} h hk => by
    obtain ⟨p, e, H, L⟩ := h
    exact L k hk
  few := fun th most next cs s => casO_few th most next cs s.cam s.obj s.s
  okS := fun _ th most next cs s h hc hm hd => ⟨casO_ok hc hm h.1 hd, h.2⟩
  step := fun _ X F D b v most next th made cs t pv s A h ok hn h1 h2 => by
    obtain ⟨p, rfl, H, L⟩ := h
    refine (as_so (made' := made + 1) (so_Gcas p) A (fun Y D' => FH Y D' p 95 s.cam s.obj (csL (casO th most next cs s.cam s.obj s.s).s) (casO th most next cs s.cam s.obj s.s).s.r.f) (fun Y Y' D' h hk => h.kept hk) (fun X1 hX A1 => as_cas A1 (H.kept hX) ok.1 ok.2.1 ok.2.2 (by omega) (by omega) _ rfl)).mono ?_
    rintro e Y ⟨rfl, F', D', A', H'⟩
    exact ⟨rfl, F', D', made + 1, A', Nat.le_refl _, p, rfl, H', fun k e => (A'.dis k e).2.2⟩
end Go.Proofs.Ytadbgmcfjemkeaa
