/- Runs of procs: a Read as a kind; Reads, Cas, Ats and Takes side by side. -/
import Derived.Test.YtadbgmcfjemkeaaGk
namespace Go.Proofs.Ytadbgmcfjemkeaa
open Go.RowKit Go.Shelf
set_option linter.unusedVariables false

structure RdP where
  cam : Nat
  obj : Nat
  s : RS
theorem rdO_few (th : Int) (most next : Nat) (cs : List Nat) (cam obj : Nat) (s : RS) : (rdO th most next cs cam obj s).acc.length ≤ 1 := by
  have hf : ∀ s, (fdO th most next cs cam obj s).acc.length ≤ 1 := fun s => by unfold fdO; split <;> simp
  unfold rdO
  split
  · exact hf _
  · simp
def readK : Kind RdP where
  H := fun X D pv s => ∃ p, pv = .iface 52 (.pointer (some ⟨p, 0, none⟩)) ∧ FH X D p 107 s.cam s.obj (rdL s.s []) s.s.f ∧ ∀ k, D k → k < X.heap.size
  ok := fun _ s => (s.s.rok ∧ s.s.f.st < 18446744073709551616 ∧ s.s.f.head < 18446744073709551616) ∧ s.cam < 18446744073709551616 ∧ s.obj < 18446744073709551616
  okM := fun _ _ _ _ h => h
  stp := fun th most next cs s => (fun o : Out RS => ⟨o.done, o.next, o.cs, o.acc, ⟨s.cam, s.obj, o.s⟩⟩) (rdO th most next cs s.cam s.obj s.s)
  kept := fun {X Y D pv s} h hk => by
    obtain ⟨p, e, H, L⟩ := h
    exact ⟨p, e, H.kept hk, kept_lt L hk⟩
  lt := fun {X D pv s k} h hk => by
    obtain ⟨p, e, H, L⟩ := h
    exact L k hk
  few := fun th most next cs s => rdO_few th most next cs s.cam s.obj s.s
  okS := fun _ th most next cs s h hc hm hd => by
    obtain ⟨h1, h2, h3⟩ := rdO_ok (th := th) (most := most) (next := next) (cam := s.cam) (obj := s.obj) hc h.1.2.1 h.1.2.2
    exact ⟨⟨h1 hd, h2, h3⟩, h.2⟩
  step := fun _ X F D b v most next th made cs t pv s A h ok hn h1 h2 => by
    obtain ⟨p, rfl, H, L⟩ := h
    refine (as_so (made' := made + 1) (so_Gread p) A (fun Y D' => FH Y D' p 107 s.cam s.obj (rdL (rdO th most next cs s.cam s.obj s.s).s []) (rdO th most next cs s.cam s.obj s.s).s.f) (fun Y Y' D' h hk => h.kept hk) (fun X1 hX A1 => readstep_any _ _ _ (as_read A1 (H.kept hX) ok.1.1 ok.2.1 ok.2.2 ok.1.2.1 ok.1.2.2 (by omega) (by omega) _ rfl))).mono ?_
    rintro e Y ⟨rfl, F', D', A', H'⟩
    exact ⟨rfl, F', D', made + 1, A', Nat.le_refl _, p, rfl, H', fun k e => (A'.dis k e).2.2⟩
abbrev VP := RdP ⊕ (CasP ⊕ (AtP ⊕ TkS))
def vcK : Kind VP := readK.or (casK.or (atK.or takeK))
end Go.Proofs.Ytadbgmcfjemkeaa
