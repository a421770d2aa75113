/- Runs of Reads, Cas, Ats and Takes: what stays over a run (pure). -/
import Derived.Test.YtadbgmcfjemkeaaGw
import Derived.Test.YtadbgmcfjemkeaaVw
namespace Go.Proofs.Ytadbgmcfjemkeaa
open Go.RowKit Go.Shelf
set_option linter.unusedVariables false

def VP.pp (next : Nat) (cs : List Nat) (ch : Nat → List Nat) (own : Nat → Nat × Nat) (ij : Nat × Nat) : VP → Prop
  | .inl s => s.cam = 1 ∧ isO s.obj ∧ RD cs (ch s.obj) s.s
  | .inr (.inl s) => s.pp next cs ch own ij
  | .inr (.inr (.inl s)) => s.cam = 1 ∧ isO s.obj ∧ (s.s.nx = 0 → FD cs (ch s.obj) s.s.f)
  | .inr (.inr (.inr s)) => s.cell = 1
def VP.on : VP → Prop
  | .inl s => s.s.rok
  | .inr (.inl s) => s.s.con
  | .inr (.inr (.inl s)) => s.s.nx = 0 → s.s.f.fok
  | .inr (.inr (.inr _)) => True
def VP.inst (o a : Nat) : VP → Prop
  | .inr (.inl s) => s.obj = o ∧ s.s.made = a ∧ Inst s.s
  | _ => False
def VP.sig : VP → Nat × Nat × Nat × Nat
  | .inl s => (0, s.obj, 0, 0)
  | .inr (.inl s) => (1, s.obj, s.s.old, s.s.now)
  | .inr (.inr (.inl s)) => (2, s.obj, 0, 0)
  | .inr (.inr (.inr _)) => (3, 0, 0, 0)
section
variable {next : Nat} {cs cs' : List Nat} {ch ch' : Nat → List Nat} {own own' : Nat → Nat × Nat} {ij ij' : Nat × Nat} {next' : Nat} {o : Nat}
theorem VP.pp.mono {s : VP} (h : GI next cs ch) (G : Goo next cs ch own ij next' cs' ch' own') (hn : ij' ≠ ij) (P : VP.pp next cs ch own ij' s) : VP.pp next' cs' ch' own' ij' s := by
  rcases s with s | s | s | s
  · exact ⟨P.1, P.2.1, P.2.2.mono h G.gr G.gi P.2.1⟩
  · exact CasP.pp.mono h G hn P
  · exact ⟨P.1, P.2.1, fun z => (P.2.2 z).mono h G.gr G.gi P.2.1⟩
  · exact P
theorem vc_gi {s : VP} {th : Int} (h : GI next cs ch) (P : VP.pp next cs ch own ij s) (hon : VP.on s) (q : Out VP) (e : vcK.stp th 16384 next cs s = q) :
    ∃ ch' own', Goo next cs ch own ij q.next q.cs ch' own' ∧ VP.pp q.next q.cs ch' own' ij q.s ∧ (q.done = false → VP.on q.s) ∧ (∀ o a, a ∈ ch' o → a ∈ ch o ∨ VP.inst o a q.s) ∧ (∀ o a, VP.inst o a s → VP.inst o a q.s) ∧ VP.sig q.s = VP.sig s := by
  subst e
  rcases s with s | s | s | s
  · obtain ⟨hc, ho, R⟩ := P
    obtain ⟨q, hq⟩ : ∃ q, rdO th 16384 next cs s.cam s.obj s.s = q := ⟨_, rfl⟩
    have hq' := hq
    rw [hc] at hq'
    obtain ⟨e1, e2, e3, e4, e5⟩ := read_gi (own := own) (ij := ij) h ho R hon q hq'
    show ∃ ch' own', Goo next cs ch own ij (rdO th 16384 next cs s.cam s.obj s.s).next (rdO th 16384 next cs s.cam s.obj s.s).cs ch' own' ∧ VP.pp (rdO th 16384 next cs s.cam s.obj s.s).next (rdO th 16384 next cs s.cam s.obj s.s).cs ch' own' ij (.inl ⟨s.cam, s.obj, (rdO th 16384 next cs s.cam s.obj s.s).s⟩) ∧ ((rdO th 16384 next cs s.cam s.obj s.s).done = false → (rdO th 16384 next cs s.cam s.obj s.s).s.rok) ∧ _ ∧ _ ∧ _
    rw [hq, e1]
    exact ⟨ch, own, e2, ⟨hc, ho, e3⟩, e5, fun o a z => .inl z, fun o a z => z, rfl⟩
  · obtain ⟨ch', own', g1, g2, g3, g4, g5, g6, g7, g8⟩ := cas_gi (th := th) h P hon _ rfl
    refine ⟨ch', own', g1, g2, g3, fun o a z => (g5 o a z).imp id (fun y => ⟨y.1.symm, y.2.1.symm, y.2.2⟩), fun o a z => ?_, ?_⟩
    · obtain ⟨z1, z2, z3⟩ := z
      exact ⟨z1, (g6 z3).2.trans z2, (g6 z3).1⟩
    · show (1, s.obj, _, _) = (1, s.obj, s.s.old, s.s.now)
      exact Prod.ext rfl (Prod.ext rfl (Prod.ext g7 g8))
  · obtain ⟨hc, ho, R⟩ := P
    show ∃ ch' own', Goo next cs ch own ij (atO th 16384 next cs s.cam s.obj s.s).next (atO th 16384 next cs s.cam s.obj s.s).cs ch' own' ∧ (s.cam = 1 ∧ isO s.obj ∧ ((atO th 16384 next cs s.cam s.obj s.s).s.nx = 0 → FD (atO th 16384 next cs s.cam s.obj s.s).cs (ch' s.obj) (atO th 16384 next cs s.cam s.obj s.s).s.f)) ∧ ((atO th 16384 next cs s.cam s.obj s.s).done = false → (atO th 16384 next cs s.cam s.obj s.s).s.nx = 0 → (atO th 16384 next cs s.cam s.obj s.s).s.f.fok) ∧ _ ∧ _ ∧ _
    unfold atO
    by_cases h0 : s.s.nx = 0
    · simp only [if_pos h0]
      rw [hc]
      obtain ⟨q, hq⟩ : ∃ q, fdO th 16384 next cs 1 s.obj s.s.f = q := ⟨_, rfl⟩
      obtain ⟨e1, e2, e3, e4, e5⟩ := find_gi (own := own) (ij := ij) h ho (R h0) (hon h0) q hq
      rw [hq, e1]
      refine ⟨ch, own, e2, ⟨rfl, ho, fun _ => e3⟩, fun _ z => e5 ?_, fun o a z => .inl z, fun o a z => z.elim, rfl⟩
      cases hd : q.done
      · rfl
      · rw [hd] at z
        by_cases c : q.s.head = 0 <;> simp [c] at z
    · simp only [if_neg h0]
      split
      · exact ⟨ch, own, Goo.refl h own ij, ⟨hc, ho, fun z => by simp only at z; split at z <;> omega⟩, fun _ z => by simp only at z; split at z <;> omega, fun o a z => .inl z, fun o a z => z.elim, rfl⟩
      · split
        · exact ⟨ch, own, Goo.refl h own ij, ⟨hc, ho, fun z => by simp only at z; split at z <;> omega⟩, fun _ z => by simp only at z; split at z <;> omega, fun o a z => .inl z, fun o a z => z.elim, rfl⟩
        · exact ⟨ch, own, Goo.refl h own ij, ⟨hc, ho, fun z => by simp at z⟩, fun z => by simp at z, fun o a z => .inl z, fun o a z => z.elim, rfl⟩
  · have hc : s.cell = 1 := P
    show ∃ ch' own', Goo next cs ch own ij (tkO th 16384 next cs s).next (tkO th 16384 next cs s).cs ch' own' ∧ (tkO th 16384 next cs s).s.cell = 1 ∧ ((tkO th 16384 next cs s).done = false → True) ∧ _ ∧ _ ∧ _
    unfold tkO
    split
    · exact ⟨ch, own, Goo.refl h own ij, hc, fun _ => trivial, fun o a z => .inl z, fun o a z => z.elim, rfl⟩
    · simp only [hc]
      exact ⟨ch, own, h.take _, by first | rfl | trivial, fun _ => trivial, fun o a z => .inl z, fun o a z => z.elim, rfl⟩
end
/-- What stays over a run. -/
structure VInv (T : Nat) (cl : Nat → Nat) (c : Cfg VP) (ch : Nat → List Nat) (own : Nat → Nat × Nat) : Prop where
  gi : GI c.next c.cs ch
  pp : ∀ i j, i < T → j < cl i → VP.pp c.next c.cs ch own (i, j) (c.σ i j)
  on : ∀ i j, i < T → j < cl i → c.ix i ≤ j → VP.on (c.σ i j)
def OWn (T : Nat) (cl : Nat → Nat) (c : Cfg VP) (ch : Nat → List Nat) (own : Nat → Nat × Nat) : Prop :=
  ∀ o a, isO o → a ∈ ch o → (own a).1 < T ∧ (own a).2 < cl (own a).1 ∧ VP.inst o a (c.σ (own a).1 (own a).2)
/-- What leads from one to the next. -/
structure VGo (T : Nat) (cl : Nat → Nat) (c : Cfg VP) (ch : Nat → List Nat) (own : Nat → Nat × Nat) (c' : Cfg VP) (ch' : Nat → List Nat) (own' : Nat → Nat × Nat) : Prop where
  inv : VInv T cl c' ch' own'
  gr : Gr c.cs ch c'.cs ch'
  sig : ∀ i j, VP.sig (c'.σ i j) = VP.sig (c.σ i j)
  ow : OWn T cl c ch own → OWn T cl c' ch' own'
theorem VInv.pick {T : Nat} {cl : Nat → Nat} {c : Cfg VP} {ch : Nat → List Nat} {own : Nat → Nat × Nat} (h : VInv T cl c ch own) (th : Int) : ∃ ch' own', VGo T cl c ch own (c.pick vcK 16384 T cl th) ch' own' := by
  unfold Cfg.pick
  split
  · next c0 =>
    obtain ⟨i, rfl⟩ : ∃ i : Nat, th = (i : Int) := ⟨th.toNat, by omega⟩
    have hi : i < T := by omega
    have hj : c.ix i < cl i := by simpa using c0.2.2
    show ∃ ch' own', VGo T cl c ch own (c.go vcK 16384 i) ch' own'
    obtain ⟨ch', own', g1, g2, g3, g4, g5, g6⟩ := vc_gi (th := (i : Int)) h.gi (h.pp i (c.ix i) hi hj) (h.on i (c.ix i) hi hj (Nat.le_refl _)) (c.out vcK 16384 i) rfl
    have at_ : ∀ j q, updN c.σ i (updN (c.σ i) (c.ix i) (c.out vcK 16384 i).s) j q = if j = i ∧ q = c.ix i then (c.out vcK 16384 i).s else c.σ j q := fun j q => by
      by_cases e : j = i
      · subst e
        rw [updN_same]
        by_cases e2 : q = c.ix j
        · subst e2; rw [updN_same, if_pos ⟨rfl, rfl⟩]
        · rw [updN_other _ _ _ _ e2, if_neg (fun z => e2 z.2)]
      · rw [updN_other _ _ _ _ e, if_neg (fun z => e z.1)]
    refine ⟨ch', own', ⟨g1.gi, fun j q hj2 hq => ?_, fun j q hj2 hq hle => ?_⟩, g1.gr, fun j q => ?_, fun O o a ho ha => ?_⟩
    · show VP.pp _ _ ch' own' (j, q) (updN c.σ i (updN (c.σ i) (c.ix i) (c.out vcK 16384 i).s) j q)
      rw [at_]
      split
      · next z => rw [z.1, z.2]; exact g2
      · next z => exact (h.pp j q hj2 hq).mono h.gi g1 (fun y => z (by simpa using y))
    · show VP.on (updN c.σ i (updN (c.σ i) (c.ix i) (c.out vcK 16384 i).s) j q)
      have hle' : updN c.ix i (if (c.out vcK 16384 i).done then c.ix i + 1 else c.ix i) j ≤ q := hle
      rw [at_]
      split
      · next z =>
        obtain ⟨rfl, rfl⟩ := z
        rw [updN_same] at hle'
        refine g3 ?_
        cases hd : (c.out vcK 16384 j).done
        · rfl
        · rw [hd] at hle'; simp at hle'; omega
      · next z =>
        refine h.on j q hj2 hq ?_
        by_cases e : j = i
        · subst e
          rw [updN_same] at hle'
          split at hle' <;> omega
        · rw [updN_other _ _ _ _ e] at hle'; exact hle'
    · show VP.sig (updN c.σ i (updN (c.σ i) (c.ix i) (c.out vcK 16384 i).s) j q) = _
      rw [at_]
      split
      · next z => rw [z.1, z.2]; exact g6
      · rfl
    · show _ ∧ _ ∧ VP.inst o a (updN c.σ i (updN (c.σ i) (c.ix i) (c.out vcK 16384 i).s) (own' a).1 (own' a).2)
      rw [at_]
      rcases g4 o a ha with z | z
      · obtain ⟨o1, o2, o3⟩ := O o a ho z
        rw [g1.ow a (h.gi.vs o ho a z).2.1]
        refine ⟨o1, o2, ?_⟩
        split
        · next y =>
          rw [y.1, y.2] at o3
          exact g5 o a o3
        · exact o3
      · have ow : own' a = (i, c.ix i) := by
          rcases hs : (c.out vcK 16384 i).s with s | s | s | s
          · rw [hs] at z; exact z.elim
          · rw [hs] at z g2
            have := (CasP.pp.ins g2 z.2.2).ow
            rw [z.2.1] at this
            exact this
          · rw [hs] at z; exact z.elim
          · rw [hs] at z; exact z.elim
        rw [ow]
        refine ⟨hi, hj, ?_⟩
        rw [if_pos ⟨rfl, rfl⟩]
        exact z
  · exact ⟨ch, own, h, Gr.refl _ _, fun _ _ => rfl, fun z => z⟩
theorem VInv.run {T : Nat} {cl : Nat → Nat} (picks : List Int) {c : Cfg VP} {ch : Nat → List Nat} {own : Nat → Nat × Nat} (h : VInv T cl c ch own) : ∃ ch' own', VGo T cl c ch own (c.run vcK 16384 T cl picks) ch' own' := by
  induction picks generalizing c ch own with
  | nil => exact ⟨ch, own, h, Gr.refl _ _, fun _ _ => rfl, fun z => z⟩
  | cons x r ih =>
    obtain ⟨ch1, own1, v1⟩ := h.pick x
    obtain ⟨ch2, own2, v2⟩ := ih v1.inv
    exact ⟨ch2, own2, v2.inv, v1.gr.trans v2.gr, fun i j => (v2.sig i j).trans (v1.sig i j), fun z => v2.ow (v1.ow z)⟩
/-- The chain, and the row that Versions tells. -/
theorem ch_len {l : List Nat} {n : Nat} (hp : l.Pairwise (fun a b => b < a)) (hn : ∀ a ∈ l, a < n) : l.length ≤ n := by
  induction l generalizing n with
  | nil => exact Nat.zero_le _
  | cons a l ih =>
    obtain ⟨h1, h2⟩ := List.pairwise_cons.1 hp
    have := ih (n := a) h2 h1
    have := hn a (by simp)
    simp only [List.length_cons]
    omega
theorem hN_ch {cs : List Nat} {o : Nat} {l : List Nat} (c : Ch cs (cellN cs o) l) : (∀ k a, l[k]? = some a → hN cs o k = a) ∧ hN cs o l.length = 0 := by
  have key : ∀ (m : Nat) (l : List Nat), Ch cs (hN cs o m) l → (∀ k a, l[k]? = some a → hN cs o (m + k) = a) ∧ hN cs o (m + l.length) = 0 := by
    intro m l
    induction l generalizing m with
    | nil => exact fun c => ⟨fun k a h => by simp at h, c⟩
    | cons b l ih =>
      intro c
      obtain ⟨c1, c2, c3⟩ := c
      have c3' : Ch cs (hN cs o (m + 1)) l := by
        show Ch cs (cellN cs (hN cs o m + 2)) l
        rw [c1]; exact c3
      obtain ⟨i1, i2⟩ := ih (m + 1) c3'
      refine ⟨fun k a h => ?_, by rw [List.length_cons, show m + (l.length + 1) = m + 1 + l.length by omega]; exact i2⟩
      cases k with
      | zero => simp at h; rw [Nat.add_zero, c1, h]
      | succ k => rw [show m + (k + 1) = m + 1 + k by omega]; exact i1 k a (by simpa using h)
  obtain ⟨h1, h2⟩ := key 0 l c
  exact ⟨fun k a h => by have := h1 k a h; rwa [Nat.zero_add] at this, by rwa [Nat.zero_add] at h2⟩
theorem GI.stops {next : Nat} {cs : List Nat} {ch : Nat → List Nat} (h : GI next cs ch) {o K : Nat} (ho : isO o) (S : Stops cs 16384 o K) : K = (ch o).length ∧ ∀ k a, (ch o)[k]? = some a → hN cs o k = a := by
  obtain ⟨h1, h2⟩ := hN_ch (h.chn o ho)
  have hn := h.nx
  have hl : (ch o).length ≤ next := ch_len ((h.pw o ho).imp (fun r => r.1)) (fun a ha => by have := h.vs o ho a ha; omega)
  refine ⟨?_, h1⟩
  obtain ⟨s1, s2, s3⟩ := S
  rcases Nat.lt_trichotomy K (ch o).length with c | c | c
  · exfalso
    refine s3 ⟨?_, by omega⟩
    have hg := List.getElem?_eq_getElem c
    rw [h1 K _ hg]
    have := h.vs o ho _ (List.mem_of_getElem? hg)
    exact ⟨by omega, by omega⟩
  · exact c
  · exfalso
    have := s2 _ c
    rw [h2] at this
    exact this.1 rfl
end Go.Proofs.Ytadbgmcfjemkeaa
