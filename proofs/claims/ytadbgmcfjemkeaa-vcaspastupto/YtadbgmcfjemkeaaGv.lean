/- Of what Reads, Cas, Ats and Takes do beside each other: chains of versions (pure). -/
import Derived.Test.YtadbgmcfjemkeaaGu
namespace Go.Proofs.Ytadbgmcfjemkeaa
open Go.RowKit Go.Shelf
set_option linter.unusedVariables false

def isO (o : Nat) : Prop := 2 ≤ o ∧ o ≤ 4
def Ch (cs : List Nat) : Nat → List Nat → Prop
  | h, [] => h = 0
  | h, a :: l => h = a ∧ a ≠ 0 ∧ Ch cs (cellN cs (a + 2)) l
theorem Ch.congr {cs cs' : List Nat} {h : Nat} {l : List Nat} (c : Ch cs h l) (e : ∀ a ∈ l, cellN cs' (a + 2) = cellN cs (a + 2)) : Ch cs' h l := by
  induction l generalizing h with
  | nil => exact c
  | cons a l ih => exact ⟨c.1, c.2.1, by rw [e a (by simp)]; exact ih c.2.2 (fun b hb => e b (by simp [hb]))⟩
theorem Ch.zero {cs : List Nat} {l : List Nat} (c : Ch cs 0 l) : l = [] := by
  cases l with
  | nil => rfl
  | cons a l => exact absurd c.1.symm c.2.1
theorem Ch.head {cs : List Nat} {h : Nat} {l : List Nat} (c : Ch cs h l) (hn : h ≠ 0) : ∃ r, l = h :: r := by
  cases l with
  | nil => exact absurd c hn
  | cons a l => exact ⟨l, by rw [c.1]⟩
theorem Ch.ne {cs : List Nat} {h a : Nat} {l : List Nat} (c : Ch cs h l) (ha : a ∈ l) : h ≠ 0 := by
  cases l with
  | nil => simp at ha
  | cons b l => rw [c.1]; exact c.2.1
def Pw (cs : List Nat) (a b : Nat) : Prop := b < a ∧ cellN cs (b + 1) ≠ 0 ∧ (cellN cs (a + 1) ≠ 0 → cellN cs (b + 1) ≤ cellN cs (a + 1))
theorem pw_get {cs l : List Nat} (h : l.Pairwise (Pw cs)) {a b : Nat} (ha : a ∈ l) (hb : b ∈ l) (hl : b < a) : Pw cs a b := by
  induction l with
  | nil => simp at ha
  | cons x l ih =>
    obtain ⟨h1, h2⟩ := List.pairwise_cons.1 h
    rcases List.mem_cons.1 ha with e | ha' <;> rcases List.mem_cons.1 hb with e' | hb'
    · omega
    · subst e; exact h1 b hb'
    · subst e'; have := (h1 a ha').1; omega
    · exact ih h2 ha' hb'
structure GI (next : Nat) (cs : List Nat) (ch : Nat → List Nat) : Prop where
  nx : 5 ≤ next ∧ next ≤ 16384 ∧ next % 3 = 2
  cam : 1 ≤ cellN cs 1
  chn : ∀ o, isO o → Ch cs (cellN cs o) (ch o)
  vs : ∀ o, isO o → ∀ a ∈ ch o, 5 ≤ a ∧ a + 3 ≤ next ∧ a % 3 = 2 ∧ cellN cs (a + 1) ≤ cellN cs 1
  pw : ∀ o, isO o → (ch o).Pairwise (Pw cs)
  dj : ∀ o p a, isO o → isO p → a ∈ ch o → a ∈ ch p → o = p
/-- What stays, and what grows. -/
structure Gr (cs : List Nat) (ch : Nat → List Nat) (cs' : List Nat) (ch' : Nat → List Nat) : Prop where
  cam : cellN cs 1 ≤ cellN cs' 1
  suf : ∀ o, isO o → ∃ pre, ch' o = pre ++ ch o
  val : ∀ o, isO o → ∀ a ∈ ch o, cellN cs' a = cellN cs a ∧ cellN cs' (a + 2) = cellN cs (a + 2) ∧ (cellN cs (a + 1) ≠ 0 → cellN cs' (a + 1) = cellN cs (a + 1))
  obj : ∀ o, isO o → cellN cs o ≠ 0 → cellN cs' o ≠ 0
theorem Gr.refl (cs : List Nat) (ch : Nat → List Nat) : Gr cs ch cs ch := ⟨Nat.le_refl _, fun o _ => ⟨[], rfl⟩, fun _ _ _ _ => ⟨rfl, rfl, fun _ => rfl⟩, fun _ _ h => h⟩
theorem Gr.mem {cs cs' : List Nat} {ch ch' : Nat → List Nat} (g : Gr cs ch cs' ch') {o a : Nat} (ho : isO o) (ha : a ∈ ch o) : a ∈ ch' o := by
  obtain ⟨pre, e⟩ := g.suf o ho
  rw [e]; exact List.mem_append_right _ ha
theorem Gr.trans {c1 c2 c3 : List Nat} {h1 h2 h3 : Nat → List Nat} (g : Gr c1 h1 c2 h2) (k : Gr c2 h2 c3 h3) : Gr c1 h1 c3 h3 := by
  refine ⟨Nat.le_trans g.cam k.cam, fun o ho => ?_, fun o ho a ha => ?_, fun o ho h => k.obj o ho (g.obj o ho h)⟩
  · obtain ⟨p, e⟩ := g.suf o ho
    obtain ⟨q, e'⟩ := k.suf o ho
    exact ⟨q ++ p, by rw [e', e, List.append_assoc]⟩
  · obtain ⟨a1, a2, a3⟩ := g.val o ho a ha
    obtain ⟨b1, b2, b3⟩ := k.val o ho a (g.mem ho ha)
    exact ⟨b1.trans a1, b2.trans a2, fun h => (b3 (by rw [a3 h]; exact h)).trans (a3 h)⟩
def Nf (next : Nat) (cs : List Nat) (ch : Nat → List Nat) (own : Nat → Nat × Nat) (ij : Nat × Nat) (cs' : List Nat) (ch' : Nat → List Nat) : Prop :=
  ∀ a, 5 ≤ a → a + 3 ≤ next → a % 3 = 2 → own a ≠ ij → (∀ o, isO o → a ∉ ch o) → cellN cs' a = cellN cs a ∧ cellN cs' (a + 1) = cellN cs (a + 1) ∧ cellN cs' (a + 2) = cellN cs (a + 2) ∧ ∀ o, isO o → a ∉ ch' o
/-- What a step of one proc does to all. -/
structure Goo (next : Nat) (cs : List Nat) (ch : Nat → List Nat) (own : Nat → Nat × Nat) (ij : Nat × Nat) (next' : Nat) (cs' : List Nat) (ch' : Nat → List Nat) (own' : Nat → Nat × Nat) : Prop where
  gi : GI next' cs' ch'
  gr : Gr cs ch cs' ch'
  nf : Nf next cs ch own ij cs' ch'
  le : next ≤ next'
  ow : ∀ a, a + 3 ≤ next → own' a = own a
theorem Goo.refl {next : Nat} {cs : List Nat} {ch : Nat → List Nat} (h : GI next cs ch) (own : Nat → Nat × Nat) (ij : Nat × Nat) : Goo next cs ch own ij next cs ch own :=
  ⟨h, Gr.refl _ _, fun a _ _ _ _ h => ⟨rfl, rfl, rfl, h⟩, Nat.le_refl _, fun _ _ => rfl⟩

theorem casN_eq (cs : List Nat) (a old now j : Nat) (ha : a < 16384) : cellN (casN 16384 cs a old now) j = if j = a ∧ cellN cs a = old then now else cellN cs j := by
  unfold casN
  by_cases c : cellN cs a = old
  · rw [if_pos ⟨ha, c⟩, putN_cell]; simp [c]
  · rw [if_neg (fun e => c e.2)]; simp [c]
/-- The telling of a version's stamp. -/
structure TL (cs l : List Nat) (ver pos st : Nat) : Prop where
  mem : ver ∈ l
  two : pos = 2 → 1 ≤ st ∧ st ≤ cellN cs 1 ∧ ∀ b ∈ l, b < ver → cellN cs (b + 1) ≤ st
  three : pos = 3 → cellN cs (ver + 1) ≠ 0
section
variable {next : Nat} {cs cs' : List Nat} {ch ch' : Nat → List Nat} {own own' : Nat → Nat × Nat} {ij : Nat × Nat} {next' : Nat}
theorem GI.tell (h : GI next cs ch) {o ver pos st : Nat} (ho : isO o) (t : TL cs (ch o) ver pos st) (hp : pos ≤ 2) :
    Goo next cs ch own ij next (tlC 16384 cs ver pos st) ch own ∧ TL (tlC 16384 cs ver pos st) (ch o) ver (tlP cs ver pos) (tlS cs 1 pos st) := by
  obtain ⟨v1, v2, v3, v4⟩ := h.vs o ho ver t.mem
  have hn := h.nx
  have e1 : verS ver = ver + 1 := by unfold verS; omega
  obtain rfl | rfl | rfl : pos = 0 ∨ pos = 1 ∨ pos = 2 := by omega
  · have e : tlC 16384 cs ver 0 st = cs := rfl
    rw [e]
    refine ⟨Goo.refl h own ij, t.mem, fun z => ?_, fun z => ?_⟩
    · simp only [tlP, if_true] at z; split at z <;> omega
    · simp only [tlP, if_true] at z
      split at z
      · omega
      · next c => rw [e1] at c; exact c
  · have e : tlC 16384 cs ver 1 st = cs := rfl
    rw [e]
    refine ⟨Goo.refl h own ij, t.mem, fun _ => ?_, fun z => by simp [tlP] at z⟩
    simp only [tlS, if_true]
    exact ⟨h.cam, Nat.le_refl _, fun b hb _ => (h.vs o ho b hb).2.2.2⟩
  · have e : tlC 16384 cs ver 2 st = casN 16384 cs (ver + 1) 0 st := by simp [tlC, e1]
    rw [e]
    obtain ⟨t1, t2, t3⟩ := t.two rfl
    have hc : ∀ j, cellN (casN 16384 cs (ver + 1) 0 st) j = if j = ver + 1 ∧ cellN cs (ver + 1) = 0 then st else cellN cs j := fun j => casN_eq _ _ _ _ _ (by omega)
    obtain ⟨cs', hcs⟩ : ∃ cs', cs' = casN 16384 cs (ver + 1) 0 st := ⟨_, rfl⟩
    rw [← hcs] at hc ⊢
    have sm : ∀ j, j ≠ ver + 1 → cellN cs' j = cellN cs j := fun j hj => by rw [hc, if_neg (fun z => hj z.1)]
    have nz : ∀ j, cellN cs j ≠ 0 → cellN cs' j = cellN cs j := fun j hj => by
      by_cases e : j = ver + 1
      · subst e; rw [hc, if_neg (fun z => hj z.2)]
      · exact sm j e
    have mr : ∀ p, isO p → ∀ a ∈ ch p, 5 ≤ a ∧ a + 3 ≤ next ∧ a % 3 = 2 := fun p hp a ha => ⟨(h.vs p hp a ha).1, (h.vs p hp a ha).2.1, (h.vs p hp a ha).2.2.1⟩
    refine ⟨⟨⟨hn, by rw [sm 1 (by omega)]; exact h.cam, fun p hp => ?_, fun p hp a ha => ?_, fun p hp => ?_, h.dj⟩, ⟨by rw [sm 1 (by omega)]; exact Nat.le_refl _, fun p _ => ⟨[], rfl⟩, fun p hp a ha => ?_, fun p hp z => ?_⟩, fun a a1 a2 a3 _ a5 => ?_, Nat.le_refl _, fun _ _ => rfl⟩, t.mem, fun z => by simp [tlP] at z, fun _ => ?_⟩
    · rw [sm p (by have := hp.2; omega)]
      exact (h.chn p hp).congr (fun a ha => sm _ (by have := mr p hp a ha; omega))
    · obtain ⟨a1, a2, a3, a4⟩ := h.vs p hp a ha
      refine ⟨a1, a2, a3, ?_⟩
      rw [sm 1 (by omega), hc]
      split <;> omega
    · refine List.Pairwise.imp_of_mem ?_ (h.pw p hp)
      intro a b ha hb ⟨r1, r2, r3⟩
      have eb : cellN cs' (b + 1) = cellN cs (b + 1) := nz _ r2
      refine ⟨r1, by rw [eb]; exact r2, fun z => ?_⟩
      rw [eb]
      by_cases c : a + 1 = ver + 1 ∧ cellN cs (ver + 1) = 0
      · rw [hc, if_pos c]
        have : a = ver := by omega
        subst this
        have := h.dj o p a ho hp t.mem ha
        subst this
        exact t3 b hb r1
      · have ea : cellN cs' (a + 1) = cellN cs (a + 1) := by rw [hc, if_neg c]
        rw [ea] at z ⊢
        exact r3 z
    · have := mr p hp a ha
      exact ⟨sm _ (by omega), sm _ (by omega), nz _⟩
    · rw [sm p (by have := hp.2; omega)]; exact z
    · refine ⟨sm _ (by omega), sm _ (fun e => ?_), sm _ (by omega), a5⟩
      have : a = ver := by omega
      subst this
      exact a5 o ho t.mem
    · by_cases z : cellN cs (ver + 1) = 0
      · rw [hc, if_pos ⟨rfl, z⟩]; omega
      · rw [nz _ z]; exact z
theorem GI.take (h : GI next cs ch) (st : Nat) : Goo next cs ch own ij next (casN 16384 cs 1 st (st + 1)) ch own := by
  have hc : ∀ j, cellN (casN 16384 cs 1 st (st + 1)) j = if j = 1 ∧ cellN cs 1 = st then st + 1 else cellN cs j := fun j => casN_eq _ _ _ _ _ (by omega)
  obtain ⟨cs', hcs⟩ : ∃ cs', cs' = casN 16384 cs 1 st (st + 1) := ⟨_, rfl⟩
  rw [← hcs] at hc ⊢
  have sm : ∀ j, j ≠ 1 → cellN cs' j = cellN cs j := fun j hj => by rw [hc, if_neg (fun z => hj z.1)]
  have up : cellN cs 1 ≤ cellN cs' 1 := by rw [hc]; split <;> omega
  have hcam := h.cam
  have mr : ∀ p, isO p → ∀ a ∈ ch p, 5 ≤ a := fun p hp a ha => (h.vs p hp a ha).1
  refine ⟨⟨h.nx, by omega, fun p hp => ?_, fun p hp a ha => ?_, fun p hp => ?_, h.dj⟩, ⟨up, fun p _ => ⟨[], rfl⟩, fun p hp a ha => ?_, fun p hp z => ?_⟩, fun a a1 a2 a3 _ a5 => ⟨sm _ (by omega), sm _ (by omega), sm _ (by omega), a5⟩, Nat.le_refl _, fun _ _ => rfl⟩
  · rw [sm p (by have := hp.1; omega)]
    exact (h.chn p hp).congr (fun a ha => sm _ (by omega))
  · obtain ⟨a1, a2, a3, a4⟩ := h.vs p hp a ha
    exact ⟨a1, a2, a3, by rw [sm (a + 1) (by omega)]; omega⟩
  · refine List.Pairwise.imp_of_mem ?_ (h.pw p hp)
    intro a b ha hb r
    have := mr p hp a ha
    have := mr p hp b hb
    unfold Pw
    rw [sm (b + 1) (by omega), sm (a + 1) (by omega)]
    exact r
  · have := mr p hp a ha
    exact ⟨sm _ (by omega), sm _ (by omega), fun _ => sm _ (by omega)⟩
  · rw [sm p (by have := hp.1; omega)]; exact z
theorem alN_cellV {cs vals : List Nat} (h : alOk 16384 next vals.length) (i : Nat) : cellN (alN 16384 next cs vals) i = if next ≤ i ∧ i < next + vals.length then cellN vals (i - next) else cellN cs i := by
  unfold alN
  rw [if_pos h, spliceN_cell _ _ _ (by rw [padN_length]; omega), padN_cell]
theorem GI.grow (h : GI next cs ch) (now head : Nat) (ok : alOk 16384 next 3) :
    Goo next cs ch own ij (next + 3) (alN 16384 next cs [now, 0, head]) ch (updN own next ij) ∧ cellN (alN 16384 next cs [now, 0, head]) next = now ∧ cellN (alN 16384 next cs [now, 0, head]) (next + 1) = 0 ∧ cellN (alN 16384 next cs [now, 0, head]) (next + 2) = head := by
  have ok' : alOk 16384 next [now, 0, head].length := ok
  have hc := alN_cellV (cs := cs) ok'
  have ok2 : 3 ≤ 16384 - next := ok.2
  have hn := h.nx
  obtain ⟨cs', hcs⟩ : ∃ cs', cs' = alN 16384 next cs [now, 0, head] := ⟨_, rfl⟩
  rw [← hcs] at hc ⊢
  have hl : [now, 0, head].length = 3 := rfl
  have sm : ∀ j, j < next → cellN cs' j = cellN cs j := fun j hj => by rw [hc, if_neg (by omega)]
  have mr : ∀ p, isO p → ∀ a ∈ ch p, 5 ≤ a ∧ a + 3 ≤ next := fun p hp a ha => ⟨(h.vs p hp a ha).1, (h.vs p hp a ha).2.1⟩
  refine ⟨⟨⟨by omega, by rw [sm 1 (by omega)]; exact h.cam, fun p hp => ?_, fun p hp a ha => ?_, fun p hp => ?_, h.dj⟩, ⟨by rw [sm 1 (by omega)]; exact Nat.le_refl _, fun p _ => ⟨[], rfl⟩, fun p hp a ha => ?_, fun p hp z => ?_⟩, fun a a1 a2 a3 _ a5 => ⟨sm _ (by omega), sm _ (by omega), sm _ (by omega), a5⟩, by omega, fun a ha => updN_other _ _ _ _ (by omega)⟩, ?_, ?_, ?_⟩
  · rw [sm p (by have := hp.2; omega)]
    exact (h.chn p hp).congr (fun a ha => sm _ (by have := mr p hp a ha; omega))
  · obtain ⟨a1, a2, a3, a4⟩ := h.vs p hp a ha
    exact ⟨a1, by omega, a3, by rw [sm (a + 1) (by omega), sm 1 (by omega)]; exact a4⟩
  · refine List.Pairwise.imp_of_mem ?_ (h.pw p hp)
    intro a b ha hb r
    have := mr p hp a ha
    have := mr p hp b hb
    unfold Pw
    rw [sm (b + 1) (by omega), sm (a + 1) (by omega)]
    exact r
  · have := mr p hp a ha
    exact ⟨sm _ (by omega), sm _ (by omega), fun _ => sm _ (by omega)⟩
  · rw [sm p (by have := hp.2; omega)]; exact z
  · rw [hc, if_pos (by omega), Nat.sub_self]; rfl
  · rw [hc, if_pos (by omega), show next + 1 - next = 1 by omega]; rfl
  · rw [hc, if_pos (by omega), show next + 2 - next = 2 by omega]; rfl
/-- What a Cas has laid, and nobody else has seen. -/
structure Fresh (next : Nat) (cs : List Nat) (ch : Nat → List Nat) (own : Nat → Nat × Nat) (ij : Nat × Nat) (now head a : Nat) : Prop where
  lo : 5 ≤ a
  hi : a + 3 ≤ next
  md : a % 3 = 2
  ow : own a = ij
  out : ∀ o, isO o → a ∉ ch o
  lt : head < a
  v : cellN cs a = now
  s : cellN cs (a + 1) = 0
  l : cellN cs (a + 2) = head
theorem GI.swap (h : GI next cs ch) {o now head made : Nat} (ho : isO o) (f : Fresh next cs ch own ij now head made) (hh : head = 0 ∨ (head ∈ ch o ∧ cellN cs (head + 1) ≠ 0)) (hd : cellN cs o = head) :
    Goo next cs ch own ij next (casN 16384 cs o head made) (updN ch o (made :: ch o)) own ∧ cellN (casN 16384 cs o head made) made = now ∧ cellN (casN 16384 cs o head made) (made + 2) = head := by
  have hn := h.nx
  have o1 := ho.1
  have o2 := ho.2
  have hc : ∀ j, cellN (casN 16384 cs o head made) j = if j = o then made else cellN cs j := fun j => by rw [casN_eq _ _ _ _ _ (by omega)]; simp [hd]
  obtain ⟨cs', hcs⟩ : ∃ cs', cs' = casN 16384 cs o head made := ⟨_, rfl⟩
  rw [← hcs] at hc ⊢
  have sm : ∀ j, j ≠ o → cellN cs' j = cellN cs j := fun j hj => by rw [hc, if_neg hj]
  have mr : ∀ p, isO p → ∀ a ∈ ch p, 5 ≤ a ∧ a + 3 ≤ next := fun p hp a ha => ⟨(h.vs p hp a ha).1, (h.vs p hp a ha).2.1⟩
  have hch := h.chn o ho
  rw [hd] at hch
  have f1 := f.lo
  have f2 := f.hi
  have below : ∀ b ∈ ch o, b < made ∧ cellN cs (b + 1) ≠ 0 := fun b hb => by
    have hz := hch.ne hb
    obtain ⟨r, hr⟩ := hch.head hz
    have hpw := h.pw o ho
    rw [hr] at hpw hb
    rcases List.mem_cons.1 hb with rfl | hb
    · exact ⟨f.lt, (hh.resolve_left hz).2⟩
    · have := (List.pairwise_cons.1 hpw).1 b hb
      exact ⟨Nat.lt_trans this.1 f.lt, this.2.1⟩
  have pwk : ∀ p, isO p → (ch p).Pairwise (Pw cs') := fun p hp => by
    refine List.Pairwise.imp_of_mem ?_ (h.pw p hp)
    intro a b ha hb r
    have := mr p hp a ha
    have := mr p hp b hb
    unfold Pw
    rw [sm (b + 1) (by omega), sm (a + 1) (by omega)]
    exact r
  have mem : ∀ p a, a ∈ updN ch o (made :: ch o) p → a ∈ ch p ∨ (p = o ∧ a = made) := fun p a ha => by
    by_cases e : p = o
    · subst e; rw [updN_same] at ha
      exact (List.mem_cons.1 ha).elim (fun z => .inr ⟨rfl, z⟩) .inl
    · rw [updN_other _ _ _ _ e] at ha; exact .inl ha
  refine ⟨⟨⟨hn, by rw [sm 1 (by omega)]; exact h.cam, fun p hp => ?_, fun p hp a ha => ?_, fun p hp => ?_, fun p q a hp hq ha hb => ?_⟩, ⟨by rw [sm 1 (by omega)]; exact Nat.le_refl _, fun p hp => ?_, fun p hp a ha => ?_, fun p hp z => ?_⟩, fun a a1 a2 a3 a4 a5 => ⟨sm _ (by omega), sm _ (by omega), sm _ (by omega), fun p hp z => ?_⟩, Nat.le_refl _, fun _ _ => rfl⟩, by rw [sm _ (by omega)]; exact f.v, by rw [sm _ (by omega)]; exact f.l⟩
  · by_cases e : p = o
    · subst e
      rw [updN_same, hc, if_pos rfl]
      refine ⟨rfl, by omega, ?_⟩
      rw [sm _ (by omega), f.l]
      exact hch.congr (fun a ha => sm _ (by have := mr p hp a ha; omega))
    · rw [updN_other _ _ _ _ e, sm p e]
      exact (h.chn p hp).congr (fun a ha => sm _ (by have := mr p hp a ha; omega))
  · rw [sm 1 (by omega)]
    rcases mem p a ha with z | ⟨rfl, rfl⟩
    · obtain ⟨a1, a2, a3, a4⟩ := h.vs p hp a z
      exact ⟨a1, a2, a3, by rw [sm (a + 1) (by omega)]; exact a4⟩
    · exact ⟨f.lo, f.hi, f.md, by rw [sm _ (by omega), f.s]; omega⟩
  · by_cases e : p = o
    · subst e
      rw [updN_same]
      refine List.pairwise_cons.2 ⟨fun b hb => ?_, pwk p hp⟩
      have := mr p hp b hb
      obtain ⟨b1, b2⟩ := below b hb
      refine ⟨b1, by rw [sm _ (by omega)]; exact b2, fun z => ?_⟩
      rw [sm _ (by omega), f.s] at z
      exact absurd rfl z
    · rw [updN_other _ _ _ _ e]; exact pwk p hp
  · rcases mem p a ha with z | ⟨rfl, rfl⟩ <;> rcases mem q a hb with y | ⟨rfl, y⟩
    · exact h.dj p q a hp hq z y
    · subst y; exact absurd z (f.out p hp)
    · exact absurd y (f.out q hq)
    · rfl
  · by_cases e : p = o
    · subst e; exact ⟨[made], by rw [updN_same]; rfl⟩
    · exact ⟨[], by rw [updN_other _ _ _ _ e]; rfl⟩
  · have := mr p hp a ha
    exact ⟨sm _ (by omega), sm _ (by omega), fun _ => sm _ (by omega)⟩
  · rw [hc]; split
    · omega
    · exact z
  · rcases mem p a z with y | ⟨_, y⟩
    · exact a5 p hp y
    · subst y; exact a4 f.ow
end
end Go.Proofs.Ytadbgmcfjemkeaa
