/- What holds of the slots; what an operation under the lock leaves. -/
import Derived.Test.YtgaincicbgojjaaKA
namespace Go.Proofs.Ytgaincicbgojjaa
open Go.RowKit Go.Maps
set_option linter.unusedVariables false

theorem hdl_inj {i j g g' : Nat} (hi : i < 256) (hj : j < 256) (h : hdl i g = hdl j g') : i = j ∧ g = g' := by
  unfold hdl at h
  omega
structure SlInv (sl : List (Bool × Nat)) (hc lf : Nat) (pc : Nat → Option (Nat → Option Nat)) : Prop where
  len : sl.length ≤ 256
  cnt : hc = sl.countP (fun x => x.1)
  gen : ∀ (i : Nat) (b : Bool) (g : Nat), sl[i]? = some (b, g) → g ≤ 1048575 ∧ (b = true → g < 1048575)
  pcs : ∀ k, (pc k).isSome = true ↔ ∃ i g, sl[i]? = some (true, g) ∧ k = hdl i g
  lf64 : lf < 18446744073709551616
theorem SlInv.start (N lf : Nat) (hN : N ≤ 256) (hl : lf < 18446744073709551616) : SlInv (List.replicate N (false, 0)) 0 lf (fun _ => none) := by
  refine ⟨by simpa using hN, by rw [List.countP_replicate]; simp, fun i b g h => ?_, fun k => ⟨fun h => by simp at h, ?_⟩, hl⟩
  · rw [List.getElem?_replicate] at h
    split at h
    · simp at h; obtain ⟨rfl, rfl⟩ := h; simp
    · simp at h
  · rintro ⟨i, g, h, _⟩
    rw [List.getElem?_replicate] at h
    split at h <;> simp at h
theorem SlInv.idx {sl : List (Bool × Nat)} {hc lf : Nat} {pc : Nat → Option (Nat → Option Nat)} (I : SlInv sl hc lf pc) {i : Nat} {x : Bool × Nat} (h : sl[i]? = some x) : i < 256 := by
  have := (List.getElem?_eq_some_iff.1 h).1
  have := I.len
  omega
theorem SlInv.le {sl : List (Bool × Nat)} {hc lf : Nat} {pc : Nat → Option (Nat → Option Nat)} (I : SlInv sl hc lf pc) : hc ≤ sl.length := by
  rw [I.cnt]
  exact List.countP_le_length
theorem SlInv.free {sl : List (Bool × Nat)} {hc lf : Nat} {pc : Nat → Option (Nat → Option Nat)} (I : SlInv sl hc lf pc) {i g : Nat} (h : sl[i]? = some (false, g)) : pc (hdl i g) = none := by
  cases hp : pc (hdl i g) with
  | none => rfl
  | some x =>
    obtain ⟨j, g', hj, e⟩ := (I.pcs (hdl i g)).1 (by rw [hp]; rfl)
    obtain ⟨rfl, rfl⟩ := hdl_inj (I.idx h) (I.idx hj) e
    rw [h] at hj
    simp at hj
theorem SlInv.take {sl : List (Bool × Nat)} {hc lf : Nat} {pc : Nat → Option (Nat → Option Nat)} (I : SlInv sl hc lf pc) {i g : Nat} (h : sl[i]? = some (false, g)) (hg : g < 1048575) (f : Nat → Option Nat) : SlInv (sl.set i (true, g)) (hc + 1) (lf - 1) (fun k => if k = hdl i g then some f else pc k) := by
  obtain ⟨hil, hie⟩ := List.getElem?_eq_some_iff.1 h
  refine ⟨by rw [List.length_set]; exact I.len, ?_, fun j b g' hj => ?_, fun k => ?_, by have := I.lf64; omega⟩
  · rw [List.countP_set hil, hie, I.cnt]
    simp
  · by_cases e : j = i
    · subst e
      rw [List.getElem?_set_self hil] at hj
      simp at hj
      obtain ⟨rfl, rfl⟩ := hj
      exact ⟨by omega, fun _ => hg⟩
    · rw [List.getElem?_set_ne (Ne.symm e)] at hj
      exact I.gen j b g' hj
  · by_cases e : k = hdl i g
    · rw [if_pos e]
      exact ⟨fun _ => ⟨i, g, List.getElem?_set_self hil, e⟩, fun _ => rfl⟩
    · rw [if_neg e, I.pcs k]
      constructor
      · rintro ⟨j, g', hj, ek⟩
        refine ⟨j, g', ?_, ek⟩
        by_cases q : j = i
        · subst q; rw [h] at hj; simp at hj
        · rw [List.getElem?_set_ne (Ne.symm q)]; exact hj
      · rintro ⟨j, g', hj, ek⟩
        by_cases q : j = i
        · subst q
          rw [List.getElem?_set_self hil] at hj
          simp at hj
          subst hj
          exact absurd ek e
        · rw [List.getElem?_set_ne (Ne.symm q)] at hj
          exact ⟨j, g', hj, ek⟩
theorem SlInv.go {sl : List (Bool × Nat)} {hc lf : Nat} {pc : Nat → Option (Nat → Option Nat)} (I : SlInv sl hc lf pc) {i g : Nat} (h : sl[i]? = some (true, g)) : 1 ≤ hc ∧ SlInv (sl.set i (false, g + 1)) (hc - 1) lf (fun k => if k = hdl i g then none else pc k) := by
  obtain ⟨hil, hie⟩ := List.getElem?_eq_some_iff.1 h
  have hg := (I.gen i true g h).2 rfl
  have h1 : 1 ≤ hc := by
    rw [I.cnt]
    exact List.countP_pos_iff.2 ⟨(true, g), List.mem_of_getElem? h, rfl⟩
  refine ⟨h1, by rw [List.length_set]; exact I.len, ?_, fun j b g' hj => ?_, fun k => ?_, I.lf64⟩
  · rw [List.countP_set hil, hie, I.cnt]
    simp
  · by_cases e : j = i
    · subst e
      rw [List.getElem?_set_self hil] at hj
      simp at hj
      obtain ⟨rfl, rfl⟩ := hj
      exact ⟨by omega, fun h => by cases h⟩
    · rw [List.getElem?_set_ne (Ne.symm e)] at hj
      exact I.gen j b g' hj
  · by_cases e : k = hdl i g
    · rw [if_pos e]
      refine ⟨fun x => by simp at x, ?_⟩
      rintro ⟨j, g', hj, ek⟩
      by_cases q : j = i
      · subst q
        rw [List.getElem?_set_self hil] at hj
        simp at hj
      · rw [List.getElem?_set_ne (Ne.symm q)] at hj
        exact absurd (hdl_inj (I.idx h) (I.idx hj) (e.symm.trans ek)).1.symm q
    · rw [if_neg e, I.pcs k]
      constructor
      · rintro ⟨j, g', hj, ek⟩
        refine ⟨j, g', ?_, ek⟩
        by_cases q : j = i
        · subst q; rw [h] at hj; simp at hj; subst hj; exact absurd ek e
        · rw [List.getElem?_set_ne (Ne.symm q)]; exact hj
      · rintro ⟨j, g', hj, ek⟩
        by_cases q : j = i
        · subst q
          rw [List.getElem?_set_self hil] at hj
          simp at hj
        · rw [List.getElem?_set_ne (Ne.symm q)] at hj
          exact ⟨j, g', hj, ek⟩
/-- What an operation under the lock tells and leaves. -/
def LStep (mu : Nat) (o : OpP) (f : Nat → Option Nat) (pc : Nat → Option (Nat → Option Nat)) (A : Ans) (f' : Nat → Option Nat) (pc' : Nat → Option (Nat → Option Nat)) : Prop :=
  (o.kd = 5 ∧ (A = errA 31 ∨ A = errA 32) ∧ f' = f ∧ pc' = pc) ∨ (∃ th, th < 18446744073709551616 ∧ (o.kd = 5 → th ≠ 0) ∧ A = tellP mu f pc o th ∧ f' = doF o A f ∧ pc' = doP o A f pc)
structure Outs (mu : Nat) (o : OpP) (n s sb m nw hd lk dn N : Nat) (f : Nat → Option Nat) (pc : Nat → Option (Nat → Option Nat)) (B0 B : Nat) (w : World) (A : Ans) (p : Option Addr) (hc lf : Nat) (sl : List (Bool × Nat)) (f' h' : Nat → Option Nat) (g' : Nat → Nat → Option Nat) : Prop where
  sa : SlAt w s sb m lk hc lf dn sl
  mo : MoAt w m nw hd mu f' h' g' (n + 1)
  inv : SlInv sl hc lf (pcs h' g')
  stp : LStep mu o f pc A f' (pcs h' g')
  len : sl.length = N
  new : ∀ k b, h' k = some b → b < B0 ∨ B ≤ b
  prs : PairsAt w p A.l
  pnew : ∀ bk off, p = some ⟨bk, off, none⟩ → B ≤ bk
  plen : A.l.length ≤ 8796093022000
def Out (mu : Nat) (o : OpP) (n s sb m nw hd lk dn N : Nat) (f : Nat → Option Nat) (pc : Nat → Option (Nat → Option Nat)) (B0 B : Nat) (w : World) (A : Ans) (p : Option Addr) : Prop := ∃ hc lf sl f' h' g', Outs mu o n s sb m nw hd lk dn N f pc B0 B w A p hc lf sl f' h' g'
theorem Outs.chg {mu : Nat} {o : OpP} {n s sb m nw hd lk dn N : Nat} {f : Nat → Option Nat} {pc : Nat → Option (Nat → Option Nat)} {B0 B : Nat} {w w' : World} {A : Ans} {p : Option Addr} {hc lf : Nat} {sl : List (Bool × Nat)} {f' h' : Nat → Option Nat} {g' : Nat → Nat → Option Nat} (H : Outs mu o n s sb m nw hd lk dn N f pc B0 B w A p hc lf sl f' h' g') {F : Nat → Prop} (c : Chg F w w') (hF : ∀ i, F i → B0 ≤ i ∧ i < B) (hb : s < B0 ∧ sb < B0 ∧ m < B0 ∧ nw < B0 ∧ hd < B0) : Outs mu o n s sb m nw hd lk dn N f pc B0 B w' A p hc lf sl f' h' g' := by
  have nf : ∀ i, i < B0 → ¬ F i := fun i hi x => by have := hF i x; omega
  exact ⟨H.sa.chg c (nf _ hb.1) (nf _ hb.2.1), H.mo.chg c (nf _ hb.2.2.1) (nf _ hb.2.2.2.1) (nf _ hb.2.2.2.2) (fun k b hk x => by have := hF b x; rcases H.new k b hk with q | q <;> omega), H.inv, H.stp, H.len, H.new, H.prs.chgF c (fun bk off e x => by have := hF bk x; have := H.pnew bk off e; omega), H.pnew, H.plen⟩
theorem Outs.mono {mu : Nat} {o : OpP} {n s sb m nw hd lk dn N : Nat} {f : Nat → Option Nat} {pc : Nat → Option (Nat → Option Nat)} {B0 B B1 : Nat} {w : World} {A : Ans} {p : Option Addr} {hc lf : Nat} {sl : List (Bool × Nat)} {f' h' : Nat → Option Nat} {g' : Nat → Nat → Option Nat} (H : Outs mu o n s sb m nw hd lk dn N f pc B0 B w A p hc lf sl f' h' g') (h : B1 ≤ B) : Outs mu o n s sb m nw hd lk dn N f pc B0 B1 w A p hc lf sl f' h' g' :=
  ⟨H.sa, H.mo, H.inv, H.stp, H.len, fun k b hk => (H.new k b hk).imp id (fun q => by omega), H.prs, fun bk off e => by have := H.pnew bk off e; omega, H.plen⟩
/-- The store's own blocks lie apart from the model's. -/
theorem st_ap {W : World} {s sb m lk hc lf dn : Nat} {sl : List (Bool × Nat)} (S : SlAt W s sb m lk hc lf dn sl) {nw hd mu : Nat} {f h : Nat → Option Nat} {g : Nat → Nat → Option Nat} {n : Nat} (M : MoAt W m nw hd mu f h g n) : (s ≠ m ∧ s ≠ nw ∧ s ≠ hd) ∧ (sb ≠ m ∧ sb ≠ nw ∧ sb ≠ hd) ∧ ∀ k b, h k = some b → b ≠ s ∧ b ≠ sb := by
  obtain ⟨e1, c1, n1⟩ := MapR.is M.now
  obtain ⟨e2, c2, n2⟩ := MapR.is M.held
  refine ⟨⟨?_, ?_, ?_⟩, ⟨?_, ?_, ?_⟩, fun k b hk => ?_⟩
  · rintro rfl; have := S.st.symm.trans M.md; simp at this
  · rintro rfl; have := S.st.symm.trans n1; simp at this
  · rintro rfl; have := S.st.symm.trans n2; simp at this
  · rintro rfl; have := S.row.symm.trans M.md; simp at this
  · rintro rfl; have := S.row.symm.trans n1; simp at this
  · rintro rfl; have := S.row.symm.trans n2; simp at this
  · obtain ⟨e3, c3, n3⟩ := MapR.is (M.pic k b hk)
    refine ⟨?_, ?_⟩
    · rintro rfl; have := S.st.symm.trans n3; simp at this
    · rintro rfl; have := S.row.symm.trans n3; simp at this
theorem doH_new {o : OpP} {A : Ans} {cl : Nat} {h : Nat → Option Nat} {k b : Nat} (hk : doH o A cl h k = some b) : h k = some b ∨ b = cl := by
  unfold doH at hk
  split at hk
  · by_cases e : k = A.h
    · subst e; rw [updO_same] at hk; injection hk with hk; exact .inr hk.symm
    · rw [updO_other _ _ e] at hk; exact .inl hk
  · split at hk
    · by_cases e : k = o.hk
      · subst e; rw [updO_same] at hk; cases hk
      · rw [updO_other _ _ e] at hk; exact .inl hk
    · exact .inl hk
end Go.Proofs.Ytgaincicbgojjaa
