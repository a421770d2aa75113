/- What the document's Parse tells of lines and words, pure; Atoi at every text. -/
import Derived.Test.YtfohpbpekdcneaaDoorHto
namespace Go.Proofs.YtfohpbpekdcneaaDoor
open Go.RowKit Go.Shelf
set_option linter.unusedVariables false

def bodyL (s : Sp) : List UInt8 := Lib.itoa s.th ++ 32 :: (Lib.itoa s.ix ++ 32 :: (Lib.itoa s.fr ++ 32 :: toL s.to))
theorem line_body (s : Sp) : lineL s = bodyL s ++ [10] := by unfold lineL bodyL; simp
theorem body_front (s : Sp) : bodyL s = frontL [Lib.itoa s.th, Lib.itoa s.ix, Lib.itoa s.fr] ++ toL s.to := by unfold bodyL frontL; simp
theorem body_no (s : Sp) : noB 10 (bodyL s) :=
  (itoa_no _ _ (by decide)).append ((noB.cons (by decide)) ((itoa_no _ _ (by decide)).append ((noB.cons (by decide)) ((itoa_no _ _ (by decide)).append ((noB.cons (by decide)) (toL_no _ _ (by decide)))))))
theorem print_join (l : List Sp) : printL l = joinL (l.map bodyL) := by
  induction l with
  | nil => rfl
  | cons s l ih => rw [printL_cons, line_body, List.map_cons, joinL_cons, ih]; simp
theorem noB_cutG {c : UInt8} {a b r r' : List UInt8} (ha : noB c a) (hb : noB c b) (e : a ++ c :: r = b ++ c :: r') : a = b ∧ r = r' := by
  have h1 := ix_at (r := r) ha
  rw [e, ix_at hb] at h1
  have hl : b.length = a.length := by omega
  have := List.append_inj e hl.symm
  exact ⟨this.1, by injection this.2⟩
theorem join_one : ∀ (ls ms : List (List UInt8)) (r : List UInt8), (∀ x ∈ ls, noB 10 x) → (∀ x ∈ ms, noB 10 x) → noB 10 r → joinL ls ++ r = joinL ms → ls = ms
  | [], [], _, _, _, _, _ => rfl
  | [], y :: ms, r, _, _, hr, e => by
    rw [joinL_cons] at e
    have e : r = y ++ 10 :: joinL ms := e
    rw [e] at hr
    exact absurd rfl (hr 10 (by simp))
  | x :: ls, [], r, _, _, _, e => by
    rw [joinL_cons] at e
    simp [joinL] at e
  | x :: ls, y :: ms, r, h1, h2, hr, e => by
    rw [joinL_cons, joinL_cons] at e
    have e' : x ++ 10 :: (joinL ls ++ r) = y ++ 10 :: joinL ms := by simpa using e
    obtain ⟨rfl, e2⟩ := noB_cutG (h1 x (by simp)) (h2 y (by simp)) e'
    rw [join_one ls ms r (fun z hz => h1 z (by simp [hz])) (fun z hz => h2 z (by simp [hz])) hr e2]
theorem front_one : ∀ (fs gs : List (List UInt8)) (r q : List UInt8), (∀ x ∈ fs, noB 32 x) → (∀ x ∈ gs, noB 32 x) → noB 32 r → noB 32 q → frontL fs ++ r = frontL gs ++ q → fs = gs ∧ r = q
  | [], [], _, _, _, _, _, _, e => ⟨rfl, e⟩
  | [], y :: gs, r, q, _, _, hr, _, e => by
    rw [frontL_cons] at e
    have e : r = (y ++ 32 :: frontL gs) ++ q := e
    rw [e] at hr
    exact absurd rfl (hr 32 (by simp))
  | x :: fs, [], r, q, _, _, _, hq, e => by
    rw [frontL_cons] at e
    have e : (x ++ 32 :: frontL fs) ++ r = q := e
    rw [← e] at hq
    exact absurd rfl (hq 32 (by simp))
  | x :: fs, y :: gs, r, q, h1, h2, hr, hq, e => by
    rw [frontL_cons, frontL_cons] at e
    have e' : x ++ 32 :: (frontL fs ++ r) = y ++ 32 :: (frontL gs ++ q) := by simpa using e
    obtain ⟨rfl, e2⟩ := noB_cutG (h1 x (by simp)) (h2 y (by simp)) e'
    obtain ⟨rfl, rfl⟩ := front_one fs gs r q (fun z hz => h1 z (by simp [hz])) (fun z hz => h2 z (by simp [hz])) hr hq e2
    exact ⟨rfl, rfl⟩
theorem ln_print {t : List UInt8} {ls : List (List UInt8)} (h : ∃ f, LnR t t.length f ls) {l : List Sp} (e : t = printL l) : ls = l.map bodyL := by
  obtain ⟨f, r, e1, _, hr, hx⟩ := h
  rw [List.take_length, e, print_join] at e1
  exact join_one ls _ r hx (fun x hx => by obtain ⟨s, _, rfl⟩ := List.mem_map.1 hx; exact body_no s) hr e1.symm
theorem ln_len {t : List UInt8} {ls : List (List UInt8)} (h : ∃ f, LnR t t.length f ls) : ls.length ≤ t.length ∧ ∀ x ∈ ls, x.length ≤ t.length := by
  obtain ⟨f, r, e1, _, _, _⟩ := h
  rw [List.take_length] at e1
  have q : ∀ ls : List (List UInt8), ls.length ≤ (joinL ls).length ∧ ∀ x ∈ ls, x.length ≤ (joinL ls).length := by
    intro ls
    induction ls with
    | nil => exact ⟨by simp, fun x hx => by simp at hx⟩
    | cons y ys ih =>
      rw [joinL_cons]
      refine ⟨by simp; omega, fun x hx => ?_⟩
      rcases List.mem_cons.1 hx with rfl | hx
      · simp
      · have := ih.2 x hx
        simp
        omega
  have h2 := q ls
  have h3 : t.length = (joinL ls).length + r.length := by rw [e1]; simp
  exact ⟨by omega, fun x hx => by have := h2.2 x hx; omega⟩
def PrR (x : List UInt8) (s : Sp) : Prop := s.Ok ∧ ∀ s', Gd s' → x = bodyL s' → s = s'
structure PrA (ls : List (List UInt8)) (m : List Sp) (k : Nat) : Prop where
  len : m.length = k
  le : k ≤ ls.length
  all : ∀ (j : Nat) (x : List UInt8) (s : Sp), ls[j]? = some x → m[j]? = some s → PrR x s
theorem PrA.snoc {ls : List (List UInt8)} {m : List Sp} {k : Nat} {x : List UInt8} {s : Sp} (h : PrA ls m k) (hx : ls[k]? = some x) (hs : PrR x s) : PrA ls (m ++ [s]) (k + 1) := by
  have hlt := (List.getElem?_eq_some_iff.1 hx).1
  refine ⟨by simp [h.len], hlt, fun j y s' hy hs' => ?_⟩
  by_cases hj : j < m.length
  · rw [List.getElem?_append_left hj] at hs'
    exact h.all j y s' hy hs'
  · have hj2 : j = m.length := by
      have := (List.getElem?_eq_some_iff.1 hs').1
      simp at this
      omega
    rw [hj2, List.getElem?_append_right (Nat.le_refl _)] at hs'
    rw [hj2, h.len, hx] at hy
    simp at hs' hy
    rw [← hs', ← hy]
    exact hs
theorem PrA.ok {ls : List (List UInt8)} {m : List Sp} {k : Nat} (h : PrA ls m k) : ∀ s ∈ m, s.Ok := by
  intro s hs
  obtain ⟨j, hj, e⟩ := List.getElem_of_mem hs
  have := h.len
  have := h.le
  exact (h.all j ls[j] s (List.getElem?_eq_getElem _) (by rw [List.getElem?_eq_getElem hj, e])).1
theorem PrA.one {t : List UInt8} {ls : List (List UInt8)} {m : List Sp} (h : PrA ls m ls.length) (hl : ∃ f, LnR t t.length f ls) {l : List Sp} (hg : ∀ s ∈ l, Gd s) (e : t = printL l) : l = m := by
  have q := ln_print hl e
  have hlen : l.length = m.length := by rw [h.len, q, List.length_map]
  refine List.ext_getElem hlen (fun i h1 h2 => ?_)
  exact ((h.all i (bodyL l[i]) m[i] (by rw [q, List.getElem?_map, List.getElem?_eq_getElem h1]; rfl) (List.getElem?_eq_getElem h2)).2 l[i] (hg _ (List.getElem_mem h1)) rfl).symm
theorem ph_few {t : List UInt8} {ls : List (List UInt8)} (hl : ∃ f, LnR t t.length f ls) {k : Nat} {x : List UInt8} (hx : ls[k]? = some x) {fs : List (List UInt8)} {r : List UInt8} (hw : WdR x x.length fs r) (hn : ¬ fs.length + 1 = 4) : PH t [] 52 := by
  refine Or.inr ⟨rfl, rfl, fun l' hr ho e => ?_⟩
  have q := ln_print hl e
  rw [q, List.getElem?_map] at hx
  obtain ⟨s, _, rfl⟩ := Option.map_eq_some_iff.1 hx
  obtain ⟨e1, h1, h2⟩ := hw
  rw [List.take_length, body_front] at e1
  obtain ⟨rfl, _⟩ := front_one _ _ _ _ (fun y hy => by simp at hy; rcases hy with rfl | rfl | rfl <;> exact itoa_no _ _ (by decide)) h2 (toL_no _ _ (by decide)) h1 e1
  exact hn rfl
theorem PrR.of {x f0 f1 f2 f3 : List UInt8} (hw : WdR x x.length [f0, f1, f2] f3) {a0 a1 a2 a3 : Int} (i0 : isI a0) (i1 : isI a1) (i2 : isI a2) (i3 : isI a3) (h0 : ∀ v, Lib.atoiAll f0 = .ok v → a0 = v) (h1 : ∀ v, Lib.atoiAll f1 = .ok v → a1 = v) (h2 : ∀ v, Lib.atoiAll f2 = .ok v → a2 = v)
    (h3 : f3 = [45] → a3 = -1) (h4 : ¬ f3 = [45] → ∀ v, Lib.atoiAll f3 = .ok v → a3 = v) : PrR x ⟨a0, a1, a2, a3⟩ := by
  refine ⟨⟨i0, i1, i2, i3⟩, fun s g e => ?_⟩
  obtain ⟨e1, k1, k2⟩ := hw
  rw [List.take_length, e, body_front] at e1
  obtain ⟨q1, q2⟩ := front_one _ _ _ _ (fun y hy => by simp at hy; rcases hy with rfl | rfl | rfl <;> exact itoa_no _ _ (by decide)) k2 (toL_no _ _ (by decide)) k1 e1
  injection q1 with p0 q1
  injection q1 with p1 q1
  injection q1 with p2 q1
  obtain rfl := h0 _ (by rw [← p0]; exact atoi_itoa _ g.1.th.1 g.1.th.2)
  obtain rfl := h1 _ (by rw [← p1]; exact atoi_itoa _ g.1.ix.1 g.1.ix.2)
  obtain rfl := h2 _ (by rw [← p2]; exact atoi_itoa _ g.1.fr.1 g.1.fr.2)
  have : a3 = s.to := by
    unfold toL at q2
    by_cases q : s.to < 0
    · rw [if_pos q] at q2
      rw [h3 q2.symm, g.2 q]
    · rw [if_neg q] at q2
      exact h4 (by rw [← q2]; exact itoa_dash _) _ (by rw [← q2]; exact atoi_itoa _ g.1.to.1 g.1.to.2)
  subst this
  rfl
theorem atoi_each (f : List UInt8) (hf : f.length ≤ 200000000) (w : World) (T : Tb w) :
    Calls Tryd.prog 22 #[.string (mkS f)] w fun e w' => (∃ (x : Int) (p : Value), e = .returned (.tuple #[.int .i64 x, p]) ∧ isI x ∧ ∀ v, Lib.atoiAll f = .ok v → x = v) ∧ Below w.heap.size w w' := by
  cases hp : Lib.atoiAll f with
  | ok u =>
    refine (atoi_ok f hf u hp w).mono ?_
    rintro e w' ⟨rfl, hb⟩
    have := Lib.atoiAll_bounds hp
    exact ⟨⟨u, _, rfl, ⟨by omega, by omega⟩, fun v h => by injection h⟩, hb⟩
  | «syntax» =>
    obtain ⟨a, b, h2⟩ := T.es
    refine (Any.strconv_Atoi_syntax_var Tryd.lays172 (mkS f) (by rw [mkS_size]; omega) (by simpa using hp) a b w h2).mono ?_
    rintro e w' ⟨N, rfl, -, -, hb⟩
    exact ⟨⟨0, _, rfl, by unfold isI; decide, fun v h => by simp at h⟩, hb⟩
  | range =>
    obtain ⟨a, b, h2⟩ := T.er
    refine (Any.strconv_Atoi_range_var Tryd.lays172 (mkS f) (by rw [mkS_size]; omega) (by simpa using hp) a b w h2).mono ?_
    rintro e w' ⟨N, rfl, -, -, hb⟩
    exact ⟨⟨_, _, rfl, by unfold Lib.atoiSat isI; split <;> decide, fun v h => by simp at h⟩, hb⟩
end Go.Proofs.YtfohpbpekdcneaaDoor
