/- Threads of procs built of threads of calls; the run's start, and its end. -/
import Derived.Test.YtbjebnkfecjpnaaGr
namespace Go.Proofs.Ytbjebnkfecjpnaa
open Go.RowKit Go.Shelf
set_option linter.unusedVariables false

def BS (L : List ThrA) (n : Nat) (rm cl : Nat → Nat) (σ : Nat → Nat → LP) : Prop := ∀ i t, i < n → L[i]? = some t → rm i = t.ks.length ∧ cl i = t.ks.length ∧ ∀ j k, t.ks[j]? = some k → σ i j = k.start
def OB (W X : World) (L : List ThrA) (n : Nat) (tv : Value) : Prop := ∃ rv rm cl pv σ D tg, BL W X n n tv rv rm cl pv σ D tg ∧ BS L n rm cl σ
def IB (W X : World) (L : List ThrA) (n : Nat) (t : ThrA) (k : Nat) (tv lv : Value) : Prop := ∃ rv rm cl pv σ D tg, BL W X (n + 1) n tv rv rm cl pv σ D tg ∧ BS L n rm cl σ ∧ rv n = lv ∧ rm n = k ∧ cl n = k ∧ ∀ j c, j < k → t.ks[j]? = some c → σ n j = c.start
theorem OB.start (W : World) (L : List ThrA) : OB W W L 0 (.slice none 0 0) := ⟨fun _ => .slice none 0 0, fun _ => 0, fun _ => 0, fun _ _ => .slice none 0 0, fun _ _ => .inr (.inl ⟨0, 0, 0, 0, 0, false⟩), fun _ _ _ => False, fun _ => .none, BL.start _ _ _ _ _ _ _ _, fun i t hi => by omega⟩
theorem OB.chg {W X : World} {L : List ThrA} {n : Nat} {tv : Value} (h : OB W X L n tv) : Chg (fun _ => False) W X := by
  obtain ⟨rv, rm, cl, pv, σ, D, tg, B, _⟩ := h
  exact B.chg
theorem IB.chg {W X : World} {L : List ThrA} {n : Nat} {t : ThrA} {k : Nat} {tv lv : Value} (h : IB W X L n t k tv lv) : Chg (fun _ => False) W X := by
  obtain ⟨rv, rm, cl, pv, σ, D, tg, B, _⟩ := h
  exact B.chg
theorem OB.row {W X : World} {L : List ThrA} {n : Nat} {tv : Value} (h : OB W X L n tv) (t : ThrA) : IB W X L n t 0 tv (.slice none 0 0) := by
  obtain ⟨rv, rm, cl, pv, σ, D, tg, B, S⟩ := h
  refine ⟨_, _, _, _, _, _, _, B.row (Nat.le_refl n), fun i t hi ht => ?_, updN_same _ _ _, updN_same _ _ _, updN_same _ _ _, fun j c hj => by omega⟩
  rw [updN_other _ _ _ _ (by omega), updN_other _ _ _ _ (by omega)]
  exact S i t hi ht
theorem OB.outer {W X : World} {L : List ThrA} {n : Nat} {tv : Value} (h : OB W X L n tv) : ∃ vals, X.ownsRow 0 66 1 tv n vals := by
  obtain ⟨rv, rm, cl, pv, σ, D, tg, B, _⟩ := h
  exact ⟨_, B.outer⟩
theorem IB.use {W X : World} {L : List ThrA} {n : Nat} {t : ThrA} {k : Nat} {tv lv : Value} (h : IB W X L n t k tv lv) : ∃ xs, X.ownsRow 0 69 1 lv k xs ∧ ∀ Y pw s Dn, PNew X Y pw s Dn → (∀ c, t.ks[k]? = some c → s = c.start) → Y.ownsRow 0 69 1 lv k xs ∧ pw.oneCell' = true ∧ ∀ ob Z v', Z.ownsRow 0 69 1 v' (k + 1) (xs ++ [pw]) → (Y.alloc ob).grownBy Z lv.ownBlock → (∀ b, v'.ownBlock = some b → lv.ownBlock = some b ∨ Y.heap.size ≤ b) → IB W Z L n t (k + 1) tv v' := by
  obtain ⟨rv, rm, cl, pv, σ, D, tg, B, S, e1, e2, e3, hs⟩ := h
  have hin := B.inner n (Nat.lt_succ_self n)
  rw [e1, e2] at hin
  refine ⟨_, hin, fun Y pw s Dn P hst => ⟨row_kept hin fun b e => P.chg.block b (row_lt hin b e) (fun x => x), P.one, fun ob Z v' hr hg ho => ?_⟩⟩
  have B1 := B.proc n (Nat.lt_succ_self n) P
  have eold : (List.range k).map (updN pv n (updN (pv n) (cl n) pw) n) = (List.range k).map (pv n) := by rw [updN_same]; exact range_map_upd _ _ _ _ (by omega)
  have enew : updN pv n (updN (pv n) (cl n) pw) n k = pw := by rw [updN_same, e3, updN_same]
  have B2 := B1.rowApp (Z := Z) (ob := ob) (v' := v') n (Nat.lt_succ_self n) (Nat.le_refl n) (by rw [updN_same]; omega) (by rw [e2, eold, enew]; exact hr) (by rw [e1]; exact hg) (by rw [e1]; exact ho)
  refine ⟨_, _, _, _, _, _, _, B2, fun i t hi ht => ?_, updN_same _ _ _, by rw [updN_same, e2], by rw [updN_same, e3], fun j c hj hc => ?_⟩
  · rw [updN_other _ _ _ _ (by omega), updN_other _ _ _ _ (by omega), updN_other _ _ _ _ (by omega)]
    exact S i t hi ht
  · rw [updN_same]
    by_cases e : j = k
    · subst e
      rw [e3, updN_same]
      exact hst c hc
    · rw [updN_other _ _ _ _ (by omega)]
      exact hs j c (by omega) hc
theorem IB.close {W X : World} {L : List ThrA} {n : Nat} {t : ThrA} {tv lv : Value} (h : IB W X L n t t.ks.length tv lv) (ht : L[n]? = some t) : ∃ vals, X.ownsRow 0 66 1 tv n vals ∧ lv.oneCell' = true ∧ ∀ ob Z v', Z.ownsRow 0 66 1 v' (n + 1) (vals ++ [lv]) → (X.alloc ob).grownBy Z tv.ownBlock → (∀ b, v'.ownBlock = some b → tv.ownBlock = some b ∨ X.heap.size ≤ b) → OB W Z L (n + 1) v' := by
  obtain ⟨rv, rm, cl, pv, σ, D, tg, B, S, e1, e2, e3, hs⟩ := h
  have hin := B.inner n (Nat.lt_succ_self n)
  rw [e1, e2] at hin
  refine ⟨_, B.outer, one_slice hin, fun ob Z v' hr hg ho => ⟨_, _, _, _, _, _, _, B.outApp (Z := Z) (ob := ob) (v' := v') (by rw [e1]; exact hr) hg ho, fun i t' hi ht' => ?_⟩⟩
  by_cases e : i = n
  · subst e
    rw [ht] at ht'
    simp at ht'
    subst ht'
    exact ⟨e2, e3, fun j k hj => hs j k ((List.getElem?_eq_some_iff.1 hj).1) hj⟩
  · exact S i t' (by omega) ht'
theorem PI.first : PI 4 (alN 4096 1 [] [1, 0, 0]) [] := ⟨fun o ho => .inl (by rcases ho with rfl | rfl <;> rfl), fun a ha => by simp at ha, fun a ha => by simp at ha, fun a ha => by simp at ha, by omega⟩
/-- What the trace of a run tells. -/
structure LEnd (l : List Acc) : Prop where
  good : Good (l.map Acc.bare)
  vl : ∀ x ∈ l, x.vals.length ≤ 3
  lt : ∀ y ∈ versOf (l.map Acc.bare), y < 4096
theorem OB.run {W W3 X : World} {L : List ThrA} {tv0 : Value} {F : Nat → Prop} {m b : Nat} {y : Acc} (picks : List Int) (h : OB W3 X L L.length tv0) (hC : Chg (fun _ => False) W W3) (hm : IsMem W3 m b) (hb : Bank W3 F b 4096 4 (alN 4096 1 [] [1, 0, 0]) [y]) (hy : y.vals.length ≤ 3) (hF : ∀ k, F k → W.heap.size ≤ k) (hmW : W.heap.size ≤ m) (nm : ¬ F m) (hok : ∀ t ∈ L, ∀ k ∈ t.ks, k.ok) :
    ∃ tl, Lists X tv0 tl ∧ tooLongB tl = (decide (64 < L.length) || L.any fun t => decide (4096 < t.ks.length)) ∧ tl.length = L.length ∧ (∀ x ∈ tl, x.2.length ≤ 1048576 ∨ ∃ t ∈ L, x.2.length = t.ks.length) ∧ ∀ Y G r tv ths vbs, Made X Y G r m b tv tl ths vbs tl.length → ths.length = tl.length →
      ∃ cl vb pv c0, GRun leavesK 4096 m b L.length cl vb pv c0 W Y r picks 0 ∧ CInv L.length cl c0 := by
  obtain ⟨rv, rm, cl, pv, σ, D, tg, B, S⟩ := h
  have hL : ∀ i, i < L.length → ∃ t, L[i]? = some t := fun i hi => ⟨_, List.getElem?_eq_getElem hi⟩
  have hst : ∀ i j, i < L.length → j < cl i → ∃ t k, L[i]? = some t ∧ t.ks[j]? = some k ∧ σ i j = k.start := fun i j hi hj => by
    obtain ⟨t, ht⟩ := hL i hi
    obtain ⟨h1, h2, h3⟩ := S i t hi ht
    have hj' : j < t.ks.length := by omega
    exact ⟨t, _, ht, List.getElem?_eq_getElem hj', h3 j _ (List.getElem?_eq_getElem hj')⟩
  have tll : (tlOf L.length rv cl pv).length = L.length := by simp [tlOf]
  refine ⟨tlOf L.length rv cl pv, B.lists (fun i hi => ?_), ?_, tll, fun x hx => ?_, fun Y G r tv ths vbs M hl => ?_⟩
  · obtain ⟨t, ht⟩ := hL i hi
    obtain ⟨h1, h2, _⟩ := S i t hi ht
    omega
  · unfold tooLongB
    rw [tll]
    congr 1
    rw [Bool.eq_iff_iff, List.any_eq_true, List.any_eq_true]
    constructor
    · rintro ⟨x, hx, h4⟩
      simp only [tlOf, List.mem_map, List.mem_range] at hx
      obtain ⟨i, hi, rfl⟩ := hx
      obtain ⟨t, ht⟩ := hL i hi
      refine ⟨t, List.mem_of_getElem? ht, ?_⟩
      have := (S i t hi ht).2.1
      simp at h4 ⊢
      omega
    · rintro ⟨t, ht, h4⟩
      obtain ⟨i, hi⟩ := List.getElem?_of_mem ht
      have hlt := (List.getElem?_eq_some_iff.1 hi).1
      refine ⟨_, List.mem_map.2 ⟨i, List.mem_range.2 hlt, rfl⟩, ?_⟩
      have := (S i t hlt hi).2.1
      simp at h4 ⊢
      omega
  · simp only [tlOf, List.mem_map, List.mem_range] at hx
    obtain ⟨i, hi, rfl⟩ := hx
    obtain ⟨t, ht⟩ := hL i hi
    exact .inr ⟨t, List.mem_of_getElem? ht, by simp [(S i t hi ht).2.1]⟩
  · rw [tll] at M hl
    refine ⟨cl, _, pv, _, gl_start picks hC hm hb hF hmW nm B M hl (fun i j hi hj => ?_), ?_⟩
    · obtain ⟨t, k, ht, hk, e⟩ := hst i j hi hj
      rw [e]
      exact CallA.start_ok (hok t (List.mem_of_getElem? ht) k (List.mem_of_getElem? hk))
    · refine ⟨PI.first, fun i j hi hj => ?_, fun i j hi hj _ => ?_, fun i x hi hx => ?_, fun x hx => ?_, by simp⟩
      · obtain ⟨t, k, ht, hk, e⟩ := hst i j hi hj
        show LP.pp _ (σ i j)
        rw [e]
        exact (CallA.start_pp _).1
      · obtain ⟨t, k, ht, hk, e⟩ := hst i j hi hj
        show LP.on (σ i j)
        rw [e]
        exact (CallA.start_pp []).2
      · have := (List.getElem?_eq_some_iff.1 hx).1
        simp at this
        omega
      · simp at hx
        subst hx
        exact hy
/-- What is there behind a run. -/
theorem GRun.ends {T : Nat} {cl : Nat → Nat} {vb : Nat → Nat} {pv : Nat → Nat → Value} {c0 : Cfg LP} {m b r : Nat} {W X : World} {picks : List Int} (h : GRun leavesK 4096 m b T cl vb pv c0 W X r picks picks.length) (hc : CInv T cl c0) :
    ∃ F next cs l, IsMem X m b ∧ Bank X F b 4096 next cs l ∧ LEnd l ∧ 1 ≤ l.length ∧ l.length ≤ picks.length + 16 ∧ Chg (fun _ => False) W X := by
  obtain ⟨G, K, vw, tv, ev, av, ths, evs, ats, h⟩ := h
  have hchg := h.chg
  obtain ⟨F, D, md, tg, h⟩ := h.ma
  obtain ⟨l, B, hl⟩ := h.bank
  have ci := hc.run (picks.take picks.length)
  have t1 := ci.t1
  have tn := h.tn
  rw [← hl] at t1 tn
  refine ⟨F, _, _, l, h.mem, B, ⟨by rw [hl]; exact ci.good, fun x hx => ?_, fun y hy => ?_⟩, by simpa using t1, by simpa using tn, hchg⟩
  · have := ci.vl x.bare (by rw [← hl]; exact List.mem_map.2 ⟨x, hx, rfl⟩)
    exact this
  · rw [hl] at hy
    exact ci.pi.lt (.inr hy)
end Go.Proofs.Ytbjebnkfecjpnaa
