/- A row of plans' procs: one step of it, walked. -/
import Derived.Test.YtkfmpebhibnniaaYe
namespace Go.Proofs.Ytkfmpebhibnniaa
open Go.RowKit Go.Shelf
set_option linter.unusedVariables false

section
variable {B : Nat} {m0 : Mu} {l : List PlP} {lp : Nat → Option Addr} {lc pb : Nat → Nat} {b v rb rp rc I S R : Nat} {X : World} {made : Nat} {K : Nat → Prop} {F : Nat → Prop} {D : Nat → Nat → Prop} {tg : Nat → Nat × Nat}
theorem tS_len (hI : I ≤ l.length) {p : PlP} (hp : l[I]? = some p) : (tS 3 200 m0 l I S).length ≤ pre l I + S := by
  unfold tS
  simp only [hp, List.length_append]
  have h1 := tF_len 3 200 m0 l I hI
  have h2 := runT_len 3 200 (mF 200 m0 l I) (doL p S)
  have h3 : (doL p S).length ≤ S := by unfold doL; split <;> simp <;> omega
  omega
theorem gF_len {p : PlP} (hp : l[I]? = some p) : (gF 200 m0 l I S I).length ≤ S := by
  unfold gF
  simp only [hp]
  rw [if_neg (by omega)]
  simp only [if_true]
  have h2 := runG_len 200 (mF 200 m0 l I) (doL p S)
  have h3 : (doL p S).length ≤ S := by unfold doL; split <;> simp <;> omega
  omega
theorem mS_eta (m : Mu) : (⟨m.next, m.cs⟩ : Mu) = m := rfl
/-- The row's next proc takes a step. -/
theorem al_so (h : ALt B m0 l lp lc pb b v rb rp rc I S R X F D made tg) {p : PlP} (hp : l[I]? = some p) (hlt : S < nst p) (hn : p.none = false) (hsum : pre l l.length ≤ 1099511627776) (hLl : p.L.length ≤ 1099511627776) :
    Calls Try.prog 37 #[.iface 59 (.pointer (some ⟨pb I, 0, none⟩)), .pointer (some ⟨v, 0, none⟩)] X fun e Y => e = .returned (.bool (decide (nst p ≤ S + 1))) ∧ ∃ F' D' made' tg', ALt B m0 l lp lc pb b v rb rp rc (nI l I S) (nS l I S) R Y F' D' made' tg' ∧ Chg (fun k => F k ∨ k = v ∨ D I k) X Y ∧ (∀ k, F' k → F k ∨ X.heap.size ≤ k) ∧ (∀ j k, D' j k → D j k ∨ X.heap.size ≤ k) := by
  classical
  have hI : I < l.length := (List.getElem?_eq_some_iff.1 hp).1
  have hpre : pre l I + S < 1099511627776 := by
    have e1 := pre_succ hp
    have e2 := pre_mono l (show I + 1 ≤ l.length by omega)
    omega
  obtain ⟨lb, hbk, hlb⟩ := h.bank
  have hP := h.procs I p hp hn
  have eat : atOf I S I p = S := by unfold atOf; rw [if_neg (by omega), if_pos rfl]
  rw [eat] at hP
  have vlt : v < X.heap.size := h.view.lt
  have rlt : rb < X.heap.size := lt_of h.row
  obtain ⟨cur, hcur, hifs⟩ := h.ifs
  have plt : rp < X.heap.size := lt_of hcur
  have tgne : ∀ {a c : Nat} {x y : Nat × Nat}, tg a = x → tg c = y → x ≠ y → a ≠ c := fun h1 h2 ne e => ne (by rw [← h1, ← h2, e])
  have nFv : ¬ F v := fun e => tgne (h.tF v e).1 h.tv.1 (by simp) rfl
  have A : AS X X F (D I) F (D I) b v 200 (mS 200 m0 l I S).next 3 made (mS 200 m0 l I S).cs (tS 3 200 m0 l I S) :=
    ⟨⟨lb, hbk, hlb⟩, h.view, nFv, fun k e => ⟨fun x => tgne (h.tD I p k hp hn e).1 (h.tF k x).1 (by simp) rfl, fun x => tgne (h.tD I p k hp hn e).1 h.tv.1 (by simp) x, (h.tD I p k hp hn e).2.2⟩, Chg.refl _ _, fun _ e => .inl e, fun _ e => .inl e⟩
  have hmd := h.md
  have htl := tS_len (m0 := m0) (S := S) (by omega) hp
  have hgl := gF_len (m0 := m0) (S := S) hp
  refine (pl_so A hP (h.plans I p hp) h.hB (fun k e => (h.tD I p k hp hn e).2.1) (fun k e => (h.tF k e).2.1) h.tv.2 (by omega) (by omega) (by omega) (by omega)).mono ?_
  rintro e Y ⟨rfl, F', DI, made', A', hm', hP'⟩
  obtain ⟨lb', hbk', hlb'⟩ := A'.bank
  have C := A'.chg
  have sz := C.size
  have eMS : mS 200 m0 l I S = runM 200 (mF 200 m0 l I) (doL p S) := by unfold mS; simp only [hp]
  have eTS : tS 3 200 m0 l I S = tF 3 200 m0 l I ++ runT 3 200 (mF 200 m0 l I) (doL p S) := by unfold tS; simp only [hp]
  have eGF : gF 200 m0 l I S I = runG 200 (mF 200 m0 l I) (doL p S) := by unfold gF; simp only [hp]; rw [if_neg (by omega)]; simp
  have eM : mS 200 m0 l (nI l I S) (nS l I S) = nxtM 200 (mS 200 m0 l I S) p.L[S]? := by rw [mS_next hp hlt, run_next hn, eMS]
  have eT : tS 3 200 m0 l (nI l I S) (nS l I S) = tS 3 200 m0 l I S ++ nxtT 3 200 (mS 200 m0 l I S) p.L[S]? := by rw [tS_next hp hlt, runT_next hn, eTS, eMS, List.append_assoc]
  have low : ∀ k, k < B → Y.heap[k]? = X.heap[k]? := fun k hk => C.block k (by have := h.hB; omega) (fun e => by
    rcases e with e | e | e
    · have := (h.tF k e).2.1; omega
    · have := h.tv.2; omega
    · have := (h.tD I p k hp hn e).2.1; omega)
  have keepB : ∀ k, k < X.heap.size → tg k ≠ (1, 0) → tg k ≠ (2, 0) → tg k ≠ (5, I) → Y.heap[k]? = X.heap[k]? := fun k hk n1 n2 n5 => C.block k hk (fun e => by
    rcases e with e | e | e
    · exact n1 (h.tF k e).1
    · exact n2 (e ▸ h.tv.1)
    · exact n5 (h.tD I p k hp hn e).1)
  refine ⟨by rw [show decide (p.L.length ≤ S + 1) = decide (nst p ≤ S + 1) from by rw [decide_eq_decide]; exact (nst_len hn hlt).symm], F', fun j => if j = I then DI else D j, made', fun k => if k < X.heap.size then tg k else if F' k then (1, 0) else (5, I), ⟨⟨lb', by rw [eM]; exact hbk', by rw [eT]; exact hlb'⟩, A'.view, (keepB rb rlt (by rw [h.tr.1]; simp) (by rw [h.tr.1]; simp) (by rw [h.tr.1]; simp)).trans h.row, ⟨cur, (keepB rp plt (by rw [h.tp.1]; simp) (by rw [h.tp.1]; simp) (by rw [h.tp.1]; simp)).trans hcur, hifs⟩, fun j r hr hrn => ?_, fun j r hr => (h.plans j r hr).low low, fun k e => ?_, ⟨?_, h.tv.2⟩, ⟨?_, h.tr.2⟩, ⟨?_, h.tp.2⟩, fun j r k hr hrn e => ?_, ?_, by have := h.hB; omega⟩, C, A'.newF, fun j k e => ?_⟩
  · rw [at_next hp hlt hn j r hr, gF_next hp hlt j]
    by_cases q : j = I
    · subst q
      rw [hp] at hr; injection hr with hr; subst hr
      simp only [if_true]
      rw [runG_next hn, ← eGF, ← eMS]
      exact hP'
    · simp only [if_neg q]
      exact (h.procs j r hr hrn).kept (fun k e => by
        have td := h.tD j r k hr hrn e
        exact keepB k td.2.2 (by rw [td.1]; simp) (by rw [td.1]; simp) (by rw [td.1]; simp; exact q))
  · rcases A'.newF k e with q | q
    · have t := h.tF k q
      simp only [if_pos t.2.2]
      exact ⟨t.1, t.2.1, by omega⟩
    · simp only [if_neg (show ¬ k < X.heap.size by omega), if_pos e]
      exact ⟨trivial, by have := h.hB; omega, hbk'.ltF k e⟩
  · simp only [if_pos vlt]; exact h.tv.1
  · simp only [if_pos rlt]; exact h.tr.1
  · simp only [if_pos plt]; exact h.tp.1
  · by_cases q : j = I
    · subst q
      simp only [if_true] at e
      have dd := A'.dis k e
      rcases A'.newD k e with w | w
      · have t := h.tD j p k hp hn w
        simp only [if_pos t.2.2]
        exact ⟨t.1, t.2.1, dd.2.2⟩
      · simp only [if_neg (show ¬ k < X.heap.size by omega), if_neg dd.1]
        exact ⟨trivial, by have := h.hB; omega, dd.2.2⟩
    · simp only [if_neg q] at e
      have t := h.tD j r k hr hrn e
      simp only [if_pos t.2.2]
      exact ⟨t.1, t.2.1, by omega⟩
  · have e1 := pre_next (S := S) hp hlt
    omega
  · by_cases q : j = I
    · subst q; simp only [if_true] at e; exact A'.newD k e
    · simp only [if_neg q] at e; exact .inl e
theorem al_none (h : ALt B m0 l lp lc pb b v rb rp rc I S R X F D made tg) {p : PlP} (hp : l[I]? = some p) (hlt : S < nst p) (hn : p.none = true) : ALt B m0 l lp lc pb b v rb rp rc (nI l I S) (nS l I S) R X F D made tg := by
  have hS : S = 0 := by unfold nst at hlt; rw [if_pos hn] at hlt; omega
  subst hS
  have en : nst p = 1 := by unfold nst; rw [if_pos hn]
  have eI : nI l I 0 = I + 1 := by unfold nI; simp only [hp]; rw [if_pos (by omega)]
  have eS : nS l I 0 = 0 := by unfold nS; simp only [hp]; rw [if_pos (by omega)]
  have eL : doL p 1 = [] := by unfold doL; rw [if_pos hn]
  obtain ⟨lb, hbk, hlb⟩ := h.bank
  have eM := mS_next (most := 200) (m0 := m0) hp hlt
  have eT := tS_next (th := 3) (most := 200) (m0 := m0) hp hlt
  rw [Nat.zero_add, eL] at eM eT
  refine ⟨⟨lb, ?_, ?_⟩, h.view, h.row, h.ifs, fun j r hr hrn => ?_, h.plans, h.tF, h.tv, h.tr, h.tp, h.tD, ?_, h.hB⟩
  · rw [eM]; rw [mS_zero] at hbk; exact hbk
  · rw [eT]; rw [tS_zero] at hlb; simpa [runT] using hlb
  · have ne : j ≠ I := fun q => by subst q; rw [hp] at hr; injection hr with hr; subst hr; rw [hn] at hrn; cases hrn
    rw [gF_next hp hlt j, if_neg ne]
    have ea : atOf (nI l I 0) (nS l I 0) j r = atOf I 0 j r := by
      rw [eI, eS]
      unfold atOf
      by_cases w : j < I
      · rw [if_pos (by omega), if_pos w]
      · rw [if_neg (by omega), if_neg w, if_neg ne]
        split <;> rfl
    rw [ea]
    exact h.procs j r hr hrn
  · have := h.md
    have e1 := pre_next (S := 0) hp hlt
    omega
end
end Go.Proofs.Ytkfmpebhibnniaa
