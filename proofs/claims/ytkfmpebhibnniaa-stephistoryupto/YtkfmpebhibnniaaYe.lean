/- A row of plans' procs: one step of it. -/
import Derived.Test.YtkfmpebhibnniaaYd
namespace Go.Proofs.Ytkfmpebhibnniaa
open Go.RowKit Go.Shelf
set_option linter.unusedVariables false

def atOf (I S i : Nat) (p : PlP) : Nat := if i < I then p.L.length else if i = I then S else 0
/-- All that lies in memory when I plans are done, and S steps of the next one. -/
structure ALt (B : Nat) (m0 : Mu) (l : List PlP) (lp : Nat → Option Addr) (lc pb : Nat → Nat) (b v rb rp rc I S R : Nat) (X : World) (F : Nat → Prop) (D : Nat → Nat → Prop) (made : Nat) (tg : Nat → Nat × Nat) : Prop where
  bank : ∃ lb, Bank X F b 200 (mS 200 m0 l I S).next (mS 200 m0 l I S).cs lb ∧ lb.map Acc.bare = tS 3 200 m0 l I S
  view : IsView X v b 3 made
  row : X.heap[rb]? = some (.cells #[.slice (some ⟨rp, 0, none⟩) l.length rc, .int .i64 (R : Int)] 97 (0, 0))
  ifs : ∃ cur : Array Value, X.heap[rp]? = some (.cells cur 40 (0, 0)) ∧ ∀ (i : Nat) (p : PlP), l[i]? = some p → cur[i]? = some (if p.none = true then .nilIface else .iface 59 (.pointer (some ⟨pb i, 0, none⟩)))
  procs : ∀ (i : Nat) (p : PlP), l[i]? = some p → p.none = false → PlAt X (D i) (pb i) (lp i) p.L.length (lc i) (atOf I S i p) (gF 200 m0 l I S i)
  plans : ∀ (i : Nat) (p : PlP), l[i]? = some p → DosAt X B (lp i) p.L
  tF : ∀ k, F k → tg k = (1, 0) ∧ B ≤ k ∧ k < X.heap.size
  tv : tg v = (2, 0) ∧ B ≤ v
  tr : tg rb = (3, 0) ∧ B ≤ rb
  tp : tg rp = (4, 0) ∧ B ≤ rp
  tD : ∀ (i : Nat) (p : PlP) (k : Nat), l[i]? = some p → p.none = false → D i k → tg k = (5, i) ∧ B ≤ k ∧ k < X.heap.size
  md : made ≤ pre l I + S
  hB : B ≤ X.heap.size
def AL (B : Nat) (m0 : Mu) (l : List PlP) (lp : Nat → Option Addr) (lc pb : Nat → Nat) (b v rb rp rc I S : Nat) (X : World) (made : Nat) (K : Nat → Prop) : Prop := ∃ F D tg, ALt B m0 l lp lc pb b v rb rp rc I S I X F D made tg ∧ (∀ k, F k → K k) ∧ K v ∧ K rb ∧ K rp ∧ (∀ (i : Nat) (p : PlP) (k : Nat), l[i]? = some p → p.none = false → D i k → K k) ∧ ∀ k, K k → k < X.heap.size
section
variable {B : Nat} {m0 : Mu} {l : List PlP} {lp : Nat → Option Addr} {lc pb : Nat → Nat} {b v rb rp rc I S R : Nat} {X : World} {made : Nat} {K : Nat → Prop}
theorem ALt.keep {F : Nat → Prop} {D : Nat → Nat → Prop} {tg : Nat → Nat × Nat} {Y : World} (h : ALt B m0 l lp lc pb b v rb rp rc I S R X F D made tg) (hs : X.heap.size ≤ Y.heap.size) (hk : ∀ k, (F k ∨ k = v ∨ k = rb ∨ k = rp ∨ (∃ (i : Nat) (p : PlP), l[i]? = some p ∧ p.none = false ∧ D i k) ∨ k < B) → Y.heap[k]? = X.heap[k]?) : ALt B m0 l lp lc pb b v rb rp rc I S R Y F D made tg := by
  obtain ⟨lb, hb, hl⟩ := h.bank
  obtain ⟨cur, hc, hi⟩ := h.ifs
  exact ⟨⟨lb, hb.kept hs (fun k e => hk k (.inl e)), hl⟩, (hk v (.inr (.inl rfl))).trans h.view, (hk rb (.inr (.inr (.inl rfl)))).trans h.row, ⟨cur, (hk rp (.inr (.inr (.inr (.inl rfl))))).trans hc, hi⟩, fun i p hp hn => (h.procs i p hp hn).kept (fun k e => hk k (.inr (.inr (.inr (.inr (.inl ⟨i, p, hp, hn, e⟩)))))), fun i p hp => (h.plans i p hp).low (fun k hkb => hk k (.inr (.inr (.inr (.inr (.inr hkb)))))), fun k e => ⟨(h.tF k e).1, (h.tF k e).2.1, by have := (h.tF k e).2.2; omega⟩, h.tv, h.tr, h.tp, fun i p k hp hn e => ⟨(h.tD i p k hp hn e).1, (h.tD i p k hp hn e).2.1, by have := (h.tD i p k hp hn e).2.2; omega⟩, h.md, by have := h.hB; omega⟩
theorem AL.keep {Y : World} (h : AL B m0 l lp lc pb b v rb rp rc I S X made K) (hs : X.heap.size ≤ Y.heap.size) (hk : ∀ k, K k ∨ k < B → Y.heap[k]? = X.heap[k]?) : AL B m0 l lp lc pb b v rb rp rc I S Y made K := by
  obtain ⟨F, D, tg, h, h1, h2, h3, h4, h5, h6⟩ := h
  refine ⟨F, D, tg, h.keep hs (fun k e => hk k ?_), h1, h2, h3, h4, h5, fun k e => by have := h6 k e; omega⟩
  rcases e with e | e | e | e | ⟨i, p, hp, hn, e⟩ | e
  · exact .inl (h1 k e)
  · exact .inl (e ▸ h2)
  · exact .inl (e ▸ h3)
  · exact .inl (e ▸ h4)
  · exact .inl (h5 i p k hp hn e)
  · exact .inr e
theorem nst_len {p : PlP} {S : Nat} (hn : p.none = false) (h : S < nst p) : (nst p ≤ S + 1 ↔ p.L.length ≤ S + 1) := by
  unfold nst at h ⊢
  rw [if_neg (by simp [hn])] at h ⊢
  split at h <;> split <;> omega
theorem doL_next {p : PlP} {S : Nat} (hn : p.none = false) : doL p (S + 1) = doL p S ++ (match p.L[S]? with | some d => [d] | none => []) := by
  rw [doL_succ, if_neg (by simp [hn])]
  rfl
theorem run_next {most : Nat} {m : Mu} {p : PlP} {S : Nat} (hn : p.none = false) : runM most m (doL p (S + 1)) = nxtM most (runM most m (doL p S)) p.L[S]? := by
  rw [doL_next hn]
  cases p.L[S]? with
  | none => simp [nxtM]
  | some d => simp only [nxtM]; exact runM_snoc _ _ _ _
theorem runG_next {most : Nat} {m : Mu} {p : PlP} {S : Nat} (hn : p.none = false) : runG most m (doL p (S + 1)) = runG most m (doL p S) ++ nxtG most (runM most m (doL p S)) p.L[S]? := by
  rw [doL_next hn]
  cases p.L[S]? with
  | none => simp [nxtG]
  | some d => simp only [nxtG]; exact runG_snoc _ _ _ _
theorem runT_next {th : Int} {most : Nat} {m : Mu} {p : PlP} {S : Nat} (hn : p.none = false) : runT th most m (doL p (S + 1)) = runT th most m (doL p S) ++ nxtT th most (runM most m (doL p S)) p.L[S]? := by
  rw [doL_next hn]
  cases p.L[S]? with
  | none => simp [nxtT]
  | some d => simp only [nxtT]; exact runT_snoc _ _ _ _ _
/-- Where a step leads: to the next step of this plan, or to the next plan. -/
def nI (l : List PlP) (I S : Nat) : Nat := match l[I]? with
  | some p => if nst p ≤ S + 1 then I + 1 else I
  | none => I
def nS (l : List PlP) (I S : Nat) : Nat := match l[I]? with
  | some p => if nst p ≤ S + 1 then 0 else S + 1
  | none => S
theorem mS_zero (most : Nat) (m0 : Mu) (l : List PlP) (I : Nat) : mS most m0 l I 0 = mF most m0 l I := by
  unfold mS
  split
  · rfl
  · rw [doL_zero]; rfl
theorem tS_zero (th : Int) (most : Nat) (m0 : Mu) (l : List PlP) (I : Nat) : tS th most m0 l I 0 = tF th most m0 l I := by
  unfold tS
  split
  · rfl
  · rw [doL_zero]; simp [runT]
theorem mS_next {most : Nat} {m0 : Mu} {p : PlP} (hp : l[I]? = some p) (hlt : S < nst p) : mS most m0 l (nI l I S) (nS l I S) = runM most (mF most m0 l I) (doL p (S + 1)) := by
  unfold nI nS
  simp only [hp]
  by_cases e : nst p ≤ S + 1
  · rw [if_pos e, if_pos e, mS_zero, show S + 1 = nst p by omega]
    simp only [mF, hp]
  · rw [if_neg e, if_neg e]
    unfold mS
    simp only [hp]
theorem tS_next {th : Int} {most : Nat} {m0 : Mu} {p : PlP} (hp : l[I]? = some p) (hlt : S < nst p) : tS th most m0 l (nI l I S) (nS l I S) = tF th most m0 l I ++ runT th most (mF most m0 l I) (doL p (S + 1)) := by
  unfold nI nS
  simp only [hp]
  by_cases e : nst p ≤ S + 1
  · rw [if_pos e, if_pos e, tS_zero, show S + 1 = nst p by omega]
    simp only [tF, hp]
  · rw [if_neg e, if_neg e]
    unfold tS
    simp only [hp]
theorem gF_next {most : Nat} {m0 : Mu} {p : PlP} (hp : l[I]? = some p) (hlt : S < nst p) (j : Nat) : gF most m0 l (nI l I S) (nS l I S) j = if j = I then runG most (mF most m0 l I) (doL p (S + 1)) else gF most m0 l I S j := by
  unfold nI nS
  simp only [hp]
  by_cases e : nst p ≤ S + 1
  · rw [if_pos e, if_pos e]
    unfold gF
    by_cases q : j = I
    · subst q; simp only [hp, if_true]; rw [if_pos (by omega), show S + 1 = nst p by omega]
    · rw [if_neg q]
      cases hj : l[j]? with
      | none => rfl
      | some r =>
        simp only
        by_cases w : j < I
        · rw [if_pos (by omega), if_pos w]
        · rw [if_neg (by omega), if_neg w, if_neg q]
          by_cases z : j = I + 1
          · rw [if_pos z, doL_zero]; rfl
          · rw [if_neg z]
  · rw [if_neg e, if_neg e]
    unfold gF
    by_cases q : j = I
    · subst q; simp only [hp]; rw [if_neg (by omega)]; simp
    · rw [if_neg q]
      cases hj : l[j]? with
      | none => rfl
      | some r => simp only; rw [if_neg q, if_neg q]
theorem at_next {p : PlP} (hp : l[I]? = some p) (hlt : S < nst p) (hn : p.none = false) (j : Nat) (r : PlP) (hr : l[j]? = some r) : atOf (nI l I S) (nS l I S) j r = if j = I then nxtA S p.L[S]? else atOf I S j r := by
  unfold nI nS
  simp only [hp]
  have hx := nst_len hn hlt
  by_cases e : nst p ≤ S + 1
  · rw [if_pos e, if_pos e]
    unfold atOf
    by_cases q : j = I
    · subst q
      rw [hp] at hr; injection hr with hr; subst hr
      rw [if_pos (by omega), if_pos rfl]
      cases hd : p.L[S]? with
      | none =>
        have := List.getElem?_eq_none_iff.1 hd
        simp only [nxtA]
        unfold nst at hlt
        rw [if_neg (by simp [hn])] at hlt
        split at hlt <;> omega
      | some d => have := (List.getElem?_eq_some_iff.1 hd).1; have := hx.1 e; simp only [nxtA]; omega
    · rw [if_neg q]
      by_cases w : j < I
      · rw [if_pos (by omega), if_pos w]
      · rw [if_neg (by omega), if_neg w, if_neg q]
        split <;> rfl
  · rw [if_neg e, if_neg e]
    unfold atOf
    by_cases q : j = I
    · subst q
      rw [if_neg (by omega), if_pos rfl, if_pos rfl]
      have hl : S + 1 < p.L.length := by rw [hx] at e; omega
      rw [List.getElem?_eq_getElem (show S < p.L.length by omega)]
      rfl
    · by_cases w : j < I
      · rw [if_pos w, if_neg q, if_pos w]
      · rw [if_neg w, if_neg q, if_neg q, if_neg w, if_neg q]
theorem pre_next {p : PlP} (hp : l[I]? = some p) (hlt : S < nst p) : pre l (nI l I S) + nS l I S = pre l I + S + 1 := by
  unfold nI nS
  simp only [hp]
  by_cases e : nst p ≤ S + 1
  · rw [if_pos e, if_pos e, pre_succ hp]; omega
  · rw [if_neg e, if_neg e]; omega
theorem pos_next {k : Nat} {p : PlP} (h : Pos l k I S) (hp : l[I]? = some p) : Pos l (k + 1) (nI l I S) (nS l I S) := by
  have hlt := h.lt p hp
  have hI : I < l.length := (List.getElem?_eq_some_iff.1 hp).1
  have e := pre_next (S := S) hp hlt
  refine ⟨?_, by have := h.at_; omega, fun r hr => ?_, fun hr => ?_⟩
  · unfold nI; simp only [hp]; split <;> omega
  · unfold nI at hr; unfold nS; simp only [hp] at hr ⊢
    by_cases q : nst p ≤ S + 1
    · rw [if_pos q]; have := nst_pos r; omega
    · rw [if_neg q] at hr ⊢; rw [hp] at hr; injection hr with hr; subst hr; omega
  · unfold nI at hr; unfold nS; simp only [hp] at hr ⊢
    by_cases q : nst p ≤ S + 1
    · rw [if_pos q]
    · rw [if_neg q] at hr; rw [hp] at hr; cases hr
end
end Go.Proofs.Ytkfmpebhibnniaa
