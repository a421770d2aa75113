/- Rows of spans and events; what events tell. -/
import Derived.Test.YtfohpbpekdcneaaDoorHRight
namespace Go.Proofs.YtfohpbpekdcneaaDoor
open Go.RowKit Go.Maps

theorem rowOf_length {α : Type} (f : α → List Value) (s : Nat) (hs : ∀ x, (f x).length = s) (l : List α) : (l.flatMap f).length = l.length * s := by
  induction l with
  | nil => simp
  | cons x r ih => rw [List.flatMap_cons, List.length_append, hs, ih, List.length_cons, Nat.add_mul]; omega
theorem rowOf_get {α : Type} (f : α → List Value) (s : Nat) (hs : ∀ x, (f x).length = s) (l : List α) (j k : Nat) (hk : k < s) : (l.flatMap f)[j * s + k]? = (l[j]?).bind fun x => (f x)[k]? := by
  induction l generalizing j with
  | nil => simp
  | cons x r ih =>
    rw [List.flatMap_cons]
    cases j with
    | zero => rw [List.getElem?_append_left (by rw [hs]; omega)]; simp
    | succ j => rw [List.getElem?_append_right (by rw [hs, Nat.add_mul]; omega), hs, show (j + 1) * s + k - s = j * s + k by rw [Nat.add_mul]; omega, ih]; simp
theorem rowOf_set {α : Type} (f : α → List Value) (s : Nat) (hs : ∀ x, (f x).length = s) (l : List α) (j k : Nat) (hk : k < s) (x x' : α) (hj : l[j]? = some x) (v : Value) (hx : (f x).set k v = f x') : (l.flatMap f).set (j * s + k) v = (l.set j x').flatMap f := by
  induction l generalizing j with
  | nil => simp at hj
  | cons y r ih =>
    cases j with
    | zero =>
      simp at hj
      subst hj
      simp only [List.flatMap_cons, List.set_cons_zero]
      rw [List.set_append_left _ _ (by rw [hs]; omega), ← hx]
      simp
    | succ j =>
      simp only [List.flatMap_cons, List.set_cons_succ]
      rw [List.set_append_right _ _ (by rw [hs, Nat.add_mul]; omega), hs, show (j + 1) * s + k - s = j * s + k by rw [Nat.add_mul]; omega, ih j (by simpa using hj)]

theorem slice_of {W : World} {e : TypeId} {s n : Nat} {v : Value} {xs : List Value} (h : W.ownsRow 0 e s v n xs) : ∃ p c, v = .slice p n c := by
  rcases h.2 with ⟨rfl, rfl⟩ | ⟨g, cap, cur, rfl, _⟩
  · exact ⟨_, _, rfl⟩
  · exact ⟨_, _, rfl⟩
theorem slice_pos {W : World} {e : TypeId} {s n : Nat} {v : Value} {xs : List Value} (h : W.ownsRow 0 e s v n xs) (hn : 0 < n) : ∃ g c, v = .slice (some ⟨g, 0, none⟩) n c := by
  rcases h.2 with ⟨rfl, rfl⟩ | ⟨g, cap, cur, rfl, _⟩
  · omega
  · exact ⟨g, cap, rfl⟩
theorem cells_new (w : World) (g : Nat) (hg : w.heap.size = g) (cs : Array Value) (t : TypeId) : ∀ j u, cs.toList[j]? = some u → (w.alloc (.cells cs t)).cell? ((⟨g, 0, none⟩ : Addr).add j) = some u := by
  intro j u h
  subst hg
  have e : (⟨w.heap.size, 0, none⟩ : Addr).add j = ⟨w.heap.size, j, none⟩ := by unfold Addr.add; split <;> simp_all
  rw [e]
  have hh : (w.alloc (.cells cs t)).heap[w.heap.size]? = some (.cells cs t (0, 0)) := heap_alloc_new _ _
  rw [cell_of hh j]
  simpa using h

def spRow (l : List Sp) : List Value := l.flatMap Sp.cells
structure Evt where
  st : Int
  th : Int
  ix : Int
  ret : Bool
structure Evt.Ok (e : Evt) : Prop where
  st : isI e.st
  th : isI e.th
  ix : isI e.ix
def Evt.cells (x : Evt) : List Value := [.int .i64 x.st, .int .i64 x.th, .int .i64 x.ix, .bool x.ret]
def EReads (W : World) (p : Option Addr) (l : List Evt) : Prop :=
  l = [] ∨ ∃ bk off, p = some ⟨bk, off, none⟩ ∧ bk < W.heap.size ∧ ∀ (i : Nat) s, l[i]? = some s → ∀ (j : Nat) u, s.cells[j]? = some u → W.cell? ⟨bk, off + i * 4 + j, none⟩ = some u
theorem EReads.get {W : World} {p : Option Addr} {l : List Evt} (h : EReads W p l) (i : Nat) (s : Evt) (hs : l[i]? = some s) : ∃ bk off, p = some ⟨bk, off, none⟩ ∧ bk < W.heap.size ∧ W.cell? ⟨bk, off + i * 4, none⟩ = some (.int .i64 s.st) ∧ W.cell? ⟨bk, off + i * 4 + 1, none⟩ = some (.int .i64 s.th) ∧ W.cell? ⟨bk, off + i * 4 + 2, none⟩ = some (.int .i64 s.ix) ∧ W.cell? ⟨bk, off + i * 4 + 3, none⟩ = some (.bool s.ret) := by
  rcases h with rfl | ⟨bk, off, rfl, hb, h⟩
  · simp at hs
  · exact ⟨bk, off, rfl, hb, h i s hs 0 _ rfl, h i s hs 1 _ rfl, h i s hs 2 _ rfl, h i s hs 3 _ rfl⟩
theorem EReads.chg {W X : World} {p : Option Addr} {l : List Evt} {F : Nat → Prop} (h : EReads W p l) (hc : Chg F W X) (hF : ∀ q, p = some q → ¬ F q.block) : EReads X p l := by
  rcases h with rfl | ⟨bk, off, rfl, hb, h⟩
  · exact .inl rfl
  · exact .inr ⟨bk, off, rfl, Nat.lt_of_lt_of_le hb hc.size, fun i s hs j u hu => cell_chg hc (h i s hs j u hu) (fun x => hF _ rfl x)⟩
theorem SReads.of_row {W : World} {p : Option Addr} {c : Nat} {l : List Sp} (h : W.ownsRow 0 38 4 (.slice p l.length c) l.length (spRow l)) : SReads W p l := by
  rcases h.2 with ⟨h2, h3⟩ | ⟨g, cap, cur, h2, _⟩
  · exact .inl (List.eq_nil_of_length_eq_zero h3)
  · simp only [Value.slice.injEq] at h2
    obtain ⟨rfl, _, rfl⟩ := h2
    rcases Nat.eq_zero_or_pos l.length with h0 | h0
    · exact .inl (List.eq_nil_of_length_eq_zero h0)
    · refine .inr ⟨g, 0, rfl, row_lt h g rfl, fun i s hs j u hu => ?_⟩
      have hi : i < l.length := (List.getElem?_eq_some_iff.1 hs).1
      have hj : j < 4 := by
        have := (List.getElem?_eq_some_iff.1 hu).1
        simp [Sp.cells] at this
        omega
      rw [Nat.zero_add, World.ownsRow.cellAt h (i * 4 + j) (by omega), spRow, rowOf_get Sp.cells 4 (fun _ => rfl) l i j hj, hs]
      exact hu

theorem lastN_append (sp : List Sp) (x : Sp) (k : Nat) (hk : k ≤ sp.length) (th : Int) : lastN (sp ++ [x]) k th = lastN sp k th := by
  induction k with
  | zero => rfl
  | succ k ih => rw [lastN, lastN, List.getElem?_append_left (by omega), ih (by omega)]
theorem lastN_set (sp : List Sp) (n : Nat) (s s' : Sp) (hs : sp[n]? = some s) (ht : s'.th = s.th) (k : Nat) (th : Int) : lastN (sp.set n s') k th = lastN sp k th := by
  induction k with
  | zero => rfl
  | succ k ih =>
    rw [lastN, lastN, ih, List.getElem?_set]
    by_cases e : n = k
    · subst e
      have hl := (List.getElem?_eq_some_iff.1 hs).1
      rw [if_pos rfl, if_pos hl, hs]
      simp only [ht]
    · rw [if_neg e]
theorem lastF_append (sp : List Sp) (x : Sp) : updI (lastF sp sp.length) x.th (sp.length : Int) = lastF (sp ++ [x]) (sp ++ [x]).length := by
  have e : (sp ++ [x])[sp.length]? = some x := by simp
  have h := lastF_succ e
  rw [List.length_append]
  show _ = lastF (sp ++ [x]) (sp.length + 1)
  rw [← h]
  congr 1
  funext th
  unfold lastF
  rw [lastN_append sp x _ (Nat.le_refl _)]
theorem lastF_set (sp : List Sp) (n : Nat) (s s' : Sp) (hs : sp[n]? = some s) (ht : s'.th = s.th) : lastF (sp.set n s') (sp.set n s').length = lastF sp sp.length := by
  funext th
  unfold lastF
  rw [List.length_set, lastN_set sp n s s' hs ht]

def mayB (a e : Evt) : Bool := if e.st = a.st then (!a.ret && e.ret && decide (e.th = a.th)) else decide (a.st < e.st)
def evOk (es : List Evt) (k : Nat) (e : Evt) : Bool := decide (0 ≤ e.st) && (if k = 0 then true else match es[k - 1]? with | none => true | some a => mayB a e)
def evNext (sp : List Sp) (e : Evt) : Option (List Sp) :=
  match lastN sp sp.length e.th with
  | none => if e.ret = false ∧ e.ix = 0 then some (sp ++ [⟨e.th, e.ix, e.st, -1⟩]) else none
  | some n => match sp[n]? with
    | none => none
    | some s => if e.ret = true ∧ s.to = -1 ∧ e.ix = s.ix then some (sp.set n ⟨s.th, s.ix, s.fr, e.st⟩)
      else if e.ret = false ∧ s.to ≠ -1 ∧ e.ix = wrap64 (s.ix + 1) then some (sp ++ [⟨e.th, e.ix, e.st, -1⟩]) else none
def runEv (es : List Evt) : Nat → Option (List Sp)
  | 0 => some []
  | k + 1 => match runEv es k, es[k]? with
    | some sp, some e => if evOk es k e = true then evNext sp e else none
    | _, _ => none
theorem runEv_succ {es : List Evt} {k : Nat} {sp : List Sp} {e : Evt} (h : runEv es k = some sp) (he : es[k]? = some e) : runEv es (k + 1) = if evOk es k e = true then evNext sp e else none := by
  rw [runEv, h, he]
theorem runEv_none {es : List Evt} {k : Nat} (h : runEv es k = none) (j : Nat) : runEv es (k + j) = none := by
  induction j with
  | zero => exact h
  | succ j ih => rw [← Nat.add_assoc, runEv, ih]
theorem runEv_no {es : List Evt} {k : Nat} {sp : List Sp} {e : Evt} (h : runEv es k = some sp) (he : es[k]? = some e) (hn : ¬ (evOk es k e = true ∧ evNext sp e ≠ none)) : runEv es es.length = none := by
  have hk : k < es.length := (List.getElem?_eq_some_iff.1 he).1
  have e1 : runEv es (k + 1) = none := by
    rw [runEv_succ h he]
    by_cases c : evOk es k e = true
    · rw [if_pos c]
      cases hx : evNext sp e with
      | none => rfl
      | some y => exact absurd ⟨c, by rw [hx]; simp⟩ hn
    · rw [if_neg c]
  have := runEv_none e1 (es.length - (k + 1))
  rw [show k + 1 + (es.length - (k + 1)) = es.length by omega] at this
  exact this
theorem evNext_length {sp sp' : List Sp} {e : Evt} (h : evNext sp e = some sp') : sp'.length ≤ sp.length + 1 := by
  unfold evNext at h
  split at h
  · split at h
    · simp at h; subst h; simp
    · simp at h
  · split at h
    · simp at h
    · split at h
      · simp at h; subst h; simp
      · split at h
        · simp at h; subst h; simp
        · simp at h

set_option maxRecDepth 100000 in
theorem h_mayFollow (a e : Evt) (W : World) : Calls Tryd.prog 37 #[.agg #[.int .i64 a.st, .int .i64 a.th, .int .i64 a.ix, .bool a.ret], .agg #[.int .i64 e.st, .int .i64 e.th, .int .i64 e.ix, .bool e.ret]] W fun x W' => x = .returned (.bool (mayB a e)) ∧ Chg (fun _ => False) W W' := by
  obtain ⟨ast, ath, aix, aret⟩ := a
  obtain ⟨est, eth, eix, eret⟩ := e
  have C := ((Chg.refl (fun _ => False) W).alloc (.cells #[.int .i64 ast, .int .i64 ath, .int .i64 aix, .bool aret] 53)).alloc (.cells #[.int .i64 est, .int .i64 eth, .int .i64 eix, .bool eret] 53)
  have HC := keepH C
  clear C
  by_cases h : est = ast
  · subst h
    cases aret <;> cases eret
    all_goals
      go_enter Tryd.func37, Tryd.ntmps37
      go_wp2_with fail
      go_ret
      exact ⟨by simp [mayB]; try (by_cases e : eth = ath <;> simp [e]), HC.out⟩
  · go_enter Tryd.func37, Tryd.ntmps37
    go_wp2_with fail
    go_ret
    exact ⟨by simp [mayB, h], HC.out⟩
end Go.Proofs.YtfohpbpekdcneaaDoor
