/- The law's procs of a list of plans. -/
import Derived.Test.YtkfmpebhibnniaaYi
namespace Go.Proofs.Ytkfmpebhibnniaa
open Go.RowKit Go.Shelf
set_option linter.unusedVariables false

/-- The plans as they lie in memory, all of it below B. -/
def PlansAt (W : World) (B : Nat) (p : Option Addr) (l : List PlP) (lp : Nat → Option Addr) (lc : Nat → Nat) : Prop := ∀ (i : Nat) (q : PlP), l[i]? = some q → (∃ bk off, p = some ⟨bk, off, none⟩ ∧ bk < B ∧ W.cell? ⟨bk, off + i * 2, none⟩ = some (.bool q.none) ∧ W.cell? ⟨bk, off + i * 2 + 1, none⟩ = some (.slice (lp i) q.L.length (lc i))) ∧ DosAt W B (lp i) q.L
theorem PlansAt.low {W Y : World} {B : Nat} {p : Option Addr} {l : List PlP} {lp : Nat → Option Addr} {lc : Nat → Nat} (h : PlansAt W B p l lp lc) (hl : ∀ k, k < B → Y.heap[k]? = W.heap[k]?) : PlansAt Y B p l lp lc := fun i q hq => by
  obtain ⟨⟨bk, off, e, hb, c0, c1⟩, hd⟩ := h i q hq
  exact ⟨⟨bk, off, e, hb, cell_low hl hb c0, cell_low hl hb c1⟩, hd.low hl⟩
theorem PlansAt.chg {W Y : World} {B : Nat} {p : Option Addr} {l : List PlP} {lp : Nat → Option Addr} {lc : Nat → Nat} (h : PlansAt W B p l lp lc) (hB : B ≤ W.heap.size) (c : Chg (fun _ => False) W Y) : PlansAt Y B p l lp lc := h.low (fun k hk => c.block k (by omega) (fun x => x))
def ifV (l : List PlP) (pb : Nat → Nat) (j : Nat) : Value := match l[j]? with
  | some q => if q.none = true then .nilIface else .iface 59 (.pointer (some ⟨pb j, 0, none⟩))
  | none => .nilIface
def ifL (l : List PlP) (pb : Nat → Nat) (i : Nat) : List Value := (List.range i).map (ifV l pb)
def ptO (l : List PlP) (pb : Nat → Nat) (j : Nat) : Option Value := match l[j]? with
  | some q => if q.none = true then none else some (.pointer (some ⟨pb j, 0, none⟩))
  | none => none
def ptL (l : List PlP) (pb : Nat → Nat) (i : Nat) : List Value := (List.range i).filterMap (ptO l pb)
def updB (pb : Nat → Nat) (i x : Nat) : Nat → Nat := fun j => if j = i then x else pb j
theorem ifL_congr {l : List PlP} {pb pb' : Nat → Nat} {i : Nat} (h : ∀ j, j < i → pb' j = pb j) : ifL l pb' i = ifL l pb i := by
  unfold ifL
  refine List.map_congr_left fun j hj => ?_
  unfold ifV
  rw [h j (List.mem_range.1 hj)]
theorem ptL_succ (l : List PlP) (pb : Nat → Nat) (i : Nat) : ptL l pb (i + 1) = ptL l pb i ++ (ptO l pb i).toList := by
  unfold ptL
  rw [List.range_succ, List.filterMap_append]
  congr 1
theorem ptL_congr {l : List PlP} {pb pb' : Nat → Nat} : ∀ {i : Nat}, (∀ j, j < i → pb' j = pb j) → ptL l pb' i = ptL l pb i := by
  intro i
  induction i with
  | zero => intro _; rfl
  | succ i ih =>
    intro h
    rw [ptL_succ, ptL_succ, ih (fun j hj => h j (by omega))]
    congr 2
    unfold ptO
    rw [h i (by omega)]
theorem ifL_succ (l : List PlP) (pb : Nat → Nat) (i : Nat) : ifL l pb (i + 1) = ifL l pb i ++ [ifV l pb i] := by simp [ifL, List.range_succ]
theorem ptL_at {l : List PlP} {pb : Nat → Nat} {i n : Nat} {q : PlP} (hq : l[i]? = some q) (hn : q.none = false) (hin : i < n) : (ptL l pb n)[(ptL l pb i).length]? = some (.pointer (some ⟨pb i, 0, none⟩)) := by
  induction n with
  | zero => omega
  | succ n ih =>
    rw [ptL_succ]
    by_cases e : i = n
    · subst e
      have : ptO l pb i = some (.pointer (some ⟨pb i, 0, none⟩)) := by unfold ptO; simp [hq, hn]
      rw [this]
      simp
    · have := ih (by omega)
      rw [List.getElem?_append_left (List.getElem?_eq_some_iff.1 this).1]
      exact this
theorem ptL_len (l : List PlP) (pb : Nat → Nat) (i : Nat) : (ptL l pb i).length ≤ i := by
  have := List.length_filterMap_le (ptO l pb) (List.range i)
  simpa [ptL] using this
/-- What is laid so far. -/
structure PB (W wr : World) (l : List PlP) (lp : Nat → Option Addr) (lc pb : Nat → Nat) (i : Nat) (v7 v8 : Value) : Prop where
  r7 : wr.ownsRow W.heap.size 40 1 v7 i (ifL l pb i)
  r8 : wr.ownsRow W.heap.size 59 1 v8 (ptL l pb i).length (ptL l pb i)
  pr : ∀ (j : Nat) (q : PlP), j < i → l[j]? = some q → q.none = false → wr.heap[pb j]? = some (.cells #[.slice (lp j) q.L.length (lc j), .int .i64 0, .slice none 0 0] 58 (0, 0)) ∧ W.heap.size ≤ pb j
  inj : ∀ (j j' : Nat) (q q' : PlP), j < j' → j' < i → l[j]? = some q → l[j']? = some q' → q.none = false → q'.none = false → pb j < pb j'
  chg : Chg (fun _ => False) W wr
theorem row_typ {W : World} {B : Nat} {e : TypeId} {s : Nat} {v : Value} {n : Nat} {xs : List Value} (h : W.ownsRow B e s v n xs) {g : Nat} (hg : v.ownBlock = some g) : B ≤ g ∧ ∃ cur, W.heap[g]? = some (.cells cur e (0, 0)) := by
  rcases h.2 with ⟨rfl, _⟩ | ⟨g', cap, cur, rfl, hB, hb, _⟩
  · simp [Value.ownBlock] at hg
  · obtain rfl : g' = g := by simpa [Value.ownBlock] using hg
    exact ⟨hB, cur, hb⟩
theorem typ_ne {W : World} {g g' : Nat} {cur cur' : Array Value} {t t' : TypeId} (hg : W.heap[g]? = some (.cells cur t (0, 0))) (hg' : W.heap[g']? = some (.cells cur' t' (0, 0))) (ht : t ≠ t') : g ≠ g' := by
  rintro rfl
  rw [hg] at hg'
  simp at hg'
  exact ht hg'.2
theorem rowB_kept {W W' : World} {B : Nat} {e : TypeId} {s : Nat} {v : Value} {n : Nat} {xs : List Value} (h : W.ownsRow B e s v n xs) (hk : ∀ g, v.ownBlock = some g → W'.heap[g]? = W.heap[g]?) : W'.ownsRow B e s v n xs := by
  obtain ⟨h0, h1⟩ := h
  refine ⟨h0, ?_⟩
  rcases h1 with h1 | ⟨g, cap, cur, rfl, hB, hg, r⟩
  · exact .inl h1
  · exact .inr ⟨g, cap, cur, rfl, hB, (hk g rfl).trans hg, r⟩
theorem PB.quiet {W wr wx : World} {l : List PlP} {lp : Nat → Option Addr} {lc pb : Nat → Nat} {i : Nat} {v7 v8 : Value} (h : PB W wr l lp lc pb i v7 v8) (c : Chg (fun _ => False) wr wx) : PB W wx l lp lc pb i v7 v8 :=
  ⟨rowB_kept h.r7 (fun g hg => c.block g (h.r7.lt g hg).2 (fun x => x)), rowB_kept h.r8 (fun g hg => c.block g (h.r8.lt g hg).2 (fun x => x)), fun j q hj hq hn => ⟨(c.block _ (lt_of (h.pr j q hj hq hn).1) (fun x => x)).trans (h.pr j q hj hq hn).1, (h.pr j q hj hq hn).2⟩, h.inj, h.chg.trans c (fun _ _ x => x) (fun _ _ x => x)⟩
/-- nil is laid behind the procs. -/
theorem PB.skip {W wr w5 : World} {l : List PlP} {lp : Nat → Option Addr} {lc pb : Nat → Nat} {i : Nat} {v7 v7' v8 : Value} {o : Obj} {q : PlP} (h : PB W wr l lp lc pb i v7 v8) (hq : l[i]? = some q) (hn : q.none = true) (r1 : w5.ownsRow W.heap.size 40 1 v7' (i + 1) (ifL l pb i ++ [.nilIface])) (r2 : (wr.alloc o).grownBy w5 v7.ownBlock) : PB W w5 l lp lc pb (i + 1) v7' v8 := by
  have c : Chg (fun k => v7.ownBlock = some k) wr w5 := ((Chg.refl (fun k => v7.ownBlock = some k) wr).alloc o).grown r2 (fun k e _ => e)
  have ne : ∀ {t : TypeId} {g : Nat} {cur : Array Value}, wr.heap[g]? = some (.cells cur t (0, 0)) → t ≠ 40 → w5.heap[g]? = wr.heap[g]? := fun hg ht => c.block _ (lt_of hg) (fun e => by obtain ⟨_, cur', hc⟩ := row_typ h.r7 e; exact typ_ne hg hc ht rfl)
  have eo : ptO l pb i = none := by unfold ptO; simp [hq, hn]
  have ei : ifV l pb i = .nilIface := by unfold ifV; simp [hq, hn]
  refine ⟨by rw [ifL_succ, ei]; exact r1, ?_, fun j r hj hr hrn => ?_, fun j j' r r' h1 h2 h3 h4 h5 h6 => ?_, h.chg.trans c (fun _ _ x => x) (fun k hk e => by have := (row_typ h.r7 e).1; omega)⟩
  · rw [ptL_succ, eo]
    simp only [Option.toList_none, List.append_nil]
    exact rowB_kept h.r8 (fun g hg => by obtain ⟨_, cur, hc⟩ := row_typ h.r8 hg; exact ne hc (by decide))
  · have hji : j ≠ i := fun e => by subst e; rw [hq] at hr; injection hr with hr; subst hr; rw [hn] at hrn; cases hrn
    have hp := h.pr j r (by omega) hr hrn
    exact ⟨(ne hp.1 (by decide)).trans hp.1, hp.2⟩
  · have hji : j' ≠ i := fun e => by subst e; rw [hq] at h4; injection h4 with h4; subst h4; rw [hn] at h6; cases h6
    exact h.inj j j' r r' h1 (by omega) h3 h4 h5 h6
/-- A proc is laid, and itself behind both rows. -/
theorem PB.add {W wr w4 w5 w6 : World} {l : List PlP} {lp : Nat → Option Addr} {lc pb : Nat → Nat} {i : Nat} {v7 v7' v8 v8' : Value} {o o' : Obj} {q : PlP} (h : PB W wr l lp lc pb i v7 v8) (hq : l[i]? = some q) (hn : q.none = false)
    (h4 : w4 = wr.alloc (.cells #[.slice (lp i) q.L.length (lc i), .int .i64 0, .slice none 0 0] 58))
    (r1 : w5.ownsRow W.heap.size 40 1 v7' (i + 1) (ifL l pb i ++ [.iface 59 (.pointer (some ⟨wr.heap.size, 0, none⟩))])) (r2 : (w4.alloc o).grownBy w5 v7.ownBlock)
    (s1 : w6.ownsRow W.heap.size 59 1 v8' ((ptL l pb i).length + 1) (ptL l pb i ++ [.pointer (some ⟨wr.heap.size, 0, none⟩)])) (s2 : (w5.alloc o').grownBy w6 v8.ownBlock) : PB W w6 l lp lc (updB pb i wr.heap.size) (i + 1) v7' v8' := by
  have sz := h.chg.size
  have c4 : Chg (fun _ => False) wr w4 := by rw [h4]; exact (Chg.refl _ _).alloc _
  have h' := h.quiet c4
  have hb4 : w4.heap[wr.heap.size]? = some (.cells #[.slice (lp i) q.L.length (lc i), .int .i64 0, .slice none 0 0] 58 (0, 0)) := by rw [h4]; exact heap_alloc_new _ _
  have c5 : Chg (fun k => v7.ownBlock = some k) w4 w5 := ((Chg.refl (fun k => v7.ownBlock = some k) w4).alloc o).grown r2 (fun k e _ => e)
  have r8' : w5.ownsRow W.heap.size 59 1 v8 (ptL l pb i).length (ptL l pb i) := rowB_kept h'.r8 (fun g hg => by
    obtain ⟨_, cur, hc⟩ := row_typ h'.r8 hg
    exact c5.block g (lt_of hc) (fun e => by obtain ⟨_, cur', hc'⟩ := row_typ h'.r7 e; exact typ_ne hc hc' (by decide) rfl))
  have c6 : Chg (fun k => v8.ownBlock = some k) w5 w6 := ((Chg.refl (fun k => v8.ownBlock = some k) w5).alloc o').grown s2 (fun k e _ => e)
  have keep : ∀ {g : Nat} {cur : Array Value}, w4.heap[g]? = some (.cells cur 58 (0, 0)) → w6.heap[g]? = some (.cells cur 58 (0, 0)) := fun hg => by
    have e5 := (c5.block _ (lt_of hg) (fun e => by obtain ⟨_, cur', hc'⟩ := row_typ h'.r7 e; exact typ_ne hg hc' (by decide) rfl)).trans hg
    exact (c6.block _ (lt_of e5) (fun e => by obtain ⟨_, cur', hc'⟩ := row_typ r8' e; exact typ_ne e5 hc' (by decide) rfl)).trans e5
  have eb : ∀ j, j < i → updB pb i wr.heap.size j = pb j := fun j hj => by unfold updB; rw [if_neg (by omega)]
  have ebi : updB pb i wr.heap.size i = wr.heap.size := by unfold updB; rw [if_pos rfl]
  have eo : ptO l (updB pb i wr.heap.size) i = some (.pointer (some ⟨wr.heap.size, 0, none⟩)) := by unfold ptO; simp [hq, hn, ebi]
  have ei : ifV l (updB pb i wr.heap.size) i = .iface 59 (.pointer (some ⟨wr.heap.size, 0, none⟩)) := by unfold ifV; simp [hq, hn, ebi]
  refine ⟨?_, ?_, fun j r hj hr hrn => ?_, fun j j' r r' h1 h2 h3 h4' h5 h6 => ?_, (h'.chg.trans c5 (H := fun _ => False) (fun _ _ x => x) (fun k hk e => by have := (row_typ h'.r7 e).1; omega)).trans c6 (fun _ _ x => x) (fun k hk e => by have := (row_typ r8' e).1; omega)⟩
  · rw [ifL_succ, ifL_congr eb, ei]
    refine rowB_kept r1 (fun g hg => ?_)
    obtain ⟨_, cur, hc⟩ := row_typ r1 hg
    exact c6.block g (lt_of hc) (fun e => by obtain ⟨_, cur', hc'⟩ := row_typ r8' e; exact typ_ne hc hc' (by decide) rfl)
  · rw [ptL_succ, ptL_congr eb, eo]
    simp only [Option.toList_some, List.length_append, List.length_cons, List.length_nil]
    exact s1
  · by_cases e : j = i
    · subst e
      rw [hq] at hr; injection hr with hr; subst hr
      rw [ebi]
      exact ⟨keep hb4, sz⟩
    · rw [eb j (by omega)]
      have hp := h'.pr j r (by omega) hr hrn
      exact ⟨keep hp.1, hp.2⟩
  · by_cases e : j' = i
    · subst e
      rw [ebi, eb j (by omega)]
      exact lt_of (h.pr j r (by omega) h3 h5).1
    · rw [eb j (by omega), eb j' (by omega)]
      exact h.inj j j' r r' h1 (by omega) h3 h4' h5 h6
end Go.Proofs.Ytkfmpebhibnniaa
