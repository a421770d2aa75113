/- A copy of a script: what lies in memory while it is made. -/
import Derived.Test.YtmmaniolaljjlaaGreatDoorB9Alloc
import Derived.Maps.AppendAt
import Derived.BigQuiet
import Derived.Deep.Cut
import Derived.Deep.CutBlock
import Derived.Deep.DeepCutAuto
namespace Go.Proofs.YtmmaniolaljjlaaGreatDoor
open Go.RowKit Go.Shelf Go.Maps
set_option linter.unusedVariables false

theorem infoInt : (Tryz.prog.info? 3).map (fun i => (i.zero, i.size, i.bytes)) = some (some (.int .i64 0), 1, 8) := by kernel_rfl
theorem infoOps : (Tryz.prog.info? 75).map (fun i => (i.zero, i.size, i.bytes)) = some (some (.slice none 0 0), 1, 24) := by kernel_rfl
theorem infoOp : (Tryz.prog.info? 28).map (fun i => (i.zero, i.size, i.bytes)) = some (some (.agg #[.int .u8 0, .int .u64 0, .int .u64 0, .int .u64 0, .int .u64 0, .bool false, .int .i64 0, .int .i64 0, .slice none 0 0, .int .u64 0, .int .u64 0]), 11, 104) := by kernel_rfl
def iRow (l : List Int) : List Value := l.map (fun x => Value.int .i64 x)
theorem wpList_append_runS {P : Program} {w : World} {ops : Array Oper} {rest : List Oper} {o : Oper} {a : Act} {Q : Exit → Act → World → Prop} (hgd : o.guard = none) (s x : Operand) (t : TypeId)
    (ho : o.op = .call { callee := .builtin .append, args := #[s, x], argTypes := #[t, t] }) (v vx v' : Value) (w' : World) (hs : a.eval s = v) (hx : a.eval x = vx) (hr : (Builtin.append_ #[t, t] o.type #[v, vx]).run P w = .ok v' w')
    (h : wpList P ops Q rest (a.put o.dst v') w') : wpList P ops Q (o :: rest) a w := by
  refine wpList_plain hgd fun K hK => ?_
  unfold Oper.wp execOp
  simp only [ho, resolve, invoke, builtin, Sem.run_bind, Sem.run_pure, Result.andThen_ok, List.map_toArray, List.map_cons, List.map_nil, hs, hx, hr]
  exact hK _ _ h
theorem step_append_runS {P : Program} {ops : Array Oper} {o : Oper} {a : Act} {w : World} {K : Act → World → Prop} {Q : Exit → Act → World → Prop} {E : Prop}
    (hgd : o.guard = none) (s x : Operand) (t : TypeId) (ho : o.op = Op.call { callee := Callee.builtin Builtin.append, args := #[s, x], argTypes := #[t, t] }) (v y v' : Value) (w' : World) (hs : a.eval s = v) (hx : a.eval x = y)
    (hr : (Builtin.append_ #[t, t] o.type #[v, y]).run P w = .ok v' w') (h : K (a.put o.dst v') w') :
    if Region.wanted o (yielded ops a.tmps) = true then Oper.wp P o a w K Q else E := by
  have hw : Region.wanted o (yielded ops a.tmps) = true := by simp [Region.wanted, hgd]
  rw [if_pos hw]
  unfold Oper.wp execOp
  simp only [ho, resolve, invoke, builtin, Sem.run_bind, Sem.run_pure, Result.andThen_ok, List.map_toArray, List.map_cons, List.map_nil, hs, hx, hr]
  exact h
structure CB (W : World) (P O R : Nat) (row zr : Array Value) (ce sl : Int) (stp : Nat) (mu : Int) (pv tv : Value) (ps : List Int) (ts : List (List Opx)) (wr : World) : Prop where
  bel : Below W.heap.size W wr
  box : wr.heap[P]? = some (.cells row 46 (0, 0))
  out : wr.heap[O]? = some (.cells (scR ce sl stp mu tv pv) 46 (0, 0))
  res : wr.heap[R]? = some (.cells zr 46 (0, 0))
  pr : wr.ownsRow 0 3 1 pv ps.length (iRow ps)
  tr : ∃ vs : List Value, vs.length = ts.length ∧ wr.ownsRow 0 75 1 tv ts.length vs ∧ (∀ b, tv.ownBlock = some b → W.heap.size ≤ b) ∧ ∀ (i : Nat) (l : List Opx) (v : Value), ts[i]? = some l → vs[i]? = some v → OB W wr v l
  lO : W.heap.size ≤ O
  lR : W.heap.size ≤ R
  nP : P ≠ O
  nR : R ≠ O
theorem CB.on {W : World} {P O R : Nat} {row zr : Array Value} {ce sl : Int} {stp : Nat} {mu : Int} {pv tv : Value} {ps : List Int} {ts : List (List Opx)} {wr X : World} (h : CB W P O R row zr ce sl stp mu pv tv ps ts wr) (hb : Below wr.heap.size wr X) : CB W P O R row zr ce sl stp mu pv tv ps ts X := by
  obtain ⟨vs, v1, v2, v3, v4⟩ := h.tr
  exact ⟨below_chain h.bel hb, heap_below h.box hb, heap_below h.out hb, heap_below h.res hb, row_kept h.pr (fun k hk => hb.block k (row_lt h.pr k hk)), ⟨vs, v1, row_kept v2 (fun k hk => hb.block k (row_lt v2 k hk)), v3, fun i l v a b => (v4 i l v a b).kept (Kp.bel hb)⟩, h.lO, h.lR, h.nP, h.nR⟩
theorem OB.base {Z Z' wr : World} {v : Value} {l : List Opx} (h : OB Z wr v l) (hz : Z'.heap.size ≤ Z.heap.size) : OB Z' wr v l := by
  obtain ⟨ks, h1, h2, h3, h4⟩ := h
  exact ⟨ks, h1, h2, fun b hb => Nat.le_trans hz (h3 b hb), fun i o kv a b => ⟨(h4 i o kv a b).1, fun c hc => Nat.le_trans hz ((h4 i o kv a b).2 c hc)⟩⟩
theorem CB.more {W : World} {P O R : Nat} {row zr : Array Value} {ce sl : Int} {stp : Nat} {mu : Int} {pv tv tv' v : Value} {ps : List Int} {ts : List (List Opx)} {l : List Opx} {wr w2 : World} {ob : Obj} (h : CB W P O R row zr ce sl stp mu pv tv ps ts wr) (hl : OB W wr v l) {vs : List Value} (v1 : vs.length = ts.length) (v2 : wr.ownsRow 0 75 1 tv ts.length vs) (v3 : ∀ b, tv.ownBlock = some b → W.heap.size ≤ b) (v4 : ∀ (i : Nat) (l : List Opx) (v : Value), ts[i]? = some l → vs[i]? = some v → OB W wr v l)
    (hr : w2.ownsRow 0 75 1 tv' (ts.length + 1) (vs ++ [v])) (hg : (wr.alloc ob).grownBy w2 tv.ownBlock) (hw : tv'.ownBlock = tv.ownBlock ∨ tv'.ownBlock = some (wr.alloc ob).heap.size) : CB W P O R row zr ce sl stp mu pv tv' ps (ts ++ [l]) (w2.setCell ⟨O, 4, none⟩ tv') ∧ w2.cell? ⟨O, 4, none⟩ = some tv ∧ w2.frozen? ⟨O, 4, none⟩ = false := by
  have hs := h.bel.size
  have keepB : ∀ (b : Nat) (cur : Array Value) (t : TypeId), wr.heap[b]? = some (.cells cur t (0, 0)) → t ≠ 75 → w2.heap[b]? = some (.cells cur t (0, 0)) := fun b cur t hb ht => by
    have hlt := (Array.getElem?_eq_some_iff.1 hb).1
    have ha : (wr.alloc ob).heap[b]? = wr.heap[b]? := Below.heap_alloc _ _ _ hlt
    rw [hg.block b (by simp; omega) (fun e => by
      obtain ⟨cur2, hcur2⟩ := row_block v2 b e.symm
      rw [hb] at hcur2
      injection hcur2 with hcur2
      injection hcur2 with _ h9
      exact ht h9), ha]
    exact hb
  have hO2 := keepB O _ _ h.out (by decide)
  have kp2 : Kp wr w2 := fun b cur t hb ht => (keepB b cur t hb (by rcases ht with rfl | rfl <;> decide)).trans hb.symm
  have kpS : ∀ (b : Nat) (cur : Array Value) (t : TypeId), w2.heap[b]? = some (.cells cur t (0, 0)) → t ≠ 46 → (w2.setCell ⟨O, 4, none⟩ tv').heap[b]? = w2.heap[b]? := fun b cur t hb ht => Below.heap_setCell _ _ _ _ (fun e => by
    have e2 : b = O := e
    rw [e2, hO2] at hb
    injection hb with hb
    injection hb with _ h9
    exact ht h9.symm)
  have kp3 : Kp w2 (w2.setCell ⟨O, 4, none⟩ tv') := fun b cur t hb ht => kpS b cur t hb (by rcases ht with rfl | rfl <;> decide)
  refine ⟨⟨?_, other_of (keepB P _ _ h.box (by decide)) h.nP _, set_of hO2 4 tv', other_of (keepB R _ _ h.res (by decide)) h.nR _, ?_, ⟨vs ++ [v], by simp [v1], ?_, ?_, ?_⟩, h.lO, h.lR, h.nP, h.nR⟩, cell_of hO2 4, free_of hO2 4⟩
  · exact ((h.bel.alloc hs ob).grown hg (by simp; omega) (fun b e => v3 b e)).setCell h.lO _
  · have p2 : w2.ownsRow 0 3 1 pv ps.length (iRow ps) := row_kept h.pr fun k hk => by
      obtain ⟨cur, hcur⟩ := row_block h.pr k hk
      exact (keepB k cur _ hcur (by decide)).trans hcur.symm
    exact row_kept p2 fun k hk => by
      obtain ⟨cur, hcur⟩ := row_block p2 k hk
      exact kpS k cur _ hcur (by decide)
  · rw [List.length_append]
    exact row_kept hr fun k hk => by
      obtain ⟨cur, hcur⟩ := row_block hr k hk
      exact kpS k cur _ hcur (by decide)
  · intro b hb
    rcases hw with e | e
    · rw [e] at hb; exact v3 b hb
    · rw [e] at hb
      simp at hb
      omega
  · intro i l' v' hi hv'
    by_cases hlt : i < ts.length
    · rw [List.getElem?_append_left hlt] at hi
      rw [List.getElem?_append_left (by omega)] at hv'
      exact ((v4 i l' v' hi hv').kept kp2).kept kp3
    · have hi2 : i = ts.length := by
        have := (List.getElem?_eq_some_iff.1 hi).1
        simp at this
        omega
      subst hi2
      rw [← v1] at hv'
      simp at hi hv'
      subst hi hv'
      exact (hl.kept kp2).kept kp3
/-- what the copy reads as -/
theorem CB.reads {W : World} {P O R : Nat} {row zr : Array Value} {ce sl : Int} {stp : Nat} {mu : Int} {pv tv : Value} {ps : List Int} {ts : List (List Opx)} {wr : World} (h : CB W P O R row zr ce sl stp mu pv tv ps ts wr) : ∃ tp tc pp pc, tv = .slice tp ts.length tc ∧ pv = .slice pp ps.length pc ∧ TRd wr tp ts ∧ IRd wr pp ps ∧ ps.length ≤ pc := by
  obtain ⟨vs, v1, v2, v3, v4⟩ := h.tr
  have a : ∃ tp tc, tv = .slice tp ts.length tc ∧ TRd wr tp ts := by
    have v2' := v2
    rcases v2.2 with ⟨hv, h0⟩ | ⟨g, cap, cur, hv, _⟩
    · exact ⟨none, 0, by rw [hv, h0], .inl (List.eq_nil_of_length_eq_zero h0)⟩
    · refine ⟨_, cap, hv, .inr ⟨g, 0, rfl, row_lt v2 g (by rw [hv]; rfl), fun i l hl => ?_⟩⟩
      have hi := (List.getElem?_eq_some_iff.1 hl).1
      obtain ⟨v, hvv⟩ : ∃ v, vs[i]? = some v := ⟨_, List.getElem?_eq_getElem (by omega)⟩
      obtain ⟨lp, lc, rfl, hO⟩ := (v4 i l v hl hvv).ord
      rw [hv] at v2'
      refine ⟨lp, lc, hO, ?_⟩
      rw [Nat.zero_add, World.ownsRow.cellAt v2' i (by omega)]
      exact hvv
  obtain ⟨tp, tc, e1, h1⟩ := a
  have h2' := h.pr
  rcases h.pr.2 with ⟨hv, h0⟩ | ⟨g, cap, cur, hv, x0, x1, x2, x3, x4, x5⟩
  · exact ⟨tp, tc, none, 0, e1, by rw [hv, h0], h1, .inl (List.eq_nil_of_length_eq_zero h0), by omega⟩
  · refine ⟨tp, tc, _, cap, e1, hv, h1, .inr ⟨g, 0, rfl, row_lt h.pr g (by rw [hv]; rfl), fun i x hx => ?_⟩, by first | exact x2 | exact x3 | exact x4 | omega⟩
    have hi := (List.getElem?_eq_some_iff.1 hx).1
    rw [hv] at h2'
    rw [Nat.zero_add, World.ownsRow.cellAt h2' i (by omega)]
    simp [iRow, hx]
end Go.Proofs.YtmmaniolaljjlaaGreatDoor
/- The bank of a plain memory: its trace is told, in memory of its own. -/
namespace Go.Proofs.YtmmaniolaljjlaaGreatDoor
open Go.RowKit Go.Shelf

theorem accRow_set (l : List Acc) (j : Nat) (x : Acc) (hj : l[j]? = some x) (v : Value) : (accRow l).set (j * 8 + 5) v = accRow (l.set j { x with vs := v }) := by
  induction l generalizing j with
  | nil => simp at hj
  | cons y r ih =>
    have hy : y.cells.length = 8 := rfl
    cases j with
    | zero =>
      simp at hj
      subst hj
      rfl
    | succ j =>
      have e := ih j (by simpa using hj)
      simp only [accRow, List.flatMap_cons, List.set_cons_succ] at e ⊢
      rw [List.set_append_right _ _ (by rw [hy]; omega), hy, show (j + 1) * 8 + 5 - 8 = j * 8 + 5 by omega, e]
structure Traced (W W' : World) (v : Value) (l lk : List Acc) (k : Nat) : Prop where
  row : W'.ownsRow 0 208 8 v l.length (accRow lk)
  len : lk.length = l.length
  same : ∀ (j : Nat) (x : Acc), l[j]? = some x → ∃ vs, lk[j]? = some { x with vs := vs }
  rest : ∀ j, k ≤ j → lk[j]? = l[j]?
  vals : ∀ j y, j < k → lk[j]? = some y → W'.ownsRow 0 23 1 y.vs y.vals.length (y.vals.map u64V)
  fresh : ∀ j y b, j < k → lk[j]? = some y → y.vs.ownBlock = some b → W.heap.size ≤ b
  apart : ∀ i j x y b, i < j → j < k → lk[i]? = some x → lk[j]? = some y → x.vs.ownBlock = some b → y.vs.ownBlock ≠ some b
  own : ∀ b, v.ownBlock = some b → W.heap.size ≤ b
  chg : Chg (fun _ => False) W W'

theorem Traced.step {W W1 W2 : World} {g c : Nat} {l lk : List Acc} {k : Nat} {x : Acc} {vs : Value} (h : Traced W W1 (.slice (some ⟨g, 0, none⟩) l.length c) l lk k) (hx : lk[k]? = some x)
    (hr : W2.ownsRow 0 23 1 vs x.vals.length (x.vals.map u64V)) (hg : W1.grownBy W2 none) (hv : vs.ownBlock = none ∨ vs.ownBlock = some W1.heap.size) :
    Traced W (W2.setCell ⟨g, k * 8 + 5, none⟩ vs) (.slice (some ⟨g, 0, none⟩) l.length c) l (lk.set k { x with vs := vs }) (k + 1) := by
  have hk : k < lk.length := (List.getElem?_eq_some_iff.1 hx).1
  have hgl := row_lt h.row g rfl
  have hgf := h.own g rfl
  have ob : ∀ b, b ≠ g → (W2.setCell ⟨g, k * 8 + 5, none⟩ vs).heap[b]? = W2.heap[b]? := fun b hb => Below.heap_setCell _ _ _ _ hb
  have r2 : W2.ownsRow 0 208 8 (.slice (some ⟨g, 0, none⟩) l.length c) l.length (accRow lk) := row_kept h.row fun b e => hg.block b (row_lt h.row b e) (by simp)
  have old : ∀ j y b, j < k → lk[j]? = some y → y.vs.ownBlock = some b → b < W1.heap.size := fun j y b hj hy e => row_lt (h.vals j y hj hy) b e
  refine ⟨?_, by simpa using h.len, ?_, ?_, ?_, ?_, ?_, h.own, ?_⟩
  · have e := (World.ownsRow.stored r2 (k * 8 + 5) vs).1
    rw [accRow_set lk k x hx vs] at e
    exact e
  · intro j y hy
    obtain ⟨v, hv⟩ := h.same j y hy
    by_cases e : j = k
    · subst e
      rw [hx] at hv
      simp at hv
      subst hv
      exact ⟨vs, by simp [hk]⟩
    · exact ⟨v, by rw [List.getElem?_set_ne (Ne.symm e)]; exact hv⟩
  · intro j hj
    rw [List.getElem?_set_ne (by omega)]
    exact h.rest j (by omega)
  · intro j y hj hy
    by_cases e : j = k
    · subst e
      simp [hk] at hy
      subst hy
      exact row_kept hr fun b eb => ob b (fun e2 => by
        obtain ⟨cu, hcu⟩ := row_block hr b eb
        exact block_apart r2 hcu (by decide) (by rw [e2]; rfl))
    · rw [List.getElem?_set_ne (Ne.symm e)] at hy
      have r := h.vals j y (by omega) hy
      exact row_kept r fun b eb => (ob b (fun e2 => rows_apart r h.row (by decide) b eb (by rw [e2]; rfl))).trans (hg.block b (row_lt r b eb) (by simp))
  · intro j y b hj hy eb
    by_cases e : j = k
    · subst e
      simp [hk] at hy
      subst hy
      have eb' : vs.ownBlock = some b := eb
      rcases hv with hv | hv
      · rw [hv] at eb'
        simp at eb'
      · rw [hv] at eb'
        simp at eb'
        have := h.chg.size
        omega
    · rw [List.getElem?_set_ne (Ne.symm e)] at hy
      exact h.fresh j y b (by omega) hy eb
  · intro i j y z b hij hj hy hz eb e2
    rw [List.getElem?_set_ne (by omega)] at hy
    have hb := old i y b (by omega) hy eb
    by_cases e : j = k
    · subst e
      simp [hk] at hz
      subst hz
      have e2' : vs.ownBlock = some b := e2
      rcases hv with hv | hv
      · rw [hv] at e2'
        simp at e2'
      · rw [hv] at e2'
        simp at e2'
        omega
    · rw [List.getElem?_set_ne (Ne.symm e)] at hz
      exact h.apart i j y z b hij (by omega) hy hz eb e2
  · exact (h.chg.grown hg (fun _ e => by simp at e)).setCell (p := ⟨g, k * 8 + 5, none⟩) (fun hx => absurd hx (Nat.not_lt.2 hgf)) vs

end Go.Proofs.YtmmaniolaljjlaaGreatDoor
/- A memory and its views, over a plain bank. -/
namespace Go.Proofs.YtmmaniolaljjlaaGreatDoor
open Go.RowKit Go.Shelf

def IsMem (W : World) (m b : Nat) : Prop := W.heap[m]? = some (.cells #[.iface 199 (.pointer (some ⟨b, 0, none⟩)), .bool false] 198 (0, 0))
def IsView (W : World) (v b : Nat) (th : Int) (made : Nat) : Prop := W.heap[v]? = some (.cells #[.iface 199 (.pointer (some ⟨b, 0, none⟩)), .int .i64 th, .int .i64 (made : Int)] 202 (0, 0))
theorem IsMem.chg {W W' : World} {F : Nat → Prop} {m b : Nat} (h : IsMem W m b) (hc : Chg F W W') (hn : ¬ F m) : IsMem W' m b := (hc.block m (lt_of h) hn).trans h
theorem IsView.chg {W W' : World} {F : Nat → Prop} {v b : Nat} {th : Int} {made : Nat} (h : IsView W v b th made) (hc : Chg F W W') (hn : ¬ F v) : IsView W' v b th made := (hc.block v (lt_of h) hn).trans h
theorem IsMem.lt {W : World} {m b : Nat} (h : IsMem W m b) : m < W.heap.size := lt_of h
theorem IsView.lt {W : World} {v b : Nat} {th : Int} {made : Nat} (h : IsView W v b th made) : v < W.heap.size := lt_of h

theorem mt_alloc (a : Addr) (w : World) : (method 378 199 (.pointer (some a)) "shutter/arena.alloc").run Tryz.prog w = .ok (192, .pointer (some a)) w := by kernel_rfl
theorem mt_note (a : Addr) (w : World) : (method 378 199 (.pointer (some a)) "shutter/arena.note").run Tryz.prog w = .ok (198, .pointer (some a)) w := by kernel_rfl
set_option maxRecDepth 100000 in
theorem m_view (m b : Nat) (th : Int) (W : World) (hm : IsMem W m b) : Calls Tryz.prog 108 #[.pointer (some ⟨m, 0, none⟩), .int .i64 th] W fun e W' => e = .returned (.pointer (some ⟨W.heap.size, 0, none⟩)) ∧ W' = W.alloc (.cells #[.iface 199 (.pointer (some ⟨b, 0, none⟩)), .int .i64 th, .int .i64 0] 202) := by
  have c0 : W.cell? ⟨m, 0, none⟩ = some (.iface 199 (.pointer (some ⟨b, 0, none⟩))) := cell_of hm 0
  clear hm
  go_enter Tryz.func108, Tryz.ntmps108
  go_wp2_with fail
  go_ret
  exact ⟨by simp, rfl⟩

end Go.Proofs.YtmmaniolaljjlaaGreatDoor
/- A view counts an access, and writes it down. -/
namespace Go.Proofs.YtmmaniolaljjlaaGreatDoor
open Go.RowKit Go.Shelf

theorem Reads.chg {W W' : World} {F : Nat → Prop} {p : Option Addr} {vals : List Nat} (h : Reads W p vals) (hc : Chg F W W') (hne : ∀ ad, p = some ad → vals ≠ [] → ¬ F ad.block) : Reads W' p vals := by
  rcases h with h | ⟨ad, rfl, h⟩
  · exact .inl h
  · exact .inr ⟨ad, rfl, fun j u hj => cell_chg hc (h j u hj) (by rw [add_block]; exact hne ad rfl (fun e => by rw [e] at hj; simp at hj))⟩

/-- A view's own block may change too. -/
structure GoesV (W W' : World) (F F' : Nat → Prop) (v : Nat) : Prop where
  chg : Chg (fun k => F k ∨ k = v) W W'
  new : ∀ k, F' k → F k ∨ W.heap.size ≤ k

set_option maxRecDepth 100000 in
theorem v_count (v b most next made : Nat) (th th0 : Int) (kind addr x y got : Nat) (ok : Bool) (p : Option Addr) (c : Nat) (vals : List Nat) (F : Nat → Prop) (cs : List Nat) (l : List Acc) (W : World) (hw : IsView W v b th made) (h : Bank W F b most next cs l) (hnv : ¬ F v) (hmd : made < 1099511627776)
    (hr : Reads W p vals) (hpv : ∀ ad, p = some ad → vals ≠ [] → ad.block ≠ v) (hv : vals.length ≤ 17592186043904) (hl : l.length < 1099511627776) :
    Calls Tryz.prog 152 #[.pointer (some ⟨v, 0, none⟩), accV th0 kind addr x y (.slice p vals.length c) got ok] W fun e W' => e = .returned (.tuple #[]) ∧ ∃ F' vs, Bank W' F' b most next cs (l ++ [⟨th, kind, addr, x, y, vs, vals, got, ok⟩]) ∧ IsView W' v b th (made + 1) ∧ GoesV W W' F F' v := by
  have c0 : W.cell? ⟨v, 0, none⟩ = some (.iface 199 (.pointer (some ⟨b, 0, none⟩))) := cell_of hw 0
  have c1 : W.cell? ⟨v, 1, none⟩ = some (.int .i64 th) := cell_of hw 1
  have c2 : W.cell? ⟨v, 2, none⟩ = some (.int .i64 (made : Int)) := cell_of hw 2
  have f2 := free_of hw 2
  have q := mt_note ⟨b, 0, none⟩
  obtain ⟨md, hmd'⟩ : ∃ md, md = made + 1 := ⟨_, rfl⟩
  have wn : IntKind.i64.wrap ((made : Int) + 1) = (md : Int) := by rw [IntKind.wrap_i64]; omega
  have HMD := keepH hmd'
  clear hmd'
  have HW := keepH hw
  have H := keepH h
  have HR := keepH hr
  have hlt := lt_of hw
  have ne1 : ¬ v = W.heap.size := by omega
  have ne2 : ¬ W.heap.size = v := by omega
  have hv1 : Hid ((W.setCell ⟨v, 2, none⟩ (.int .i64 (md : Int))).heap[v]? = some (.cells #[.iface 199 (.pointer (some ⟨b, 0, none⟩)), .int .i64 th, .int .i64 (md : Int)] 202 (0, 0))) := set_of hw 2 _
  have ka : ∀ o, ((W.setCell ⟨v, 2, none⟩ (.int .i64 (md : Int))).alloc o).cell? ⟨v, 0, none⟩ = some (.iface 199 (.pointer (some ⟨b, 0, none⟩))) := fun o => cell_of (alloc_of hv1.out o) 0
  have HX : Hid (∀ o, Chg (fun k => F k ∨ k = v) W ((W.setCell ⟨v, 2, none⟩ (.int .i64 (md : Int))).alloc o).drew) := fun o => (((Chg.refl _ W).setCell (p := ⟨v, 2, none⟩) (fun _ => .inr rfl) _).alloc o).drew
  have HY : Hid (∀ o, Chg (fun k => k = v) W ((W.setCell ⟨v, 2, none⟩ (.int .i64 (md : Int))).alloc o).drew) := fun o => (((Chg.refl (fun k => k = v) W).setCell (p := ⟨v, 2, none⟩) (fun _ => rfl) _).alloc o).drew
  unfold accV
  clear h hw hr
  go_enter Tryz.func152, Tryz.ntmps152
  go_wp2_with fail
  go_region_with (go_at_call 198; refine (p_note b most next th kind addr x y got ok p c vals F cs l _ (H.out.chg (HY.out _) (fun k hk e => hnv (by rw [← e]; exact hk))) (HR.out.chg (HY.out _) hpv) hv hl).mono ?_; rintro e w2 ⟨rfl, F1, vs, B1, G1⟩; have HB1 := keepH B1; clear B1)
  all_goals (go_wp2_with fail)
  all_goals go_end0
  all_goals
    refine ⟨rfl, F1, vs, HB1.out, ?_, ?_, ?_⟩
    · have e := HMD.out
      subst e
      exact (G1.chg.block v (by simp; omega) hnv).trans (alloc_of hv1.out _)
    · exact (HX.out _).trans G1.chg (fun _ _ h => h) (fun _ _ h => .inl h)
    · intro k hk
      rcases G1.new k hk with e | e
      · exact .inl e
      · exact .inr (Nat.le_trans (HX.out _).size e)
end Go.Proofs.YtmmaniolaljjlaaGreatDoor
/- What a view's accesses do. -/
namespace Go.Proofs.YtmmaniolaljjlaaGreatDoor
open Go.RowKit Go.Shelf

theorem Goes.thenV {W W1 W2 : World} {F F1 F2 : Nat → Prop} {v : Nat} (h : Goes W W1 F F1) (k : GoesV W1 W2 F1 F2 v) : GoesV W W2 F F2 v :=
  ⟨h.chg.trans k.chg (fun _ _ x => .inl x) (fun i hi x => x.elim (fun y => .inl ((h.new i y).resolve_right (by omega))) .inr), fun i x => (k.new i x).elim (h.new i) (fun y => .inr (Nat.le_trans h.chg.size y))⟩
theorem Goes.out {W W1 : World} {F F1 : Nat → Prop} {v : Nat} (h : Goes W W1 F F1) (hv : v < W.heap.size) (hn : ¬ F v) : ¬ F1 v := fun x => (h.new v x).elim hn (fun y => by omega)
theorem GoesV.trans {W W1 W2 : World} {F F1 F2 : Nat → Prop} {v : Nat} (h : GoesV W W1 F F1 v) (k : GoesV W1 W2 F1 F2 v) : GoesV W W2 F F2 v :=
  ⟨h.chg.trans k.chg (fun _ _ x => x) (fun i hi x => x.elim (fun y => .inl ((h.new i y).resolve_right (by omega))) .inr), fun i x => (k.new i x).elim (h.new i) (fun y => .inr (Nat.le_trans h.chg.size y))⟩
theorem GoesV.out {W W1 : World} {F F1 : Nat → Prop} {v u : Nat} (h : GoesV W W1 F F1 u) (hv : v < W.heap.size) (hn : ¬ F v) : ¬ F1 v := fun x => (h.new v x).elim hn (fun y => by omega)

set_option maxRecDepth 100000 in
theorem v_alloc (v b most next made : Nat) (th : Int) (p : Option Addr) (c : Nat) (vals : List Nat) (F : Nat → Prop) (cs : List Nat) (l : List Acc) (W : World) (hw : IsView W v b th made) (h : Bank W F b most next cs l) (hnv : ¬ F v) (hmd : made < 1099511627776) (hl : l.length < 1099511627776)
    (hr : Reads W p vals) (hap : ∀ ad, p = some ad → vals ≠ [] → ¬ F ad.block) (hpv : ∀ ad, p = some ad → vals ≠ [] → ad.block ≠ v) (hv : ∀ x ∈ vals, x < 18446744073709551616) (hvl : vals.length ≤ 17592186043904) :
    Calls Tryz.prog 130 #[.pointer (some ⟨v, 0, none⟩), .slice p vals.length c] W fun e W' => e = .returned (.int .u64 (alAt most next vals.length : Int)) ∧ ∃ F' vs, Bank W' F' b most (alNext most next vals.length) (alN most next cs vals) (l ++ [⟨th, 5, alAt most next vals.length, 0, 0, vs, vals, 0, false⟩]) ∧ IsView W' v b th (made + 1) ∧ GoesV W W' F F' v := by
  have c0 : W.cell? ⟨v, 0, none⟩ = some (.iface 199 (.pointer (some ⟨b, 0, none⟩))) := cell_of hw 0
  have q := mt_alloc ⟨b, 0, none⟩
  have HW := keepH hw
  have H := keepH h
  have HR := keepH hr
  clear h hw hr
  go_enter Tryz.func130, Tryz.ntmps130
  go_wp2_with fail
  refine (p_alloc b most next p c vals F cs l _ H.out HR.out hap hv).mono ?_
  rintro e w1 ⟨rfl, F1, B1, G1⟩
  have HB1 := keepH B1
  have hV1 : Hid (IsView w1 v b th made) := HW.out.chg G1.chg hnv
  have hN1 : ¬ F1 v := G1.out HW.out.lt hnv
  have HR1 : Hid (Reads w1 p vals) := HR.out.chg G1.chg hap
  clear B1
  go_wp2_with fail
  refine (v_count v b most (alNext most next vals.length) made th 0 5 (alAt most next vals.length) 0 0 0 false p c vals F1 (alN most next cs vals) l _ hV1.out HB1.out hN1 hmd HR1.out hpv hvl hl).mono ?_
  rintro e w2 ⟨rfl, F2, vs, B2, V2, G2⟩
  have HB2 := keepH B2
  have HV2 := keepH V2
  clear B2 V2
  go_wp2_with fail
  go_ret
  exact ⟨by simp, F2, vs, HB2.out, HV2.out, G1.thenV G2⟩

/-- A new plain memory. -/
theorem bank_new (W : World) (n : Nat) (hn : 128 ≤ n ∧ n ≤ 4194304) : Bank (W.alloc (.cells #[.slice none 0 0, .int .i64 (n : Int), .int .i64 1, .slice none 0 0] 238)) (fun k => k = W.heap.size) W.heap.size n 1 [] [] :=
  ⟨.slice none 0 0, .slice none 0 0, heap_alloc_new _ _, World.ownsRow_nil _ _ _ _, World.ownsRow_nil _ _ _ _, fun x hx => by simp at hx, fun x hx => by simp at hx, rfl, fun k e => by simp [Value.ownBlock] at e, fun k e => by simp [Value.ownBlock] at e, fun x hx => by simp at hx, fun k e => by simp [e], by omega, by omega, by simp, fun x hx => by simp at hx⟩

set_option maxRecDepth 100000 in
theorem new_plain (n : Nat) (W : World) :
    Calls Tryz.prog 129 #[.int .i64 (n : Int)] W fun e W' => e = .returned (.pointer (some ⟨W.heap.size, 0, none⟩)) ∧ W' = W.alloc (.cells #[.slice none 0 0, .int .i64 (n : Int), .int .i64 1, .slice none 0 0] 238) := by
  go_enter Tryz.func129, Tryz.ntmps129
  go_wp2_with fail
  go_ret
  exact ⟨by simp, rfl⟩

set_option maxRecDepth 100000 in
theorem m_new (n : Nat) (W : World) (hn : 128 ≤ n ∧ n ≤ 4194304) :
    Calls Tryz.prog 107 #[.int .i64 (n : Int), .bool false] W fun e W' => e = .returned (.tuple #[.pointer (some ⟨W.heap.size + 1, 0, none⟩), .int .i64 0]) ∧ IsMem W' (W.heap.size + 1) W.heap.size ∧ Bank W' (fun k => k = W.heap.size) W.heap.size n 1 [] [] ∧ Chg (fun _ => False) W W' ∧ W'.heap.size = W.heap.size + 2 := by
  have t1 : ¬ (n : Int) < 128 := by omega
  have t2 : ¬ (4194304 : Int) < (n : Int) := by omega
  go_enter Tryz.func107, Tryz.ntmps107
  go_wp2_with fail
  refine (new_plain n _).mono ?_
  rintro e w' ⟨rfl, rfl⟩
  go_wp2_with fail
  go_ret2
  refine ⟨by simp, ?_, ?_, ((Chg.refl _ W).alloc _).alloc _, by simp⟩
  · have e := heap_alloc_new (W.alloc (.cells #[.slice none 0 0, .int .i64 (n : Int), .int .i64 1, .slice none 0 0] 238)) (.cells #[.iface 199 (.pointer (some ⟨W.heap.size, 0, none⟩)), .bool false] 198)
    rw [World.size_alloc] at e
    exact e
  · exact (bank_new W n hn).chg ((Chg.refl (fun _ => False) _).alloc _) (fun _ _ h => h)
end Go.Proofs.YtmmaniolaljjlaaGreatDoor
/- The document's memory (shutterref03), plain: what it holds, and what its accesses do. -/
namespace Go.Proofs.YtmmaniolaljjlaaGreatDoor
open Go.RowKit Go.Shelf

def Own (os cs : List Nat) (n : Nat) : Prop := os.length = n ∧ (∀ i, i < n → cellN os i = cellN cs i) ∧ ∀ i, n ≤ i → cellN cs i = 0
def IsOwn (W : World) (g : Nat) (os : List Nat) : Prop := W.heap[g]? = some (.cells (os.map u64V).toArray 23 (0, 0))
theorem IsOwn.set {W : World} {g : Nat} {os : List Nat} (h : IsOwn W g os) (i v : Nat) : IsOwn (W.setCell ⟨g, i, none⟩ (.int .u64 (v : Int))) g (os.set i v) := by
  have e := set_of h i (.int .u64 (v : Int))
  rw [IsOwn, e, List.map_set]
  simp [u64V]
theorem IsOwn.cell {W : World} {g : Nat} {os : List Nat} (h : IsOwn W g os) (i : Nat) (hi : i < os.length) : W.cell? ⟨g, i, none⟩ = some (.int .u64 (cellN os i : Int)) := by
  rw [cell_of h i]
  simp [cellN, u64V, List.getElem?_eq_getElem hi]
theorem cellN_set (os : List Nat) (i v j : Nat) (hi : i < os.length) : cellN (os.set i v) j = if j = i then v else cellN os j := by
  simp only [cellN, List.getD_eq_getElem?_getD, List.getElem?_set]
  by_cases e : i = j
  · subst e
    simp [hi]
  · rw [if_neg e, if_neg (fun x => e x.symm)]
theorem Own.set {os cs : List Nat} {n i v : Nat} (h : Own os cs n) (hi : i < n) : Own (os.set i v) (stN n cs i v) n := by
  refine ⟨by simp [h.1], fun j hj => ?_, fun j hj => ?_⟩
  · rw [cellN_set _ _ _ _ (by rw [h.1]; exact hi), stN_cell]
    simp [hi, h.2.1 j hj]
  · rw [stN_cell, if_neg (by omega)]
    exact h.2.2 j hj
def rmCells (nc n next : Nat) (av : Value) : Array Value := #[.slice (some ⟨nc, 0, none⟩) n n, .int .i64 (next : Int), av, .bool false]
structure RMemAt (W : World) (R : Nat → Prop) (nm nc : Nat) (av : Value) (n next : Nat) (os cs : List Nat) (l : List Acc) : Prop where
  blk : W.heap[nm]? = some (.cells (rmCells nc n next av) 176 (0, 0))
  own : IsOwn W nc os
  os : Own os cs n
  acc : W.ownsRow 0 208 8 av l.length (accRow l)
  vals : ∀ x ∈ l, W.ownsRow 0 23 1 x.vs x.vals.length (x.vals.map u64V)
  inn : R nm
  inc : R nc
  ina : ∀ k, av.ownBlock = some k → R k
  inv : ∀ x ∈ l, ∀ k, x.vs.ownBlock = some k → R k
  ne : ∀ x ∈ l, x.vs.ownBlock ≠ some nc
  lt : ∀ k, R k → k < W.heap.size
  nn : 128 ≤ n ∧ n ≤ 4194304
  small : ∀ i, cellN cs i < 18446744073709551616
def RMem (W : World) (R : Nat → Prop) (nm n next : Nat) (cs : List Nat) (l : List Acc) : Prop := ∃ nc av os, RMemAt W R nm nc av n next os cs l
theorem RMemAt.kept {W W' : World} {R : Nat → Prop} {nm nc n next : Nat} {av : Value} {os cs : List Nat} {l : List Acc} (h : RMemAt W R nm nc av n next os cs l) (hs : W.heap.size ≤ W'.heap.size) (hk : ∀ k, R k → W'.heap[k]? = W.heap[k]?) : RMemAt W' R nm nc av n next os cs l :=
  ⟨(hk nm h.inn).trans h.blk, (hk nc h.inc).trans h.own, h.os, row_kept h.acc fun k e => hk k (h.ina k e), fun x hx => row_kept (h.vals x hx) fun k e => hk k (h.inv x hx k e), h.inn, h.inc, h.ina, h.inv, h.ne, fun k e => Nat.lt_of_lt_of_le (h.lt k e) hs, h.nn, h.small⟩
theorem RMem.chg {W W' : World} {R G : Nat → Prop} {nm n next : Nat} {cs : List Nat} {l : List Acc} (h : RMem W R nm n next cs l) (hc : Chg G W W') (hd : ∀ k, R k → ¬ G k) : RMem W' R nm n next cs l := by
  obtain ⟨nc, av, os, h⟩ := h
  exact ⟨nc, av, os, h.kept hc.size fun k e => hc.block k (h.lt k e) (hd k e)⟩
theorem RMem.lt {W : World} {R : Nat → Prop} {nm n next : Nat} {cs : List Nat} {l : List Acc} (h : RMem W R nm n next cs l) (k : Nat) (hk : R k) : k < W.heap.size := by
  obtain ⟨nc, av, os, h⟩ := h
  exact h.lt k hk
theorem RMem.inn {W : World} {R : Nat → Prop} {nm n next : Nat} {cs : List Nat} {l : List Acc} (h : RMem W R nm n next cs l) : R nm := by
  obtain ⟨nc, av, os, h⟩ := h
  exact h.inn
theorem Bank.lt {W : World} {F : Nat → Prop} {b most next : Nat} {cs : List Nat} {l : List Acc} (h : Bank W F b most next cs l) (k : Nat) (hk : F k) : k < W.heap.size := by
  obtain ⟨cv, av, h⟩ := h
  exact h.lt k hk

end Go.Proofs.YtmmaniolaljjlaaGreatDoor
/- The document's memory: Peek, Load, Store, Cas, New. -/
namespace Go.Proofs.YtmmaniolaljjlaaGreatDoor
open Go.RowKit Go.Shelf
set_option linter.unusedVariables false

theorem RMemAt.put {W : World} {R : Nat → Prop} {nm nc n next : Nat} {av : Value} {os cs : List Nat} {l : List Acc} (h : RMemAt W R nm nc av n next os cs l) (i v : Nat) (hi : i < n) (hv : v < 18446744073709551616) : RMemAt (W.setCell ⟨nc, i, none⟩ (.int .u64 (v : Int))) R nm nc av n next (os.set i v) (stN n cs i v) l ∧ Goes W (W.setCell ⟨nc, i, none⟩ (.int .u64 (v : Int))) R R := by
  have ne : nm ≠ nc := fun e => by
    have e1 := h.own
    rw [IsOwn, ← e, h.blk] at e1
    simp at e1
  refine ⟨⟨other_of h.blk ne _, h.own.set i v, h.os.set hi, row_kept h.acc fun k e => Below.heap_setCell _ _ _ _ (fun e2 => block_apart h.acc h.own (by decide) (by rw [e, e2])), fun x hx => row_kept (h.vals x hx) fun k e => Below.heap_setCell _ _ _ _ (fun e2 => h.ne x hx (by rw [e, e2])), h.inn, h.inc, h.ina, h.inv, h.ne, fun k e => by have := h.lt k e; simpa [World.setCell] using this, h.nn, fun j => ?_⟩, ⟨(Chg.refl R W).setCell (p := ⟨nc, i, none⟩) (fun _ => h.inc) _, fun k e => .inl e⟩⟩
  rw [stN_cell]
  split
  · exact hv
  · exact h.small j

theorem RMemAt.out {W : World} {R : Nat → Prop} {nm nc n next : Nat} {av : Value} {os cs : List Nat} {l : List Acc} (h : RMemAt W R nm nc av n next os cs l) (i : Nat) (hi : n ≤ i) : cellN cs i = 0 := h.os.2.2 i hi

end Go.Proofs.YtmmaniolaljjlaaGreatDoor
/- The document's memory: an access with values is noted; Alloc, Left. -/
namespace Go.Proofs.YtmmaniolaljjlaaGreatDoor
open Go.RowKit Go.Shelf
set_option linter.unusedVariables false

theorem rnote_endV {pv : Option Addr} {cv : Nat} {vals : List Nat} {W w2 w3 : World} {R : Nat → Prop} {nm nc n next g' c3 : Nat} {av : Value} {os cs : List Nat} {l : List Acc} {th : Int} {kind addr x y got : Nat} {ok : Bool}
    (h : RMemAt W R nm nc av n next os cs l) (hvs : W.ownsRow 0 23 1 (.slice pv vals.length cv) vals.length (vals.map u64V)) (hvR : ∀ k, (.slice pv vals.length cv : Value).ownBlock = some k → ¬ R k) (hk2 : ∀ k, k < W.heap.size → w2.heap[k]? = W.heap[k]?) (hc2 : Chg R W w2) (hg : w2.grownBy w3 av.ownBlock)
    (hb3 : w3.heap[nm]? = some (.cells (rmCells nc n next av) 176 (0, 0)))
    (ho : w3.ownsRow 0 208 8 (.slice (some ⟨g', 0, none⟩) (l.length + 1) c3) (l.length + 1) (accRow l ++ [.int .i64 th, .int .u8 (kind : Int), .int .u64 (addr : Int), .int .u64 (x : Int), .int .u64 (y : Int), .slice pv vals.length cv, .int .u64 (got : Int), .bool ok]))
    (hw2 : av.ownBlock = some g' ∨ W.heap.size ≤ g') :
    ∃ R', RMem (w3.setCell ⟨nm, 2, none⟩ (.slice (some ⟨g', 0, none⟩) (l.length + 1) c3)) R' nm n next cs (l ++ [⟨th, kind, addr, x, y, .slice pv vals.length cv, vals, got, ok⟩]) ∧ Chg R W (w3.setCell ⟨nm, 2, none⟩ (.slice (some ⟨g', 0, none⟩) (l.length + 1) c3)) ∧ ∀ k, R' k → R k ∨ W.heap.size ≤ k ∨ (.slice pv vals.length cv : Value).ownBlock = some k := by
  have gb : g' ≠ nm := fun e => block_apart ho hb3 (by decide) (by rw [e]; rfl)
  have szW := hc2.size
  have sz3 := hg.size
  have hsz : (w3.setCell ⟨nm, 2, none⟩ (.slice (some ⟨g', 0, none⟩) (l.length + 1) c3)).heap.size = w3.heap.size := by simp [World.setCell]
  have k3 : ∀ k, k < W.heap.size → k ≠ nm → av.ownBlock ≠ some k → (w3.setCell ⟨nm, 2, none⟩ (.slice (some ⟨g', 0, none⟩) (l.length + 1) c3)).heap[k]? = W.heap[k]? := fun k hk h1 h2 =>
    (Below.heap_setCell _ _ _ _ h1).trans ((hg.block k (by omega) (fun e => h2 e.symm)).trans (hk2 k hk))
  refine ⟨fun k => (R k ∨ k = g') ∨ (.slice pv vals.length cv : Value).ownBlock = some k, ⟨nc, .slice (some ⟨g', 0, none⟩) (l.length + 1) c3, os, ?_, ?_, h.os, ?_, ?_, .inl (.inl h.inn), .inl (.inl h.inc), ?_, ?_, ?_, ?_, h.nn, h.small⟩, ?_, ?_⟩
  · exact set_of hb3 2 _
  · refine (k3 nc (h.lt nc h.inc) (fun e => ?_) (fun e => block_apart h.acc h.own (by decide) e)).trans h.own
    have e1 := h.own
    rw [IsOwn, e, h.blk] at e1
    simp at e1
  · have r := row_kept (W' := w3.setCell ⟨nm, 2, none⟩ (.slice (some ⟨g', 0, none⟩) (l.length + 1) c3)) ho fun k e => Below.heap_setCell _ _ _ _ (by simp [Value.ownBlock] at e; rw [← e]; exact gb)
    simpa [accRow, Acc.cells] using r
  · intro z hz
    rcases List.mem_append.1 hz with hz | hz
    · exact row_kept (h.vals z hz) fun k e => k3 k (h.lt k (h.inv z hz k e)) (fun e2 => block_apart (h.vals z hz) h.blk (by decide) (by rw [e, e2])) (fun e2 => rows_apart (h.vals z hz) h.acc (by decide) k e e2)
    · obtain rfl := List.mem_singleton.1 hz
      exact row_kept hvs fun k e => k3 k (row_lt hvs k e) (fun e2 => hvR k e (by rw [e2]; exact h.inn)) (fun e2 => hvR k e (h.ina k e2))
  · intro k e
    simp [Value.ownBlock] at e
    exact .inl (.inr e.symm)
  · intro z hz k e
    rcases List.mem_append.1 hz with hz | hz
    · exact .inl (.inl (h.inv z hz k e))
    · obtain rfl := List.mem_singleton.1 hz
      exact .inr e
  · intro z hz e
    rcases List.mem_append.1 hz with hz | hz
    · exact h.ne z hz e
    · obtain rfl := List.mem_singleton.1 hz
      exact hvR nc e h.inc
  · rw [hsz]
    rintro k ((hk | rfl) | e)
    · have := h.lt k hk
      omega
    · exact row_lt ho k rfl
    · have := row_lt hvs k e
      omega
  · exact ((hc2.grown hg (fun k e _ => h.ina k e))).setCell (fun _ => h.inn) _
  · rintro k ((hk | rfl) | e)
    · exact .inl hk
    · rcases hw2 with e | e
      · exact .inl (h.ina k e)
      · exact .inr (.inl e)
    · exact .inr (.inr e)

set_option maxRecDepth 100000 in
theorem r_noteV (pv : Option Addr) (cv : Nat) (vals : List Nat) (nm n next : Nat) (th : Int) (kind addr x y got : Nat) (ok : Bool) (R : Nat → Prop) (cs : List Nat) (l : List Acc) (W : World) (h : RMem W R nm n next cs l) (hl : l.length < 1099511627776) (hvs : W.ownsRow 0 23 1 (.slice pv vals.length cv) vals.length (vals.map u64V)) (hvR : ∀ k, (.slice pv vals.length cv : Value).ownBlock = some k → ¬ R k) :
    Calls Tryz.prog 132 #[.pointer (some ⟨nm, 0, none⟩), accV th kind addr x y (.slice pv vals.length cv) got ok] W fun e W' => e = .returned (.tuple #[]) ∧ ∃ R', RMem W' R' nm n next cs (l ++ [⟨th, kind, addr, x, y, .slice pv vals.length cv, vals, got, ok⟩]) ∧ Chg R W W' ∧ ∀ k, R' k → R k ∨ W.heap.size ≤ k ∨ (.slice pv vals.length cv : Value).ownBlock = some k := by
  obtain ⟨i0, hi, hz0, hz1, hz2⟩ := info_parts infoA
  unfold accV
  obtain ⟨nc, av, os, h⟩ := h
  have hbl := lt_of h.blk
  obtain ⟨pa, ca, rfl⟩ := slice_of h.acc
  obtain ⟨w1, hw1⟩ : ∃ w1, w1 = W.alloc (.cells #[.int .i64 th, .int .u8 (kind : Int), .int .u64 (addr : Int), .int .u64 (x : Int), .int .u64 (y : Int), .slice pv vals.length cv, .int .u64 (got : Int), .bool ok] 208) := ⟨_, rfl⟩
  have hB1 : Hid (w1.heap[W.heap.size]? = some (.cells #[.int .i64 th, .int .u8 (kind : Int), .int .u64 (addr : Int), .int .u64 (x : Int), .int .u64 (y : Int), .slice pv vals.length cv, .int .u64 (got : Int), .bool ok] 208 (0, 0))) := by rw [hw1]; exact heap_alloc_new _ _
  have hk1 : Hid (∀ k, k < W.heap.size → w1.heap[k]? = W.heap[k]?) := fun k hk => by rw [hw1]; exact Below.heap_alloc _ _ _ hk
  have hs1 : w1.heap.size = W.heap.size + 1 := by rw [hw1]; simp
  have hC1 : Hid (Chg R W w1) := by rw [hw1]; exact (Chg.refl R W).alloc _
  have hb1 : Hid (w1.heap[nm]? = some (.cells (rmCells nc n next (.slice pa l.length ca)) 176 (0, 0))) := (hk1.out nm hbl).trans h.blk
  have HA : Hid (w1.drew.ownsRow 0 208 8 (.slice pa l.length ca) l.length (accRow l)) := row_kept (W := W) h.acc fun k e => (hk1.out k (row_lt h.acc k e))
  have q0 := (cell_of hB1.out 0).trans rfl
  have q1 := (cell_of hB1.out 1).trans rfl
  have q2 := (cell_of hB1.out 2).trans rfl
  have q3 := (cell_of hB1.out 3).trans rfl
  have q4 := (cell_of hB1.out 4).trans rfl
  have q5 := (cell_of hB1.out 5).trans rfl
  have q6 := (cell_of hB1.out 6).trans rfl
  have q7 := (cell_of hB1.out 7).trans rfl
  have r2 : w1.cell? ⟨nm, 2, none⟩ = some (.slice pa l.length ca) := cell_of hb1.out 2
  have r3 : w1.cell? ⟨nm, 3, none⟩ = some (.bool false) := cell_of hb1.out 3
  have H := keepH h
  have HVS := keepH hvs
  have HVR := keepH hvR
  clear hvs hvR
  have ne1 : ¬ nm = w1.heap.size := by omega
  have qa : ∀ o, (w1.alloc o).cell? ⟨nm, 2, none⟩ = some (.slice pa l.length ca) := fun o => cell_of (alloc_of hb1.out o) 2
  have HS1 := keepH hs1
  have HW1 := keepH hw1
  clear h hs1 hw1
  go_enter Tryz.func132, Tryz.ntmps132
  go_upto_region 1 with fail
  rw [← HW1.out]
  clear HW1
  go_wp2_with fail
  go_region_law (refine step_append_own rfl (.tmp 13) (.tmp 15) 174 rfl 208 i0 (accV 0 0 0 0 0 (.slice none 0 0) 0 false) 8 80 Tryz.underlying174 hi hz0 hz1 hz2 rfl (by decide) (.slice pa l.length ca) l.length (accRow l) rfl (HA.out.alloc _) ⟨w1.heap.size, 0, none⟩ 1 1 [.int .i64 th, .int .u8 (kind : Int), .int .u64 (addr : Int), .int .u64 (x : Int), .int .u64 (y : Int), .slice pv vals.length cv, .int .u64 (got : Int), .bool ok] rfl rfl (cells_new _ _ rfl _ _) (by simp [Value.oneCell']) (by unfold maxLen; omega) (by omega) ?_; intro v' w3 hown3 hgr3 _ hwh3; obtain ⟨g', c3, rfl⟩ := slice_pos hown3 (Nat.succ_pos _); have hb3 : Hid (w3.heap[nm]? = some (.cells (rmCells nc n next (.slice pa l.length ca)) 176 (0, 0))) := (hgr3.block nm (by have := lt_of hb1.out; simp; omega) (fun e => block_apart H.out.acc H.out.blk (by decide) e.symm)).trans (alloc_of (W := w1.drew) hb1.out _); have r8 : w3.cell? ⟨nm, 2, none⟩ = some (.slice pa l.length ca) := cell_of hb3.out 2; have rf := free_of hb3.out 2; have HO := keepH hown3; have HW3 := keepH hwh3; have HG3 := keepH hgr3; clear hown3 hwh3 hgr3)
  all_goals (go_wp2_with fail)
  all_goals go_end0
  all_goals (refine ⟨rfl, rnote_endV H.out HVS.out HVR.out (fun k hk => ?_) ?_ HG3.out hb3.out HO.out ?_⟩)
  all_goals first
    | exact (Below.heap_alloc w1.drew _ _ (by have := HS1.out; show _ < w1.heap.size; omega)).trans (hk1.out k hk)
    | exact hC1.out.drew.alloc _
    | (rcases HW3.out with e2 | e2
       · exact .inl e2.symm
       · simp [Value.ownBlock] at e2; exact .inr (by have := HS1.out; omega))
set_option maxRecDepth 100000 in
theorem r_left (nm n next : Nat) (R : Nat → Prop) (cs : List Nat) (l : List Acc) (W : World) (h : RMem W R nm n next cs l) (hnx : next ≤ n) : Calls Tryz.prog 131 #[.pointer (some ⟨nm, 0, none⟩)] W fun e W' => e = .returned (.int .i64 ((n - next : Nat) : Int)) ∧ ∃ q, W' = W.drewN q := by
  obtain ⟨nc, av, os, h⟩ := h
  have c0 : W.cell? ⟨nm, 0, none⟩ = some (.slice (some ⟨nc, 0, none⟩) n n) := cell_of h.blk 0
  have c1 : W.cell? ⟨nm, 1, none⟩ = some (.int .i64 (next : Int)) := cell_of h.blk 1
  have nn := h.nn
  have kw : IntKind.i64.wrap ((n : Int) - (next : Int)) = ((n - next : Nat) : Int) := by rw [IntKind.wrap_i64]; omega
  clear h
  go_enter Tryz.func131, Tryz.ntmps131
  go_wp2_with fail
  go_quiet (fail)
  go_wp2_with fail
  all_goals first
    | exact ⟨rfl, nq, rfl⟩
    | (go_ret; exact ⟨rfl, nq, rfl⟩)
    | (go_ret; trace_state)
end Go.Proofs.YtmmaniolaljjlaaGreatDoor
/- The document's memory: Alloc. -/
namespace Go.Proofs.YtmmaniolaljjlaaGreatDoor
open Go.RowKit Go.Shelf
set_option linter.unusedVariables false

theorem RMem.drewN {W : World} {R : Nat → Prop} {nm n next : Nat} {cs : List Nat} {l : List Acc} (h : RMem W R nm n next cs l) (q : Nat) : RMem (W.drewN q) R nm n next cs l := by
  obtain ⟨nc, av, os, h⟩ := h
  exact ⟨nc, av, os, h.kept (Nat.le_refl _) (fun _ _ => rfl)⟩
theorem RMem.grown {W W' : World} {R : Nat → Prop} {nm n next : Nat} {cs : List Nat} {l : List Acc} (h : RMem W R nm n next cs l) (hg : W.grownBy W' none) : RMem W' R nm n next cs l := by
  obtain ⟨nc, av, os, h⟩ := h
  exact ⟨nc, av, os, h.kept hg.size (fun k e => hg.block k (h.lt k e) (by simp))⟩

set_option maxRecDepth 100000 in
theorem r_alloc0 (nm n next : Nat) (th : Int) (p : Option Addr) (c : Nat) (R : Nat → Prop) (cs : List Nat) (l : List Acc) (W : World) (h : RMem W R nm n next cs l) (hnx : next ≤ n) (hl : l.length < 1099511627776) :
    Calls Tryz.prog 111 #[.pointer (some ⟨nm, 0, none⟩), .int .i64 th, .slice p 0 c] W fun e W' => e = .returned (.int .u64 0) ∧ ∃ R' vs, RMem W' R' nm n next cs (l ++ [⟨th, 5, 0, 0, 0, vs, [], 0, false⟩]) ∧ Goes W W' R R' := by
  obtain ⟨i0, hi, hz0, hz1, hz2⟩ := info_parts infoU
  have hrun := fun W ty => run_append_empty (P := Tryz.prog) W 26 ty 23 i0 Tryz.underlying26 hi p c
  have HB := keepH h
  clear h
  go_enter Tryz.func111, Tryz.ntmps111
  go_wp2_with (at_builtin; refine Lib.wpList_append_run _ rfl _ _ 26 26 rfl (.slice none 0 0) (.slice p 0 c) rfl rfl _ _ (hrun _ _) ?_)
  refine (r_noteV none 0 [] nm n next th 5 0 0 0 0 false R cs l _ HB.out hl (World.ownsRow_nil _ _ _ _) (by simp [Value.ownBlock])).mono ?_
  rintro e w' ⟨rfl, R', hR, hC, hN⟩
  have HR := keepH hR
  clear hR
  go_wp2_with fail
  go_ret
  exact ⟨by simp, R', _, HR.out, hC, fun k hk => (hN k hk).imp_right fun e => e.elim id (by simp [Value.ownBlock])⟩
theorem grown_goes {W w1 W' : World} {R R' : Nat → Prop} {v : Value} (hg : W.grownBy w1 none) (hv : v.ownBlock = none ∨ v.ownBlock = some W.heap.size) (hC : Chg R w1 W') (hN : ∀ k, R' k → R k ∨ w1.heap.size ≤ k ∨ v.ownBlock = some k) : Goes W W' R R' := by
  have h1 : Chg R W w1 := ⟨hg.os, hg.tape, hg.output, hg.size, fun k hk _ => hg.block k hk (by simp)⟩
  refine ⟨h1.trans hC (fun _ _ x => x) (fun _ _ x => x), fun k hk => ?_⟩
  rcases hN k hk with e | e | e
  · exact .inl e
  · exact .inr (Nat.le_trans hg.size e)
  · rcases hv with e2 | e2
    · rw [e2] at e; simp at e
    · rw [e2] at e; simp at e; exact .inr (by omega)

set_option maxRecDepth 100000 in
theorem r_alloc1 (nm n next : Nat) (th : Int) (ad : Addr) (c : Nat) (vals : List Nat) (R : Nat → Prop) (cs : List Nat) (l : List Acc) (W : World) (h : RMem W R nm n next cs l) (hnx : next ≤ n) (hl : l.length < 1099511627776)
    (hr : ∀ j u, (vals.map u64V)[j]? = some u → W.cell? (ad.add j) = some u) (h0 : 0 < vals.length) (hno : n - next < vals.length) (hvl : vals.length ≤ 17592186043904) :
    Calls Tryz.prog 111 #[.pointer (some ⟨nm, 0, none⟩), .int .i64 th, .slice (some ad) vals.length c] W fun e W' => e = .returned (.int .u64 0) ∧ ∃ R' vs, RMem W' R' nm n next cs (l ++ [⟨th, 5, 0, 0, 0, vs, vals, 0, false⟩]) ∧ Goes W W' R R' := by
  obtain ⟨i0, hi, hz0, hz1, hz2⟩ := info_parts infoU
  have t0 : (0 : Int) < (vals.length : Int) := by omega
  have t1 : ¬ (vals.length : Int) ≤ ((n - next : Nat) : Int) := by omega
  have t1' : ¬ vals.length ≤ n - next := by omega
  have HB := keepH h
  have HR := keepH hr
  have HLt : Hid (∀ k, R k → k < W.heap.size) := fun k hk => h.lt k hk
  clear h hr
  go_enter Tryz.func111, Tryz.ntmps111
  go_wp2_with fail
  refine (r_left nm n next R cs l _ HB.out hnx).mono ?_
  rintro e w' ⟨rfl, q, rfl⟩
  go_wp2_with (at_builtin; refine wpList_append_own_at _ rfl _ _ 26 rfl 0 23 i0 (.int .u64 0) 1 8 Tryz.underlying26 hi hz0 hz1 hz2 rfl (by decide) (.slice none 0 0) 0 [] rfl (World.ownsRow_nil _ _ _ _) ad vals.length c (vals.map u64V) rfl (by simp) HR.out (by intro u hu; obtain ⟨x, _, rfl⟩ := List.mem_map.1 hu; rfl) (by unfold maxLen; omega) (by omega) (Nat.zero_le _) ?_; intro v w1 h1 h2 h3 h4; obtain ⟨g', c3, rfl⟩ := slice_pos h1 (by omega); have H1 := keepH h1; have H2 := keepH h2; have H4 := keepH h4; clear h1 h2 h3 h4)
  have H1' : w1.ownsRow 0 23 1 (.slice (some ⟨g', 0, none⟩) vals.length c3) vals.length (vals.map u64V) := by simpa using H1.out
  have G1 : (W.drewN q).grownBy w1 none := H2.out
  have V1 : (.slice (some ⟨g', 0, none⟩) vals.length c3 : Value).ownBlock = none ∨ (.slice (some ⟨g', 0, none⟩) vals.length c3 : Value).ownBlock = some (W.drewN q).heap.size := by have e := H4.out; rw [Nat.zero_add] at e; exact e
  have hvR : ∀ k, (.slice (some ⟨g', 0, none⟩) vals.length c3 : Value).ownBlock = some k → ¬ R k := fun k e hk => by
    have := HLt.out k hk
    rcases V1 with e2 | e2 <;> rw [e2] at e <;> simp at e
    have e3 : W.heap.size = k := e
    omega
  refine (r_noteV (some ⟨g', 0, none⟩) c3 vals nm n next th 5 0 0 0 0 false R cs l _ ((HB.out.drewN q).grown G1) hl H1' hvR).mono ?_
  have HG := keepH G1
  have HV1 := keepH V1
  clear H1' G1 V1 hvR H1 H2 H4 HB HR
  rintro e w' ⟨rfl, R', hR, hC, hN⟩
  have HR' := keepH hR
  have HC := keepH hC
  have HN := keepH hN
  clear hR hC hN
  go_wp2_with fail
  go_ret
  exact ⟨by simp, R', _, HR'.out, (Goes.drewN W R q).trans (grown_goes HG.out HV1.out HC.out HN.out)⟩

theorem RMemAt.setNext {W : World} {R : Nat → Prop} {nm nc n next : Nat} {av : Value} {os cs : List Nat} {l : List Acc} (h : RMemAt W R nm nc av n next os cs l) (nx : Nat) : RMemAt (W.setCell ⟨nm, 1, none⟩ (.int .i64 (nx : Int))) R nm nc av n nx os cs l := by
  have ne : nc ≠ nm := fun e => by
    have e1 := h.own
    rw [IsOwn, e, h.blk] at e1
    simp at e1
  have ob : ∀ k, k ≠ nm → (W.setCell ⟨nm, 1, none⟩ (.int .i64 (nx : Int))).heap[k]? = W.heap[k]? := fun k hk => Below.heap_setCell _ _ _ _ hk
  refine ⟨?_, (ob nc ne).trans h.own, h.os, row_kept h.acc fun k e => ob k (fun e2 => block_apart h.acc h.blk (by decide) (by rw [e, e2])), fun x hx => row_kept (h.vals x hx) fun k e => ob k (fun e2 => block_apart (h.vals x hx) h.blk (by decide) (by rw [e, e2])), h.inn, h.inc, h.ina, h.inv, h.ne, fun k e => by simpa [World.setCell] using h.lt k e, h.nn, h.small⟩
  exact set_of h.blk 1 (.int .i64 (nx : Int))
theorem RMemAt.cells {W : World} {R : Nat → Prop} {nm nc n next : Nat} {av : Value} {os cs cs' : List Nat} {l : List Acc} (h : RMemAt W R nm nc av n next os cs l) (hc : ∀ j, cellN cs' j = cellN cs j) : RMemAt W R nm nc av n next os cs' l :=
  ⟨h.blk, h.own, ⟨h.os.1, fun i hi => (h.os.2.1 i hi).trans (hc i).symm, fun i hi => (hc i).trans (h.os.2.2 i hi)⟩, h.acc, h.vals, h.inn, h.inc, h.ina, h.inv, h.ne, h.lt, h.nn, fun i => by rw [hc]; exact h.small i⟩

def PutR (cs csi vals : List Nat) (next i : Nat) : Prop := ∀ j, cellN csi j = if next ≤ j ∧ j < next + i then cellN vals (j - next) else cellN cs j
theorem PutR.zero (cs vals : List Nat) (next : Nat) : PutR cs cs vals next 0 := fun j => by rw [if_neg (by omega)]
theorem PutR.more {cs csi vals : List Nat} {n next i : Nat} (h : PutR cs csi vals next i) (hn : next + i < n) : PutR cs (stN n csi (next + i) (cellN vals i)) vals next (i + 1) := fun j => by
  rw [stN_cell, h j]
  by_cases e : j = next + i
  · subst e
    rw [if_pos ⟨rfl, hn⟩, if_pos (by omega)]
    congr 1
    omega
  · rw [if_neg (fun x => e x.1)]
    by_cases e2 : next ≤ j ∧ j < next + i
    · rw [if_pos e2, if_pos (by omega)]
    · rw [if_neg e2, if_neg (by omega)]
theorem PutR.all {cs csi vals : List Nat} {n next : Nat} (h : PutR cs csi vals next vals.length) (hok : alOk n next vals.length) (j : Nat) : cellN (alN n next cs vals) j = cellN csi j := by
  unfold alN
  rw [if_pos hok, spliceN_cell _ _ _ (by rw [padN_length]; omega), padN_cell, h j]

set_option maxRecDepth 100000 in
theorem r_alloc2 (nm n next : Nat) (th : Int) (ad : Addr) (c : Nat) (vals : List Nat) (R : Nat → Prop) (cs : List Nat) (l : List Acc) (W : World) (h : RMem W R nm n next cs l) (hnx : next ≤ n) (hl : l.length < 1099511627776)
    (hr : ∀ j u, (vals.map u64V)[j]? = some u → W.cell? (ad.add j) = some u) (hap : ¬ R ad.block) (hv : ∀ x ∈ vals, x < 18446744073709551616) (h0 : 0 < vals.length) (hro : vals.length ≤ n - next) :
    Calls Tryz.prog 111 #[.pointer (some ⟨nm, 0, none⟩), .int .i64 th, .slice (some ad) vals.length c] W fun e W' => e = .returned (.int .u64 (next : Int)) ∧ ∃ R' vs, RMem W' R' nm n (next + vals.length) (alN n next cs vals) (l ++ [⟨th, 5, next, 0, 0, vs, vals, 0, false⟩]) ∧ Goes W W' R R' := by
  obtain ⟨i0, hi, hz0, hz1, hz2⟩ := info_parts infoU
  have t0 : (0 : Int) < (vals.length : Int) := by omega
  have t1 : (vals.length : Int) ≤ ((n - next : Nat) : Int) := by omega
  have HB := keepH h
  have HR := keepH hr
  have HLt : Hid (∀ k, R k → k < W.heap.size) := fun k hk => h.lt k hk
  have HV := keepH hv
  have HAP := keepH hap
  obtain ⟨nc, av, os, h⟩ := h
  have nn := h.nn
  have c1 : W.cell? ⟨nm, 1, none⟩ = some (.int .i64 (next : Int)) := cell_of h.blk 1
  have f1 := free_of h.blk 1
  obtain ⟨nx, hnx2⟩ : ∃ nx, nx = next + vals.length := ⟨_, rfl⟩
  have wn : IntKind.i64.wrap ((next : Int) + (vals.length : Int)) = (nx : Int) := by rw [IntKind.wrap_i64]; omega
  have wm : IntKind.u64.wrap (next : Int) = (next : Int) := u64_lt (by omega)
  have H0 := keepH h
  have HNX := keepH hnx2
  have hle : next + vals.length ≤ n := by omega
  have hin : Hid (R nm) := h.inn
  have hic : Hid (R nc) := h.inc
  clear h hr hv hap hnx2
  go_enter Tryz.func111, Tryz.ntmps111
  go_wp2_with fail
  refine (r_left nm n next R cs l _ HB.out hnx).mono ?_
  rintro e w' ⟨rfl, q, rfl⟩
  go_wp2_with fail
  obtain ⟨X, hX⟩ : ∃ X, X = (W.drewN q).setCell ⟨nm, 1, none⟩ (.int .i64 (nx : Int)) := ⟨_, rfl⟩
  have HX : Hid (RMemAt X R nm nc av n nx os cs l) := by rw [hX]; exact (H0.out.kept (W' := W.drewN q) (Nat.le_refl _) (fun _ _ => rfl)).setNext nx
  have CX : Hid (Chg R W X) := by rw [hX]; exact ((Goes.drewN W R q).chg).setCell (p := ⟨nm, 1, none⟩) (fun _ => hin.out) _
  try rw [← hX]
  clear hX c1 f1 H0 HB
  go_loopw [8] (fun sv wr => ∃ (i : Nat), i ≤ vals.length ∧ sv = .int .i64 (i : Int) ∧ Hid (∃ osi csi, RMemAt wr R nm nc av n nx osi csi l ∧ PutR cs csi vals next i) ∧ Hid (Chg R W wr)) (fun sv _ => vals.length - (intOf sv).toNat)
  case atStart => exact ⟨0, by omega, rfl, ⟨os, cs, HX.out, PutR.zero _ _ _⟩, CX⟩
  case round =>
    obtain ⟨i, hil, rfl, HM, HCh⟩ := hrel
    by_cases hlt : i < vals.length
    · have q1 : (i : Int) < (vals.length : Int) := by omega
      obtain ⟨osi, csi, M, P⟩ := HM.out
      have k0 : wr.cell? ⟨nm, 0, none⟩ = some (.slice (some ⟨nc, 0, none⟩) n n) := cell_of M.blk 0
      have kc := M.own.cell (next + i) (by rw [M.os.1]; omega)
      have kf := free_of M.own (next + i)
      have kv : wr.cell? (ad.add i) = some (.int .u64 (cellN vals i : Int)) := cell_chg HCh.out (HR.out i _ (by simp [cellN, u64V, List.getElem?_eq_getElem hlt])) (by rw [add_block]; exact HAP.out)
      have wi : IntKind.i64.wrap ((next : Int) + (i : Int)) = ((next + i : Nat) : Int) := by rw [IntKind.wrap_i64]; omega
      have wb : ((next + i : Nat) : Int) < (n : Int) := by omega
      have hM := keepH M
      have hP := keepH P
      clear M P
      go_wp2_with fail
      go_region
      all_goals (go_wp2_with fail)
      have hput := hM.out.put (next + i) (cellN vals i) (by omega) (HV.out _ (by simp [cellN, List.getElem?_eq_getElem hlt]))
      exact ⟨⟨i + 1, by omega, by simp, ⟨_, _, hput.1.kept (Nat.le_refl _) (fun _ _ => rfl), hP.out.more (by omega)⟩, (HCh.out.trans hput.2.chg (fun _ _ x => x) (fun _ _ x => x)).drew⟩, by simp [intOf]; omega⟩
    · have q1 : ¬ (i : Int) < (vals.length : Int) := by omega
      obtain rfl : i = vals.length := by omega
      have hsrc : Hid (∀ j u, (vals.map u64V)[j]? = some u → wr.cell? (ad.add j) = some u) := fun j u hj => cell_chg HCh.out (HR.out j u hj) (by rw [add_block]; exact HAP.out)
      have hwl : Hid (∀ k, R k → k < wr.heap.size) := fun k hk => Nat.lt_of_lt_of_le (HLt.out k hk) HCh.out.size
      clear HR HLt
      go_wp2_with (at_builtin; refine wpList_append_own_at _ rfl _ _ 26 rfl 0 23 i0 (.int .u64 0) 1 8 Tryz.underlying26 hi hz0 hz1 hz2 rfl (by decide) (.slice none 0 0) 0 [] rfl (World.ownsRow_nil _ _ _ _) ad vals.length c (vals.map u64V) rfl (by simp) hsrc.out (by intro u hu; obtain ⟨x, _, rfl⟩ := List.mem_map.1 hu; rfl) (by unfold maxLen; omega) (by omega) (Nat.zero_le _) ?_; intro v w1 h1 h2 h3 h4; obtain ⟨g', c3, rfl⟩ := slice_pos h1 (by omega); have H1 := keepH h1; have H2 := keepH h2; have H4 := keepH h4; clear h1 h2 h3 h4)
      have H1' : w1.ownsRow 0 23 1 (.slice (some ⟨g', 0, none⟩) vals.length c3) vals.length (vals.map u64V) := by simpa using H1.out
      have G1 : wr.grownBy w1 none := H2.out
      have V1 : (.slice (some ⟨g', 0, none⟩) vals.length c3 : Value).ownBlock = none ∨ (.slice (some ⟨g', 0, none⟩) vals.length c3 : Value).ownBlock = some wr.heap.size := by have e := H4.out; rw [Nat.zero_add] at e; exact e
      have hvR : ∀ k, (.slice (some ⟨g', 0, none⟩) vals.length c3 : Value).ownBlock = some k → ¬ R k := fun k e hk => by
        have := hwl.out k hk
        rcases V1 with e2 | e2 <;> rw [e2] at e <;> simp at e
        have e3 : wr.heap.size = k := e
        omega
      have hm : RMem wr R nm n nx (alN n next cs vals) l := by
        obtain ⟨osi, csi, M, P⟩ := HM.out
        exact ⟨nc, av, osi, M.cells (fun j => P.all ⟨h0, hro⟩ j)⟩
      refine (r_noteV (some ⟨g', 0, none⟩) c3 vals nm n nx th 5 next 0 0 0 false R (alN n next cs vals) l _ (hm.grown G1) hl H1' hvR).mono ?_
      have HG := keepH G1
      have HV1 := keepH V1
      clear H1' G1 V1 hvR H1 H2 H4 hm HM hsrc HX
      rintro e w' ⟨rfl, R', hR, hC, hN⟩
      have HR' := keepH hR
      have HC := keepH hC
      have HN := keepH hN
      clear hR hC hN
      go_wp2_with fail
      go_ret
      have G3 : Goes W wr R R := ⟨HCh.out, fun _ h => .inl h⟩
      exact ⟨by simp, R', _, by rw [← HNX.out]; exact HR'.out, G3.trans (grown_goes HG.out HV1.out HC.out HN.out)⟩

theorem r_alloc (nm n next : Nat) (th : Int) (p : Option Addr) (c : Nat) (vals : List Nat) (R : Nat → Prop) (cs : List Nat) (l : List Acc) (W : World) (h : RMem W R nm n next cs l) (hnx : next ≤ n) (hl : l.length < 1099511627776)
    (hr : Reads W p vals) (hap : ∀ ad, p = some ad → vals ≠ [] → ¬ R ad.block) (hv : ∀ x ∈ vals, x < 18446744073709551616) (hvl : vals.length ≤ 17592186043904) :
    Calls Tryz.prog 111 #[.pointer (some ⟨nm, 0, none⟩), .int .i64 th, .slice p vals.length c] W fun e W' => e = .returned (.int .u64 (alAt n next vals.length : Int)) ∧ ∃ R' vs, RMem W' R' nm n (alNext n next vals.length) (alN n next cs vals) (l ++ [⟨th, 5, alAt n next vals.length, 0, 0, vs, vals, 0, false⟩]) ∧ Goes W W' R R' := by
  by_cases h1 : vals = []
  · subst h1
    have e0 : ¬ alOk n next ([] : List Nat).length := by simp [alOk]
    have e1 : alAt n next ([] : List Nat).length = 0 := by rw [alAt, if_neg e0]
    have e2 : alNext n next ([] : List Nat).length = next := by rw [alNext, if_neg e0]
    have e3 : alN n next cs [] = cs := by rw [alN, if_neg e0]
    rw [e1, e2, e3]
    exact r_alloc0 nm n next th p c R cs l W h hnx hl
  · have h0 : 0 < vals.length := List.length_pos_iff.2 h1
    obtain ⟨ad, rfl, hrd⟩ : ∃ ad, p = some ad ∧ ∀ j u, (vals.map u64V)[j]? = some u → W.cell? (ad.add j) = some u := by
      rcases hr with hr | hr
      · exact absurd hr h1
      · exact hr
    by_cases h2 : vals.length ≤ n - next
    · have e0 : alOk n next vals.length := ⟨h0, h2⟩
      have e1 : alAt n next vals.length = next := by rw [alAt, if_pos e0]
      have e2 : alNext n next vals.length = next + vals.length := by rw [alNext, if_pos e0]
      rw [e1, e2]
      exact r_alloc2 nm n next th ad c vals R cs l W h hnx hl hrd (hap ad rfl h1) hv h0 h2
    · have e0 : ¬ alOk n next vals.length := fun e => h2 e.2
      have e1 : alAt n next vals.length = 0 := by rw [alAt, if_neg e0]
      have e2 : alNext n next vals.length = next := by rw [alNext, if_neg e0]
      have e3 : alN n next cs vals = cs := by rw [alN, if_neg e0]
      rw [e1, e2, e3]
      exact r_alloc1 nm n next th ad c vals R cs l W h hnx hl hrd h0 (by omega) hvl
end Go.Proofs.YtmmaniolaljjlaaGreatDoor
