/- A run of calls of both: all that is laid, thread by thread, call by call. -/
import Derived.Test.YtinhcphhdehmhaaCamO
namespace Go.Proofs.Ytinhcphhdehmhaa
open Go.RowKit Go.Shelf
set_option linter.unusedVariables false

def ptrO (o : Option Nat) : Value := .pointer (o.map fun k => ⟨k, 0, none⟩)
def rowF (n : Nat) (f : Nat → Value) : List Value := (List.range n).map f
theorem rowF_get (n : Nat) (f : Nat → Value) (i : Nat) (h : i < n) : (rowF n f)[i]? = some (f i) := by simp [rowF, h]
theorem rowF_set (n : Nat) (f : Nat → Value) (i : Nat) (v : Value) : (rowF n f).set i v = rowF n (fun k => if k = i then v else f k) := by
  apply List.ext_getElem?
  intro j
  simp only [rowF, List.getElem?_set, List.getElem?_map, List.length_map, List.length_range]
  by_cases e : i = j
  · subst e
    by_cases c : i < n
    · simp [c]
    · simp [c]
  · rw [if_neg e]
    by_cases c : j < n
    · have e2 : ¬ j = i := fun x => e x.symm
      simp [c, e2]
    · simp [c]
theorem rowF_succ (n : Nat) (f : Nat → Value) : rowF (n + 1) f = rowF n f ++ [f n] := by simp [rowF, List.range_succ]
theorem rowF_congr {n : Nat} {f g : Nat → Value} (h : ∀ i, i < n → f i = g i) : rowF n f = rowF n g := by
  unfold rowF
  apply List.map_congr_left
  intro i hi
  exact h i (List.mem_range.1 hi)
def IsRow (W : World) (g n : Nat) (f : Nat → Value) (t : TypeId) : Prop := W.heap[g]? = some (.cells (rowF n f).toArray t (0, 0))
theorem IsRow.cell {W : World} {g n : Nat} {f : Nat → Value} {t : TypeId} (h : IsRow W g n f t) (i : Nat) (hi : i < n) : W.cell? ⟨g, i, none⟩ = some (f i) := by
  rw [cell_of h i]
  simpa using rowF_get n f i hi
theorem IsRow.set {W : World} {g n : Nat} {f : Nat → Value} {t : TypeId} (h : IsRow W g n f t) (i : Nat) (v : Value) : IsRow (W.setCell ⟨g, i, none⟩ v) g n (fun k => if k = i then v else f k) t := by
  have e := set_of h i v
  rw [IsRow, e, ← rowF_set]
  simp
theorem IsRow.chg {W W' : World} {g n : Nat} {f : Nat → Value} {t : TypeId} {F : Nat → Prop} (h : IsRow W g n f t) (hc : Chg F W W') (hn : ¬ F g) : IsRow W' g n f t := (hc.block g (lt_of h) hn).trans h
theorem IsRow.congr {W : World} {g n : Nat} {f f' : Nat → Value} {t : TypeId} (h : IsRow W g n f t) (e : ∀ i, i < n → f i = f' i) : IsRow W g n f' t := by rw [IsRow, ← rowF_congr e]; exact h
theorem tne {tg : Nat → Nat × Nat} {a b : Nat} {x y : Nat × Nat} (ha : tg a = x) (hb : tg b = y) (h : x ≠ y) : a ≠ b := fun e => h (by rw [← ha, ← hb, e])

structure RS (w X : World) (cell nt m b nm nB aB vB : Nat) (F R : Nat → Prop) (cs : List Nat) (l : List Acc) (al : Value) (pcs : List PC) (pb nb tb : Nat → Nat) (cur : Nat → Option Nat) (ats : Nat → Nat) (vw : Nat → Option Nat) (tg : Nat → Nat × Nat) : Prop where
  bank : Bank X F b 128 1 cs l
  mem : IsMem X m b
  rm : RMem X R nm 128 1 cs (l.map Acc.bare)
  vals : ∀ a ∈ l, a.vals = []
  now : IsRow X nB nt (fun t => ptrO ((cur t).map pb)) 44
  at_ : IsRow X aB nt (fun t => .int .i64 (ats t : Int)) 3
  vws : IsRow X vB nt (fun t => ptrO (vw t)) 50
  all : X.ownsRow 0 44 1 al pcs.length (rowF pcs.length fun j => ptrO (some (pb j)))
  pj : ∀ (j : Nat) (x : PC), pcs[j]? = some x → PJ X cell (pb j) (nb j) (tb j) x
  view : ∀ t v, vw t = some v → ∃ md, md ≤ l.length ∧ IsView X v b (t : Int) md
  cok : ∀ t j, cur t = some j → j < pcs.length
  cone : ∀ t t' j, cur t = some j → cur t' = some j → t = t'
  gF : ∀ k, F k → tg k = (1, 0)
  gm : tg m = (2, 0)
  gR : ∀ k, R k → tg k = (3, 0)
  gn : tg nB = (4, 0)
  ga : tg aB = (5, 0)
  gv : tg vB = (6, 0)
  gl : ∀ k, al.ownBlock = some k → tg k = (7, 0)
  gw : ∀ t v, vw t = some v → tg v = (8, t)
  gp : ∀ j, j < pcs.length → tg (pb j) = (9, j) ∧ tg (nb j) = (10, j) ∧ tg (tb j) = (11, j)
  lt : ∀ k, tg k ≠ (0, 0) → w.heap.size ≤ k ∧ k < X.heap.size
  chg : Chg (fun _ => False) w X

section
variable {w X Y : World} {cell nt m b nm nB aB vB : Nat} {F R : Nat → Prop} {cs : List Nat} {l : List Acc} {al : Value} {pcs : List PC} {pb nb tb : Nat → Nat} {cur : Nat → Option Nat} {ats : Nat → Nat} {vw : Nat → Option Nat} {tg : Nat → Nat × Nat}

theorem RS.quiet (h : RS w X cell nt m b nm nB aB vB F R cs l al pcs pb nb tb cur ats vw tg) (c : Chg (fun _ => False) X Y) : RS w Y cell nt m b nm nB aB vB F R cs l al pcs pb nb tb cur ats vw tg :=
  { h with bank := h.bank.chg c (fun _ _ x => x), mem := h.mem.chg c (fun x => x), rm := h.rm.chg c (fun _ _ x => x), now := h.now.chg c (fun x => x), at_ := h.at_.chg c (fun x => x), vws := h.vws.chg c (fun x => x), all := row_kept h.all fun k e => c.block k (row_lt h.all k e) (fun x => x), pj := fun j x e => (h.pj j x e).chg c (fun x => x) (fun x => x) (fun x => x), view := fun t v e => by obtain ⟨md, h1, h2⟩ := h.view t v e; exact ⟨md, h1, h2.chg c (fun x => x)⟩, lt := fun k e => ⟨(h.lt k e).1, Nat.lt_of_lt_of_le (h.lt k e).2 c.size⟩, chg := h.chg.trans c (fun _ _ x => x) (fun _ _ x => x) }
theorem RS.free (h : RS w X cell nt m b nm nB aB vB F R cs l al pcs pb nb tb cur ats vw tg) (k : Nat) (hk : X.heap.size ≤ k) : tg k = (0, 0) := by
  by_cases e : tg k = (0, 0)
  · exact e
  · have := (h.lt k e).2
    omega
theorem RS.apt (h : RS w X cell nt m b nm nB aB vB F R cs l al pcs pb nb tb cur ats vw tg) {t v j : Nat} (hv : vw t = some v) (hj : j < pcs.length) : Apt F R v (pb j) (nb j) (tb j) := by
  obtain ⟨g1, g2, g3⟩ := h.gp j hj
  have g0 := h.gw t v hv
  exact ⟨fun e => by simp [h.gF v e] at g0, fun e => by simp [h.gF _ e] at g1, fun e => by simp [h.gF _ e] at g2, fun e => by simp [h.gF _ e] at g3, fun e => by simp [h.gR v e] at g0, fun e => by simp [h.gR _ e] at g1, fun e => by simp [h.gR _ e] at g2, fun e => by simp [h.gR _ e] at g3, fun k e e2 => by have := h.gF k e; simp [h.gR k e2] at this, tne g0 g1 (by simp), tne g0 g2 (by simp), tne g0 g3 (by simp), tne g1 g2 (by simp), tne g1 g3 (by simp), tne g2 g3 (by simp)⟩

/-- A view for a thread. -/
theorem RS.lookAt (h : RS w X cell nt m b nm nB aB vB F R cs l al pcs pb nb tb cur ats vw tg) (t v : Nat) (hv : vw t = none) (hvX : X.heap.size ≤ v) (c : Chg (fun k => k = vB) X Y) (hw : IsView Y v b (t : Int) 0) (hr : IsRow Y vB nt (fun s => ptrO (if s = t then some v else vw s)) 50) :
    RS w Y cell nt m b nm nB aB vB F R cs l al pcs pb nb tb cur ats (fun s => if s = t then some v else vw s) (fun k => if k = v then (8, t) else tg k) := by
  have f0 := h.free v hvX
  have old : ∀ k, tg k ≠ (0, 0) → (fun k => if k = v then ((8, t) : Nat × Nat) else tg k) k = tg k := fun k e => by
    have : k ≠ v := fun e2 => e (by rw [e2]; exact f0)
    simp [this]
  have nv : ∀ k x, tg k = x → x ≠ (6, 0) → k ≠ vB := fun k x e hx => tne e h.gv hx
  refine ⟨h.bank.chg c (fun k hk => nv k _ (h.gF k hk) (by simp)), h.mem.chg c (nv m _ h.gm (by simp)), h.rm.chg c (fun k hk => nv k _ (h.gR k hk) (by simp)), h.vals, h.now.chg c (nv _ _ h.gn (by simp)), h.at_.chg c (nv _ _ h.ga (by simp)), hr, row_kept h.all fun k e => c.block k (row_lt h.all k e) (nv k _ (h.gl k e) (by simp)), fun j x e => ?_, fun s u e => ?_, h.cok, h.cone, fun k e => (old k (by simp [h.gF k e])).trans (h.gF k e), (old m (by simp [h.gm])).trans h.gm, fun k e => (old k (by simp [h.gR k e])).trans (h.gR k e), (old _ (by simp [h.gn])).trans h.gn, (old _ (by simp [h.ga])).trans h.ga, (old _ (by simp [h.gv])).trans h.gv, fun k e => (old k (by simp [h.gl k e])).trans (h.gl k e), fun s u e => ?_, fun j hj => ?_, fun k e => ?_, h.chg.trans c (fun _ _ x => x) (fun i hi e => by have := (h.lt vB (by simp [h.gv])).1; omega)⟩
  · have hj := (List.getElem?_eq_some_iff.1 e).1
    obtain ⟨g1, g2, g3⟩ := h.gp j hj
    exact (h.pj j x e).chg c (nv _ _ g1 (by simp)) (nv _ _ g2 (by simp)) (nv _ _ g3 (by simp))
  · by_cases hs : s = t
    · subst hs
      simp at e
      subst e
      exact ⟨0, Nat.zero_le _, hw⟩
    · simp only [hs, if_false] at e
      obtain ⟨md, h1, h2⟩ := h.view s u e
      exact ⟨md, h1, h2.chg c (nv _ _ (h.gw s u e) (by simp))⟩
  · by_cases hs : s = t
    · subst hs
      simp at e
      subst e
      simp
    · simp only [hs, if_false] at e
      exact (old u (by simp [h.gw s u e])).trans (h.gw s u e)
  · obtain ⟨g1, g2, g3⟩ := h.gp j hj
    exact ⟨(old _ (by simp [g1])).trans g1, (old _ (by simp [g2])).trans g2, (old _ (by simp [g3])).trans g3⟩
  · by_cases hs : k = v
    · subst hs
      exact ⟨Nat.le_trans h.chg.size hvX, hw.lt⟩
    · simp only [hs, if_false] at e
      exact ⟨(h.lt k e).1, Nat.lt_of_lt_of_le (h.lt k e).2 c.size⟩

open Classical in
/-- A step of a call. -/
theorem RS.step (h : RS w X cell nt m b nm nB aB vB F R cs l al pcs pb nb tb cur ats vw tg) {t v j : Nat} {x y : PC} {F' R' : Nat → Prop} {cs' : List Nat} {a : Acc} {md : Nat} (hv : vw t = some v) (hj : pcs[j]? = some x) (g : GoesC X Y F F' R R' v (pb j) (nb j) (tb j)) (hb : Bank Y F' b 128 1 cs' (l ++ [a])) (hr : RMem Y R' nm 128 1 cs' (l.map Acc.bare ++ [a.bare])) (ha : a.vals = []) (hmd : md ≤ l.length) (hw : IsView Y v b (t : Int) (md + 1)) (hJ : PJ Y cell (pb j) (nb j) (tb j) y) :
    ∃ tg', RS w Y cell nt m b nm nB aB vB F' R' cs' (l ++ [a]) al (pcs.set j y) pb nb tb cur ats vw tg' := by
  have hjl := (List.getElem?_eq_some_iff.1 hj).1
  obtain ⟨p1, p2, p3⟩ := h.gp j hjl
  have p0 := h.gw t v hv
  have hG : ∀ k, ((F k ∨ k = v) ∨ R k ∨ k = nb j ∨ k = tb j ∨ k = pb j) → tg k = (1, 0) ∨ tg k = (8, t) ∨ tg k = (3, 0) ∨ tg k = (10, j) ∨ tg k = (11, j) ∨ tg k = (9, j) := by
    rintro k ((e | e) | e | e | e | e)
    · exact .inl (h.gF k e)
    · exact .inr (.inl (by rw [e]; exact p0))
    · exact .inr (.inr (.inl (h.gR k e)))
    · exact .inr (.inr (.inr (.inl (by rw [e]; exact p2))))
    · exact .inr (.inr (.inr (.inr (.inl (by rw [e]; exact p3)))))
    · exact .inr (.inr (.inr (.inr (.inr (by rw [e]; exact p1)))))
  have out : ∀ k z, tg k = z → z ≠ (1, 0) → z ≠ (8, t) → z ≠ (3, 0) → z ≠ (10, j) → z ≠ (11, j) → z ≠ (9, j) → ¬ ((F k ∨ k = v) ∨ R k ∨ k = nb j ∨ k = tb j ∨ k = pb j) := fun k z e a1 a2 a3 a4 a5 a6 hh => by
    have := hG k hh
    rw [e] at this
    rcases this with q | q | q | q | q | q
    · exact a1 q
    · exact a2 q
    · exact a3 q
    · exact a4 q
    · exact a5 q
    · exact a6 q
  obtain ⟨tg', htg⟩ : ∃ tg' : Nat → Nat × Nat, tg' = fun k => if X.heap.size ≤ k then (if F' k then (1, 0) else if R' k then (3, 0) else (0, 0)) else tg k := ⟨_, rfl⟩
  have old : ∀ k, tg k ≠ (0, 0) → tg' k = tg k := fun k e => by
    have := (h.lt k e).2
    rw [htg]
    simp only
    rw [if_neg (by omega)]
  refine ⟨tg', hb, h.mem.chg g.chg (out m _ h.gm (by simp) (by simp) (by simp) (by simp) (by simp) (by simp)), by rw [List.map_append]; exact hr, fun z hz => ?_, h.now.chg g.chg (out _ _ h.gn (by simp) (by simp) (by simp) (by simp) (by simp) (by simp)), h.at_.chg g.chg (out _ _ h.ga (by simp) (by simp) (by simp) (by simp) (by simp) (by simp)), h.vws.chg g.chg (out _ _ h.gv (by simp) (by simp) (by simp) (by simp) (by simp) (by simp)), ?_, fun j' x' e => ?_, fun s u e => ?_, fun s j' e => by rw [List.length_set]; exact h.cok s j' e, h.cone, fun k e => ?_, (old m (by simp [h.gm])).trans h.gm, fun k e => ?_, (old _ (by simp [h.gn])).trans h.gn, (old _ (by simp [h.ga])).trans h.ga, (old _ (by simp [h.gv])).trans h.gv, fun k e => (old k (by simp [h.gl k e])).trans (h.gl k e), fun s u e => (old u (by simp [h.gw s u e])).trans (h.gw s u e), fun j' hj' => ?_, fun k e => ?_, h.chg.trans g.chg (fun _ _ x => x) (fun i hi e => ?_)⟩
  · rcases List.mem_append.1 hz with q | q
    · exact h.vals z q
    · obtain rfl := List.mem_singleton.1 q
      exact ha
  · rw [List.length_set]
    exact row_kept h.all fun k e => g.chg.block k (row_lt h.all k e) (out k _ (h.gl k e) (by simp) (by simp) (by simp) (by simp) (by simp) (by simp))
  · by_cases hjj : j = j'
    · subst hjj
      rw [List.getElem?_set_self hjl] at e
      cases e
      exact hJ
    · rw [List.getElem?_set_ne hjj] at e
      have hl' := (List.getElem?_eq_some_iff.1 e).1
      obtain ⟨q1, q2, q3⟩ := h.gp j' hl'
      have hne : j' ≠ j := fun x => hjj x.symm
      exact (h.pj j' x' e).chg g.chg (out _ _ q1 (by simp) (by simp) (by simp) (by simp) (by simp) (by simp [hne])) (out _ _ q2 (by simp) (by simp) (by simp) (by simp [hne]) (by simp) (by simp)) (out _ _ q3 (by simp) (by simp) (by simp) (by simp) (by simp [hne]) (by simp))
  · by_cases hs : s = t
    · subst hs
      rw [hv] at e
      cases e
      exact ⟨md + 1, by simp; omega, hw⟩
    · obtain ⟨d, h1, h2⟩ := h.view s u e
      exact ⟨d, by simp; omega, h2.chg g.chg (out _ _ (h.gw s u e) (by simp) (by simp [hs]) (by simp) (by simp) (by simp) (by simp))⟩
  · rcases g.newF k e with q | q
    · exact (old k (by simp [h.gF k q])).trans (h.gF k q)
    · rw [htg]
      simp [q, e]
  · rcases g.newR k e with q | q
    · exact (old k (by simp [h.gR k q])).trans (h.gR k q)
    · have nf : ¬ F' k := fun x => g.apart k x e
      rw [htg]
      simp [q, e, nf]
  · rw [List.length_set] at hj'
    obtain ⟨q1, q2, q3⟩ := h.gp j' hj'
    exact ⟨(old _ (by simp [q1])).trans q1, (old _ (by simp [q2])).trans q2, (old _ (by simp [q3])).trans q3⟩
  · by_cases hk : X.heap.size ≤ k
    · rw [htg] at e
      simp only [hk, if_true] at e
      refine ⟨Nat.le_trans h.chg.size hk, ?_⟩
      by_cases f : F' k
      · exact hb.lt k f
      · by_cases r : R' k
        · exact hr.lt k r
        · simp [f, r] at e
    · have e2 : tg k ≠ (0, 0) := by
        rw [htg] at e
        simpa [hk] using e
      exact ⟨(h.lt k e2).1, Nat.lt_of_lt_of_le (h.lt k e2).2 g.chg.size⟩
  · have ne0 : tg i ≠ (0, 0) := by
      rcases hG i e with q | q | q | q | q | q <;> simp [q]
    have := (h.lt i ne0).1
    omega

theorem PJ.put15 {W : World} {p n q : Nat} {x : PC} (h : PJ W cell p n q x) (hn : n ≠ p) (hq : q ≠ p) (i : Int) : PJ (W.setCell ⟨p, 15, none⟩ (.int .i64 i)) cell p n q { x with tz := i } := by
  refine ⟨other_of h.now hn _, other_of h.take hq _, ?_⟩
  have e := set_of h.proc 15 (.int .i64 i)
  rw [e]
  cases hN : x.isNow <;> simp [nowCells, takeCells, PC.told]
theorem PJ.put14 {W : World} {p n q : Nat} {x : PC} (h : PJ W cell p n q x) (hn : n ≠ p) (hq : q ≠ p) (i : Int) : PJ (W.setCell ⟨p, 14, none⟩ (.int .i64 i)) cell p n q { x with fr := i } := by
  refine ⟨other_of h.now hn _, other_of h.take hq _, ?_⟩
  have e := set_of h.proc 14 (.int .i64 i)
  rw [e]
  cases hN : x.isNow <;> simp [nowCells, takeCells, PC.told]

/-- A call's last step is written down. -/
theorem RS.ends (h : RS w X cell nt m b nm nB aB vB F R cs l al pcs pb nb tb cur ats vw tg) {j : Nat} {x : PC} (hj : pcs[j]? = some x) (i : Int) : RS w (X.setCell ⟨pb j, 15, none⟩ (.int .i64 i)) cell nt m b nm nB aB vB F R cs l al (pcs.set j { x with tz := i }) pb nb tb cur ats vw tg := by
  have hjl := (List.getElem?_eq_some_iff.1 hj).1
  obtain ⟨p1, p2, p3⟩ := h.gp j hjl
  have c : Chg (fun k => k = pb j) X (X.setCell ⟨pb j, 15, none⟩ (.int .i64 i)) := Chg.setCell (F := fun k => k = pb j) (p := ⟨pb j, 15, none⟩) (Chg.refl _ _) (fun _ => rfl) _
  have nv : ∀ k z, tg k = z → z ≠ (9, j) → k ≠ pb j := fun k z e hx => tne e p1 hx
  refine ⟨h.bank.chg c (fun k hk => nv k _ (h.gF k hk) (by simp)), h.mem.chg c (nv m _ h.gm (by simp)), h.rm.chg c (fun k hk => nv k _ (h.gR k hk) (by simp)), h.vals, h.now.chg c (nv _ _ h.gn (by simp)), h.at_.chg c (nv _ _ h.ga (by simp)), h.vws.chg c (nv _ _ h.gv (by simp)), ?_, fun j' x' e => ?_, fun s u e => ?_, fun s j' e => by rw [List.length_set]; exact h.cok s j' e, h.cone, h.gF, h.gm, h.gR, h.gn, h.ga, h.gv, h.gl, h.gw, fun j' hj' => h.gp j' (by rw [List.length_set] at hj'; exact hj'), fun k e => ⟨(h.lt k e).1, Nat.lt_of_lt_of_le (h.lt k e).2 c.size⟩, h.chg.trans c (fun _ _ x => x) (fun k hk e => by have := (h.lt (pb j) (by simp [p1])).1; omega)⟩
  · rw [List.length_set]
    exact row_kept h.all fun k e => c.block k (row_lt h.all k e) (nv k _ (h.gl k e) (by simp))
  · by_cases hjj : j = j'
    · subst hjj
      rw [List.getElem?_set_self hjl] at e
      cases e
      exact (h.pj j x hj).put15 (tne p2 p1 (by simp)) (tne p3 p1 (by simp)) i
    · rw [List.getElem?_set_ne hjj] at e
      have hl' := (List.getElem?_eq_some_iff.1 e).1
      obtain ⟨q1, q2, q3⟩ := h.gp j' hl'
      exact (h.pj j' x' e).chg c (nv _ _ q1 (by simpa using fun x => hjj (Eq.symm x))) (nv _ _ q2 (by simp)) (nv _ _ q3 (by simp))
  · obtain ⟨d, h1, h2⟩ := h.view s u e
    exact ⟨d, h1, h2.chg c (nv _ _ (h.gw s u e) (by simp))⟩

/-- A thread is between two calls. -/
theorem RS.rests (h : RS w X cell nt m b nm nB aB vB F R cs l al pcs pb nb tb cur ats vw tg) (t : Nat) : RS w (X.setCell ⟨nB, t, none⟩ (.pointer none)) cell nt m b nm nB aB vB F R cs l al pcs pb nb tb (fun s => if s = t then none else cur s) ats vw tg := by
  have c : Chg (fun k => k = nB) X (X.setCell ⟨nB, t, none⟩ (.pointer none)) := Chg.setCell (F := fun k => k = nB) (p := ⟨nB, t, none⟩) (Chg.refl _ _) (fun _ => rfl) _
  have nv : ∀ k z, tg k = z → z ≠ (4, 0) → k ≠ nB := fun k z e hx => tne e h.gn hx
  refine ⟨h.bank.chg c (fun k hk => nv k _ (h.gF k hk) (by simp)), h.mem.chg c (nv m _ h.gm (by simp)), h.rm.chg c (fun k hk => nv k _ (h.gR k hk) (by simp)), h.vals, (h.now.set t (.pointer none)).congr (fun s hs => ?_), h.at_.chg c (nv _ _ h.ga (by simp)), h.vws.chg c (nv _ _ h.gv (by simp)), row_kept h.all fun k e => c.block k (row_lt h.all k e) (nv k _ (h.gl k e) (by simp)), fun j' x' e => ?_, fun s u e => ?_, fun s j' e => ?_, fun s s' j e e' => ?_, h.gF, h.gm, h.gR, h.gn, h.ga, h.gv, h.gl, h.gw, h.gp, fun k e => ⟨(h.lt k e).1, Nat.lt_of_lt_of_le (h.lt k e).2 c.size⟩, h.chg.trans c (fun _ _ x => x) (fun k hk e => by have := (h.lt nB (by simp [h.gn])).1; omega)⟩
  · by_cases e : s = t <;> simp [e, ptrO]
  · have hl' := (List.getElem?_eq_some_iff.1 e).1
    obtain ⟨q1, q2, q3⟩ := h.gp j' hl'
    exact (h.pj j' x' e).chg c (nv _ _ q1 (by simp)) (nv _ _ q2 (by simp)) (nv _ _ q3 (by simp))
  · obtain ⟨d, h1, h2⟩ := h.view s u e
    exact ⟨d, h1, h2.chg c (nv _ _ (h.gw s u e) (by simp))⟩
  · by_cases e2 : s = t
    · simp [e2] at e
    · simp only [e2, if_false] at e
      exact h.cok s j' e
  · by_cases e2 : s = t
    · simp [e2] at e
    · by_cases e3 : s' = t
      · simp [e3] at e'
      · simp only [e2, e3, if_false] at e e'
        exact h.cone s s' j e e'

/-- A call has begun. -/
theorem RS.begins (h : RS w X cell nt m b nm nB aB vB F R cs l al pcs pb nb tb cur ats vw tg) {t p n q : Nat} {al' : Value} {x : PC} {at' : Nat → Nat} (hp : tg p = (0, 0)) (hn : tg n = (0, 0)) (hq : tg q = (0, 0)) (hpn : p ≠ n) (hpq : p ≠ q) (hnq : n ≠ q) (hpw : w.heap.size ≤ p) (hnw : w.heap.size ≤ n) (hqw : w.heap.size ≤ q)
    (c : Chg (fun k => k = nB ∨ k = aB ∨ al.ownBlock = some k ∨ k = p) X Y) (hJ : PJ Y cell p n q x) (hnow : IsRow Y nB nt (fun s => ptrO (if s = t then some p else (cur s).map pb)) 44) (hat : IsRow Y aB nt (fun s => .int .i64 (at' s : Int)) 3)
    (hal : Y.ownsRow 0 44 1 al' (pcs.length + 1) (rowF pcs.length (fun j => ptrO (some (pb j))) ++ [ptrO (some p)])) (hown : al'.ownBlock = al.ownBlock ∨ ∃ k, al'.ownBlock = some k ∧ tg k = (0, 0) ∧ w.heap.size ≤ k ∧ k ≠ p ∧ k ≠ n ∧ k ≠ q) (hct : cur t = none) :
    ∃ tg', RS w Y cell nt m b nm nB aB vB F R cs l al' (pcs ++ [x]) (fun j => if j = pcs.length then p else pb j) (fun j => if j = pcs.length then n else nb j) (fun j => if j = pcs.length then q else tb j) (fun s => if s = t then some pcs.length else cur s) at' vw tg' := by
  obtain ⟨tg', htg⟩ : ∃ tg' : Nat → Nat × Nat, tg' = fun k => if k = p then (9, pcs.length) else if k = n then (10, pcs.length) else if k = q then (11, pcs.length) else if al'.ownBlock = some k then (7, 0) else tg k := ⟨_, rfl⟩
  have oldne : ∀ k, tg k ≠ (0, 0) → k ≠ p ∧ k ≠ n ∧ k ≠ q := fun k e => ⟨fun x => e (by rw [x]; exact hp), fun x => e (by rw [x]; exact hn), fun x => e (by rw [x]; exact hq)⟩
  have alk : ∀ k, al'.ownBlock = some k → tg k = (7, 0) ∨ tg k = (0, 0) := fun k e => by
    rcases hown with o | ⟨k', o, o2, _⟩
    · rw [o] at e
      exact .inl (h.gl k e)
    · rw [o] at e
      cases e
      exact .inr o2
  have old : ∀ k, tg k ≠ (0, 0) → tg' k = tg k := fun k e => by
    obtain ⟨a1, a2, a3⟩ := oldne k e
    rw [htg]
    simp only [a1, a2, a3, if_false]
    by_cases o : al'.ownBlock = some k
    · rw [if_pos o]
      rcases alk k o with z | z
      · exact z.symm
      · exact absurd z e
    · rw [if_neg o]
  have out : ∀ k z, tg k = z → z ≠ (0, 0) → z ≠ (4, 0) → z ≠ (5, 0) → z ≠ (7, 0) → ¬ (k = nB ∨ k = aB ∨ al.ownBlock = some k ∨ k = p) := fun k z e h0 h4 h5 h7 hh => by
    rcases hh with g | g | g | g
    · exact h4 (by rw [← e, g]; exact h.gn)
    · exact h5 (by rw [← e, g]; exact h.ga)
    · exact h7 (by rw [← e]; exact h.gl k g)
    · exact h0 (by rw [← e, g]; exact hp)
  have pl : ∀ {f : Nat → Nat} {u j : Nat}, j < pcs.length → (if j = pcs.length then u else f j) = f j := fun hj => if_neg (by omega)
  refine ⟨tg', h.bank.chg c (fun k hk => out k _ (h.gF k hk) (by simp) (by simp) (by simp) (by simp)), h.mem.chg c (out m _ h.gm (by simp) (by simp) (by simp) (by simp)), h.rm.chg c (fun k hk => out k _ (h.gR k hk) (by simp) (by simp) (by simp) (by simp)), h.vals, hnow.congr (fun s hs => ?_), hat, h.vws.chg c (out _ _ h.gv (by simp) (by simp) (by simp) (by simp)), ?_, fun j' x' e => ?_, fun s u e => ?_, fun s j' e => ?_, fun s s' j e e' => ?_, fun k e => (old k (by simp [h.gF k e])).trans (h.gF k e), (old m (by simp [h.gm])).trans h.gm, fun k e => (old k (by simp [h.gR k e])).trans (h.gR k e), (old _ (by simp [h.gn])).trans h.gn, (old _ (by simp [h.ga])).trans h.ga, (old _ (by simp [h.gv])).trans h.gv, fun k e => ?_, fun s u e => (old u (by simp [h.gw s u e])).trans (h.gw s u e), fun j' hj' => ?_, fun k e => ?_, h.chg.trans c (fun _ _ x => x) (fun k hk e => ?_)⟩
  · by_cases e : s = t
    · simp [e]
    · simp only [e, if_false]
      cases hc : cur s with
      | none => rfl
      | some j => simp [pl (h.cok s j hc)]
  · simp only [List.length_append, List.length_singleton]
    rw [rowF_succ]
    have e1 : rowF pcs.length (fun j => ptrO (some (if j = pcs.length then p else pb j))) = rowF pcs.length (fun j => ptrO (some (pb j))) := rowF_congr (fun i hi => by rw [pl hi])
    rw [e1]
    simpa using hal
  · by_cases hj' : j' < pcs.length
    · rw [List.getElem?_append_left hj'] at e
      obtain ⟨q1, q2, q3⟩ := h.gp j' hj'
      have e3 := (h.pj j' x' e).chg c (out _ _ q1 (by simp) (by simp) (by simp) (by simp)) (out _ _ q2 (by simp) (by simp) (by simp) (by simp)) (out _ _ q3 (by simp) (by simp) (by simp) (by simp))
      simpa [pl hj'] using e3
    · have hjl := (List.getElem?_eq_some_iff.1 e).1
      simp at hjl
      have : j' = pcs.length := by omega
      subst this
      simp at e
      subst e
      simpa using hJ
  · obtain ⟨d, h1, h2⟩ := h.view s u e
    exact ⟨d, h1, h2.chg c (out _ _ (h.gw s u e) (by simp) (by simp) (by simp) (by simp))⟩
  · by_cases e2 : s = t
    · simp [e2] at e
      subst e
      simp
    · simp only [e2, if_false] at e
      have := h.cok s j' e
      simp
      omega
  · by_cases e2 : s = t
    · by_cases e3 : s' = t
      · omega
      · simp only [e2, e3, if_true, if_false] at e e'
        have := h.cok s' j e'
        simp at e
        omega
    · by_cases e3 : s' = t
      · simp only [e2, e3, if_true, if_false] at e e'
        have := h.cok s j e
        simp at e'
        omega
      · simp only [e2, e3, if_false] at e e'
        exact h.cone s s' j e e'
  · rcases hown with o | ⟨k', o, o2, _, o3, o4, o5⟩
    · rw [o] at e
      exact (old k (by simp [h.gl k e])).trans (h.gl k e)
    · have e4 := e
      rw [o] at e4
      cases e4
      rw [htg]
      simp [o3, o4, o5, o]
  · by_cases hjl : j' < pcs.length
    · obtain ⟨q1, q2, q3⟩ := h.gp j' hjl
      simp only [pl hjl]
      exact ⟨(old _ (by simp [q1])).trans q1, (old _ (by simp [q2])).trans q2, (old _ (by simp [q3])).trans q3⟩
    · simp at hj'
      have : j' = pcs.length := by omega
      subst this
      rw [htg]
      simp [Ne.symm hpn, Ne.symm hpq, Ne.symm hnq]
  · by_cases k1 : k = p
    · subst k1
      exact ⟨hpw, lt_of hJ.proc⟩
    · by_cases k2 : k = n
      · subst k2
        exact ⟨hnw, lt_of hJ.now⟩
      · by_cases k3 : k = q
        · subst k3
          exact ⟨hqw, lt_of hJ.take⟩
        · by_cases k4 : al'.ownBlock = some k
          · refine ⟨?_, row_lt hal k k4⟩
            rcases hown with o | ⟨k', o, _, o2, _⟩
            · rw [o] at k4
              exact (h.lt k (by simp [h.gl k k4])).1
            · rw [o] at k4
              cases k4
              exact o2
          · have e2 : tg k ≠ (0, 0) := by
              rw [htg] at e
              simpa [k1, k2, k3, k4] using e
            exact ⟨(h.lt k e2).1, Nat.lt_of_lt_of_le (h.lt k e2).2 c.size⟩
  · rcases e with g | g | g | g
    · have := (h.lt nB (by simp [h.gn])).1; omega
    · have := (h.lt aB (by simp [h.ga])).1; omega
    · have := (h.lt k (by simp [h.gl k g])).1; omega
    · omega
end
end Go.Proofs.Ytinhcphhdehmhaa
