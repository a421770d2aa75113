/- A runner: what lies where; what stays, and what a store into it leaves. -/
import Derived.Test.YtkfmpebhibnniaaOps
namespace Go.Proofs.Ytkfmpebhibnniaa
open Go.RowKit Go.Shelf

theorem rowOf_length {α : Type} (f : α → List Value) (s : Nat) (hs : ∀ x, (f x).length = s) (l : List α) : (l.flatMap f).length = l.length * s := by
  induction l with
  | nil => simp
  | cons x r ih => rw [List.flatMap_cons, List.length_append, hs, ih, List.length_cons, Nat.add_mul]; omega
theorem rowOf_get {α : Type} (f : α → List Value) (s : Nat) (hs : ∀ x, (f x).length = s) (l : List α) (j k : Nat) (hk : k < s) : (l.flatMap f)[j * s + k]? = (l[j]?).bind fun x => (f x)[k]? := by
  induction l generalizing j with
  | nil => simp
  | cons x r ih =>
    rw [List.flatMap_cons]
    cases j with
    | zero => rw [List.getElem?_append_left (by rw [hs]; omega)]; simp
    | succ j => rw [List.getElem?_append_right (by rw [hs, Nat.add_mul]; omega), hs, show (j + 1) * s + k - s = j * s + k by rw [Nat.add_mul]; omega, ih]; simp
theorem rowOf_set {α : Type} (f : α → List Value) (s : Nat) (hs : ∀ x, (f x).length = s) (l : List α) (j k : Nat) (hk : k < s) (x x' : α) (hj : l[j]? = some x) (v : Value) (hx : (f x).set k v = f x') : (l.flatMap f).set (j * s + k) v = (l.set j x').flatMap f := by
  induction l generalizing j with
  | nil => simp at hj
  | cons y r ih =>
    cases j with
    | zero =>
      simp at hj
      subst hj
      simp only [List.flatMap_cons, List.set_cons_zero]
      rw [List.set_append_left _ _ (by rw [hs]; omega), ← hx]
      simp
    | succ j =>
      simp only [List.flatMap_cons, List.set_cons_succ]
      rw [List.set_append_right _ _ (by rw [hs, Nat.add_mul]; omega), hs, show (j + 1) * s + k - s = j * s + k by rw [Nat.add_mul]; omega, ih j (by simpa using hj)]

def i64V (x : Int) : Value := .int .i64 x
structure Thr where
  cv : Value
  calls : List Value
  next : Nat
  begun : Bool
def Thr.cells (x : Thr) : List Value := [x.cv, .int .i64 (x.next : Int), .bool x.begun]
def thrRow (l : List Thr) : List Value := l.flatMap Thr.cells
structure Ev where
  st : Int
  th : Int
  ix : Int
  ret : Bool
def Ev.cells (x : Ev) : List Value := [.int .i64 x.st, .int .i64 x.th, .int .i64 x.ix, .bool x.ret]
def evRow (l : List Ev) : List Value := l.flatMap Ev.cells
def runL (m : Nat) (vw : List Value) (tv : Value) (steps : Nat) (ev av : Value) : List Value := .pointer (some ⟨m, 0, none⟩) :: (vw ++ [tv, .int .i64 (steps : Int), ev, av])

structure RunAt (W : World) (G : Nat → Prop) (r m : Nat) (vw : List Value) (tv ev av : Value) (ths : List Thr) (steps : Nat) (evs : List Ev) (ats : List Int) : Prop where
  blk : W.heap[r]? = some (.cells (runL m vw tv steps ev av).toArray 117 (0, 0))
  vlen : vw.length = 64
  tr : W.ownsRow 0 123 3 tv ths.length (thrRow ths)
  calls : ∀ x ∈ ths, W.ownsRow 0 40 1 x.cv x.calls.length x.calls
  er : W.ownsRow 0 112 4 ev evs.length (evRow evs)
  ar : W.ownsRow 0 3 1 av ats.length (ats.map i64V)
  inr : G r
  int : ∀ k, tv.ownBlock = some k → G k
  inc : ∀ x ∈ ths, ∀ k, x.cv.ownBlock = some k → G k
  ine : ∀ k, ev.ownBlock = some k → G k
  ina : ∀ k, av.ownBlock = some k → G k
  lt : ∀ k, G k → k < W.heap.size
  thl : ths.length ≤ 64
  nxt : ∀ x ∈ ths, x.next ≤ x.calls.length ∧ x.calls.length ≤ 4096

theorem RunAt.kept {W W' : World} {G : Nat → Prop} {r m : Nat} {vw : List Value} {tv ev av : Value} {ths : List Thr} {steps : Nat} {evs : List Ev} {ats : List Int} (h : RunAt W G r m vw tv ev av ths steps evs ats) (hs : W.heap.size ≤ W'.heap.size) (hk : ∀ k, G k → W'.heap[k]? = W.heap[k]?) : RunAt W' G r m vw tv ev av ths steps evs ats :=
  ⟨(hk r h.inr).trans h.blk, h.vlen, row_kept h.tr fun k e => hk k (h.int k e), fun x hx => row_kept (h.calls x hx) fun k e => hk k (h.inc x hx k e), row_kept h.er fun k e => hk k (h.ine k e), row_kept h.ar fun k e => hk k (h.ina k e),
    h.inr, h.int, h.inc, h.ine, h.ina, fun k e => Nat.lt_of_lt_of_le (h.lt k e) hs, h.thl, h.nxt⟩
theorem RunAt.chg {W W' : World} {G K : Nat → Prop} {r m : Nat} {vw : List Value} {tv ev av : Value} {ths : List Thr} {steps : Nat} {evs : List Ev} {ats : List Int} (h : RunAt W G r m vw tv ev av ths steps evs ats) (hc : Chg K W W') (hd : ∀ k, G k → ¬ K k) : RunAt W' G r m vw tv ev av ths steps evs ats :=
  h.kept hc.size fun k e => hc.block k (h.lt k e) (hd k e)

theorem runL_mem (m : Nat) (vw : List Value) (tv : Value) (steps : Nat) (ev av : Value) : (runL m vw tv steps ev av)[0]? = some (.pointer (some ⟨m, 0, none⟩)) := rfl
theorem runL_view (m : Nat) (vw : List Value) (tv : Value) (steps : Nat) (ev av : Value) (hv : vw.length = 64) (i : Nat) (hi : i < 64) : (runL m vw tv steps ev av)[1 + i]? = vw[i]? := by
  rw [Nat.add_comm]; simp only [runL, List.getElem?_cons_succ]; rw [List.getElem?_append_left (by omega)]
theorem runL_at (m : Nat) (vw : List Value) (tv : Value) (steps : Nat) (ev av : Value) (hv : vw.length = 64) (k : Nat) : (runL m vw tv steps ev av)[65 + k]? = [tv, .int .i64 (steps : Int), ev, av][k]? := by
  rw [show 65 + k = (64 + k) + 1 by omega]; simp only [runL, List.getElem?_cons_succ]; rw [List.getElem?_append_right (by omega), hv, show 64 + k - 64 = k by omega]
theorem runL_set (m : Nat) (vw : List Value) (tv : Value) (steps : Nat) (ev av : Value) (hv : vw.length = 64) (k : Nat) (v : Value) : (runL m vw tv steps ev av).set (65 + k) v = .pointer (some ⟨m, 0, none⟩) :: (vw ++ [tv, .int .i64 (steps : Int), ev, av].set k v) := by
  rw [show 65 + k = (64 + k) + 1 by omega]; simp only [runL, List.set_cons_succ]; rw [List.set_append_right _ _ (by omega), hv, show 64 + k - 64 = k by omega]
theorem runL_setv (m : Nat) (vw : List Value) (tv : Value) (steps : Nat) (ev av : Value) (hv : vw.length = 64) (i : Nat) (hi : i < 64) (v : Value) : (runL m vw tv steps ev av).set (1 + i) v = runL m (vw.set i v) tv steps ev av := by
  rw [Nat.add_comm]; simp only [runL, List.set_cons_succ]; rw [List.set_append_left _ _ (by omega)]

section
variable {W Y : World} {G : Nat → Prop} {r m : Nat} {vw : List Value} {tv ev av : Value} {ths : List Thr} {steps : Nat} {evs : List Ev} {ats : List Int}

theorem RunAt.cell0 (h : RunAt W G r m vw tv ev av ths steps evs ats) : W.cell? ⟨r, 0, none⟩ = some (.pointer (some ⟨m, 0, none⟩)) := (cell_of h.blk 0).trans rfl
theorem RunAt.cellv (h : RunAt W G r m vw tv ev av ths steps evs ats) (i : Nat) (hi : i < 64) : W.cell? ⟨r, 1 + i, none⟩ = vw[i]? := by rw [cell_of h.blk, List.getElem?_toArray, runL_view _ _ _ _ _ _ h.vlen i hi]
theorem RunAt.cellk (h : RunAt W G r m vw tv ev av ths steps evs ats) (k : Nat) : W.cell? ⟨r, 65 + k, none⟩ = [tv, .int .i64 (steps : Int), ev, av][k]? := by rw [cell_of h.blk, List.getElem?_toArray, runL_at _ _ _ _ _ _ h.vlen k]
theorem RunAt.free (h : RunAt W G r m vw tv ev av ths steps evs ats) (k : Nat) : W.frozen? ⟨r, k, none⟩ = false := free_of h.blk k

/-- A step more is counted. -/
theorem RunAt.setSteps (h : RunAt W G r m vw tv ev av ths steps evs ats) (n : Nat) : RunAt (W.setCell ⟨r, 66, none⟩ (.int .i64 (n : Int))) G r m vw tv ev av ths n evs ats := by
  have ob : ∀ k, k ≠ r → (W.setCell ⟨r, 66, none⟩ (.int .i64 (n : Int))).heap[k]? = W.heap[k]? := fun k hk => Below.heap_setCell _ _ _ _ hk
  refine ⟨?_, h.vlen, row_kept h.tr fun k e => ob k (fun e2 => block_apart h.tr h.blk (by decide) (by rw [e, e2])), fun x hx => row_kept (h.calls x hx) fun k e => ob k (fun e2 => block_apart (h.calls x hx) h.blk (by decide) (by rw [e, e2])), row_kept h.er fun k e => ob k (fun e2 => block_apart h.er h.blk (by decide) (by rw [e, e2])), row_kept h.ar fun k e => ob k (fun e2 => block_apart h.ar h.blk (by decide) (by rw [e, e2])), h.inr, h.int, h.inc, h.ine, h.ina, fun k e => by simpa [World.setCell] using h.lt k e, h.thl, h.nxt⟩
  have e := set_of h.blk 66 (.int .i64 (n : Int))
  rw [e]
  congr 2
  apply Array.ext'
  simp only [Array.toList_setIfInBounds]
  exact runL_set m vw tv steps ev av h.vlen 1 _

/-- Another row of events. -/
theorem RunAt.setEvents (h : RunAt W G r m vw tv ev av ths steps evs ats) {ev' : Value} {evs' : List Ev} (hy : ∀ k, G k → ev.ownBlock ≠ some k → Y.heap[k]? = W.heap[k]?) (hs : W.heap.size ≤ Y.heap.size) (hrow : Y.ownsRow 0 112 4 ev' evs'.length (evRow evs')) :
    RunAt (Y.setCell ⟨r, 67, none⟩ ev') (fun k => G k ∨ ev'.ownBlock = some k) r m vw tv ev' av ths steps evs' ats := by
  have hr : Y.heap[r]? = some (.cells (runL m vw tv steps ev av).toArray 117 (0, 0)) := (hy r h.inr (block_apart h.er h.blk (by decide))).trans h.blk
  have ob : ∀ k, k ≠ r → (Y.setCell ⟨r, 67, none⟩ ev').heap[k]? = Y.heap[k]? := fun k hk => Below.heap_setCell _ _ _ _ hk
  refine ⟨?_, h.vlen, row_kept h.tr fun k e => (ob k (fun e2 => block_apart h.tr h.blk (by decide) (by rw [e, e2]))).trans (hy k (h.int k e) (fun e2 => rows_apart h.er h.tr (by decide) k e2 e)),
    fun x hx => row_kept (h.calls x hx) fun k e => (ob k (fun e2 => block_apart (h.calls x hx) h.blk (by decide) (by rw [e, e2]))).trans (hy k (h.inc x hx k e) (fun e2 => rows_apart h.er (h.calls x hx) (by decide) k e2 e)),
    row_kept hrow fun k e => ob k (fun e2 => block_apart hrow hr (by decide) (by rw [e, e2])),
    row_kept h.ar fun k e => (ob k (fun e2 => block_apart h.ar h.blk (by decide) (by rw [e, e2]))).trans (hy k (h.ina k e) (fun e2 => rows_apart h.er h.ar (by decide) k e2 e)),
    .inl h.inr, fun k e => .inl (h.int k e), fun x hx k e => .inl (h.inc x hx k e), fun k e => .inr e, fun k e => .inl (h.ina k e), ?_, h.thl, h.nxt⟩
  · have e := set_of hr 67 ev'
    rw [e]
    congr 2
    apply Array.ext'
    simp only [Array.toList_setIfInBounds]
    exact runL_set m vw tv steps ev av h.vlen 2 _
  · intro k e
    have s : (Y.setCell ⟨r, 67, none⟩ ev').heap.size = Y.heap.size := by simp [World.setCell]
    rw [s]
    rcases e with e | e
    · exact Nat.lt_of_lt_of_le (h.lt k e) hs
    · exact row_lt hrow k e
/-- Another row of steps. -/
theorem RunAt.setAts (h : RunAt W G r m vw tv ev av ths steps evs ats) {av' : Value} {ats' : List Int} (hy : ∀ k, G k → av.ownBlock ≠ some k → Y.heap[k]? = W.heap[k]?) (hs : W.heap.size ≤ Y.heap.size) (hrow : Y.ownsRow 0 3 1 av' ats'.length (ats'.map i64V)) :
    RunAt (Y.setCell ⟨r, 68, none⟩ av') (fun k => G k ∨ av'.ownBlock = some k) r m vw tv ev av' ths steps evs ats' := by
  have hr : Y.heap[r]? = some (.cells (runL m vw tv steps ev av).toArray 117 (0, 0)) := (hy r h.inr (block_apart h.ar h.blk (by decide))).trans h.blk
  have ob : ∀ k, k ≠ r → (Y.setCell ⟨r, 68, none⟩ av').heap[k]? = Y.heap[k]? := fun k hk => Below.heap_setCell _ _ _ _ hk
  refine ⟨?_, h.vlen, row_kept h.tr fun k e => (ob k (fun e2 => block_apart h.tr h.blk (by decide) (by rw [e, e2]))).trans (hy k (h.int k e) (fun e2 => rows_apart h.ar h.tr (by decide) k e2 e)),
    fun x hx => row_kept (h.calls x hx) fun k e => (ob k (fun e2 => block_apart (h.calls x hx) h.blk (by decide) (by rw [e, e2]))).trans (hy k (h.inc x hx k e) (fun e2 => rows_apart h.ar (h.calls x hx) (by decide) k e2 e)),
    row_kept h.er fun k e => (ob k (fun e2 => block_apart h.er h.blk (by decide) (by rw [e, e2]))).trans (hy k (h.ine k e) (fun e2 => rows_apart h.ar h.er (by decide) k e2 e)),
    row_kept hrow fun k e => ob k (fun e2 => block_apart hrow hr (by decide) (by rw [e, e2])),
    .inl h.inr, fun k e => .inl (h.int k e), fun x hx k e => .inl (h.inc x hx k e), fun k e => .inl (h.ine k e), fun k e => .inr e, ?_, h.thl, h.nxt⟩
  · have e := set_of hr 68 av'
    rw [e]
    congr 2
    apply Array.ext'
    simp only [Array.toList_setIfInBounds]
    exact runL_set m vw tv steps ev av h.vlen 3 _
  · intro k e
    have s : (Y.setCell ⟨r, 68, none⟩ av').heap.size = Y.heap.size := by simp [World.setCell]
    rw [s]
    rcases e with e | e
    · exact Nat.lt_of_lt_of_le (h.lt k e) hs
    · exact row_lt hrow k e

/-- A thread's own cells. -/
theorem RunAt.thrCell {g c : Nat} (h : RunAt W G r m vw (.slice (some ⟨g, 0, none⟩) ths.length c) ev av ths steps evs ats) (i k : Nat) (hk : k < 3) (x : Thr) (hx : ths[i]? = some x) : W.cell? ⟨g, i * 3 + k, none⟩ = x.cells[k]? := by
  have hi : i < ths.length := (List.getElem?_eq_some_iff.1 hx).1
  rw [World.ownsRow.cellAt h.tr (i * 3 + k) (by omega), thrRow, rowOf_get Thr.cells 3 (fun _ => rfl) ths i k hk, hx]
  rfl
theorem RunAt.setThr {g c : Nat} (h : RunAt W G r m vw (.slice (some ⟨g, 0, none⟩) ths.length c) ev av ths steps evs ats) (i k : Nat) (hk : k < 3) (x x' : Thr) (hx : ths[i]? = some x) (v : Value) (hv : x.cells.set k v = x'.cells) (hc : x'.cv = x.cv ∧ x'.calls = x.calls) (hn : x'.next ≤ x'.calls.length) :
    RunAt (W.setCell ⟨g, i * 3 + k, none⟩ v) G r m vw (.slice (some ⟨g, 0, none⟩) ths.length c) ev av (ths.set i x') steps evs ats := by
  have ob : ∀ b, b ≠ g → (W.setCell ⟨g, i * 3 + k, none⟩ v).heap[b]? = W.heap[b]? := fun b hb => Below.heap_setCell _ _ _ _ hb
  have hxm : x ∈ ths := List.mem_of_getElem? hx
  have hm : ∀ y ∈ ths.set i x', ∃ z ∈ ths, y.cv = z.cv ∧ y.calls = z.calls ∧ (y.next ≤ y.calls.length ∧ y.calls.length ≤ 4096) := fun y hy => by
    rcases List.mem_or_eq_of_mem_set hy with hy | hy
    · exact ⟨y, hy, rfl, rfl, h.nxt y hy⟩
    · subst hy
      refine ⟨x, hxm, hc.1, hc.2, hn, ?_⟩
      rw [hc.2]
      exact (h.nxt x hxm).2
  refine ⟨(ob r (fun e => block_apart h.tr h.blk (by decide) (by rw [e]; rfl))).trans h.blk, h.vlen, ?_, fun y hy => ?_, row_kept h.er fun b e => ob b (fun e2 => rows_apart h.tr h.er (by decide) g rfl (by rw [e, e2])), row_kept h.ar fun b e => ob b (fun e2 => rows_apart h.tr h.ar (by decide) g rfl (by rw [e, e2])), h.inr, h.int, fun y hy b e => ?_, h.ine, h.ina, fun b e => by simpa [World.setCell] using h.lt b e, by simpa using h.thl, fun y hy => ?_⟩
  · have e := (World.ownsRow.stored h.tr (i * 3 + k) v).1
    rw [thrRow, rowOf_set Thr.cells 3 (fun _ => rfl) ths i k hk x x' hx v hv] at e
    rw [List.length_set]
    exact e
  · obtain ⟨z, hz, e1, e2, _⟩ := hm y hy
    rw [e1, e2]
    exact row_kept (h.calls z hz) fun b e => ob b (fun e2 => rows_apart h.tr (h.calls z hz) (by decide) g rfl (by rw [e, e2]))
  · obtain ⟨z, hz, e1, _⟩ := hm y hy
    exact h.inc z hz b (by rw [← e1]; exact e)
  · obtain ⟨z, hz, _, _, e3⟩ := hm y hy
    exact e3
end
end Go.Proofs.Ytkfmpebhibnniaa
