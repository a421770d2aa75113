/- A runner: what lies where; what stays, and what a store into it leaves. -/
import Derived.Test.YtnhiodmigmmfgaaGreatO2Ops
import Derived.Deep.RegionHeld
import Derived.Defers
import Derived.Recover
import Derived.Deep.CutRange
namespace Go.Proofs.YtnhiodmigmmfgaaGreat
open Go.RowKit Go.Shelf

theorem rowOf_get {α : Type} (f : α → List Value) (s : Nat) (hs : ∀ x, (f x).length = s) (l : List α) (j k : Nat) (hk : k < s) : (l.flatMap f)[j * s + k]? = (l[j]?).bind fun x => (f x)[k]? := by
  induction l generalizing j with
  | nil => simp
  | cons x r ih =>
    rw [List.flatMap_cons]
    cases j with
    | zero => rw [List.getElem?_append_left (by rw [hs]; omega)]; simp
    | succ j => rw [List.getElem?_append_right (by rw [hs, Nat.add_mul]; omega), hs, show (j + 1) * s + k - s = j * s + k by rw [Nat.add_mul]; omega, ih]; simp
theorem rowOf_set {α : Type} (f : α → List Value) (s : Nat) (hs : ∀ x, (f x).length = s) (l : List α) (j k : Nat) (hk : k < s) (x x' : α) (hj : l[j]? = some x) (v : Value) (hx : (f x).set k v = f x') : (l.flatMap f).set (j * s + k) v = (l.set j x').flatMap f := by
  induction l generalizing j with
  | nil => simp at hj
  | cons y r ih =>
    cases j with
    | zero =>
      simp at hj
      subst hj
      simp only [List.flatMap_cons, List.set_cons_zero]
      rw [List.set_append_left _ _ (by rw [hs]; omega), ← hx]
      simp
    | succ j =>
      simp only [List.flatMap_cons, List.set_cons_succ]
      rw [List.set_append_right _ _ (by rw [hs, Nat.add_mul]; omega), hs, show (j + 1) * s + k - s = j * s + k by rw [Nat.add_mul]; omega, ih j (by simpa using hj)]

def i64V (x : Int) : Value := .int .i64 x
structure Thr where
  cv : Value
  calls : List Value
  next : Nat
  begun : Bool
def Thr.cells (x : Thr) : List Value := [x.cv, .int .i64 (x.next : Int), .bool x.begun]
def thrRow (l : List Thr) : List Value := l.flatMap Thr.cells
structure Ev where
  st : Int
  th : Int
  ix : Int
  ret : Bool
def Ev.cells (x : Ev) : List Value := [.int .i64 x.st, .int .i64 x.th, .int .i64 x.ix, .bool x.ret]
def evRow (l : List Ev) : List Value := l.flatMap Ev.cells
def runL (m : Nat) (vw : List Value) (tv : Value) (steps : Nat) (ev av : Value) : List Value := .pointer (some ⟨m, 0, none⟩) :: (vw ++ [tv, .int .i64 (steps : Int), ev, av])

structure RunAt (W : World) (G : Nat → Prop) (r m : Nat) (vw : List Value) (tv ev av : Value) (ths : List Thr) (steps : Nat) (evs : List Ev) (ats : List Int) : Prop where
  blk : W.heap[r]? = some (.cells (runL m vw tv steps ev av).toArray 95 (0, 0))
  vlen : vw.length = 64
  tr : W.ownsRow 0 98 3 tv ths.length (thrRow ths)
  calls : ∀ x ∈ ths, W.ownsRow 0 91 1 x.cv x.calls.length x.calls
  er : W.ownsRow 0 100 4 ev evs.length (evRow evs)
  ar : W.ownsRow 0 3 1 av ats.length (ats.map i64V)
  inr : G r
  int : ∀ k, tv.ownBlock = some k → G k
  inc : ∀ x ∈ ths, ∀ k, x.cv.ownBlock = some k → G k
  ine : ∀ k, ev.ownBlock = some k → G k
  ina : ∀ k, av.ownBlock = some k → G k
  lt : ∀ k, G k → k < W.heap.size
  thl : ths.length ≤ 64
  nxt : ∀ x ∈ ths, x.next ≤ x.calls.length ∧ x.calls.length ≤ 4096

theorem RunAt.kept {W W' : World} {G : Nat → Prop} {r m : Nat} {vw : List Value} {tv ev av : Value} {ths : List Thr} {steps : Nat} {evs : List Ev} {ats : List Int} (h : RunAt W G r m vw tv ev av ths steps evs ats) (hs : W.heap.size ≤ W'.heap.size) (hk : ∀ k, G k → W'.heap[k]? = W.heap[k]?) : RunAt W' G r m vw tv ev av ths steps evs ats :=
  ⟨(hk r h.inr).trans h.blk, h.vlen, row_kept h.tr fun k e => hk k (h.int k e), fun x hx => row_kept (h.calls x hx) fun k e => hk k (h.inc x hx k e), row_kept h.er fun k e => hk k (h.ine k e), row_kept h.ar fun k e => hk k (h.ina k e),
    h.inr, h.int, h.inc, h.ine, h.ina, fun k e => Nat.lt_of_lt_of_le (h.lt k e) hs, h.thl, h.nxt⟩
theorem RunAt.chg {W W' : World} {G K : Nat → Prop} {r m : Nat} {vw : List Value} {tv ev av : Value} {ths : List Thr} {steps : Nat} {evs : List Ev} {ats : List Int} (h : RunAt W G r m vw tv ev av ths steps evs ats) (hc : Chg K W W') (hd : ∀ k, G k → ¬ K k) : RunAt W' G r m vw tv ev av ths steps evs ats :=
  h.kept hc.size fun k e => hc.block k (h.lt k e) (hd k e)

theorem runL_view (m : Nat) (vw : List Value) (tv : Value) (steps : Nat) (ev av : Value) (hv : vw.length = 64) (i : Nat) (hi : i < 64) : (runL m vw tv steps ev av)[1 + i]? = vw[i]? := by
  rw [Nat.add_comm]; simp only [runL, List.getElem?_cons_succ]; rw [List.getElem?_append_left (by omega)]
theorem runL_at (m : Nat) (vw : List Value) (tv : Value) (steps : Nat) (ev av : Value) (hv : vw.length = 64) (k : Nat) : (runL m vw tv steps ev av)[65 + k]? = [tv, .int .i64 (steps : Int), ev, av][k]? := by
  rw [show 65 + k = (64 + k) + 1 by omega]; simp only [runL, List.getElem?_cons_succ]; rw [List.getElem?_append_right (by omega), hv, show 64 + k - 64 = k by omega]
theorem runL_set (m : Nat) (vw : List Value) (tv : Value) (steps : Nat) (ev av : Value) (hv : vw.length = 64) (k : Nat) (v : Value) : (runL m vw tv steps ev av).set (65 + k) v = .pointer (some ⟨m, 0, none⟩) :: (vw ++ [tv, .int .i64 (steps : Int), ev, av].set k v) := by
  rw [show 65 + k = (64 + k) + 1 by omega]; simp only [runL, List.set_cons_succ]; rw [List.set_append_right _ _ (by omega), hv, show 64 + k - 64 = k by omega]
theorem runL_setv (m : Nat) (vw : List Value) (tv : Value) (steps : Nat) (ev av : Value) (hv : vw.length = 64) (i : Nat) (hi : i < 64) (v : Value) : (runL m vw tv steps ev av).set (1 + i) v = runL m (vw.set i v) tv steps ev av := by
  rw [Nat.add_comm]; simp only [runL, List.set_cons_succ]; rw [List.set_append_left _ _ (by omega)]

section
variable {W Y : World} {G : Nat → Prop} {r m : Nat} {vw : List Value} {tv ev av : Value} {ths : List Thr} {steps : Nat} {evs : List Ev} {ats : List Int}

theorem RunAt.cell0 (h : RunAt W G r m vw tv ev av ths steps evs ats) : W.cell? ⟨r, 0, none⟩ = some (.pointer (some ⟨m, 0, none⟩)) := (cell_of h.blk 0).trans rfl
theorem RunAt.cellv (h : RunAt W G r m vw tv ev av ths steps evs ats) (i : Nat) (hi : i < 64) : W.cell? ⟨r, 1 + i, none⟩ = vw[i]? := by rw [cell_of h.blk, List.getElem?_toArray, runL_view _ _ _ _ _ _ h.vlen i hi]
theorem RunAt.cellk (h : RunAt W G r m vw tv ev av ths steps evs ats) (k : Nat) : W.cell? ⟨r, 65 + k, none⟩ = [tv, .int .i64 (steps : Int), ev, av][k]? := by rw [cell_of h.blk, List.getElem?_toArray, runL_at _ _ _ _ _ _ h.vlen k]
theorem RunAt.free (h : RunAt W G r m vw tv ev av ths steps evs ats) (k : Nat) : W.frozen? ⟨r, k, none⟩ = false := free_of h.blk k

/-- A step more is counted. -/
theorem RunAt.setSteps (h : RunAt W G r m vw tv ev av ths steps evs ats) (n : Nat) : RunAt (W.setCell ⟨r, 66, none⟩ (.int .i64 (n : Int))) G r m vw tv ev av ths n evs ats := by
  have ob : ∀ k, k ≠ r → (W.setCell ⟨r, 66, none⟩ (.int .i64 (n : Int))).heap[k]? = W.heap[k]? := fun k hk => Below.heap_setCell _ _ _ _ hk
  refine ⟨?_, h.vlen, row_kept h.tr fun k e => ob k (fun e2 => block_apart h.tr h.blk (by decide) (by rw [e, e2])), fun x hx => row_kept (h.calls x hx) fun k e => ob k (fun e2 => block_apart (h.calls x hx) h.blk (by decide) (by rw [e, e2])), row_kept h.er fun k e => ob k (fun e2 => block_apart h.er h.blk (by decide) (by rw [e, e2])), row_kept h.ar fun k e => ob k (fun e2 => block_apart h.ar h.blk (by decide) (by rw [e, e2])), h.inr, h.int, h.inc, h.ine, h.ina, fun k e => by simpa [World.setCell] using h.lt k e, h.thl, h.nxt⟩
  have e := set_of h.blk 66 (.int .i64 (n : Int))
  rw [e]
  congr 2
  apply Array.ext'
  simp only [Array.toList_setIfInBounds]
  exact runL_set m vw tv steps ev av h.vlen 1 _

/-- Another row of events. -/
theorem RunAt.setEvents (h : RunAt W G r m vw tv ev av ths steps evs ats) {ev' : Value} {evs' : List Ev} (hy : ∀ k, G k → ev.ownBlock ≠ some k → Y.heap[k]? = W.heap[k]?) (hs : W.heap.size ≤ Y.heap.size) (hrow : Y.ownsRow 0 100 4 ev' evs'.length (evRow evs')) :
    RunAt (Y.setCell ⟨r, 67, none⟩ ev') (fun k => G k ∨ ev'.ownBlock = some k) r m vw tv ev' av ths steps evs' ats := by
  have hr : Y.heap[r]? = some (.cells (runL m vw tv steps ev av).toArray 95 (0, 0)) := (hy r h.inr (block_apart h.er h.blk (by decide))).trans h.blk
  have ob : ∀ k, k ≠ r → (Y.setCell ⟨r, 67, none⟩ ev').heap[k]? = Y.heap[k]? := fun k hk => Below.heap_setCell _ _ _ _ hk
  refine ⟨?_, h.vlen, row_kept h.tr fun k e => (ob k (fun e2 => block_apart h.tr h.blk (by decide) (by rw [e, e2]))).trans (hy k (h.int k e) (fun e2 => rows_apart h.er h.tr (by decide) k e2 e)),
    fun x hx => row_kept (h.calls x hx) fun k e => (ob k (fun e2 => block_apart (h.calls x hx) h.blk (by decide) (by rw [e, e2]))).trans (hy k (h.inc x hx k e) (fun e2 => rows_apart h.er (h.calls x hx) (by decide) k e2 e)),
    row_kept hrow fun k e => ob k (fun e2 => block_apart hrow hr (by decide) (by rw [e, e2])),
    row_kept h.ar fun k e => (ob k (fun e2 => block_apart h.ar h.blk (by decide) (by rw [e, e2]))).trans (hy k (h.ina k e) (fun e2 => rows_apart h.er h.ar (by decide) k e2 e)),
    .inl h.inr, fun k e => .inl (h.int k e), fun x hx k e => .inl (h.inc x hx k e), fun k e => .inr e, fun k e => .inl (h.ina k e), ?_, h.thl, h.nxt⟩
  · have e := set_of hr 67 ev'
    rw [e]
    congr 2
    apply Array.ext'
    simp only [Array.toList_setIfInBounds]
    exact runL_set m vw tv steps ev av h.vlen 2 _
  · intro k e
    have s : (Y.setCell ⟨r, 67, none⟩ ev').heap.size = Y.heap.size := by simp [World.setCell]
    rw [s]
    rcases e with e | e
    · exact Nat.lt_of_lt_of_le (h.lt k e) hs
    · exact row_lt hrow k e
/-- Another row of steps. -/
theorem RunAt.setAts (h : RunAt W G r m vw tv ev av ths steps evs ats) {av' : Value} {ats' : List Int} (hy : ∀ k, G k → av.ownBlock ≠ some k → Y.heap[k]? = W.heap[k]?) (hs : W.heap.size ≤ Y.heap.size) (hrow : Y.ownsRow 0 3 1 av' ats'.length (ats'.map i64V)) :
    RunAt (Y.setCell ⟨r, 68, none⟩ av') (fun k => G k ∨ av'.ownBlock = some k) r m vw tv ev av' ths steps evs ats' := by
  have hr : Y.heap[r]? = some (.cells (runL m vw tv steps ev av).toArray 95 (0, 0)) := (hy r h.inr (block_apart h.ar h.blk (by decide))).trans h.blk
  have ob : ∀ k, k ≠ r → (Y.setCell ⟨r, 68, none⟩ av').heap[k]? = Y.heap[k]? := fun k hk => Below.heap_setCell _ _ _ _ hk
  refine ⟨?_, h.vlen, row_kept h.tr fun k e => (ob k (fun e2 => block_apart h.tr h.blk (by decide) (by rw [e, e2]))).trans (hy k (h.int k e) (fun e2 => rows_apart h.ar h.tr (by decide) k e2 e)),
    fun x hx => row_kept (h.calls x hx) fun k e => (ob k (fun e2 => block_apart (h.calls x hx) h.blk (by decide) (by rw [e, e2]))).trans (hy k (h.inc x hx k e) (fun e2 => rows_apart h.ar (h.calls x hx) (by decide) k e2 e)),
    row_kept h.er fun k e => (ob k (fun e2 => block_apart h.er h.blk (by decide) (by rw [e, e2]))).trans (hy k (h.ine k e) (fun e2 => rows_apart h.ar h.er (by decide) k e2 e)),
    row_kept hrow fun k e => ob k (fun e2 => block_apart hrow hr (by decide) (by rw [e, e2])),
    .inl h.inr, fun k e => .inl (h.int k e), fun x hx k e => .inl (h.inc x hx k e), fun k e => .inl (h.ine k e), fun k e => .inr e, ?_, h.thl, h.nxt⟩
  · have e := set_of hr 68 av'
    rw [e]
    congr 2
    apply Array.ext'
    simp only [Array.toList_setIfInBounds]
    exact runL_set m vw tv steps ev av h.vlen 3 _
  · intro k e
    have s : (Y.setCell ⟨r, 68, none⟩ av').heap.size = Y.heap.size := by simp [World.setCell]
    rw [s]
    rcases e with e | e
    · exact Nat.lt_of_lt_of_le (h.lt k e) hs
    · exact row_lt hrow k e

/-- A thread's own cells. -/
theorem RunAt.thrCell {g c : Nat} (h : RunAt W G r m vw (.slice (some ⟨g, 0, none⟩) ths.length c) ev av ths steps evs ats) (i k : Nat) (hk : k < 3) (x : Thr) (hx : ths[i]? = some x) : W.cell? ⟨g, i * 3 + k, none⟩ = x.cells[k]? := by
  have hi : i < ths.length := (List.getElem?_eq_some_iff.1 hx).1
  rw [World.ownsRow.cellAt h.tr (i * 3 + k) (by omega), thrRow, rowOf_get Thr.cells 3 (fun _ => rfl) ths i k hk, hx]
  rfl
theorem RunAt.setThr {g c : Nat} (h : RunAt W G r m vw (.slice (some ⟨g, 0, none⟩) ths.length c) ev av ths steps evs ats) (i k : Nat) (hk : k < 3) (x x' : Thr) (hx : ths[i]? = some x) (v : Value) (hv : x.cells.set k v = x'.cells) (hc : x'.cv = x.cv ∧ x'.calls = x.calls) (hn : x'.next ≤ x'.calls.length) :
    RunAt (W.setCell ⟨g, i * 3 + k, none⟩ v) G r m vw (.slice (some ⟨g, 0, none⟩) ths.length c) ev av (ths.set i x') steps evs ats := by
  have ob : ∀ b, b ≠ g → (W.setCell ⟨g, i * 3 + k, none⟩ v).heap[b]? = W.heap[b]? := fun b hb => Below.heap_setCell _ _ _ _ hb
  have hxm : x ∈ ths := List.mem_of_getElem? hx
  have hm : ∀ y ∈ ths.set i x', ∃ z ∈ ths, y.cv = z.cv ∧ y.calls = z.calls ∧ (y.next ≤ y.calls.length ∧ y.calls.length ≤ 4096) := fun y hy => by
    rcases List.mem_or_eq_of_mem_set hy with hy | hy
    · exact ⟨y, hy, rfl, rfl, h.nxt y hy⟩
    · subst hy
      refine ⟨x, hxm, hc.1, hc.2, hn, ?_⟩
      rw [hc.2]
      exact (h.nxt x hxm).2
  refine ⟨(ob r (fun e => block_apart h.tr h.blk (by decide) (by rw [e]; rfl))).trans h.blk, h.vlen, ?_, fun y hy => ?_, row_kept h.er fun b e => ob b (fun e2 => rows_apart h.tr h.er (by decide) g rfl (by rw [e, e2])), row_kept h.ar fun b e => ob b (fun e2 => rows_apart h.tr h.ar (by decide) g rfl (by rw [e, e2])), h.inr, h.int, fun y hy b e => ?_, h.ine, h.ina, fun b e => by simpa [World.setCell] using h.lt b e, by simpa using h.thl, fun y hy => ?_⟩
  · have e := (World.ownsRow.stored h.tr (i * 3 + k) v).1
    rw [thrRow, rowOf_set Thr.cells 3 (fun _ => rfl) ths i k hk x x' hx v hv] at e
    rw [List.length_set]
    exact e
  · obtain ⟨z, hz, e1, e2, _⟩ := hm y hy
    rw [e1, e2]
    exact row_kept (h.calls z hz) fun b e => ob b (fun e2 => rows_apart h.tr (h.calls z hz) (by decide) g rfl (by rw [e, e2]))
  · obtain ⟨z, hz, e1, _⟩ := hm y hy
    exact h.inc z hz b (by rw [← e1]; exact e)
  · obtain ⟨z, hz, _, _, e3⟩ := hm y hy
    exact e3
end
end Go.Proofs.YtnhiodmigmmfgaaGreat
/- A runner's small calls: may a thread step; a row of steps is extended; accesses are noted. -/
namespace Go.Proofs.YtnhiodmigmmfgaaGreat
open Go.RowKit Go.Shelf

theorem infoInt : (Tryz.prog.info? 3).map (fun i => (i.zero, i.size, i.bytes)) = some (some (.int .i64 0), 1, 8) := by kernel_rfl
def lenV : Value → Nat | .slice _ n _ => n | _ => 0
def extN (ats : List Int) (L : Nat) (num : Int) : List Int := ats ++ List.replicate (L - ats.length) num
theorem extN_length (ats : List Int) (L : Nat) (num : Int) : (extN ats L num).length = max ats.length L := by simp [extN]; omega

set_option maxRecDepth 100000 in
set_option maxHeartbeats 1000000 in
theorem s_extend (v : Value) (ats : List Int) (L : Nat) (num : Int) (W : World) (h : W.ownsRow 0 3 1 v ats.length (ats.map i64V)) (hL : L ≤ 1099511627776) :
    Calls Tryz.prog 51 #[v, .int .i64 (L : Int), .int .i64 num] W fun e W' => ∃ v', e = .returned v' ∧ W'.ownsRow 0 3 1 v' (extN ats L num).length ((extN ats L num).map i64V) ∧ Chg (fun k => v.ownBlock = some k) W W' ∧ ∀ k, v'.ownBlock = some k → v.ownBlock = some k ∨ W.heap.size ≤ k := by
  obtain ⟨i0, hi, hz0, hz1, hz2⟩ := info_parts infoInt
  have H := keepH h
  obtain ⟨p, c, hv⟩ := slice_of h
  have HV := keepH hv
  subst hv
  clear h
  go_enter Tryz.func51, Tryz.ntmps51
  go_wp2_with fail
  go_loopw [0] (fun lv wr => ∃ j : Nat, j ≤ L - ats.length ∧ Hid (wr.ownsRow 0 3 1 lv (ats.length + j) ((ats ++ List.replicate j num).map i64V)) ∧ Hid (Chg (fun k => (Value.slice p ats.length c).ownBlock = some k) W wr) ∧ Hid (∀ k, lv.ownBlock = some k → (Value.slice p ats.length c).ownBlock = some k ∨ W.heap.size ≤ k)) (fun lv _ => L - lenV lv)
  case atStart => exact ⟨0, by omega, by show World.ownsRow _ _ _ _ _ _ _; simpa using H.out, Chg.refl _ _, fun k e => .inl e⟩
  case round =>
    obtain ⟨j, hj, HR, HC, HB⟩ := hrel
    obtain ⟨p1, c1, hv1⟩ := slice_of HR.out
    subst hv1
    by_cases hlt : ats.length + j < L
    · have t1 : ((ats.length + j : Nat) : Int) < (L : Int) := by omega
      have hm : ats.length + j + 1 ≤ maxLen := by unfold maxLen; omega
      obtain ⟨n1, hn1⟩ : ∃ n1, n1 = ats.length + j := ⟨_, rfl⟩
      rw [← hn1] at HR HB t1 hm ⊢
      have HN := keepH hn1
      have hby : (n1 + 1) * 8 ≤ 140737488355328 := by omega
      clear hn1
      go_wp2_with (at_builtin; refine wpList_append_own_at _ rfl _ _ 23 rfl 0 3 i0 (.int .i64 0) 1 8 Tryz.underlying23 hi hz0 hz1 hz2 rfl (by decide) (.slice p1 n1 c1) n1 _ rfl (HR.out.alloc _) ⟨wr.heap.size, 0, none⟩ 1 1 [.int .i64 num] rfl rfl (cell_one_new _ _ _) (by simp [Value.oneCell']) hm hby (Nat.zero_le _) ?_; intro v' w1 r1 r2 r3 r4; obtain ⟨g', c', rfl⟩ := slice_pos r1 (Nat.succ_pos _); have R1 := keepH r1; have R2 := keepH r2; have R4 := keepH r4; clear r1 r2 r3 r4)
      go_roundw
      case rel =>
        refine ⟨j + 1, by have := HN.out; omega, ?_, ?_, ?_⟩
        · have e := R1.out
          have e2 := HN.out
          subst e2
          show World.ownsRow _ _ _ _ _ _ _
          rw [List.replicate_succ', ← List.append_assoc, List.map_append]
          exact e
        · exact ((HC.out.alloc _).grown R2.out (fun k e hk => (HB.out k e).resolve_right (by omega)))
        · intro k e
          rcases R4.out with e2 | e2
          · rw [e2] at e
            exact HB.out k e
          · rw [e2] at e
            simp at e
            have := HC.out.size
            exact .inr (by omega)
      case measure => simp [lenV]; omega
    · obtain rfl : j = L - ats.length := by omega
      have t1 : ¬ ((ats.length + (L - ats.length) : Nat) : Int) < (L : Int) := by omega
      obtain ⟨n1, hn1⟩ : ∃ n1, n1 = ats.length + (L - ats.length) := ⟨_, rfl⟩
      rw [← hn1] at HR HB t1 ⊢
      have HN := keepH hn1
      clear hn1
      go_wp2_with fail
      go_ret
      refine ⟨.slice p1 n1 c1, by simp, ?_, HC.out, HB.out⟩
      have e := HR.out
      have e2 := HN.out
      rw [show (extN ats L num).length = n1 by rw [extN_length]; omega]
      exact e

set_option maxRecDepth 100000 in
theorem s_isDone (g i : Nat) (x : Thr) (W : World) (h0 : W.cell? ⟨g, i * 3, none⟩ = some x.cv) (h1 : W.cell? ⟨g, i * 3 + 1, none⟩ = some (.int .i64 (x.next : Int))) (hc : W.ownsRow 0 91 1 x.cv x.calls.length x.calls) :
    Calls Tryz.prog 77 #[.pointer (some ⟨g, i * 3, none⟩)] W fun e W' => e = .returned (.bool (decide (x.calls.length ≤ x.next))) ∧ ∃ q, W' = W.drewN q := by
  obtain ⟨p, c, hv⟩ := slice_of hc
  rw [hv] at h0
  clear hc
  go_enter Tryz.func77, Tryz.ntmps77
  go_wp2_with fail
  go_quiet (fail)
  go_wp2_with fail
  go_ret
  exact ⟨by simp, _, rfl⟩

set_option maxRecDepth 100000 in
theorem s_canStep_out {r m : Nat} {vw : List Value} {tv ev av : Value} {ths : List Thr} {steps : Nat} {evs : List Ev} {ats : List Int} {G : Nat → Prop} (th : Int) (W : World) (h : RunAt W G r m vw tv ev av ths steps evs ats) (hth : th < 0 ∨ (ths.length : Int) ≤ th) :
    Calls Tryz.prog 33 #[.pointer (some ⟨r, 0, none⟩), .int .i64 th] W fun e W' => e = .returned (.bool false) ∧ W' = W := by
  have c1 : W.cell? ⟨r, 65, none⟩ = some tv := h.cellk 0
  obtain ⟨p, c, hv⟩ := slice_of h.tr
  subst hv
  clear h
  by_cases h1 : th < 0
  · have t1 : ¬ (0 : Int) ≤ th := by omega
    go_enter Tryz.func33, Tryz.ntmps33
    go_wp2_with fail
    go_ret
    exact ⟨by simp, rfl⟩
  · have t1 : (0 : Int) ≤ th := by omega
    have t2 : ¬ th < (ths.length : Int) := by omega
    clear hth
    go_enter Tryz.func33, Tryz.ntmps33
    go_wp2_with fail
    go_ret
    exact ⟨by simp, rfl⟩
set_option maxRecDepth 100000 in
theorem s_canStep_in {r m g c : Nat} {vw : List Value} {ev av : Value} {ths : List Thr} {steps : Nat} {evs : List Ev} {ats : List Int} {G : Nat → Prop} (i : Nat) (x : Thr) (W : World) (h : RunAt W G r m vw (.slice (some ⟨g, 0, none⟩) ths.length c) ev av ths steps evs ats) (hx : ths[i]? = some x) :
    Calls Tryz.prog 33 #[.pointer (some ⟨r, 0, none⟩), .int .i64 (i : Int)] W fun e W' => e = .returned (.bool (decide (x.next < x.calls.length))) ∧ ∃ q, W' = W.drewN q := by
  have c1 : W.cell? ⟨r, 65, none⟩ = some (.slice (some ⟨g, 0, none⟩) ths.length c) := h.cellk 0
  have hi : i < ths.length := (List.getElem?_eq_some_iff.1 hx).1
  have t2 : (i : Int) < (ths.length : Int) := by omega
  have d0 := keepH (h.thrCell i 0 (by omega) x hx)
  have d1 := keepH (h.thrCell i 1 (by omega) x hx)
  have dc := keepH (h.calls x (List.mem_of_getElem? hx))
  clear h hx
  go_enter Tryz.func33, Tryz.ntmps33
  go_wp2_with fail
  refine (s_isDone g i x _ d0.out d1.out dc.out).mono ?_
  rintro e w' ⟨rfl, q, rfl⟩
  go_wp2_with fail
  go_ret
  refine ⟨?_, _, rfl⟩
  simp
  by_cases hh : x.next < x.calls.length
  · simp [hh]
  · simp [hh]
    omega

set_option maxRecDepth 100000 in
set_option maxHeartbeats 4000000 in
theorem s_note {r m b most next : Nat} {vw : List Value} {tv ev av : Value} {ths : List Thr} {steps : Nat} {evs : List Ev} {ats : List Int} {G F : Nat → Prop} {cs : List Nat} {l : List Acc} (ahead : Nat) (num : Int) (W : World) (h : RunAt W G r m vw tv ev av ths steps evs ats) (hm : IsMem W m b) (hb : Bank W F b most next cs l)
    (hd : ∀ k, G k → ¬ F k ∧ k ≠ m) (ha : ahead ≤ 1099511627776) (hl : l.length ≤ 1099511627776) :
    Calls Tryz.prog 36 #[.pointer (some ⟨r, 0, none⟩), .int .i64 (ahead : Int), .int .i64 num] W fun e W' => e = .returned (.tuple #[]) ∧ ∃ G' av', RunAt W' G' r m vw tv ev av' ths steps evs (extN (extN ats ahead (-1)) l.length num) ∧ Goes W W' G G' := by
  have c3 : W.cell? ⟨r, 68, none⟩ = some av := h.cellk 3
  have H := keepH h
  have HM := keepH hm
  have HB := keepH hb
  clear h hm hb
  go_enter Tryz.func36, Tryz.ntmps36
  go_wp2_with fail
  refine (s_extend av ats ahead (-1) _ H.out.ar ha).mono ?_
  rintro e w1 ⟨v1, rfl, R1, C1, B1⟩
  have hy1 : Hid (∀ k, G k → av.ownBlock ≠ some k → w1.heap[k]? = W.heap[k]?) := fun k hk hn => C1.block k (H.out.lt k hk) hn
  have H2 := keepH (H.out.setAts hy1.out C1.size R1)
  have f3 : w1.frozen? ⟨r, 68, none⟩ = false := (World.frozen?_of_block (w := W) (C1.block r (H.out.lt r H.out.inr) (block_apart H.out.ar H.out.blk (by decide)))).trans (H.out.free 68)
  have d3 : w1.cell? ⟨r, 68, none⟩ = some av := (World.cell?_of_block (w := W) (C1.block r (H.out.lt r H.out.inr) (block_apart H.out.ar H.out.blk (by decide)))).trans c3
  have g1 : Hid (Goes W (w1.setCell ⟨r, 68, none⟩ v1) G (fun k => G k ∨ v1.ownBlock = some k)) := ⟨(C1.mono (fun i _ e => H.out.ina i e)).setCell (fun _ => H.out.inr) _, fun k e => e.elim .inl (fun e => (B1 k e).elim (fun e => .inl (H.out.ina k e)) .inr)⟩
  have HM2 : Hid (IsMem (w1.setCell ⟨r, 68, none⟩ v1) m b) := HM.out.chg g1.out.chg (fun e => (hd m e).2 rfl)
  have HB2 : Hid (Bank (w1.setCell ⟨r, 68, none⟩ v1) F b most next cs l) := HB.out.chg g1.out.chg (fun k e e2 => (hd k e2).1 e)
  obtain ⟨p1, q1, hv1⟩ := slice_of R1
  have R1' := keepH R1
  subst hv1
  clear R1 B1 C1
  go_wp2_with fail
  obtain ⟨w2, hw2⟩ : ∃ w2, w2 = w1.setCell ⟨r, 68, none⟩ (.slice p1 (extN ats ahead (-1)).length q1) := ⟨_, rfl⟩
  rw [← hw2] at H2 g1 HM2 HB2 ⊢
  have k3 : w2.cell? ⟨r, 68, none⟩ = some (.slice p1 (extN ats ahead (-1)).length q1) := H2.out.cellk 3
  have k0 : w2.cell? ⟨r, 0, none⟩ = some (.pointer (some ⟨m, 0, none⟩)) := H2.out.cell0
  clear hw2 c3 d3 f3
  go_region_with (first
    | (go_at_call 34; refine (m_made m b most next F cs l _ (HM2.out.chg (W' := w2.drew) (Goes.drewN w2 (fun _ => False) 1).chg (fun h => h)) (HB2.out.chg (W' := w2.drew) (Goes.drewN w2 (fun _ => False) 1).chg (fun _ _ h => h))).mono ?_; rintro e w' ⟨rfl, rfl⟩)
    | (go_at_call 51; refine (s_extend _ (extN ats ahead (-1)) l.length num w2.drew (row_kept (W := w2) H2.out.ar fun k _ => rfl) hl).mono ?_; rintro e w3 ⟨v3, rfl, R3, C3, B3⟩; have hR3 := keepH R3; have hC3 := keepH C3; have hB3 := keepH B3; have f4 : w3.frozen? ⟨r, 68, none⟩ = false := (World.frozen?_of_block (w := w2) (C3.block r (H2.out.lt r H2.out.inr) (block_apart H2.out.ar H2.out.blk (by decide)))).trans (H2.out.free 68); have d4 : w3.cell? ⟨r, 68, none⟩ = some (.slice p1 (extN ats ahead (-1)).length q1) := (World.cell?_of_block (w := w2) (C3.block r (H2.out.lt r H2.out.inr) (block_apart H2.out.ar H2.out.blk (by decide)))).trans k3; obtain ⟨p3, q3, rfl⟩ := slice_of R3; clear R3 C3 B3))
  all_goals (try go_wp2_with fail)
  all_goals go_end0
  all_goals
    have C4 : Chg (fun k => (Value.slice p1 (extN ats ahead (-1)).length q1).ownBlock = some k) w2 w3 := ⟨hC3.out.os, hC3.out.tape, hC3.out.output, hC3.out.size, hC3.out.block⟩
    have H3 := H2.out.setAts (Y := w3) (fun k hk hn => C4.block k (H2.out.lt k hk) hn) C4.size hR3.out
    refine ⟨rfl, _, _, H3, g1.out.trans ⟨(C4.mono (fun i _ e => H2.out.ina i e)).setCell (fun _ => H2.out.inr) _, fun k e => e.elim .inl (fun e => (hB3.out k e).elim (fun e => .inl (H2.out.ina k e)) .inr)⟩⟩
end Go.Proofs.YtnhiodmigmmfgaaGreat
/- A proc takes a step: stepOf; a Load. -/
namespace Go.Proofs.YtnhiodmigmmfgaaGreat
open Go.RowKit Go.Shelf

theorem s_catch (p : Addr) (w : World) :
    CallsD Tryz.prog 81 #[.pointer (some p)] .returning w fun e u' w' => e = .returned (.tuple #[]) ∧ u' = .returning ∧ w' = w := by
  refine callsD_of_wpS Tryz.func81 rfl fun c₀ cs hu => ?_
  apply wpS_seq
  apply wpS_region
  simp [wpOpsS, go_sem, recoverD, hu, Tryz.ntmps81, Exit.thenS]
  refine wpS_cond (t := false) (by simp [Act.eval, Array.replicate]) ?_
  simp only [Bool.false_eq_true, if_false]
  refine wpS_of_wp (wp_skip ?_)
  cases c₀
  simp_all [bodyPostS, results, Tryz.results81]

theorem mt_step_load (a : Addr) (w : World) : (method 326 73 (.pointer (some a)) "Step").run Tryz.prog w = .ok (110, .pointer (some a)) w := by kernel_rfl

set_option maxRecDepth 100000 in
theorem s_stepOf_load (a : Addr) (v : Value) (R : Bool → World → Prop) (W : World)
    (hK : Calls Tryz.prog 110 #[.pointer (some a), v] (W.alloc (.cells #[.bool false] 4)) fun e W' => ∃ d, e = .returned (.bool d) ∧ R d W' ∧ W'.heap[W.heap.size]? = some (.cells #[.bool false] 4 (0, 0))) :
    Calls Tryz.prog 35 #[.iface 73 (.pointer (some a)), v] W fun e W' => ∃ d W1, e = .returned (.bool d) ∧ R d W1 ∧ W1.heap[W.heap.size]? = some (.cells #[.bool false] 4 (0, 0)) ∧ W' = W1.setCell ⟨W.heap.size, 0, none⟩ (.bool d) := by
  have hmf : ∀ (fn : Fn) (first cap : Array Value) (w : World), (Instr.makeFunc fn first cap).run Tryz.prog w = .ok (.func fn first cap) w := fun _ _ _ _ => rfl
  have hm := mt_step_load a
  have HK := keepH hK
  clear hK
  go_enter_defers Tryz.func35, Tryz.ntmps35
  go_wp2_with fail
  refine HK.out.mono ?_
  rintro e W1 ⟨d, rfl, hR, hb⟩
  have c0 : W1.cell? ⟨W.heap.size, 0, none⟩ = some (.bool false) := cell_of hb 0
  have f0 := free_of hb 0
  have HR := keepH hR
  have HB := keepH hb
  clear hR hb
  go_wp2_with fail
  refine leaves_cons (f := 81) (args := #[.pointer (some ⟨W.heap.size, 0, none⟩)]) (by simp) (by simp [go_sem]) ?_
  refine (s_catch ⟨W.heap.size, 0, none⟩ _).mono ?_
  rintro e u' w'' ⟨rfl, rfl, rfl⟩
  have r0 := World.cell?_setCell_same' W1 ⟨W.heap.size, 0, none⟩ (.bool d) (by rw [c0]; rfl)
  simp [Leaves, settle, results, Tryz.results35, go_sem, r0]
  cases d
  · exact .inl ⟨rfl, W1, HR.out, HB.out, rfl⟩
  · exact .inr ⟨rfl, W1, HR.out, HB.out, rfl⟩

set_option maxRecDepth 100000 in
theorem s_stepOf_nil (v : Value) (W : World) : Calls Tryz.prog 35 #[.nilIface, v] W fun e W' => e = .returned (.bool true) ∧ Chg (fun _ => False) W W' := by
  go_enter_defers Tryz.func35, Tryz.ntmps35
  go_wp2_with fail
  simp [bodyPostD, Leaves, results, Tryz.results35, go_sem]
  exact (Chg.refl _ W).alloc _

/-- A Load: its cell, what it told, whether it is done. -/
def IsLoad (W : World) (p addr val : Nat) (done : Bool) : Prop := W.heap[p]? = some (.cells #[.int .u64 (addr : Int), .int .u64 (val : Int), .bool done] 139 (0, 0))
theorem IsLoad.chg {W W' : World} {F : Nat → Prop} {p addr val : Nat} {done : Bool} (h : IsLoad W p addr val done) (hc : Chg F W W') (hn : ¬ F p) : IsLoad W' p addr val done := (hc.block p (lt_of h) hn).trans h

set_option maxRecDepth 100000 in
theorem load_new (addr : Nat) (W : World) : Calls Tryz.prog 24 #[.int .u64 (addr : Int)] W fun e W' => e = .returned (.pointer (some ⟨W.heap.size, 0, none⟩)) ∧ W' = W.alloc (.cells #[.int .u64 (addr : Int), .int .u64 0, .bool false] 139) := by
  go_enter Tryz.func24, Tryz.ntmps24
  go_wp2_with fail
  go_ret
  exact ⟨by simp, rfl⟩
set_option maxRecDepth 100000 in
theorem load_step (p addr val v b most next made : Nat) (th : Int) (F : Nat → Prop) (cs : List Nat) (l : List Acc) (W : World) (hp : IsLoad W p addr val false) (hw : IsView W v b th made) (h : Bank W F b most next cs l) (hnv : ¬ F v) (hnp : ¬ F p) (hpv : p ≠ v) (hmd : made < 1099511627776) (hl : l.length < 1099511627776) (ha : addr < 18446744073709551616) :
    Calls Tryz.prog 110 #[.pointer (some ⟨p, 0, none⟩), .pointer (some ⟨v, 0, none⟩)] W fun e W' => e = .returned (.bool true) ∧ ∃ F' vs, Bank W' F' b most next cs (l ++ [⟨th, 1, addr, 0, 0, vs, [], cellN cs addr, false⟩]) ∧ IsView W' v b th (made + 1) ∧ IsLoad W' p addr (cellN cs addr) true ∧ ¬ F' p ∧ ¬ F' v ∧
      Chg (fun k => (F k ∨ k = v) ∨ k = p) W W' ∧ ∀ k, F' k → F k ∨ W.heap.size ≤ k := by
  have c0 : W.cell? ⟨p, 0, none⟩ = some (.int .u64 (addr : Int)) := cell_of hp 0
  have c2 : W.cell? ⟨p, 2, none⟩ = some (.bool false) := cell_of hp 2
  have HP := keepH hp
  have HW := keepH hw
  have H := keepH h
  clear hp hw h
  go_enter Tryz.func110, Tryz.ntmps110
  go_wp2_with fail
  refine (v_load v b most next made th addr F cs l _ HW.out H.out hnv hmd hl ha).mono ?_
  rintro e W1 ⟨rfl, F1, vs, B1, V1, G1⟩
  have hp1 : Hid (IsLoad W1 p addr val false) := HP.out.chg G1.chg (fun e => e.elim hnp hpv)
  have d1 : W1.cell? ⟨p, 1, none⟩ = some (.int .u64 (val : Int)) := cell_of hp1.out 1
  have d2 : W1.cell? ⟨p, 2, none⟩ = some (.bool false) := cell_of hp1.out 2
  have f1 := free_of hp1.out 1
  have f2 := free_of hp1.out 2
  have n1 : ¬ F1 p := G1.out (lt_of HP.out) hnp
  have n2 : ¬ F1 v := G1.out HW.out.lt hnv
  have HB1 := keepH B1
  have HV1 := keepH V1
  clear B1 V1
  go_wp2_with fail
  go_ret
  have cg : Chg (fun k => k = p) W1 ((W1.setCell ⟨p, 1, none⟩ (.int .u64 (cellN cs addr : Int))).setCell ⟨p, 2, none⟩ (.bool true)) := ((Chg.refl (fun k => k = p) W1).setCell (p := ⟨p, 1, none⟩) (fun _ => rfl) _).setCell (p := ⟨p, 2, none⟩) (fun _ => rfl) _
  refine ⟨by simp, F1, vs, HB1.out.chg cg (fun k e e2 => n1 (e2 ▸ e)), HV1.out.chg cg (fun e => hpv e.symm), ?_, n1, n2, G1.chg.trans cg (fun _ _ e => .inl e) (fun _ _ e => .inr e), G1.new⟩
  have e := set_of (set_of hp1.out 1 (.int .u64 (cellN cs addr : Int))) 2 (.bool true)
  exact e
end Go.Proofs.YtnhiodmigmmfgaaGreat
/- A runner's pick. -/
namespace Go.Proofs.YtnhiodmigmmfgaaGreat
open Go.RowKit Go.Shelf

def evV (st th ix : Int) (ret : Bool) : Value := .agg #[.int .i64 st, .int .i64 th, .int .i64 ix, .bool ret]
theorem infoE : (Tryz.prog.info? 100).map (fun i => (i.zero, i.size, i.bytes)) = some (some (evV 0 0 0 false), 4, 32) := by kernel_rfl

section
variable {r m : Nat} {vw : List Value} {tv ev av : Value} {ths : List Thr} {steps : Nat} {evs : List Ev} {ats : List Int} {G : Nat → Prop}

set_option maxRecDepth 100000 in
theorem r_pick_out (th : Int) (W : World) (h : RunAt W G r m vw tv ev av ths steps evs ats) (hth : th < 0 ∨ (ths.length : Int) ≤ th) (hst : steps < 1099511627776) :
    Calls Tryz.prog 8 #[.pointer (some ⟨r, 0, none⟩), .int .i64 th] W fun e W' => e = .returned (.bool false) ∧ RunAt W' G r m vw tv ev av ths (steps + 1) evs ats ∧ Goes W W' G G := by
  have c1 : W.cell? ⟨r, 66, none⟩ = some (.int .i64 (steps : Int)) := h.cellk 1
  have f1 := h.free 66
  obtain ⟨n1, hn1⟩ : ∃ n1, n1 = steps + 1 := ⟨_, rfl⟩
  have wn : IntKind.i64.wrap ((steps : Int) + 1) = (n1 : Int) := by rw [IntKind.wrap_i64]; omega
  have H := keepH h
  have H1 := keepH (h.setSteps n1)
  have HN := keepH hn1
  clear h hn1
  go_enter Tryz.func8, Tryz.ntmps8
  go_wp2_with fail
  refine (s_canStep_out th _ H1.out hth).mono ?_
  rintro e w' ⟨rfl, rfl⟩
  go_wp2_with fail
  go_ret
  exact ⟨by simp, by rw [← HN.out]; exact H1.out, ⟨(Chg.refl G W).setCell (fun _ => H.out.inr) _, fun _ e => .inl e⟩⟩
set_option maxRecDepth 100000 in
theorem r_pick_done {g c : Nat} (i : Nat) (x : Thr) (W : World) (h : RunAt W G r m vw (.slice (some ⟨g, 0, none⟩) ths.length c) ev av ths steps evs ats) (hx : ths[i]? = some x) (hd : x.calls.length ≤ x.next) (hst : steps < 1099511627776) :
    Calls Tryz.prog 8 #[.pointer (some ⟨r, 0, none⟩), .int .i64 (i : Int)] W fun e W' => e = .returned (.bool false) ∧ RunAt W' G r m vw (.slice (some ⟨g, 0, none⟩) ths.length c) ev av ths (steps + 1) evs ats ∧ Goes W W' G G := by
  have c1 : W.cell? ⟨r, 66, none⟩ = some (.int .i64 (steps : Int)) := h.cellk 1
  have f1 := h.free 66
  obtain ⟨n1, hn1⟩ : ∃ n1, n1 = steps + 1 := ⟨_, rfl⟩
  have wn : IntKind.i64.wrap ((steps : Int) + 1) = (n1 : Int) := by rw [IntKind.wrap_i64]; omega
  have H := keepH h
  have H1 := keepH (h.setSteps n1)
  have HN := keepH hn1
  have t1 : decide (x.next < x.calls.length) = false := by simp; omega
  clear h hn1
  go_enter Tryz.func8, Tryz.ntmps8
  go_wp2_with fail
  refine (s_canStep_in i x _ H1.out hx).mono ?_
  rintro e w' ⟨rfl, q, rfl⟩
  go_wp2_with fail
  go_ret
  refine ⟨by simp, ?_, ⟨((Chg.refl G W).setCell (fun _ => H.out.inr) _).trans (Goes.drewN _ G q).chg (fun _ _ x => x) (fun _ _ x => x), fun _ e => .inl e⟩⟩
  rw [← HN.out]
  exact H1.out.kept (Nat.le_refl _) (fun _ _ => rfl)
end

/-- What a pick leaves of a thread, of the events, of the steps of accesses. -/
def pickThr (x : Thr) (d : Bool) : Thr := { x with next := x.next + (if d then 1 else 0), begun := !d }
def pickEvs (evs : List Ev) (x : Thr) (steps i : Nat) (d : Bool) : List Ev :=
  (if x.begun then evs else evs ++ [⟨(steps : Int), (i : Int), (x.next : Int), false⟩]) ++ (if d then [⟨(steps : Int), (i : Int), (x.next : Int), true⟩] else [])

/-- One event more. -/
theorem ev_more {X Y : World} {r m : Nat} {vw : List Value} {tv ev av : Value} {ths : List Thr} {steps : Nat} {evs : List Ev} {ats : List Int} {G : Nat → Prop} {g' c' : Nat} {ob : Obj} {y : Ev} (h : RunAt X G r m vw tv ev av ths steps evs ats)
    (hg : ((X.drew).alloc ob).grownBy Y ev.ownBlock) (ho : Y.ownsRow 0 100 4 (.slice (some ⟨g', 0, none⟩) (evs.length + 1) c') (evs.length + 1) (evRow evs ++ y.cells)) (hw : ev.ownBlock = some g' ∨ X.heap.size ≤ g') :
    RunAt (Y.setCell ⟨r, 67, none⟩ (.slice (some ⟨g', 0, none⟩) (evs.length + 1) c')) (fun k => G k ∨ k = g') r m vw tv (.slice (some ⟨g', 0, none⟩) (evs.length + 1) c') av ths steps (evs ++ [y]) ats ∧
      Goes X (Y.setCell ⟨r, 67, none⟩ (.slice (some ⟨g', 0, none⟩) (evs.length + 1) c')) G (fun k => G k ∨ k = g') := by
  have hs : X.heap.size ≤ Y.heap.size := by have := hg.size; simp at this; omega
  have hy : ∀ k, G k → ev.ownBlock ≠ some k → Y.heap[k]? = X.heap[k]? := fun k hk hn => (hg.block k (by have := h.lt k hk; simp; omega) (fun e => hn e.symm)).trans (Below.heap_alloc X.drew ob k (h.lt k hk))
  have row : Y.ownsRow 0 100 4 (.slice (some ⟨g', 0, none⟩) (evs.length + 1) c') (evs ++ [y]).length (evRow (evs ++ [y])) := by simpa [evRow] using ho
  have e := h.setEvents hy hs row
  have eG : (fun k => G k ∨ (Value.slice (some ⟨g', 0, none⟩) (evs.length + 1) c').ownBlock = some k) = (fun k => G k ∨ k = g') := by funext k; simp [Value.ownBlock, eq_comm]
  rw [eG] at e
  refine ⟨e, ⟨?_, fun k hk => hk.elim .inl (fun e => hw.elim (fun e2 => .inl (h.ine k (by rw [e]; exact e2))) (fun e2 => .inr (by omega)))⟩⟩
  exact (((Chg.refl G X).drew.alloc ob).grown hg (fun k e _ => h.ine k e)).setCell (fun _ => h.inr) _
end Go.Proofs.YtnhiodmigmmfgaaGreat
