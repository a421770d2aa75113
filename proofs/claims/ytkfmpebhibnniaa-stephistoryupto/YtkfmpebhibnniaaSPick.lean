/- A runner's pick. -/
import Derived.Test.YtkfmpebhibnniaaSOf
import Derived.Deep.CutRange
namespace Go.Proofs.Ytkfmpebhibnniaa
open Go.RowKit Go.Shelf

def evV (st th ix : Int) (ret : Bool) : Value := .agg #[.int .i64 st, .int .i64 th, .int .i64 ix, .bool ret]
theorem infoE : (Try.prog.info? 112).map (fun i => (i.zero, i.size, i.bytes)) = some (some (evV 0 0 0 false), 4, 32) := by kernel_rfl

section
variable {r m : Nat} {vw : List Value} {tv ev av : Value} {ths : List Thr} {steps : Nat} {evs : List Ev} {ats : List Int} {G : Nat → Prop}

set_option maxRecDepth 100000 in
theorem r_pick_out (th : Int) (W : World) (h : RunAt W G r m vw tv ev av ths steps evs ats) (hth : th < 0 ∨ (ths.length : Int) ≤ th) (hst : steps < 1099511627776) :
    Calls Try.prog 32 #[.pointer (some ⟨r, 0, none⟩), .int .i64 th] W fun e W' => e = .returned (.bool false) ∧ RunAt W' G r m vw tv ev av ths (steps + 1) evs ats ∧ Goes W W' G G := by
  have c1 : W.cell? ⟨r, 66, none⟩ = some (.int .i64 (steps : Int)) := h.cellk 1
  have f1 := h.free 66
  obtain ⟨n1, hn1⟩ : ∃ n1, n1 = steps + 1 := ⟨_, rfl⟩
  have wn : IntKind.i64.wrap ((steps : Int) + 1) = (n1 : Int) := by rw [IntKind.wrap_i64]; omega
  have H := keepH h
  have H1 := keepH (h.setSteps n1)
  have HN := keepH hn1
  clear h hn1
  go_enter Try.func32, Try.ntmps32
  go_wp2_with fail
  refine (s_canStep_out th _ H1.out hth).mono ?_
  rintro e w' ⟨rfl, rfl⟩
  go_wp2_with fail
  go_ret
  exact ⟨by simp, by rw [← HN.out]; exact H1.out, ⟨(Chg.refl G W).setCell (fun _ => H.out.inr) _, fun _ e => .inl e⟩⟩
set_option maxRecDepth 100000 in
theorem r_pick_done {g c : Nat} (i : Nat) (x : Thr) (W : World) (h : RunAt W G r m vw (.slice (some ⟨g, 0, none⟩) ths.length c) ev av ths steps evs ats) (hx : ths[i]? = some x) (hd : x.calls.length ≤ x.next) (hst : steps < 1099511627776) :
    Calls Try.prog 32 #[.pointer (some ⟨r, 0, none⟩), .int .i64 (i : Int)] W fun e W' => e = .returned (.bool false) ∧ RunAt W' G r m vw (.slice (some ⟨g, 0, none⟩) ths.length c) ev av ths (steps + 1) evs ats ∧ Goes W W' G G := by
  have c1 : W.cell? ⟨r, 66, none⟩ = some (.int .i64 (steps : Int)) := h.cellk 1
  have f1 := h.free 66
  obtain ⟨n1, hn1⟩ : ∃ n1, n1 = steps + 1 := ⟨_, rfl⟩
  have wn : IntKind.i64.wrap ((steps : Int) + 1) = (n1 : Int) := by rw [IntKind.wrap_i64]; omega
  have H := keepH h
  have H1 := keepH (h.setSteps n1)
  have HN := keepH hn1
  have t1 : decide (x.next < x.calls.length) = false := by simp; omega
  clear h hn1
  go_enter Try.func32, Try.ntmps32
  go_wp2_with fail
  refine (s_canStep_in i x _ H1.out hx).mono ?_
  rintro e w' ⟨rfl, q, rfl⟩
  go_wp2_with fail
  go_ret
  refine ⟨by simp, ?_, ⟨((Chg.refl G W).setCell (fun _ => H.out.inr) _).trans (Goes.drewN _ G q).chg (fun _ _ x => x) (fun _ _ x => x), fun _ e => .inl e⟩⟩
  rw [← HN.out]
  exact H1.out.kept (Nat.le_refl _) (fun _ _ => rfl)
end

/-- What a pick leaves of a thread, of the events, of the steps of accesses. -/
def pickThr (x : Thr) (d : Bool) : Thr := { x with next := x.next + (if d then 1 else 0), begun := !d }
def pickEvs (evs : List Ev) (x : Thr) (steps i : Nat) (d : Bool) : List Ev :=
  (if x.begun then evs else evs ++ [⟨(steps : Int), (i : Int), (x.next : Int), false⟩]) ++ (if d then [⟨(steps : Int), (i : Int), (x.next : Int), true⟩] else [])

/-- One event more. -/
theorem ev_more {X Y : World} {r m : Nat} {vw : List Value} {tv ev av : Value} {ths : List Thr} {steps : Nat} {evs : List Ev} {ats : List Int} {G : Nat → Prop} {g' c' : Nat} {ob : Obj} {y : Ev} (h : RunAt X G r m vw tv ev av ths steps evs ats)
    (hg : ((X.drew).alloc ob).grownBy Y ev.ownBlock) (ho : Y.ownsRow 0 112 4 (.slice (some ⟨g', 0, none⟩) (evs.length + 1) c') (evs.length + 1) (evRow evs ++ y.cells)) (hw : ev.ownBlock = some g' ∨ X.heap.size ≤ g') :
    RunAt (Y.setCell ⟨r, 67, none⟩ (.slice (some ⟨g', 0, none⟩) (evs.length + 1) c')) (fun k => G k ∨ k = g') r m vw tv (.slice (some ⟨g', 0, none⟩) (evs.length + 1) c') av ths steps (evs ++ [y]) ats ∧
      Goes X (Y.setCell ⟨r, 67, none⟩ (.slice (some ⟨g', 0, none⟩) (evs.length + 1) c')) G (fun k => G k ∨ k = g') := by
  have hs : X.heap.size ≤ Y.heap.size := by have := hg.size; simp at this; omega
  have hy : ∀ k, G k → ev.ownBlock ≠ some k → Y.heap[k]? = X.heap[k]? := fun k hk hn => (hg.block k (by have := h.lt k hk; simp; omega) (fun e => hn e.symm)).trans (Below.heap_alloc X.drew ob k (h.lt k hk))
  have row : Y.ownsRow 0 112 4 (.slice (some ⟨g', 0, none⟩) (evs.length + 1) c') (evs ++ [y]).length (evRow (evs ++ [y])) := by simpa [evRow] using ho
  have e := h.setEvents hy hs row
  have eG : (fun k => G k ∨ (Value.slice (some ⟨g', 0, none⟩) (evs.length + 1) c').ownBlock = some k) = (fun k => G k ∨ k = g') := by funext k; simp [Value.ownBlock, eq_comm]
  rw [eG] at e
  refine ⟨e, ⟨?_, fun k hk => hk.elim .inl (fun e => hw.elim (fun e2 => .inl (h.ine k (by rw [e]; exact e2))) (fun e2 => .inr (by omega)))⟩⟩
  exact (((Chg.refl G X).drew.alloc ob).grown hg (fun k e _ => h.ine k e)).setCell (fun _ => h.inr) _
end Go.Proofs.Ytkfmpebhibnniaa
