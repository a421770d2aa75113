/- What comes in: an operation of a script, read cell by cell. -/
import Derived.Lib.SmallJoins
import Derived.Deep.Slices
import Derived.Carry
import Derived.OpenShut
import Derived.Test.YtdhlgmbmpipppaaNote
namespace Go.Proofs.Ytdhlgmbmpipppaa
open Go.RowKit Go.Shelf Go.Joins Go.ChangeShapes Go.WideShapes

theorem co3 : Try.prog.cellsOf 3 = 1 := by kernel_rfl
theorem co33 : Try.prog.cellsOf 27 = 1 := by kernel_rfl
theorem co34 : Try.prog.cellsOf 28 = 1 := by kernel_rfl
theorem co36 : Try.prog.cellsOf 30 = 7 := by kernel_rfl

theorem nat_u64 {n : Int} (h : (Lit.int .u64 n).wf = true) : ∃ m : Nat, n = (m : Int) ∧ m < 18446744073709551616 := by
  have b := bounds_u64 h
  exact ⟨n.toNat, by omega, by omega⟩

theorem bulk_one {H : Type} (d : DataW H) : 1 ≤ Rows.uptoBulk d := by
  cases d with
  | lit l => cases l <;> simp [Rows.uptoBulk]
  | nil => simp [Rows.uptoBulk]
  | ptr d => simp [Rows.uptoBulk]
  | slice elems spare => simp [Rows.uptoBulk]
  | agg parts => simp [Rows.uptoBulk]
  | iface t d => simp [Rows.uptoBulk]
  | map entries => simp [Rows.uptoBulk]
  | held h => simp [Rows.uptoBulk]
theorem bulk_length {H : Type} (l : List (DataW H)) : l.length ≤ Rows.uptoBulkAll l := by
  induction l with
  | nil => simp [Rows.uptoBulkAll]
  | cons x r ih => have := bulk_one x; simp only [Rows.uptoBulkAll, List.length_cons]; omega

theorem bulk_mem {H : Type} {d : DataW H} {l : List (DataW H)} (h : d ∈ l) : Rows.uptoBulk d ≤ Rows.uptoBulkAll l := by
  induction l with
  | nil => simp at h
  | cons x r ih =>
    simp only [Rows.uptoBulkAll]
    rcases List.mem_cons.1 h with rfl | h
    · omega
    · have := ih h
      omega

/-- A list of numbers that came in. -/
theorem u64s_cells {H : Type} {enc : TypeId × Value → H} {W : World} {sp : Nat → Bool} {held : Bool} {fuel : Nat} {cs : List Value} {x : DataW H × List MemPlace} (hf : DataW.trod enc Try.prog W 0 sp held fuel 28 cs = some x) :
    ∃ p c vals, cs = [.slice p (vals : List Nat).length c] ∧ Reads W p vals ∧ (∀ v ∈ vals, v < 18446744073709551616) ∧ (∀ q, p = some q → vals ≠ [] → q.block < W.heap.size) ∧ vals.length ≤ Rows.uptoBulk x.1 := by
  rcases open_ints Try.underlying28 Try.underlying27 co33 hf with ⟨hcs, _⟩ | ⟨a, len, cap, zs, hcs, _, hl, hm, hz, hx, hcell, hwz⟩
  · exact ⟨none, 0, [], hcs, .inl rfl, fun v hv => by simp at hv, fun q e => by simp at e, Nat.zero_le _⟩
  · have hzl : len ≤ zs.length := by rw [hz]; split <;> omega
    have hv : ∀ j, j < len → zs.getD j 0 = ((zs.getD j 0).toNat : Int) ∧ (zs.getD j 0).toNat < 18446744073709551616 := fun j hj => by
      have hm2 : zs.getD j 0 ∈ zs := by
        rw [List.getD_eq_getElem?_getD, List.getElem?_eq_getElem (show j < zs.length by omega)]
        exact List.getElem_mem _
      have := bounds_u64 (hwz _ hm2)
      omega
    refine ⟨some a, cap, (List.range len).map (fun j => (zs.getD j 0).toNat), by rw [hcs]; simp, ?_, ?_, ?_, ?_⟩
    · refine .inr ⟨a, rfl, fun j u hj => ?_⟩
      have hjl : j < len := by
        by_cases c : j < len
        · exact c
        · simp [List.getElem?_eq_none (show (List.range len).length ≤ j by simp; omega)] at hj
      have e := hcell j (by omega)
      rw [(hv j hjl).1] at e
      simp [hjl, u64V] at hj
      rw [e, ← hj]
      simp
    · intro v hv2
      obtain ⟨j, hj, rfl⟩ := List.mem_map.1 hv2
      exact (hv j (List.mem_range.1 hj)).2
    · intro q e hne
      cases e
      have hl0 : 0 < len := by
        rcases Nat.eq_zero_or_pos len with e | e
        · subst e
          simp at hne
        · exact e
      have e := hcell 0 (by omega)
      by_cases cb : a.block < W.heap.size
      · exact cb
      · simp [World.cell?, Addr.add, Array.getElem?_eq_none (show W.heap.size ≤ a.block by omega)] at e
    · rw [hx]
      have := bulk_length (H := H) (lits .u64 (zs.take len))
      simp only [Rows.uptoBulk]
      have e : (lits (H := H) .u64 (zs.take len)).length = len := by simp [lits]; omega
      simp only [List.length_map, List.length_range]
      omega

theorem list7 {α : Type} {cs : List α} (h : cs.length = 7) : ∃ c0 c1 c2 c3 c4 c5 c6, cs = [c0, c1, c2, c3, c4, c5, c6] := by
  match cs, h with
  | [c0, c1, c2, c3, c4, c5, c6], _ => exact ⟨c0, c1, c2, c3, c4, c5, c6, rfl⟩

def opCells (k wh th : Int) (ad a b : Nat) (p : Option Addr) (n c : Nat) : List Value := [.int .i64 k, .int .i64 wh, .int .i64 th, .int .u64 (ad : Int), .int .u64 (a : Int), .int .u64 (b : Int), .slice p n c]
def isI64 (x : Int) : Prop := -9223372036854775808 ≤ x ∧ x < 9223372036854775808

theorem op_cells {H : Type} {enc : TypeId × Value → H} {W : World} {sp : Nat → Bool} {held : Bool} {fuel : Nat} {cs : List Value} {x : DataW H × List MemPlace} (hf : DataW.trod enc Try.prog W 0 sp held fuel 30 cs = some x) :
    ∃ (k wh th : Int) (ad a b : Nat) (p : Option Addr) (c : Nat) (vals : List Nat), cs = opCells k wh th ad a b p vals.length c ∧ isI64 k ∧ isI64 wh ∧ isI64 th ∧ ad < 18446744073709551616 ∧ a < 18446744073709551616 ∧ b < 18446744073709551616 ∧
      Reads W p vals ∧ (∀ v ∈ vals, v < 18446744073709551616) ∧ (∀ q, p = some q → vals ≠ [] → q.block < W.heap.size) ∧ vals.length ≤ Rows.uptoBulk x.1 := by
  obtain ⟨xs, n, rfl, rfl, hl, hlen, hh⟩ := DataW.trod_struct Try.underlying30 hf
  rw [co36] at hl
  obtain ⟨c0, c1, c2, c3, c4, c5, c6, rfl⟩ := list7 hl
  obtain ⟨y0, y1, y2, y3, y4, y5, y6, rfl⟩ := list7 (show xs.length = 7 from hlen)
  have h0 : DataW.trod enc Try.prog W 0 sp held n 3 [c0] = some y0 := by have := hh 0 _ rfl; simpa [co3] using this
  have h1 : DataW.trod enc Try.prog W 0 sp held n 3 [c1] = some y1 := by have := hh 1 _ rfl; simpa [co3] using this
  have h2 : DataW.trod enc Try.prog W 0 sp held n 3 [c2] = some y2 := by have := hh 2 _ rfl; simpa [co3] using this
  have h3 : DataW.trod enc Try.prog W 0 sp held n 27 [c3] = some y3 := by have := hh 3 _ rfl; simpa [co33] using this
  have h4 : DataW.trod enc Try.prog W 0 sp held n 27 [c4] = some y4 := by have := hh 4 _ rfl; simpa [co33] using this
  have h5 : DataW.trod enc Try.prog W 0 sp held n 27 [c5] = some y5 := by have := hh 5 _ rfl; simpa [co33] using this
  have h6 : DataW.trod enc Try.prog W 0 sp held n 28 [c6] = some y6 := by have := hh 6 _ rfl; simpa [co34] using this
  obtain ⟨k, e0, _, w0⟩ := DataW.trod_int Try.underlying3 h0
  obtain ⟨wh, e1, _, w1⟩ := DataW.trod_int Try.underlying3 h1
  obtain ⟨th, e2, _, w2⟩ := DataW.trod_int Try.underlying3 h2
  obtain ⟨ad, e3, _, w3⟩ := DataW.trod_int Try.underlying27 h3
  obtain ⟨a, e4, _, w4⟩ := DataW.trod_int Try.underlying27 h4
  obtain ⟨b, e5, _, w5⟩ := DataW.trod_int Try.underlying27 h5
  obtain ⟨p, c, vals, e6, r, hv, hb, hbk⟩ := u64s_cells h6
  obtain ⟨ad', rfl, b3⟩ := nat_u64 w3
  obtain ⟨a', rfl, b4⟩ := nat_u64 w4
  obtain ⟨b', rfl, b5⟩ := nat_u64 w5
  have i0 := bounds_i64 w0
  have i1 := bounds_i64 w1
  have i2 := bounds_i64 w2
  simp at e0 e1 e2 e3 e4 e5 e6
  subst e0 e1 e2 e3 e4 e5 e6
  exact ⟨k, wh, th, ad', a', b', p, c, vals, rfl, ⟨by omega, by omega⟩, ⟨by omega, by omega⟩, ⟨by omega, by omega⟩, b3, b4, b5, r, hv, hb, by simp only [List.map_cons, List.map_nil, Rows.uptoBulk, Rows.uptoBulkAll]; omega⟩

set_option maxRecDepth 100000 in
theorem op_open {H : Type} {enc : TypeId × Value → H} {W : World} {sp : Nat → Bool} {held : Bool} {r : Reach} {b0 : Nat} {v : Value} {d : DataW H} {ps : List MemPlace} (hv : Value.okWide Try.prog W r b0 30 v) (h : DataW.Trod enc Try.prog W 0 sp held 30 v d ps) :
    ∃ (k wh th : Int) (ad a b : Nat) (p : Option Addr) (c : Nat) (vals : List Nat), v = .agg (opCells k wh th ad a b p vals.length c).toArray ∧ isI64 k ∧ isI64 wh ∧ isI64 th ∧ ad < 18446744073709551616 ∧ a < 18446744073709551616 ∧ b < 18446744073709551616 ∧
      Reads W p vals ∧ (∀ v ∈ vals, v < 18446744073709551616) ∧ (∀ q, p = some q → vals ≠ [] → q.block < W.heap.size) := by
  obtain ⟨cs, rfl, _⟩ := okWide_struct Try.underlying30 hv
  obtain ⟨fuel, hf⟩ := h
  obtain ⟨k, wh, th, ad, a, b, p, c, vals, e, h1, h2, h3, h4, h5, h6, h7, h8, h9, _⟩ := op_cells hf
  refine ⟨k, wh, th, ad, a, b, p, c, vals, ?_, h1, h2, h3, h4, h5, h6, h7, h8, h9⟩
  congr 1
  apply Array.ext'
  simpa [Value.cells] using e
end Go.Proofs.Ytdhlgmbmpipppaa
