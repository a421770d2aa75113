/- What comes in: a span, spans, events, ints, bools. -/
import Derived.Lib.SmallJoins
import Derived.Deep.Slices
import Derived.Carry
import Derived.OpenShut
import Derived.Test.YtfohpbpekdcneaaDoorHSpansP
namespace Go.Proofs.YtfohpbpekdcneaaDoor
open Go.RowKit Go.Joins Go.ChangeShapes Go.WideShapes Go.Deep

theorem coInt : Tryd.prog.cellsOf 3 = 1 := by kernel_rfl
theorem coBool : Tryd.prog.cellsOf 4 = 1 := by kernel_rfl
theorem coSpan : Tryd.prog.cellsOf 38 = 4 := by kernel_rfl
theorem coEvent : Tryd.prog.cellsOf 53 = 4 := by kernel_rfl
theorem list4 {α : Type} {cs : List α} (h : cs.length = 4) : ∃ c0 c1 c2 c3, cs = [c0, c1, c2, c3] := by
  match cs, h with
  | [c0, c1, c2, c3], _ => exact ⟨c0, c1, c2, c3, rfl⟩
theorem isI_wf {n : Int} (h : (Lit.int .i64 n).wf = true) : isI n := by
  have b := bounds_i64 h
  exact ⟨by omega, by omega⟩

theorem span_cells {H : Type} {enc : TypeId × Value → H} {W : World} {sp : Nat → Bool} {held : Bool} {fuel : Nat} {cs : List Value} {x : DataW H × List MemPlace} (hf : DataW.trod enc Tryd.prog W 0 sp held fuel 38 cs = some x) : ∃ s : Sp, cs = s.cells ∧ s.Ok := by
  obtain ⟨xs, n, rfl, rfl, hl, hlen, hh⟩ := DataW.trod_struct Tryd.underlying38 hf
  rw [coSpan] at hl
  obtain ⟨c0, c1, c2, c3, rfl⟩ := list4 hl
  obtain ⟨y0, y1, y2, y3, rfl⟩ := list4 (show xs.length = 4 from hlen)
  have h0 : DataW.trod enc Tryd.prog W 0 sp held n 3 [c0] = some y0 := by have := hh 0 _ rfl; simpa [coInt] using this
  have h1 : DataW.trod enc Tryd.prog W 0 sp held n 3 [c1] = some y1 := by have := hh 1 _ rfl; simpa [coInt] using this
  have h2 : DataW.trod enc Tryd.prog W 0 sp held n 3 [c2] = some y2 := by have := hh 2 _ rfl; simpa [coInt] using this
  have h3 : DataW.trod enc Tryd.prog W 0 sp held n 3 [c3] = some y3 := by have := hh 3 _ rfl; simpa [coInt] using this
  obtain ⟨a, e0, _, w0⟩ := DataW.trod_int Tryd.underlying3 h0
  obtain ⟨b, e1, _, w1⟩ := DataW.trod_int Tryd.underlying3 h1
  obtain ⟨c, e2, _, w2⟩ := DataW.trod_int Tryd.underlying3 h2
  obtain ⟨d, e3, _, w3⟩ := DataW.trod_int Tryd.underlying3 h3
  simp at e0 e1 e2 e3
  subst e0 e1 e2 e3
  exact ⟨⟨a, b, c, d⟩, rfl, ⟨isI_wf w0, isI_wf w1, isI_wf w2, isI_wf w3⟩⟩
theorem event_cells {H : Type} {enc : TypeId × Value → H} {W : World} {sp : Nat → Bool} {held : Bool} {fuel : Nat} {cs : List Value} {x : DataW H × List MemPlace} (hf : DataW.trod enc Tryd.prog W 0 sp held fuel 53 cs = some x) : ∃ s : Evt, cs = s.cells ∧ s.Ok := by
  obtain ⟨xs, n, rfl, rfl, hl, hlen, hh⟩ := DataW.trod_struct Tryd.underlying53 hf
  rw [coEvent] at hl
  obtain ⟨c0, c1, c2, c3, rfl⟩ := list4 hl
  obtain ⟨y0, y1, y2, y3, rfl⟩ := list4 (show xs.length = 4 from hlen)
  have h0 : DataW.trod enc Tryd.prog W 0 sp held n 3 [c0] = some y0 := by have := hh 0 _ rfl; simpa [coInt] using this
  have h1 : DataW.trod enc Tryd.prog W 0 sp held n 3 [c1] = some y1 := by have := hh 1 _ rfl; simpa [coInt] using this
  have h2 : DataW.trod enc Tryd.prog W 0 sp held n 3 [c2] = some y2 := by have := hh 2 _ rfl; simpa [coInt] using this
  have h3 : DataW.trod enc Tryd.prog W 0 sp held n 4 [c3] = some y3 := by have := hh 3 _ rfl; simpa [coBool] using this
  obtain ⟨a, e0, _, w0⟩ := DataW.trod_int Tryd.underlying3 h0
  obtain ⟨b, e1, _, w1⟩ := DataW.trod_int Tryd.underlying3 h1
  obtain ⟨c, e2, _, w2⟩ := DataW.trod_int Tryd.underlying3 h2
  obtain ⟨d, e3, _⟩ := DataW.trod_bool Tryd.underlying4 h3
  simp at e0 e1 e2 e3
  subst e0 e1 e2 e3
  exact ⟨⟨a, b, c, d⟩, rfl, ⟨isI_wf w0, isI_wf w1, isI_wf w2⟩⟩

set_option maxRecDepth 100000 in
theorem span_open {H : Type} {enc : TypeId × Value → H} {W : World} {sp : Nat → Bool} {held : Bool} {r : Reach} {b0 : Nat} {v : Value} {d : DataW H} {ps : List MemPlace} (hv : Value.okWide Tryd.prog W r b0 38 v) (h : DataW.Trod enc Tryd.prog W 0 sp held 38 v d ps) :
    ∃ s : Sp, v = .agg #[.int .i64 s.th, .int .i64 s.ix, .int .i64 s.fr, .int .i64 s.to] ∧ s.Ok := by
  obtain ⟨cs, rfl, _⟩ := okWide_struct Tryd.underlying38 hv
  obtain ⟨fuel, hf⟩ := h
  obtain ⟨s, e, ho⟩ := span_cells hf
  refine ⟨s, ?_, ho⟩
  congr 1
  apply Array.ext'
  simpa [Value.cells, Sp.cells] using e

theorem exists_list {α : Type} {P : Nat → α → Prop} (n : Nat) (h : ∀ i, i < n → ∃ a, P i a) : ∃ l : List α, l.length = n ∧ ∀ i a, l[i]? = some a → P i a := by
  induction n with
  | zero => exact ⟨[], rfl, fun i a e => by simp at e⟩
  | succ n ih =>
    obtain ⟨l, hl, hp⟩ := ih fun i hi => h i (by omega)
    obtain ⟨a, ha⟩ := h n (by omega)
    refine ⟨l ++ [a], by simp [hl], fun i b e => ?_⟩
    by_cases hi : i < l.length
    · rw [List.getElem?_append_left hi] at e
      exact hp i b e
    · rw [List.getElem?_append_right (by omega)] at e
      by_cases h0 : i - l.length = 0
      · rw [h0] at e
        simp at e
        subst e
        obtain rfl : i = n := by omega
        exact ha
      · obtain ⟨m, hm⟩ : ∃ m, i - l.length = m + 1 := ⟨i - l.length - 1, by omega⟩
        rw [hm] at e
        simp at e
theorem cells_each {w : World} {a : Addr} {n : Nat} {cs : List Value} (h : w.cells? 0 a n = some cs) : ∀ j u, cs[j]? = some u → w.cell? (a.add j) = some u := by
  obtain ⟨_, hl, hc⟩ := World.cells?_some h
  intro j u hj
  have hlt : j < n := by
    have := (List.getElem?_eq_some_iff.1 hj).1
    omega
  rw [hc j hlt, hj]

/-- Elements of four cells that came in. -/
theorem four_open {H : Type} {enc : TypeId × Value → H} {W : World} {sp : Nat → Bool} {held : Bool} {p : Option Addr} {n c : Nat} {d : DataW H} {ps : List MemPlace} {T E : TypeId} {α : Type} {f : α → List Value} {Q : α → Prop} (hT : Tryd.prog.underlying T = some (.slice E)) (hE : Tryd.prog.cellsOf E = 4) (f4 : ∀ x, (f x).length = 4)
    (cells : ∀ {fuel : Nat} {cs : List Value} {x : DataW H × List MemPlace}, DataW.trod enc Tryd.prog W 0 sp held fuel E cs = some x → ∃ s : α, cs = f s ∧ Q s) (h : DataW.Trod enc Tryd.prog W 0 sp held T (.slice p n c) d ps) :
    ∃ l : List α, l.length = n ∧ (∀ s ∈ l, Q s) ∧ (l = [] ∨ ∃ bk off, p = some ⟨bk, off, none⟩ ∧ bk < W.heap.size ∧ ∀ (i : Nat) s, l[i]? = some s → ∀ (j : Nat) u, (f s)[j]? = some u → W.cell? ⟨bk, off + i * 4 + j, none⟩ = some u) := by
  obtain ⟨fuel, hf⟩ := h
  rcases open_slice hT hf with ⟨hcs, _⟩ | ⟨a, len, cap, m, k, D, Pl, hcs, _, hl, hm, hme, hx, hi⟩
  · simp [Value.cells] at hcs
    obtain ⟨rfl, rfl, rfl⟩ := hcs
    exact ⟨[], rfl, fun s hs => by simp at hs, .inl rfl⟩
  · simp [Value.cells] at hcs
    obtain ⟨rfl, rfl, rfl⟩ := hcs
    have hmn : n ≤ m := by rw [hme]; split <;> omega
    rcases Nat.eq_zero_or_pos n with h0 | h0
    · exact ⟨[], h0.symm, fun s hs => by simp at hs, .inl rfl⟩
    · obtain ⟨bk, off, spot⟩ := a
      have hrow : ∀ i, i < n → ∃ o : α, (∀ j u, (f o)[j]? = some u → W.cell? ((⟨bk, off, spot⟩ : Addr).add (i * 4 + j)) = some u) ∧ Q o := fun i hin => by
        obtain ⟨cs', hc, ht⟩ := hi i (by omega)
        obtain ⟨o, e, ho⟩ := cells ht
        refine ⟨o, fun j u hj => ?_, ho⟩
        rw [hE] at hc
        have e2 := cells_each hc j u (by rw [e]; exact hj)
        have e3 : ((⟨bk, off, spot⟩ : Addr).add (i * 4)).add j = (⟨bk, off, spot⟩ : Addr).add (i * 4 + j) := by
          unfold Addr.add
          split <;> split <;> simp_all <;> omega
        rw [← e3]
        exact e2
      have hsome : ∀ o : α, ∃ u, (f o)[0]? = some u := fun o => ⟨_, List.getElem?_eq_getElem (by rw [f4]; omega)⟩
      have hspot : spot = none := by
        obtain ⟨o, ho, _⟩ := hrow 0 h0
        obtain ⟨u, hu⟩ := hsome o
        have c0 := ho 0 u hu
        simpa [Addr.add] using World.cell?_spot c0
      subst hspot
      have hbk : bk < W.heap.size := by
        obtain ⟨o, ho, _⟩ := hrow 0 h0
        obtain ⟨u, hu⟩ := hsome o
        have c0 := ho 0 u hu
        by_cases cb : bk < W.heap.size
        · exact cb
        · simp [World.cell?, Addr.add, Array.getElem?_eq_none (show W.heap.size ≤ bk by omega)] at c0
      obtain ⟨ops, hlen, hops⟩ := exists_list n hrow
      refine ⟨ops, hlen, fun s hs => ?_, .inr ⟨bk, off, rfl, hbk, fun i o ho j u hj => ?_⟩⟩
      · obtain ⟨i, hi2⟩ := List.getElem?_of_mem hs
        exact (hops i s hi2).2
      · have e := (hops i o ho).1 j u hj
        have e3 : (⟨bk, off, none⟩ : Addr).add (i * 4 + j) = ⟨bk, off + i * 4 + j, none⟩ := by
          unfold Addr.add
          split
          · simp
          · simp; omega
        rw [← e3]
        exact e
theorem spans_open {H : Type} {enc : TypeId × Value → H} {W : World} {sp : Nat → Bool} {held : Bool} {p : Option Addr} {n c : Nat} {d : DataW H} {ps : List MemPlace} (h : DataW.Trod enc Tryd.prog W 0 sp held 22 (.slice p n c) d ps) :
    ∃ l : List Sp, l.length = n ∧ (∀ s ∈ l, s.Ok) ∧ SReads W p l := four_open Tryd.underlying22 coSpan (fun _ => rfl) (fun hf => span_cells hf) h
theorem events_open {H : Type} {enc : TypeId × Value → H} {W : World} {sp : Nat → Bool} {held : Bool} {p : Option Addr} {n c : Nat} {d : DataW H} {ps : List MemPlace} (h : DataW.Trod enc Tryd.prog W 0 sp held 54 (.slice p n c) d ps) :
    ∃ l : List Evt, l.length = n ∧ (∀ s ∈ l, s.Ok) ∧ EReads W p l := four_open Tryd.underlying54 coEvent (fun _ => rfl) (fun hf => event_cells hf) h
end Go.Proofs.YtfohpbpekdcneaaDoor
