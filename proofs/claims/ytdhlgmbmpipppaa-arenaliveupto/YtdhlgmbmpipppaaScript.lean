/- What comes in: a script, read operation by operation; how long it is at most. -/
import Derived.Test.YtdhlgmbmpipppaaArgs
namespace Go.Proofs.Ytdhlgmbmpipppaa
open Go.RowKit Go.Shelf Go.Joins Go.ChangeShapes Go.WideShapes Go.Deep

structure OpR where
  k : Int
  wh : Int
  th : Int
  ad : Nat
  a : Nat
  b : Nat
  p : Option Addr
  c : Nat
  vals : List Nat
def OpR.cells (o : OpR) : List Value := opCells o.k o.wh o.th o.ad o.a o.b o.p o.vals.length o.c
structure OpR.Ok (W : World) (o : OpR) : Prop where
  k : isI64 o.k
  wh : isI64 o.wh
  th : isI64 o.th
  ad : o.ad < 18446744073709551616
  a : o.a < 18446744073709551616
  b : o.b < 18446744073709551616
  reads : Reads W o.p o.vals
  small : ∀ v ∈ o.vals, v < 18446744073709551616
  block : ∀ q, o.p = some q → o.vals ≠ [] → q.block < W.heap.size

def Script (W : World) (p : Option Addr) (ops : List OpR) : Prop :=
  ops = [] ∨ ∃ bk off, p = some ⟨bk, off, none⟩ ∧ bk < W.heap.size ∧ ∀ i o, ops[i]? = some o → (∀ j u, o.cells[j]? = some u → W.cell? ⟨bk, off + i * 7 + j, none⟩ = some u) ∧ o.Ok W

theorem exists_list {α : Type} {P : Nat → α → Prop} (n : Nat) (h : ∀ i, i < n → ∃ a, P i a) : ∃ l : List α, l.length = n ∧ ∀ i a, l[i]? = some a → P i a := by
  induction n with
  | zero => exact ⟨[], rfl, fun i a e => by simp at e⟩
  | succ n ih =>
    obtain ⟨l, hl, hp⟩ := ih fun i hi => h i (by omega)
    obtain ⟨a, ha⟩ := h n (by omega)
    refine ⟨l ++ [a], by simp [hl], fun i b e => ?_⟩
    by_cases hi : i < l.length
    · rw [List.getElem?_append_left hi] at e
      exact hp i b e
    · rw [List.getElem?_append_right (by omega)] at e
      by_cases h0 : i - l.length = 0
      · rw [h0] at e
        simp at e
        subst e
        obtain rfl : i = n := by omega
        exact ha
      · obtain ⟨m, hm⟩ : ∃ m, i - l.length = m + 1 := ⟨i - l.length - 1, by omega⟩
        rw [hm] at e
        simp at e

theorem cells_each {w : World} {a : Addr} {n : Nat} {cs : List Value} (h : w.cells? 0 a n = some cs) : ∀ j u, cs[j]? = some u → w.cell? (a.add j) = some u := by
  obtain ⟨_, hl, hc⟩ := World.cells?_some h
  intro j u hj
  have hlt : j < n := by
    have := (List.getElem?_eq_some_iff.1 hj).1
    omega
  rw [hc j hlt, hj]

set_option maxRecDepth 100000 in
theorem script_open {H : Type} {enc : TypeId × Value → H} {W : World} {sp : Nat → Bool} {held : Bool} {p : Option Addr} {n c : Nat} {d : DataW H} {ps : List MemPlace} (h : DataW.Trod enc Try.prog W 0 sp held 22 (.slice p n c) d ps) :
    ∃ ops : List OpR, ops.length = n ∧ Script W p ops ∧ n ≤ Rows.uptoBulk d ∧ ∀ o ∈ ops, o.vals.length ≤ Rows.uptoBulk d := by
  obtain ⟨fuel, hf⟩ := h
  rcases open_slice Try.underlying22 hf with ⟨hcs, _⟩ | ⟨a, len, cap, m, k, D, Pl, hcs, _, hl, hm, hme, hx, hi⟩
  · simp [Value.cells] at hcs
    obtain ⟨rfl, rfl, rfl⟩ := hcs
    exact ⟨[], rfl, .inl rfl, Nat.zero_le _, fun o h => by simp at h⟩
  · simp [Value.cells] at hcs
    obtain ⟨rfl, rfl, rfl⟩ := hcs
    have hmn : n ≤ m := by rw [hme]; split <;> omega
    have hb : n ≤ Rows.uptoBulk d := by
      simp only [Prod.mk.injEq] at hx
      rw [hx.1]
      have := bulk_length ((List.range n).map D)
      simp only [Rows.uptoBulk]
      simp at this
      omega
    rcases Nat.eq_zero_or_pos n with h0 | h0
    · exact ⟨[], h0.symm, .inl rfl, hb, fun o h => by simp at h⟩
    · obtain ⟨bk, off, spot⟩ := a
      have hrow : ∀ i, i < n → ∃ o : OpR, (∀ j u, o.cells[j]? = some u → W.cell? ((⟨bk, off, spot⟩ : Addr).add (i * 7 + j)) = some u) ∧ o.Ok W ∧ o.vals.length ≤ Rows.uptoBulk d := fun i hin => by
        obtain ⟨cs', hc, ht⟩ := hi i (by omega)
        obtain ⟨k, wh, th, ad, a, b, p, c, vals, e, h1, h2, h3, h4, h5, h6, h7, h8, h9, h10⟩ := op_cells ht
        have h11 : Rows.uptoBulk (D i) ≤ Rows.uptoBulk d := by
          simp only [Prod.mk.injEq] at hx
          rw [hx.1]
          have := bulk_mem (d := D i) (l := (List.range n).map D) (List.mem_map.2 ⟨i, List.mem_range.2 hin, rfl⟩)
          simp only [Rows.uptoBulk]
          omega
        refine ⟨⟨k, wh, th, ad, a, b, p, c, vals⟩, fun j u hj => ?_, ⟨h1, h2, h3, h4, h5, h6, h7, h8, h9⟩, Nat.le_trans h10 h11⟩
        rw [co36] at hc
        have e2 := cells_each hc j u (by rw [e]; exact hj)
        have e3 : ((⟨bk, off, spot⟩ : Addr).add (i * 7)).add j = (⟨bk, off, spot⟩ : Addr).add (i * 7 + j) := by
          unfold Addr.add
          split <;> split <;> simp_all <;> omega
        rw [← e3]
        exact e2
      have hspot : spot = none := by
        obtain ⟨o, ho, _⟩ := hrow 0 h0
        have c0 := ho 0 _ rfl
        simpa [Addr.add] using World.cell?_spot c0
      subst hspot
      have hbk : bk < W.heap.size := by
        obtain ⟨o, ho, _⟩ := hrow 0 h0
        have c0 := ho 0 _ rfl
        by_cases cb : bk < W.heap.size
        · exact cb
        · simp [World.cell?, Addr.add, Array.getElem?_eq_none (show W.heap.size ≤ bk by omega)] at c0
      obtain ⟨ops, hlen, hops⟩ := exists_list n hrow
      refine ⟨ops, hlen, .inr ⟨bk, off, rfl, hbk, fun i o ho => ⟨fun j u hj => ?_, (hops i o ho).2.1⟩⟩, hb, fun o ho => by obtain ⟨i, hi2⟩ := List.getElem?_of_mem ho; exact (hops i o hi2).2.2⟩
      have e := (hops i o ho).1 j u hj
      have e3 : (⟨bk, off, none⟩ : Addr).add (i * 7 + j) = ⟨bk, off + i * 7 + j, none⟩ := by
        unfold Addr.add
        split
        · simp
        · simp; omega
      rw [← e3]
      exact e
theorem Script.get {W : World} {p : Option Addr} {ops : List OpR} (h : Script W p ops) (i : Nat) (o : OpR) (ho : ops[i]? = some o) : ∃ bk off, p = some ⟨bk, off, none⟩ ∧ bk < W.heap.size ∧ (∀ j u, o.cells[j]? = some u → W.cell? ⟨bk, off + i * 7 + j, none⟩ = some u) ∧ o.Ok W := by
  rcases h with rfl | ⟨bk, off, rfl, hb, h⟩
  · simp at ho
  · exact ⟨bk, off, rfl, hb, (h i o ho).1, (h i o ho).2⟩
end Go.Proofs.Ytdhlgmbmpipppaa
