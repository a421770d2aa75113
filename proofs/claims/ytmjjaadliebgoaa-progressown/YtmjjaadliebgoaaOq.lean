/- A result that comes in. -/
import Derived.Test.YtmjjaadliebgoaaOo
namespace Go.Proofs.Ytmjjaadliebgoaa
open Go.RowKit Go.Joins Go.ChangeShapes Go.WideShapes Go.Deep
set_option linter.unusedVariables false

theorem cells_each {w : World} {a : Addr} {n : Nat} {cs : List Value} (h : w.cells? 0 a n = some cs) : ∀ j u, cs[j]? = some u → w.cell? (a.add j) = some u := by
  obtain ⟨_, hl, hc⟩ := World.cells?_some h
  intro j u hj
  have hlt : j < n := by
    have := (List.getElem?_eq_some_iff.1 hj).1
    omega
  rw [hc j hlt, hj]
theorem choose_list {α : Type} {P : Nat → α → Prop} (n : Nat) (h : ∀ i, i < n → ∃ a, P i a) : ∃ l : List α, l.length = n ∧ ∀ (i : Nat) (a : α), l[i]? = some a → P i a := by
  induction n with
  | zero => exact ⟨[], rfl, fun i a e => by simp at e⟩
  | succ n ih =>
    obtain ⟨l, hl, hp⟩ := ih (fun i hi => h i (by omega))
    obtain ⟨a, ha⟩ := h n (by omega)
    refine ⟨l ++ [a], by simp [hl], fun i b e => ?_⟩
    by_cases c : i < n
    · rw [List.getElem?_append_left (by omega)] at e
      exact hp i b e
    · have hi : i = n := by
        have := (List.getElem?_eq_some_iff.1 e).1
        simp [hl] at this
        omega
      subst hi
      rw [← hl] at e
      simp at e
      subst e
      exact ha
theorem slice_rows {H : Type} {enc : TypeId × Value → H} {W : World} {sp : Nat → Bool} {held : Bool} {fuel : Nat} {cs : List Value} {x : DataW H × List MemPlace} {T E : TypeId} {s : Nat} {Q : List Value → Prop} (hT : Try.prog.underlying T = some (.slice E)) (hs : Try.prog.cellsOf E = s) (hs0 : 0 < s)
    (hQ : ∀ fuel cs y, DataW.trod enc Try.prog W 0 sp held fuel E cs = some y → Q cs ∧ cs.length = s) (hf : DataW.trod enc Try.prog W 0 sp held fuel T cs = some x) :
    ∃ p n c, cs = [.slice p n c] ∧ (n = 0 ∨ ∃ bk off, p = some ⟨bk, off, none⟩ ∧ bk < W.heap.size ∧ ∀ i, i < n → ∃ cs' : List Value, Q cs' ∧ ∀ (j : Nat) (u : Value), cs'[j]? = some u → W.cell? ⟨bk, off + (i * s + j), none⟩ = some u) := by
  rcases open_slice hT hf with ⟨hcs, _⟩ | ⟨a, len, cap, m, k, D, Pl, hcs, _, hl, hm, hme, hx, hi⟩
  · exact ⟨none, 0, 0, hcs, .inl rfl⟩
  · have hmn : len ≤ m := by rw [hme]; split <;> omega
    refine ⟨some a, len, cap, hcs, ?_⟩
    rcases Nat.eq_zero_or_pos len with h0 | h0
    · exact .inl h0
    · obtain ⟨bk, off, spot⟩ := a
      have hrow : ∀ i, i < len → ∃ cs' : List Value, (Q cs' ∧ cs'.length = s) ∧ ∀ (j : Nat) (u : Value), cs'[j]? = some u → W.cell? ((⟨bk, off, spot⟩ : Addr).add (i * s + j)) = some u := fun i hin => by
        obtain ⟨cs', hc, ht⟩ := hi i (by omega)
        refine ⟨cs', hQ _ _ _ ht, fun j u hj => ?_⟩
        rw [hs] at hc
        have e2 := cells_each hc j u hj
        have e3 : ((⟨bk, off, spot⟩ : Addr).add (i * s)).add j = (⟨bk, off, spot⟩ : Addr).add (i * s + j) := by
          unfold Addr.add
          split <;> split <;> simp_all <;> omega
        rw [← e3]
        exact e2
      have h00 : ∃ u, W.cell? ((⟨bk, off, spot⟩ : Addr).add 0) = some u := by
        obtain ⟨cs', ⟨_, hl'⟩, ho⟩ := hrow 0 h0
        obtain ⟨u, hu⟩ : ∃ u, cs'[0]? = some u := ⟨cs'[0]'(by omega), List.getElem?_eq_getElem _⟩
        exact ⟨u, by simpa using ho 0 u hu⟩
      obtain ⟨u, hu⟩ := h00
      have hspot : spot = none := by simpa [Addr.add] using World.cell?_spot hu
      subst hspot
      have hbk : bk < W.heap.size := World.block_lt_of_cell? W _ hu
      refine .inr ⟨bk, off, rfl, hbk, fun i hin => ?_⟩
      obtain ⟨cs', ⟨hq, _⟩, ho⟩ := hrow i hin
      refine ⟨cs', hq, fun j u hj => ?_⟩
      have e := ho j u hj
      unfold Addr.add at e
      split at e
      · rename_i z
        have z0 : i * s + j = 0 := by simpa using z
        rw [z0]
        exact e
      · exact e
theorem slice_size {H : Type} {enc : TypeId × Value → H} {W : World} {sp : Nat → Bool} {held : Bool} {p : Option Addr} {n c : Nat} {d : DataW H} {ps : List MemPlace} {T E : TypeId} {ts : List TypeId} {ds : List (DataW H)} {j : Nat} (hT : Try.prog.underlying T = some (.slice E)) (h : DataW.Trod enc Try.prog W 0 sp held T (.slice p n c) d ps)
    (hsz : (DataW.weightsEach Try.prog ts ds).all (· ≤ reachBytes) = true) (ht : ts[j]? = some T) (hd : ds[j]? = some d) : n * Try.prog.bytesOf E ≤ reachBytes := by
  obtain ⟨fuel, hf⟩ := h
  rcases open_slice hT hf with ⟨hcs, _⟩ | ⟨a, len, cap, m, k, D, Pl, hcs, _, hl, hm, hme, hx, hi⟩
  · simp [Value.cells] at hcs
    obtain ⟨rfl, rfl, rfl⟩ := hcs
    simp
  · simp [Value.cells] at hcs
    obtain ⟨rfl, rfl, rfl⟩ := hcs
    simp only [Prod.mk.injEq] at hx
    rw [hx.1] at hd
    have sz := sized_slice hsz ht hd hT
    refine Nat.le_trans (Nat.mul_le_mul_right _ ?_) sz
    simp
theorem list_of {α : Type} {W : World} {T E : TypeId} {s : Nat} {p : Option Addr} {n : Nat} {f : α → List Value} {Q : α → Prop} (h : n = 0 ∨ ∃ bk off, p = some ⟨bk, off, none⟩ ∧ bk < W.heap.size ∧ ∀ i, i < n → ∃ cs' : List Value, (∃ a, cs' = f a ∧ Q a) ∧ ∀ (j : Nat) (u : Value), cs'[j]? = some u → W.cell? ⟨bk, off + (i * s + j), none⟩ = some u) :
    ∃ l : List α, l.length = n ∧ RReads W p s (l.map f) ∧ ∀ a ∈ l, Q a := by
  rcases h with rfl | ⟨bk, off, rfl, hb, h⟩
  · exact ⟨[], rfl, .inl rfl, by simp⟩
  · obtain ⟨l, hl, hp⟩ := choose_list (P := fun i a => Q a ∧ W.rangeAt bk (off + i * s) (f a)) n (fun i hi => by
      obtain ⟨cs', ⟨a, rfl, q⟩, hc⟩ := h i hi
      exact ⟨a, q, fun j u hu => by rw [Nat.add_assoc]; exact hc j u hu⟩)
    refine ⟨l, hl, .inr ⟨bk, off, rfl, hb, fun i c hx => ?_⟩, fun a ha => ?_⟩
    · rw [List.getElem?_map] at hx
      obtain ⟨a, ha, rfl⟩ := Option.map_eq_some_iff.1 hx
      exact (hp i a ha).2
    · obtain ⟨i, hi, e⟩ := List.getElem_of_mem ha
      exact (hp i a (by rw [← e]; exact List.getElem?_eq_getElem hi)).1
theorem ints_of {W : World} {p : Option Addr} {l : List Int} (h : RReads W p 1 (l.map fun z => [.int .i64 z])) : IReads W p l := by
  rcases h with h | ⟨bk, off, rfl, hb, h⟩
  · exact .inl (List.map_eq_nil_iff.1 h)
  · refine .inr ⟨bk, off, rfl, hb, fun i x hx => ?_⟩
    have := h i [.int .i64 x] (by simp [hx]) 0 _ rfl
    simpa using this
theorem co_22 : Try.prog.cellsOf 22 = 1 := by kernel_rfl
theorem co_23 : Try.prog.cellsOf 23 = 1 := by kernel_rfl
theorem co_24 : Try.prog.cellsOf 24 = 1 := by kernel_rfl
theorem co_26 : Try.prog.cellsOf 26 = 3 := by kernel_rfl
theorem by_58 : Try.prog.bytesOf 58 = 208 := by kernel_rfl
theorem by_44 : Try.prog.bytesOf 44 = 80 := by kernel_rfl
theorem by_3 : Try.prog.bytesOf 3 = 8 := by kernel_rfl
theorem res_open {H : Type} {enc : TypeId × Value → H} {W : World} {sp : Nat → Bool} {held : Bool} {cs : Array Value} {d : DataW H} {ps : List MemPlace} (h : DataW.Trod enc Try.prog W 0 sp held 26 (.agg cs) d ps) (hw : ∀ m ∈ DataW.weights Try.prog 26 d, m ≤ reachBytes) : ∃ r : ResA, cs = r.cells.toArray ∧ r.At W := by
  obtain ⟨fuel, hf⟩ := h
  obtain ⟨xs, n, hn, hx, hl, hlen, hh⟩ := DataW.trod_struct Try.underlying26 hf
  rw [co_26] at hl
  obtain ⟨y0, y1, y2, rfl⟩ : ∃ y0 y1 y2, xs = [y0, y1, y2] := by
    match xs, (show xs.length = 3 from hlen) with
    | [a, b, c], _ => exact ⟨a, b, c, rfl⟩
  have h0 : DataW.trod enc Try.prog W 0 sp held n 22 ((cs.toList.drop 0).take (Try.prog.cellsOf 22)) = some y0 := hh 0 _ rfl
  have h1 : DataW.trod enc Try.prog W 0 sp held n 23 ((cs.toList.drop 1).take (Try.prog.cellsOf 23)) = some y1 := hh 1 _ rfl
  have h2 : DataW.trod enc Try.prog W 0 sp held n 24 ((cs.toList.drop 2).take (Try.prog.cellsOf 24)) = some y2 := hh 2 _ rfl
  rw [co_22] at h0
  rw [co_23] at h1
  rw [co_24] at h2
  obtain ⟨pd, nd, cd, e0, q0⟩ := slice_rows (s := 22) (Q := fun cs => ∃ d : DidA, cs = d.cells ∧ (Lit.int .i64 d.tz).wf = true ∧ (Lit.int .i64 d.th).wf = true) Try.underlying22 co_58 (by decide) (fun fuel cs y hy => did_open hy) h0
  obtain ⟨pt, nt, ct, e1, q1⟩ := slice_rows (s := 8) (Q := fun cs => ∃ a : AccA, cs = a.cells ∧ (Lit.int .i64 a.th).wf = true) Try.underlying23 co_44 (by decide) (fun fuel cs y hy => acc_open hy) h1
  obtain ⟨pI, nI, cI, e2, q2⟩ := slice_rows (s := 1) (Q := fun cs => ∃ z : Int, cs = [.int .i64 z] ∧ (Lit.int .i64 z).wf = true) Try.underlying24 co_3 (by decide) (fun fuel cs y hy => by
    obtain ⟨z, e, _, w⟩ := DataW.trod_int Try.underlying3 hy
    exact ⟨⟨z, e, w⟩, by rw [e]; rfl⟩) h2
  have s0 := cut_next e0
  have s1 := cut_next e1
  have s2 := cut_next e2
  have z : cs.toList.drop 3 = [] := List.drop_eq_nil_of_le (by have : cs.toList.length = 3 := hl; omega)
  rw [z] at s2
  rw [s2] at s1
  rw [s1] at s0
  have ec : cs.toList = [.slice pd nd cd, .slice pt nt ct, .slice pI nI cI] := (List.drop_zero (l := cs.toList)).symm.trans s0
  obtain ⟨ds, hds, rd, wd⟩ := list_of (T := 22) (E := 58) q0
  obtain ⟨ts, hts, rt, wt⟩ := list_of (T := 23) (E := 44) q1
  obtain ⟨ss, hss, rs, ws⟩ := list_of (T := 24) (E := 3) q2
  simp only [Prod.mk.injEq] at hx
  have HW : (DataW.weightsEach Try.prog [22, 23, 24] [y0.1, y1.1, y2.1]).all (· ≤ reachBytes) = true := by
    rw [List.all_eq_true]
    intro m hm
    have q := hw m (by rw [hx.1]; simpa [DataW.weights, Try.underlying26] using hm)
    simpa using q
  have z0 := slice_size (j := 0) Try.underlying22 (show DataW.Trod enc Try.prog W 0 sp held 22 (.slice pd nd cd) y0.1 y0.2 from ⟨n, by rw [e0] at h0; simpa [Value.cells] using h0⟩) HW rfl rfl
  have z1 := slice_size (j := 1) Try.underlying23 (show DataW.Trod enc Try.prog W 0 sp held 23 (.slice pt nt ct) y1.1 y1.2 from ⟨n, by rw [e1] at h1; simpa [Value.cells] using h1⟩) HW rfl rfl
  have z2 := slice_size (j := 2) Try.underlying24 (show DataW.Trod enc Try.prog W 0 sp held 24 (.slice pI nI cI) y2.1 y2.2 from ⟨n, by rw [e2] at h2; simpa [Value.cells] using h2⟩) HW rfl rfl
  rw [by_58] at z0
  rw [by_44] at z1
  rw [by_3] at z2
  unfold reachBytes at z0 z1 z2
  subst hds hts hss
  refine ⟨⟨ds, ts, ss, pd, cd, pt, ct, pI, cI⟩, ?_, rd, rt, ints_of rs, by simp only; omega, by simp only; omega, by simp only; omega, fun d hd => (wd d hd).1, ws, wt, fun d hd => (wd d hd).2⟩
  apply Array.ext'
  exact ec
end Go.Proofs.Ytmjjaadliebgoaa
