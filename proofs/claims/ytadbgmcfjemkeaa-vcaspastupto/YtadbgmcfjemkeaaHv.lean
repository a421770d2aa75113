/- What comes in: threads of calls, and picks. -/
import Derived.Lib.SmallJoins
import Derived.Deep.Slices
import Derived.Carry
import Derived.OpenShut
import Derived.SizedLaws
import Derived.Test.YtadbgmcfjemkeaaGz
namespace Go.Proofs.Ytadbgmcfjemkeaa
open Go.RowKit Go.Shelf Go.Joins Go.ChangeShapes Go.WideShapes Go.Deep
set_option linter.unusedVariables false

theorem bulk_one {H : Type} (d : DataW H) : 1 ≤ Rows.uptoBulk d := by
  cases d with
  | lit l => cases l <;> simp [Rows.uptoBulk]
  | nil => simp [Rows.uptoBulk]
  | ptr d => simp [Rows.uptoBulk]
  | slice elems spare => simp [Rows.uptoBulk]
  | agg parts => simp [Rows.uptoBulk]
  | iface t d => simp [Rows.uptoBulk]
  | map entries => simp [Rows.uptoBulk]
  | held h => simp [Rows.uptoBulk]
theorem bulk_length {H : Type} (l : List (DataW H)) : l.length ≤ Rows.uptoBulkAll l := by
  induction l with
  | nil => simp [Rows.uptoBulkAll]
  | cons x r ih => have := bulk_one x; simp only [Rows.uptoBulkAll, List.length_cons]; omega
theorem bulk_mem {H : Type} {d : DataW H} {l : List (DataW H)} (h : d ∈ l) : Rows.uptoBulk d ≤ Rows.uptoBulkAll l := by
  induction l with
  | nil => simp at h
  | cons x r ih =>
    simp only [Rows.uptoBulkAll]
    rcases List.mem_cons.1 h with rfl | h
    · omega
    · have := ih h
      omega
theorem cells_each {w : World} {a : Addr} {n : Nat} {cs : List Value} (h : w.cells? 0 a n = some cs) : ∀ j u, cs[j]? = some u → w.cell? (a.add j) = some u := by
  obtain ⟨_, hl, hc⟩ := World.cells?_some h
  intro j u hj
  have hlt : j < n := by
    have := (List.getElem?_eq_some_iff.1 hj).1
    omega
  rw [hc j hlt, hj]
def isI64 (x : Int) : Prop := -9223372036854775808 ≤ x ∧ x < 9223372036854775808
theorem choose_list {α : Type} {P : Nat → α → Prop} (n : Nat) (h : ∀ i, i < n → ∃ a, P i a) : ∃ l : List α, l.length = n ∧ ∀ (i : Nat) (a : α), l[i]? = some a → P i a := by
  induction n with
  | zero => exact ⟨[], rfl, fun i a e => by simp at e⟩
  | succ n ih =>
    obtain ⟨l, hl, hp⟩ := ih (fun i hi => h i (by omega))
    obtain ⟨a, ha⟩ := h n (by omega)
    refine ⟨l ++ [a], by simp [hl], fun i b e => ?_⟩
    by_cases c : i < n
    · rw [List.getElem?_append_left (by omega)] at e
      exact hp i b e
    · have hi : i = n := by
        have := (List.getElem?_eq_some_iff.1 e).1
        simp [hl] at this
        omega
      subst hi
      rw [← hl] at e
      simp at e
      subst e
      exact ha

/-- A list that came in: its elements' cells. -/
theorem coU : Try.prog.cellsOf 27 = 1 := by kernel_rfl
theorem list2 {α : Type} {cs : List α} (h : cs.length = 2) : ∃ c0 c1, cs = [c0, c1] := by
  match cs, h with
  | [c0, c1], _ => exact ⟨c0, c1, rfl⟩
theorem nat_u64 {n : Int} (h : (Lit.int .u64 n).wf = true) : ∃ m : Nat, n = (m : Int) ∧ m < 18446744073709551616 := by
  have b := bounds_u64 h
  exact ⟨n.toNat, by omega, by omega⟩
theorem slice_rowsM {H : Type} {enc : TypeId × Value → H} {W : World} {sp : Nat → Bool} {held : Bool} {fuel : Nat} {cs : List Value} {x : DataW H × List MemPlace} {T E : TypeId} {s : Nat} {Q : List Value → Prop} {M : Nat} (hM : Rows.uptoBulk x.1 ≤ M) (hT : Try.prog.underlying T = some (.slice E)) (hs : Try.prog.cellsOf E = s) (hs0 : 0 < s)
    (hQ : ∀ fuel cs y, DataW.trod enc Try.prog W 0 sp held fuel E cs = some y → Rows.uptoBulk y.1 ≤ M → Q cs ∧ cs.length = s) (hf : DataW.trod enc Try.prog W 0 sp held fuel T cs = some x) :
    ∃ p n c, cs = [.slice p n c] ∧ n ≤ Rows.uptoBulk x.1 ∧ (n = 0 ∨ ∃ bk off, p = some ⟨bk, off, none⟩ ∧ bk < W.heap.size ∧ ∀ i, i < n → ∃ cs' : List Value, Q cs' ∧ ∀ (j : Nat) (u : Value), cs'[j]? = some u → W.cell? ⟨bk, off + (i * s + j), none⟩ = some u) := by
  rcases open_slice hT hf with ⟨hcs, _⟩ | ⟨a, len, cap, m, k, D, Pl, hcs, _, hl, hm, hme, hx, hi⟩
  · exact ⟨none, 0, 0, hcs, Nat.zero_le _, .inl rfl⟩
  · have hmn : len ≤ m := by rw [hme]; split <;> omega
    have hb : len ≤ Rows.uptoBulk x.1 := by
      rw [hx]
      have := bulk_length ((List.range len).map D)
      simp only [Rows.uptoBulk]
      simp at this
      omega
    have hbD : ∀ i, i < len → Rows.uptoBulk (D i) ≤ M := fun i hi2 => by
      refine Nat.le_trans ?_ hM
      rw [hx]
      have := bulk_mem (d := D i) (l := (List.range len).map D) (List.mem_map.2 ⟨i, List.mem_range.2 hi2, rfl⟩)
      simp only [Rows.uptoBulk]
      omega
    refine ⟨some a, len, cap, hcs, hb, ?_⟩
    rcases Nat.eq_zero_or_pos len with h0 | h0
    · exact .inl h0
    · obtain ⟨bk, off, spot⟩ := a
      have hrow : ∀ i, i < len → ∃ cs' : List Value, (Q cs' ∧ cs'.length = s) ∧ ∀ (j : Nat) (u : Value), cs'[j]? = some u → W.cell? ((⟨bk, off, spot⟩ : Addr).add (i * s + j)) = some u := fun i hin => by
        obtain ⟨cs', hc, ht⟩ := hi i (by omega)
        refine ⟨cs', hQ _ _ _ ht (hbD i hin), fun j u hj => ?_⟩
        rw [hs] at hc
        have e2 := cells_each hc j u hj
        have e3 : ((⟨bk, off, spot⟩ : Addr).add (i * s)).add j = (⟨bk, off, spot⟩ : Addr).add (i * s + j) := by
          unfold Addr.add
          split <;> split <;> simp_all <;> omega
        rw [← e3]
        exact e2
      have h00 : ∃ u, W.cell? ((⟨bk, off, spot⟩ : Addr).add 0) = some u := by
        obtain ⟨cs', ⟨_, hl'⟩, ho⟩ := hrow 0 h0
        obtain ⟨u, hu⟩ : ∃ u, cs'[0]? = some u := ⟨cs'[0]'(by omega), List.getElem?_eq_getElem _⟩
        exact ⟨u, by simpa using ho 0 u hu⟩
      obtain ⟨u, hu⟩ := h00
      have hspot : spot = none := by simpa [Addr.add] using World.cell?_spot hu
      subst hspot
      have hbk : bk < W.heap.size := World.block_lt_of_cell? W _ hu
      refine .inr ⟨bk, off, rfl, hbk, fun i hin => ?_⟩
      obtain ⟨cs', ⟨hq, _⟩, ho⟩ := hrow i hin
      refine ⟨cs', hq, fun j u hj => ?_⟩
      have e := ho j u hj
      unfold Addr.add at e
      split at e
      · rename_i z
        have z0 : i * s + j = 0 := by simpa using z
        rw [z0]
        exact e
      · exact e



theorem coI : Try.prog.cellsOf 3 = 1 := by kernel_rfl
theorem coC : Try.prog.cellsOf 50 = 4 := by kernel_rfl
theorem coCs : Try.prog.cellsOf 51 = 1 := by kernel_rfl
theorem coCss : Try.prog.cellsOf 22 = 1 := by kernel_rfl
theorem coIs : Try.prog.cellsOf 23 = 1 := by kernel_rfl
theorem coR : Try.prog.cellsOf 25 = 2 := by kernel_rfl
theorem list4 {α : Type} {cs : List α} (h : cs.length = 4) : ∃ a b c d, cs = [a, b, c, d] := by
  match cs, h with
  | [a, b, c, d], _ => exact ⟨a, b, c, d, rfl⟩
theorem call_open {H : Type} {enc : TypeId × Value → H} {W : World} {sp : Nat → Bool} {held : Bool} {fuel : Nat} {cs : List Value} {y : DataW H × List MemPlace} (hf : DataW.trod enc Try.prog W 0 sp held fuel 50 cs = some y) :
    (∃ k : CallV, cs = k.cells ∧ k.ok) ∧ cs.length = 4 := by
  obtain ⟨xs, n, hn, hx, hl, hlen, hh⟩ := DataW.trod_struct Try.underlying50 hf
  subst hn
  rw [coC] at hl
  refine ⟨?_, hl⟩
  obtain ⟨c0, c1, c2, c3, rfl⟩ := list4 hl
  obtain ⟨y0, y1, y2, y3, rfl⟩ := list4 (show xs.length = 4 from hlen)
  have h0 : DataW.trod enc Try.prog W 0 sp held n 3 [c0] = some y0 := by have := hh 0 _ rfl; simpa [coI] using this
  have h1 : DataW.trod enc Try.prog W 0 sp held n 27 [c1] = some y1 := by have := hh 1 _ rfl; simpa [coI, coU] using this
  have h2 : DataW.trod enc Try.prog W 0 sp held n 27 [c2] = some y2 := by have := hh 2 _ rfl; simpa [coI, coU] using this
  have h3 : DataW.trod enc Try.prog W 0 sp held n 27 [c3] = some y3 := by have := hh 3 _ rfl; simpa [coI, coU] using this
  obtain ⟨z0, e0, _, w0⟩ := DataW.trod_int Try.underlying3 h0
  obtain ⟨z1, e1, _, w1⟩ := DataW.trod_int Try.underlying27 h1
  obtain ⟨z2, e2, _, w2⟩ := DataW.trod_int Try.underlying27 h2
  obtain ⟨z3, e3, _, w3⟩ := DataW.trod_int Try.underlying27 h3
  obtain ⟨m1, rfl, b1⟩ := nat_u64 w1
  obtain ⟨m2, rfl, b2⟩ := nat_u64 w2
  obtain ⟨m3, rfl, b3⟩ := nat_u64 w3
  simp at e0 e1 e2 e3
  subst e0 e1 e2 e3
  exact ⟨⟨z0, m1, m2, m3⟩, rfl, ⟨b1, b2, b3⟩⟩
structure ThrV where
  p : Option Addr
  c : Nat
  ks : List CallV
def ThrV.v (t : ThrV) : Value := .slice t.p t.ks.length t.c
def KsAt (W : World) (t : ThrV) : Prop := t.ks = [] ∨ ∃ bk off, t.p = some ⟨bk, off, none⟩ ∧ bk < W.heap.size ∧ ∀ i k, t.ks[i]? = some k → ∀ (j : Nat) (u : Value), k.cells[j]? = some u → W.cell? ⟨bk, off + (i * 4 + j), none⟩ = some u
structure ThsAt (W : World) (p : Option Addr) (L : List ThrV) : Prop where
  row : L = [] ∨ ∃ bk off, p = some ⟨bk, off, none⟩ ∧ bk < W.heap.size ∧ ∀ i t, L[i]? = some t → W.cell? ⟨bk, off + i, none⟩ = some t.v
  ks : ∀ t ∈ L, KsAt W t
  len : ∀ t ∈ L, t.ks.length ≤ 1048576
  ok : ∀ t ∈ L, ∀ k ∈ t.ks, k.ok
theorem ThsAt.chg {W X : World} {p : Option Addr} {L : List ThrV} (h : ThsAt W p L) (c : Chg (fun _ => False) W X) : ThsAt X p L := by
  refine ⟨?_, fun t ht => ?_, h.len, h.ok⟩
  · rcases h.row with e | ⟨bk, off, rfl, hb, hc⟩
    · exact .inl e
    · exact .inr ⟨bk, off, rfl, Nat.lt_of_lt_of_le hb c.size, fun i t ht => cell_chg c (hc i t ht) (fun h => h)⟩
  · rcases h.ks t ht with e | ⟨bk, off, e, hb, hc⟩
    · exact .inl e
    · exact .inr ⟨bk, off, e, Nat.lt_of_lt_of_le hb c.size, fun i k hk j u hj => cell_chg c (hc i k hk j u hj) (fun h => h)⟩
theorem ths_cells {H : Type} {enc : TypeId × Value → H} {W : World} {sp : Nat → Bool} {held : Bool} {fuel : Nat} {cs : List Value} {y : DataW H × List MemPlace} (hf : DataW.trod enc Try.prog W 0 sp held fuel 22 cs = some y) (hM : Rows.uptoBulk y.1 ≤ 1048576) :
    ∃ (p : Option Addr) (c : Nat) (L : List ThrV), cs = [.slice p L.length c] ∧ ThsAt W p L ∧ L.length ≤ 1048576 := by
  obtain ⟨p, n, c, hcs, hb, h⟩ := slice_rowsM (M := 1048576) hM (Q := fun cs => ∃ t : ThrV, cs = [t.v] ∧ KsAt W t ∧ t.ks.length ≤ 1048576 ∧ (∀ k ∈ t.ks, k.ok)) Try.underlying22 coCs (by decide) (fun fuel cs y hy hyM => by
    obtain ⟨q, m, e, hcs2, hb2, h2⟩ := slice_rowsM (M := 1048576) hyM (Q := fun cs => ∃ k : CallV, cs = k.cells ∧ k.ok) Try.underlying51 coC (by decide) (fun fuel cs y hy hyM => call_open hy) hy
    refine ⟨?_, by rw [hcs2]; rfl⟩
    rcases h2 with rfl | ⟨bk, off, rfl, hbk, h2⟩
    · exact ⟨⟨q, e, []⟩, hcs2, .inl rfl, by simp, fun k hk => by simp at hk⟩
    · obtain ⟨l, hl, hp⟩ := choose_list (P := fun i (k : CallV) => k.ok ∧ ∀ (j : Nat) (u : Value), k.cells[j]? = some u → W.cell? ⟨bk, off + (i * 4 + j), none⟩ = some u) m (fun i hi => by
        obtain ⟨cs', ⟨k, rfl, hk⟩, ho⟩ := h2 i hi
        exact ⟨k, hk, ho⟩)
      have mem : ∀ k ∈ l, k.ok := fun k hk => by
        obtain ⟨i, hi⟩ := List.mem_iff_getElem?.1 hk
        exact (hp i k hi).1
      refine ⟨⟨some ⟨bk, off, none⟩, e, l⟩, by rw [hcs2]; simp [ThrV.v, hl], .inr ⟨bk, off, rfl, hbk, fun i k hk => (hp i k hk).2⟩, by simp only [hl]; omega, mem⟩) hf
  rcases h with rfl | ⟨bk, off, rfl, hbk, h⟩
  · exact ⟨p, c, [], hcs, ⟨.inl rfl, fun t ht => by simp at ht, fun t ht => by simp at ht, fun t ht => by simp at ht⟩, by simp⟩
  · obtain ⟨l, hl, hp⟩ := choose_list (P := fun i (t : ThrV) => (KsAt W t ∧ t.ks.length ≤ 1048576 ∧ (∀ k ∈ t.ks, k.ok)) ∧ W.cell? ⟨bk, off + i, none⟩ = some t.v) n (fun i hi => by
      obtain ⟨cs', ⟨t, rfl, ht⟩, ho⟩ := h i hi
      exact ⟨t, ht, by simpa using ho 0 _ rfl⟩)
    have mem : ∀ t ∈ l, KsAt W t ∧ t.ks.length ≤ 1048576 ∧ (∀ k ∈ t.ks, k.ok) := fun t ht => by
      obtain ⟨i, hi⟩ := List.mem_iff_getElem?.1 ht
      exact (hp i t hi).1
    exact ⟨_, c, l, by rw [hcs, hl], ⟨.inr ⟨bk, off, rfl, hbk, fun i t ht => (hp i t ht).2⟩, fun t ht => (mem t ht).1, fun t ht => (mem t ht).2.1, fun t ht => (mem t ht).2.2⟩, by omega⟩
theorem run9_open {H : Type} {enc : TypeId × Value → H} {W : World} {sp : Nat → Bool} {held : Bool} {cs : Array Value} {d : DataW H} {ps : List MemPlace} (h : DataW.Trod enc Try.prog W 0 sp held 25 (.agg cs) d ps) (hM : Rows.uptoBulk d ≤ 1048576) :
    ∃ (pt : Option Addr) (ct : Nat) (L : List ThrV) (pp : Option Addr) (cp : Nat) (picks : List Int), cs = #[.slice pt L.length ct, .slice pp picks.length cp] ∧ ThsAt W pt L ∧ IReads W pp picks ∧ L.length ≤ 1048576 ∧ picks.length ≤ 1048576 := by
  obtain ⟨fuel, hf⟩ := h
  obtain ⟨xs, n, hn, hx, hl, hlen, hh⟩ := DataW.trod_struct Try.underlying25 hf
  subst hn
  rw [coR] at hl
  obtain ⟨c0, c1, hc⟩ := list2 hl
  obtain ⟨y0, y1, rfl⟩ := list2 (show xs.length = 2 from hlen)
  rw [hc] at hh
  have h0 : DataW.trod enc Try.prog W 0 sp held n 22 [c0] = some y0 := by have := hh 0 _ rfl; simpa [coCss] using this
  have h1 : DataW.trod enc Try.prog W 0 sp held n 23 [c1] = some y1 := by have := hh 1 _ rfl; simpa [coIs, coCss] using this
  have q0 := bulk_mem (d := y0.1) (l := [y0.1, y1.1]) (by simp)
  have q1 := bulk_mem (d := y1.1) (l := [y0.1, y1.1]) (by simp)
  simp only [Prod.mk.injEq] at hx
  have hM' := hM
  rw [hx.1] at hM'
  simp only [Rows.uptoBulk, List.map_cons, List.map_nil] at hM'
  obtain ⟨pt, ct, L, e0, hT, hbt⟩ := ths_cells h0 (by omega)
  obtain ⟨pp, m, cp, e1, _⟩ := slice_rowsM (M := 1048576) (by omega) (Q := fun _ => True) Try.underlying23 coI (by decide) (fun fuel cs y hy _ => by
    obtain ⟨z, ez, _⟩ := DataW.trod_int Try.underlying3 hy
    exact ⟨trivial, by rw [ez]; rfl⟩) h1
  simp at e0 e1
  subst e0 e1
  obtain ⟨picks, hl1, hP, hb1, _⟩ := ints_open (d := y1.1) (ps := y1.2) ⟨n, by simpa [Value.cells] using h1⟩
  subst hl1
  refine ⟨pt, ct, L, pp, cp, picks, ?_, hT, hP, hbt, by omega⟩
  apply Array.ext'
  simpa [Value.cells] using hc
end Go.Proofs.Ytadbgmcfjemkeaa
