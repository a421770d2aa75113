/- Plans that come in. -/
import Derived.Lib.SmallJoins
import Derived.Deep.Slices
import Derived.Carry
import Derived.OpenShut
import Derived.SizedLaws
import Derived.Test.YtnhiodmigmmfgaaRows
import Derived.Test.YtnhiodmigmmfgaaQ8Yk
import Derived.Test.YtnhiodmigmmfgaaQ9Yw
import Derived.Deep.CutRange
namespace Go.Proofs.Ytnhiodmigmmfgaa
open Go.RowKit Go.Shelf Go.Joins Go.ChangeShapes Go.WideShapes Go.Deep
set_option linter.unusedVariables false

theorem bulk_one {H : Type} (d : DataW H) : 1 ≤ Rows.uptoBulk d := by
  cases d with
  | lit l => cases l <;> simp [Rows.uptoBulk]
  | nil => simp [Rows.uptoBulk]
  | ptr d => simp [Rows.uptoBulk]
  | slice elems spare => simp [Rows.uptoBulk]
  | agg parts => simp [Rows.uptoBulk]
  | iface t d => simp [Rows.uptoBulk]
  | map entries => simp [Rows.uptoBulk]
  | held h => simp [Rows.uptoBulk]
theorem bulk_length {H : Type} (l : List (DataW H)) : l.length ≤ Rows.uptoBulkAll l := by
  induction l with
  | nil => simp [Rows.uptoBulkAll]
  | cons x r ih => have := bulk_one x; simp only [Rows.uptoBulkAll, List.length_cons]; omega
theorem bulk_mem {H : Type} {d : DataW H} {l : List (DataW H)} (h : d ∈ l) : Rows.uptoBulk d ≤ Rows.uptoBulkAll l := by
  induction l with
  | nil => simp at h
  | cons x r ih =>
    simp only [Rows.uptoBulkAll]
    rcases List.mem_cons.1 h with rfl | h
    · omega
    · have := ih h
      omega
theorem cells_each {w : World} {a : Addr} {n : Nat} {cs : List Value} (h : w.cells? 0 a n = some cs) : ∀ j u, cs[j]? = some u → w.cell? (a.add j) = some u := by
  obtain ⟨_, hl, hc⟩ := World.cells?_some h
  intro j u hj
  have hlt : j < n := by
    have := (List.getElem?_eq_some_iff.1 hj).1
    omega
  rw [hc j hlt, hj]
theorem choose_list {α : Type} {P : Nat → α → Prop} (n : Nat) (h : ∀ i, i < n → ∃ a, P i a) : ∃ l : List α, l.length = n ∧ ∀ (i : Nat) (a : α), l[i]? = some a → P i a := by
  induction n with
  | zero => exact ⟨[], rfl, fun i a e => by simp at e⟩
  | succ n ih =>
    obtain ⟨l, hl, hp⟩ := ih (fun i hi => h i (by omega))
    obtain ⟨a, ha⟩ := h n (by omega)
    refine ⟨l ++ [a], by simp [hl], fun i b e => ?_⟩
    by_cases c : i < n
    · rw [List.getElem?_append_left (by omega)] at e
      exact hp i b e
    · have hi : i = n := by
        have := (List.getElem?_eq_some_iff.1 e).1
        simp [hl] at this
        omega
      subst hi
      rw [← hl] at e
      simp at e
      subst e
      exact ha
theorem slice_rowsM {H : Type} {enc : TypeId × Value → H} {W : World} {sp : Nat → Bool} {held : Bool} {fuel : Nat} {cs : List Value} {x : DataW H × List MemPlace} {T E : TypeId} {s : Nat} {Q : List Value → Prop} {M : Nat} (hM : Rows.uptoBulk x.1 ≤ M) (hT : Try.prog.underlying T = some (.slice E)) (hs : Try.prog.cellsOf E = s) (hs0 : 0 < s)
    (hQ : ∀ fuel cs y, DataW.trod enc Try.prog W 0 sp held fuel E cs = some y → Rows.uptoBulk y.1 ≤ M → Q cs ∧ cs.length = s) (hf : DataW.trod enc Try.prog W 0 sp held fuel T cs = some x) :
    ∃ p n c, cs = [.slice p n c] ∧ n ≤ Rows.uptoBulk x.1 ∧ (n = 0 ∨ ∃ bk off, p = some ⟨bk, off, none⟩ ∧ bk < W.heap.size ∧ ∀ i, i < n → ∃ cs' : List Value, Q cs' ∧ ∀ (j : Nat) (u : Value), cs'[j]? = some u → W.cell? ⟨bk, off + (i * s + j), none⟩ = some u) := by
  rcases open_slice hT hf with ⟨hcs, _⟩ | ⟨a, len, cap, m, k, D, Pl, hcs, _, hl, hm, hme, hx, hi⟩
  · exact ⟨none, 0, 0, hcs, Nat.zero_le _, .inl rfl⟩
  · have hmn : len ≤ m := by rw [hme]; split <;> omega
    have hb : len ≤ Rows.uptoBulk x.1 := by
      rw [hx]
      have := bulk_length ((List.range len).map D)
      simp only [Rows.uptoBulk]
      simp at this
      omega
    have hbD : ∀ i, i < len → Rows.uptoBulk (D i) ≤ M := fun i hi2 => by
      refine Nat.le_trans ?_ hM
      rw [hx]
      have := bulk_mem (d := D i) (l := (List.range len).map D) (List.mem_map.2 ⟨i, List.mem_range.2 hi2, rfl⟩)
      simp only [Rows.uptoBulk]
      omega
    refine ⟨some a, len, cap, hcs, hb, ?_⟩
    rcases Nat.eq_zero_or_pos len with h0 | h0
    · exact .inl h0
    · obtain ⟨bk, off, spot⟩ := a
      have hrow : ∀ i, i < len → ∃ cs' : List Value, (Q cs' ∧ cs'.length = s) ∧ ∀ (j : Nat) (u : Value), cs'[j]? = some u → W.cell? ((⟨bk, off, spot⟩ : Addr).add (i * s + j)) = some u := fun i hin => by
        obtain ⟨cs', hc, ht⟩ := hi i (by omega)
        refine ⟨cs', hQ _ _ _ ht (hbD i hin), fun j u hj => ?_⟩
        rw [hs] at hc
        have e2 := cells_each hc j u hj
        have e3 : ((⟨bk, off, spot⟩ : Addr).add (i * s)).add j = (⟨bk, off, spot⟩ : Addr).add (i * s + j) := by
          unfold Addr.add
          split <;> split <;> simp_all <;> omega
        rw [← e3]
        exact e2
      have h00 : ∃ u, W.cell? ((⟨bk, off, spot⟩ : Addr).add 0) = some u := by
        obtain ⟨cs', ⟨_, hl'⟩, ho⟩ := hrow 0 h0
        obtain ⟨u, hu⟩ : ∃ u, cs'[0]? = some u := ⟨cs'[0]'(by omega), List.getElem?_eq_getElem _⟩
        exact ⟨u, by simpa using ho 0 u hu⟩
      obtain ⟨u, hu⟩ := h00
      have hspot : spot = none := by simpa [Addr.add] using World.cell?_spot hu
      subst hspot
      have hbk : bk < W.heap.size := World.block_lt_of_cell? W _ hu
      refine .inr ⟨bk, off, rfl, hbk, fun i hin => ?_⟩
      obtain ⟨cs', ⟨hq, _⟩, ho⟩ := hrow i hin
      refine ⟨cs', hq, fun j u hj => ?_⟩
      have e := ho j u hj
      unfold Addr.add at e
      split at e
      · rename_i z
        have z0 : i * s + j = 0 := by simpa using z
        rw [z0]
        exact e
      · exact e
theorem coU : Try.prog.cellsOf 30 = 1 := by kernel_rfl
theorem coUs : Try.prog.cellsOf 31 = 1 := by kernel_rfl
theorem coK : Try.prog.cellsOf 29 = 1 := by kernel_rfl
theorem coB : Try.prog.cellsOf 4 = 1 := by kernel_rfl
theorem coDo : Try.prog.cellsOf 33 = 5 := by kernel_rfl
theorem coDos : Try.prog.cellsOf 26 = 1 := by kernel_rfl
theorem coPl : Try.prog.cellsOf 28 = 2 := by kernel_rfl
theorem nat_u64 {n : Int} (h : (Lit.int .u64 n).wf = true) : ∃ m : Nat, n = (m : Int) ∧ m < 18446744073709551616 := by
  have b := bounds_u64 h
  exact ⟨n.toNat, by omega, by omega⟩
theorem list5 {α : Type} {cs : List α} (h : cs.length = 5) : ∃ a b c d e, cs = [a, b, c, d, e] := by
  match cs, h with
  | [a, b, c, d, e], _ => exact ⟨a, b, c, d, e, rfl⟩
theorem list2 {α : Type} {cs : List α} (h : cs.length = 2) : ∃ c0 c1, cs = [c0, c1] := by
  match cs, h with
  | [c0, c1], _ => exact ⟨c0, c1, rfl⟩
theorem add_plainY (bk off i : Nat) : (⟨bk, off, none⟩ : Addr).add i = ⟨bk, off + i, none⟩ := by
  unfold Addr.add
  split <;> simp
theorem vals_open {H : Type} {enc : TypeId × Value → H} {W : World} {sp : Nat → Bool} {held : Bool} {fuel : Nat} {cs : List Value} {x : DataW H × List MemPlace} (hM : Rows.uptoBulk x.1 ≤ 1048576) (hf : DataW.trod enc Try.prog W 0 sp held fuel 31 cs = some x) :
    ∃ (p : Option Addr) (c : Nat) (l : List Nat), cs = [.slice p l.length c] ∧ Reads W p l ∧ (∀ ad, p = some ad → l ≠ [] → ad.block < W.heap.size) ∧ (∀ y ∈ l, y < 18446744073709551616) ∧ l.length ≤ 1048576 := by
  obtain ⟨p, n, c, hcs, hb, hr⟩ := slice_rowsM (s := 1) (M := 1048576) hM (Q := fun cs => ∃ k : Nat, k < 18446744073709551616 ∧ cs = [.int .u64 (k : Int)]) Try.underlying31 coU (by decide) (fun fuel cs y hy _ => by
    obtain ⟨z, e, _, w⟩ := DataW.trod_int Try.underlying30 hy
    obtain ⟨k, rfl, hk⟩ := nat_u64 w
    exact ⟨⟨k, hk, e⟩, by rw [e]; rfl⟩) hf
  rcases hr with rfl | ⟨bk, off, rfl, hbk, hr⟩
  · exact ⟨p, c, [], hcs, .inl rfl, fun _ _ h => absurd rfl h, fun y hy => by simp at hy, by simp⟩
  · obtain ⟨l, hl, hp⟩ := choose_list (P := fun i (k : Nat) => k < 18446744073709551616 ∧ W.cell? ⟨bk, off + i, none⟩ = some (.int .u64 (k : Int))) n (fun i hi => by
      obtain ⟨cs', ⟨k, hk, rfl⟩, hc⟩ := hr i hi
      have := hc 0 _ rfl
      simp at this
      exact ⟨k, hk, this⟩)
    subst hl
    refine ⟨_, c, l, hcs, .inr ⟨⟨bk, off, none⟩, rfl, fun j u hj => ?_⟩, fun ad e _ => by injection e with e; rw [← e]; exact hbk, fun y hy => ?_, by omega⟩
    · rw [List.getElem?_map] at hj
      cases hx : l[j]? with
      | none => rw [hx] at hj; simp at hj
      | some y => rw [hx] at hj; simp at hj; rw [← hj, add_plainY]; exact (hp j y hx).2
    · obtain ⟨i, hi⟩ := List.mem_iff_getElem?.1 hy
      exact (hp i y hi).1
theorem do_open {H : Type} {enc : TypeId × Value → H} {W : World} {sp : Nat → Bool} {held : Bool} {fuel : Nat} {cs : List Value} {y : DataW H × List MemPlace} (hf : DataW.trod enc Try.prog W 0 sp held fuel 33 cs = some y) (hM : Rows.uptoBulk y.1 ≤ 1048576) :
    (∃ (d : DoP) (vp : Option Addr) (vc : Nat), cs = [.int .u8 d.kd, .int .u64 (d.ad : Int), .int .u64 (d.a : Int), .int .u64 (d.b : Int), .slice vp d.vals.length vc] ∧ d.Ok ∧ Reads W vp d.vals ∧ ∀ ad, vp = some ad → d.vals ≠ [] → ad.block < W.heap.size) ∧ cs.length = 5 := by
  obtain ⟨xs, n, hn, hx, hl, hlen, hh⟩ := DataW.trod_struct Try.underlying33 hf
  subst hn
  rw [coDo] at hl
  refine ⟨?_, hl⟩
  obtain ⟨c0, c1, c2, c3, c4, rfl⟩ := list5 hl
  obtain ⟨y0, y1, y2, y3, y4, rfl⟩ := list5 (show xs.length = 5 from hlen)
  have h0 : DataW.trod enc Try.prog W 0 sp held n 29 [c0] = some y0 := by have := hh 0 _ rfl; simpa [coK] using this
  have h1 : DataW.trod enc Try.prog W 0 sp held n 30 [c1] = some y1 := by have := hh 1 _ rfl; simpa [coK, coU] using this
  have h2 : DataW.trod enc Try.prog W 0 sp held n 30 [c2] = some y2 := by have := hh 2 _ rfl; simpa [coK, coU] using this
  have h3 : DataW.trod enc Try.prog W 0 sp held n 30 [c3] = some y3 := by have := hh 3 _ rfl; simpa [coK, coU] using this
  have h4 : DataW.trod enc Try.prog W 0 sp held n 31 [c4] = some y4 := by have := hh 4 _ rfl; simpa [coK, coU, coUs] using this
  obtain ⟨z0, e0, _, w0⟩ := DataW.trod_int Try.underlying29 h0
  obtain ⟨z1, e1, _, w1⟩ := DataW.trod_int Try.underlying30 h1
  obtain ⟨z2, e2, _, w2⟩ := DataW.trod_int Try.underlying30 h2
  obtain ⟨z3, e3, _, w3⟩ := DataW.trod_int Try.underlying30 h3
  obtain ⟨m1, rfl, b1⟩ := nat_u64 w1
  obtain ⟨m2, rfl, b2⟩ := nat_u64 w2
  obtain ⟨m3, rfl, b3⟩ := nat_u64 w3
  have q := bulk_mem (d := y4.1) (l := [y0.1, y1.1, y2.1, y3.1, y4.1]) (by simp)
  have hM4 : Rows.uptoBulk y4.1 ≤ 1048576 := by
    rw [hx] at hM
    simp only [Rows.uptoBulk] at hM
    simp at q hM
    omega
  obtain ⟨vp, vc, l, hc, hR, hB, hS, hL⟩ := vals_open hM4 h4
  simp at e0 e1 e2 e3 hc
  subst e0 e1 e2 e3 hc
  have b0 : 0 ≤ z0 ∧ z0 < 256 := by
    simp [Lit.wf, IntKind.min, IntKind.max, IntKind.signed, IntKind.bits] at w0
    omega
  exact ⟨⟨z0, m1, m2, m3, l⟩, vp, vc, rfl, ⟨b0, b1, b2, b3, hS, by simp only; omega⟩, hR, hB⟩
theorem dos_open {H : Type} {enc : TypeId × Value → H} {W : World} {sp : Nat → Bool} {held : Bool} {fuel : Nat} {cs : List Value} {x : DataW H × List MemPlace} (hM : Rows.uptoBulk x.1 ≤ 1048576) (hf : DataW.trod enc Try.prog W 0 sp held fuel 26 cs = some x) :
    ∃ (p : Option Addr) (c : Nat) (L : List DoP), cs = [.slice p L.length c] ∧ DosAt W W.heap.size p L ∧ L.length ≤ 1048576 := by
  obtain ⟨p, n, c, hcs, hb, hr⟩ := slice_rowsM (s := 5) (M := 1048576) hM (Q := fun cs => ∃ (d : DoP) (vp : Option Addr) (vc : Nat), cs = [.int .u8 d.kd, .int .u64 (d.ad : Int), .int .u64 (d.a : Int), .int .u64 (d.b : Int), .slice vp d.vals.length vc] ∧ d.Ok ∧ Reads W vp d.vals ∧ ∀ ad, vp = some ad → d.vals ≠ [] → ad.block < W.heap.size) Try.underlying26 coDo (by decide) (fun fuel cs y hy hyM => do_open hy hyM) hf
  rcases hr with rfl | ⟨bk, off, rfl, hbk, hr⟩
  · exact ⟨p, c, [], hcs, fun i d hd => by simp at hd, by simp⟩
  · obtain ⟨L, hl, hp⟩ := choose_list (P := fun i (d : DoP) => d.Ok ∧ ∃ vp vc, W.cell? ⟨bk, off + i * 5, none⟩ = some (.int .u8 d.kd) ∧ W.cell? ⟨bk, off + i * 5 + 1, none⟩ = some (.int .u64 (d.ad : Int)) ∧ W.cell? ⟨bk, off + i * 5 + 2, none⟩ = some (.int .u64 (d.a : Int)) ∧ W.cell? ⟨bk, off + i * 5 + 3, none⟩ = some (.int .u64 (d.b : Int)) ∧ W.cell? ⟨bk, off + i * 5 + 4, none⟩ = some (.slice vp d.vals.length vc) ∧ Reads W vp d.vals ∧ ∀ ad, vp = some ad → d.vals ≠ [] → ad.block < W.heap.size) n (fun i hi => by
      obtain ⟨cs', ⟨d, vp, vc, rfl, ho, hR, hB⟩, hc⟩ := hr i hi
      exact ⟨d, ho, vp, vc, by have := hc 0 _ rfl; simpa using this, by have := hc 1 _ rfl; simpa [Nat.add_assoc] using this, by have := hc 2 _ rfl; simpa [Nat.add_assoc] using this, by have := hc 3 _ rfl; simpa [Nat.add_assoc] using this, by have := hc 4 _ rfl; simpa [Nat.add_assoc] using this, hR, hB⟩)
    subst hl
    exact ⟨_, c, L, hcs, fun i d hd => by
      obtain ⟨ho, vp, vc, r⟩ := hp i d hd
      exact ⟨ho, bk, off, vp, vc, rfl, hbk, r⟩, by omega⟩
end Go.Proofs.Ytnhiodmigmmfgaa
/- How many steps are left of plans' procs; what a turn and Finish leave of them. -/
namespace Go.Proofs.Ytnhiodmigmmfgaa
open Go.RowKit Go.Shelf
set_option linter.unusedVariables false

def sumTo (f : Nat → Nat) : Nat → Nat
  | 0 => 0
  | n + 1 => sumTo f n + f n
theorem sumTo_congr {f g : Nat → Nat} : ∀ {n : Nat}, (∀ j, j < n → f j = g j) → sumTo f n = sumTo g n
  | 0, _ => rfl
  | n + 1, h => by simp only [sumTo]; rw [sumTo_congr (fun j hj => h j (by omega)), h n (by omega)]
theorem sumTo_dec {f g : Nat → Nat} {i n : Nat} (hi : i < n) (h : ∀ j, j ≠ i → g j = f j) (hf : f i = g i + 1) : sumTo f n = sumTo g n + 1 := by
  induction n with
  | zero => omega
  | succ n ih =>
    simp only [sumTo]
    by_cases e : i = n
    · subst e
      rw [sumTo_congr (f := g) (g := f) (fun j hj => h j (by omega))]
      omega
    · rw [ih (by omega), h n (fun z => e z.symm)]
      omega
theorem sumTo_ge {f : Nat → Nat} {i n : Nat} (hi : i < n) : f i ≤ sumTo f n := by
  induction n with
  | zero => omega
  | succ n ih =>
    simp only [sumTo]
    by_cases e : i = n
    · subst e; omega
    · have := ih (by omega); omega
theorem sumTo_zero {f : Nat → Nat} {n : Nat} (h : ∀ j, j < n → f j = 0) : sumTo f n = 0 := by
  induction n with
  | zero => rfl
  | succ n ih => simp only [sumTo]; rw [ih (fun j hj => h j (by omega)), h n (by omega)]
def rp (s : PS) : Nat := nst s.pl - s.at_
def remT (cl : Nat → Nat) (c : Cfg PS) (i : Nat) : Nat := sumTo (fun j => if j < c.ix i then 0 else rp (c.σ i j)) (cl i)
def rem (T : Nat) (cl : Nat → Nat) (c : Cfg PS) : Nat := sumTo (remT cl c) T
structure PInv (T : Nat) (cl : Nat → Nat) (pl : Nat → Nat → PlP) (c : Cfg PS) : Prop where
  pl : ∀ i j, i < T → j < cl i → (c.σ i j).pl = pl i j
  at_ : ∀ i j, i < T → j < cl i → c.ix i ≤ j → (c.σ i j).at_ < nst (c.σ i j).pl
  bg : ∀ i, i < T → c.bg i = true → c.ix i < cl i
section
variable {Lo : Nat} {W0 : World} {most T : Nat} {cl : Nat → Nat} {pl : Nat → Nat → PlP} {c : Cfg PS}
theorem ps_step {s : PS} (h : s.at_ < nst s.pl) (th : Int) (next : Nat) (cs : List Nat) : (psS th most next cs s).s.pl = s.pl ∧ ((psS th most next cs s).done = true → rp s = 1) ∧ ((psS th most next cs s).done = false → rp s = rp (psS th most next cs s).s + 1 ∧ (psS th most next cs s).s.at_ < nst s.pl) := by
  unfold psS rp
  by_cases hn : s.pl.none = true
  · simp only [if_pos hn]
    have e : nst s.pl = 1 := by unfold nst; rw [if_pos hn]
    refine ⟨trivial, fun _ => by omega, fun z => by simp at z⟩
  · simp only [if_neg hn]
    have e : nst s.pl = if s.pl.L.length < 1 then 1 else s.pl.L.length := by unfold nst; rw [if_neg hn]
    refine ⟨trivial, fun z => ?_, fun z => ?_⟩
    · have z' := of_decide_eq_true z
      split at e <;> omega
    · have z' := of_decide_eq_false z
      rw [List.getElem?_eq_getElem (show s.at_ < s.pl.L.length by omega)]
      simp only [nxtA]
      split at e <;> omega
theorem PInv.go (h : PInv T cl pl c) (i : Nat) (hi : i < T) (hj : c.ix i < cl i) : PInv T cl pl (c.go (plK Lo W0) most i).tick ∧ rem T cl c = rem T cl (c.go (plK Lo W0) most i).tick + 1 := by
  have hs := ps_step (most := most) (h.at_ i _ hi hj (Nat.le_refl _)) (i : Int) c.next c.cs
  obtain ⟨d, hd⟩ : ∃ d, d = (psS (i : Int) most c.next c.cs (c.σ i (c.ix i))).done := ⟨_, rfl⟩
  obtain ⟨s', hs'⟩ : ∃ s', s' = (psS (i : Int) most c.next c.cs (c.σ i (c.ix i))).s := ⟨_, rfl⟩
  rw [← hd, ← hs'] at hs
  obtain ⟨g1, g2, g3⟩ := hs
  have hix : ∀ t, (c.go (plK Lo W0) most i).tick.ix t = if t = i then (if d = true then c.ix i + 1 else c.ix i) else c.ix t := fun t => by
    show updN c.ix i _ t = _
    unfold updN
    rw [hd]
    rfl
  have hsg : ∀ t q, (c.go (plK Lo W0) most i).tick.σ t q = if t = i then (if q = c.ix i then s' else c.σ i q) else c.σ t q := fun t q => by
    show updN c.σ i _ t q = _
    unfold updN
    rw [hs']
    split <;> rfl
  have hbg : ∀ t, (c.go (plK Lo W0) most i).tick.bg t = if t = i then !d else c.bg t := fun t => by
    show updN c.bg i _ t = _
    unfold updN
    rw [hd]
    rfl
  refine ⟨⟨fun t q ht hq => ?_, fun t q ht hq hle => ?_, fun t ht hb => ?_⟩, ?_⟩
  · rw [hsg]
    split
    · rename_i e; subst e
      split
      · rename_i e2; subst e2; rw [g1]; exact h.pl t _ ht hq
      · exact h.pl t q ht hq
    · exact h.pl t q ht hq
  · rw [hix] at hle
    rw [hsg]
    split at hle
    · rename_i e; subst e
      simp only [if_true]
      cases d with
      | true =>
        simp only [if_true] at hle
        rw [if_neg (by omega)]
        exact h.at_ t q ht hq (by omega)
      | false =>
        simp only [Bool.false_eq_true, if_false] at hle
        split
        · rename_i e2; subst e2; rw [g1]; exact (g3 rfl).2
        · exact h.at_ t q ht hq hle
    · rename_i e
      rw [if_neg e]
      exact h.at_ t q ht hq hle
  · rw [hbg] at hb
    rw [hix]
    split at hb
    · rename_i e; subst e
      cases d with
      | true => simp at hb
      | false => simpa using hj
    · rename_i e
      rw [if_neg e]
      exact h.bg t ht hb
  · unfold rem
    refine sumTo_dec hi (fun t ht => ?_) ?_
    · unfold remT
      rw [hix, if_neg ht]
      exact sumTo_congr (fun q _ => by rw [hsg, if_neg ht])
    · unfold remT
      refine sumTo_dec hj (fun q hq => ?_) ?_
      · rw [hix, if_pos rfl, hsg, if_pos rfl, if_neg hq]
        cases d with
        | true =>
          simp only [if_true]
          by_cases z : q < c.ix i
          · rw [if_pos z, if_pos (by omega)]
          · rw [if_neg z, if_neg (by omega)]
        | false => rfl
      · rw [hix, if_pos rfl, hsg, if_pos rfl, if_pos rfl, if_neg (Nat.lt_irrefl _)]
        cases d with
        | true =>
          simp only [if_true]
          rw [if_pos (by omega)]
          exact g2 rfl
        | false =>
          simp only [Bool.false_eq_true, if_false]
          rw [if_neg (Nat.lt_irrefl _)]
          exact (g3 rfl).1
theorem PInv.tick (h : PInv T cl pl c) : PInv T cl pl c.tick := ⟨h.pl, h.at_, h.bg⟩
theorem PInv.pick (h : PInv T cl pl c) (th : Int) : PInv T cl pl (c.pick (plK Lo W0) most T cl th) ∧ rem T cl c = rem T cl (c.pick (plK Lo W0) most T cl th) + (if Cfg.can T cl c th then 1 else 0) := by
  unfold Cfg.pick
  by_cases hc : Cfg.can T cl c th
  · rw [if_pos hc, if_pos hc]
    exact h.go th.toNat (by have := hc.1; have := hc.2.1; omega) hc.2.2
  · rw [if_neg hc, if_neg hc]
    exact ⟨h.tick, rfl⟩
theorem rem_done (h : PInv T cl pl c) : rem T cl c = 0 ↔ doneP T cl c := by
  constructor
  · intro h0 i hi
    apply Nat.le_of_not_lt
    intro hlt
    have h1 := h.at_ i _ hi hlt (Nat.le_refl _)
    have h2 : remT cl c i ≤ rem T cl c := sumTo_ge (f := remT cl c) hi
    have h3 : (fun j => if j < c.ix i then 0 else rp (c.σ i j)) (c.ix i) ≤ remT cl c i := sumTo_ge (f := fun j => if j < c.ix i then 0 else rp (c.σ i j)) hlt
    simp only [Nat.lt_irrefl, if_false] at h3
    unfold rp at h3
    omega
  · intro hd
    refine sumTo_zero (fun i hi => sumTo_zero (fun j hj => ?_))
    rw [if_pos (by have := hd i hi; omega)]
theorem turn_rem (h : PInv T cl pl c) (lim : Nat) : ∀ j, PInv T cl pl (turnR (plK Lo W0) most T cl lim c j).1 ∧ rem T cl c = rem T cl (turnR (plK Lo W0) most T cl lim c j).1 + (turnR (plK Lo W0) most T cl lim c j).2 := by
  intro j
  induction j with
  | zero => rw [turnR_zero]; exact ⟨h, rfl⟩
  | succ j ih =>
    rw [turnR_succ]
    unfold tst
    by_cases hc : (turnR (plK Lo W0) most T cl lim c j).2 < lim ∧ Cfg.can T cl (turnR (plK Lo W0) most T cl lim c j).1 (j : Int)
    · rw [if_pos hc]
      have hp := ih.1.pick (Lo := Lo) (W0 := W0) (most := most) (j : Int)
      rw [if_pos hc.2] at hp
      exact ⟨hp.1, by have := ih.2; have := hp.2; simp only; omega⟩
    · rw [if_neg hc]; exact ih
theorem fin_rem : ∀ (lim : Nat) (c : Cfg PS), PInv T cl pl c → PInv T cl pl (finR (plK Lo W0) most T cl lim lim c) ∧ rem T cl (finR (plK Lo W0) most T cl lim lim c) = rem T cl c - lim := by
  intro lim
  induction lim using Nat.strongRecOn with
  | _ lim ih =>
    intro c h
    by_cases hc : 0 < lim ∧ ¬ doneP T cl c
    · rw [finR_turn _ _ _ _ _ _ hc.1 hc.2]
      have hp := turnR_pos (plK Lo W0) most T cl lim c hc.1 hc.2
      have hl := (turnR_le (plK Lo W0) most T cl lim c T).1
      have ht := turn_rem (Lo := Lo) (W0 := W0) (most := most) h lim T
      obtain ⟨r1, r2⟩ := ih (lim - (turnR (plK Lo W0) most T cl lim c T).2) (by omega) _ ht.1
      exact ⟨r1, by rw [r2]; have := ht.2; omega⟩
    · rw [finR_stop _ _ _ _ _ _ _ hc]
      refine ⟨h, ?_⟩
      by_cases h0 : 0 < lim
      · have hd : doneP T cl c := Classical.byContradiction (fun e => hc ⟨h0, e⟩)
        rw [(rem_done h).2 hd]; omega
      · have : lim = 0 := by omega
        subst this; omega
end
end Go.Proofs.Ytnhiodmigmmfgaa
/- Lists of lists of plans that come in, and the sum of all their steps. -/
namespace Go.Proofs.Ytnhiodmigmmfgaa
open Go.RowKit Go.Shelf Go.ChangeShapes Go.WideShapes Go.ChangeAt Go.Deep
set_option linter.unusedVariables false

theorem bulkAll_append {H : Type} (a b : List (DataW H)) : Rows.uptoBulkAll (a ++ b) = Rows.uptoBulkAll a + Rows.uptoBulkAll b := by
  induction a with
  | nil => simp [Rows.uptoBulkAll]
  | cons x r ih => simp only [List.cons_append, Rows.uptoBulkAll, ih]; omega
theorem bulk_sum {H : Type} (D : Nat → DataW H) : ∀ n, Rows.uptoBulkAll ((List.range n).map D) = sumTo (fun i => Rows.uptoBulk (D i)) n
  | 0 => by simp [Rows.uptoBulkAll, sumTo]
  | n + 1 => by
    rw [List.range_succ, List.map_append, bulkAll_append, bulk_sum D n]
    simp [Rows.uptoBulkAll, sumTo]
theorem sumTo_mono {f g : Nat → Nat} : ∀ {n : Nat}, (∀ j, j < n → f j ≤ g j) → sumTo f n ≤ sumTo g n
  | 0, _ => Nat.le_refl _
  | n + 1, h => by
    have := sumTo_mono (f := f) (g := g) (n := n) (fun j hj => h j (by omega))
    have := h n (by omega)
    simp only [sumTo]
    omega
set_option maxRecDepth 100000 in
theorem slice_rowsS {H : Type} {enc : TypeId × Value → H} {W : World} {sp : Nat → Bool} {held : Bool} {fuel : Nat} {cs : List Value} {x : DataW H × List MemPlace} {T E : TypeId} {s : Nat} {Q : List Value → Nat → Prop} {M : Nat} (hM : Rows.uptoBulk x.1 ≤ M) (hT : Try.prog.underlying T = some (.slice E)) (hs : Try.prog.cellsOf E = s) (hs0 : 0 < s)
    (hQ : ∀ fuel cs y, DataW.trod enc Try.prog W 0 sp held fuel E cs = some y → Rows.uptoBulk y.1 ≤ M → Q cs (Rows.uptoBulk y.1) ∧ cs.length = s) (hf : DataW.trod enc Try.prog W 0 sp held fuel T cs = some x) :
    ∃ p n c, cs = [.slice p n c] ∧ n ≤ Rows.uptoBulk x.1 ∧ ∃ ws : Nat → Nat, sumTo ws n ≤ Rows.uptoBulk x.1 ∧ (n = 0 ∨ ∃ bk off, p = some ⟨bk, off, none⟩ ∧ bk < W.heap.size ∧ ∀ i, i < n → ∃ cs' : List Value, Q cs' (ws i) ∧ ∀ (j : Nat) (u : Value), cs'[j]? = some u → W.cell? ⟨bk, off + (i * s + j), none⟩ = some u) := by
  rcases open_slice hT hf with ⟨hcs, _⟩ | ⟨a, len, cap, m, k, D, Pl, hcs, _, hl, hm, hme, hx, hi⟩
  · exact ⟨none, 0, 0, hcs, Nat.zero_le _, fun _ => 0, Nat.zero_le _, .inl rfl⟩
  · have hmn : len ≤ m := by rw [hme]; split <;> omega
    have hb : len ≤ Rows.uptoBulk x.1 := by
      rw [hx]
      have := bulk_length ((List.range len).map D)
      simp only [Rows.uptoBulk]
      simp at this
      omega
    have hbD : ∀ i, i < len → Rows.uptoBulk (D i) ≤ M := fun i hi2 => by
      refine Nat.le_trans ?_ hM
      rw [hx]
      have := bulk_mem (d := D i) (l := (List.range len).map D) (List.mem_map.2 ⟨i, List.mem_range.2 hi2, rfl⟩)
      simp only [Rows.uptoBulk]
      omega
    have hsum : sumTo (fun i => Rows.uptoBulk (D i)) len ≤ Rows.uptoBulk x.1 := by
      rw [hx, ← bulk_sum]
      simp only [Rows.uptoBulk]
      omega
    refine ⟨some a, len, cap, hcs, hb, fun i => Rows.uptoBulk (D i), hsum, ?_⟩
    rcases Nat.eq_zero_or_pos len with h0 | h0
    · exact .inl h0
    · obtain ⟨bk, off, spot⟩ := a
      have hrow : ∀ i, i < len → ∃ cs' : List Value, (Q cs' (Rows.uptoBulk (D i)) ∧ cs'.length = s) ∧ ∀ (j : Nat) (u : Value), cs'[j]? = some u → W.cell? ((⟨bk, off, spot⟩ : Addr).add (i * s + j)) = some u := fun i hin => by
        obtain ⟨cs', hc, ht⟩ := hi i (by omega)
        refine ⟨cs', hQ _ _ _ ht (hbD i hin), fun j u hj => ?_⟩
        rw [hs] at hc
        have e2 := cells_each hc j u hj
        have e3 : ((⟨bk, off, spot⟩ : Addr).add (i * s)).add j = (⟨bk, off, spot⟩ : Addr).add (i * s + j) := by
          unfold Addr.add
          split <;> split <;> simp_all <;> omega
        rw [← e3]
        exact e2
      have h00 : ∃ u, W.cell? ((⟨bk, off, spot⟩ : Addr).add 0) = some u := by
        obtain ⟨cs', ⟨_, hl'⟩, ho⟩ := hrow 0 h0
        obtain ⟨u, hu⟩ : ∃ u, cs'[0]? = some u := ⟨cs'[0]'(by omega), List.getElem?_eq_getElem _⟩
        exact ⟨u, by simpa using ho 0 u hu⟩
      obtain ⟨u, hu⟩ := h00
      have hspot : spot = none := by simpa [Addr.add] using World.cell?_spot hu
      subst hspot
      have hbk : bk < W.heap.size := World.block_lt_of_cell? W _ hu
      refine .inr ⟨bk, off, rfl, hbk, fun i hin => ?_⟩
      obtain ⟨cs', ⟨hq, _⟩, ho⟩ := hrow i hin
      refine ⟨cs', hq, fun j u hj => ?_⟩
      have e := ho j u hj
      unfold Addr.add at e
      split at e
      · rename_i z
        have z0 : i * s + j = 0 := by simpa using z
        rw [z0]
        exact e
      · exact e

theorem pre_sum (l : List PlP) : ∀ i, i ≤ l.length → pre l i = sumTo (fun j => match l[j]? with | some q => nst q | none => 0) i := by
  intro i
  induction i with
  | zero => intro _; rw [pre_zero]; rfl
  | succ i ih =>
    intro hi
    have hp : l[i]? = some l[i] := List.getElem?_eq_getElem (by omega)
    rw [pre_succ hp, ih (by omega)]
    simp only [sumTo, hp]
theorem plan_openS {H : Type} {enc : TypeId × Value → H} {W : World} {sp : Nat → Bool} {held : Bool} {fuel : Nat} {cs : List Value} {y : DataW H × List MemPlace} (hf : DataW.trod enc Try.prog W 0 sp held fuel 28 cs = some y) (hM : Rows.uptoBulk y.1 ≤ 1048576) :
    (∃ (q : PlP) (lp : Option Addr) (lc : Nat), cs = [.bool q.none, .slice lp q.L.length lc] ∧ DosAt W W.heap.size lp q.L ∧ q.L.length ≤ 1048576 ∧ nst q ≤ Rows.uptoBulk y.1) ∧ cs.length = 2 := by
  obtain ⟨xs, n, hn, hx, hl, hlen, hh⟩ := DataW.trod_struct Try.underlying28 hf
  subst hn
  rw [coPl] at hl
  refine ⟨?_, hl⟩
  obtain ⟨c0, c1, rfl⟩ := list2 hl
  obtain ⟨y0, y1, rfl⟩ := list2 (show xs.length = 2 from hlen)
  have h0 : DataW.trod enc Try.prog W 0 sp held n 4 [c0] = some y0 := by have := hh 0 _ rfl; simpa [coB] using this
  have h1 : DataW.trod enc Try.prog W 0 sp held n 26 [c1] = some y1 := by have := hh 1 _ rfl; simpa [coB, coDos] using this
  obtain ⟨z0, e0, _⟩ := DataW.trod_bool Try.underlying4 h0
  have q := bulk_mem (d := y1.1) (l := [y0.1, y1.1]) (by simp)
  have hB1 : Rows.uptoBulk y1.1 + 1 ≤ Rows.uptoBulk y.1 := by
    rw [hx]
    simp only [Rows.uptoBulk]
    simp at q ⊢
    omega
  obtain ⟨p, m, c, hcs, hb, hr⟩ := slice_rowsM (s := 5) (M := 1048576) (show Rows.uptoBulk y1.1 ≤ 1048576 by omega) (Q := fun _ => True) Try.underlying26 coDo (by decide) (fun fuel cs y hy hyM => ⟨trivial, (do_open hy hyM).2⟩) h1
  obtain ⟨lp, lc, L, hc, hD, hL⟩ := dos_open (show Rows.uptoBulk y1.1 ≤ 1048576 by omega) h1
  have hLm : L.length = m := by rw [hcs] at hc; simp at hc; exact hc.2.1.symm
  simp at e0 hc
  subst e0 hc
  refine ⟨⟨z0, L⟩, lp, lc, rfl, hD, by show L.length ≤ 1048576; omega, ?_⟩
  unfold nst
  split
  · omega
  · split
    · omega
    · show L.length ≤ _
      omega
theorem plans_openS {H : Type} {enc : TypeId × Value → H} {W : World} {sp : Nat → Bool} {held : Bool} {fuel : Nat} {cs : List Value} {y : DataW H × List MemPlace} (hf : DataW.trod enc Try.prog W 0 sp held fuel 25 cs = some y) (hM : Rows.uptoBulk y.1 ≤ 1048576) :
    (∃ (l : List PlP) (p : Option Addr) (c : Nat) (lp : Nat → Option Addr) (lc : Nat → Nat), cs = [.slice p l.length c] ∧ PlansAt W W.heap.size p l lp lc ∧ l.length ≤ 1048576 ∧ (∀ q ∈ l, q.L.length ≤ 1048576) ∧ pre l l.length ≤ Rows.uptoBulk y.1) ∧ cs.length = 1 := by
  obtain ⟨p, n, c, hcs, hb, ws, hws, hr⟩ := slice_rowsS (s := 2) (M := 1048576) hM (Q := fun cs w => ∃ (q : PlP) (lp : Option Addr) (lc : Nat), cs = [.bool q.none, .slice lp q.L.length lc] ∧ DosAt W W.heap.size lp q.L ∧ q.L.length ≤ 1048576 ∧ nst q ≤ w) Try.underlying25 coPl (by decide) (fun fuel cs y hy hyM => plan_openS hy hyM) hf
  refine ⟨?_, by rw [hcs]; rfl⟩
  rcases hr with rfl | ⟨bk, off, rfl, hbk, hr⟩
  · exact ⟨[], p, c, fun _ => none, fun _ => 0, hcs, fun i q hq => by simp at hq, by simp, fun q hq => by simp at hq, by simp [pre]⟩
  · obtain ⟨l, hl, hp⟩ := choose_list (P := fun i (z : PlP × Option Addr × Nat) => W.cell? ⟨bk, off + i * 2, none⟩ = some (.bool z.1.none) ∧ W.cell? ⟨bk, off + i * 2 + 1, none⟩ = some (.slice z.2.1 z.1.L.length z.2.2) ∧ DosAt W W.heap.size z.2.1 z.1.L ∧ z.1.L.length ≤ 1048576 ∧ nst z.1 ≤ ws i) n (fun i hi => by
      obtain ⟨cs', ⟨q, lp, lc, rfl, hD, hL⟩, hc⟩ := hr i hi
      exact ⟨⟨q, lp, lc⟩, by have := hc 0 _ rfl; simpa using this, by have := hc 1 _ rfl; simpa [Nat.add_assoc] using this, hD, hL⟩)
    subst hl
    refine ⟨l.map (·.1), some ⟨bk, off, none⟩, c, fun i => match l[i]? with | some z => z.2.1 | none => none, fun i => match l[i]? with | some z => z.2.2 | none => 0, by simpa using hcs, fun i q hq => ?_, by simp; omega, fun q hq => ?_, ?_⟩
    · rw [List.getElem?_map] at hq
      cases hz : l[i]? with
      | none => rw [hz] at hq; simp at hq
      | some z =>
        rw [hz] at hq
        simp at hq
        subst hq
        obtain ⟨a1, a2, a3, a4, a5⟩ := hp i z hz
        simp only [hz]
        exact ⟨⟨bk, off, rfl, hbk, a1, a2⟩, a3⟩
    · obtain ⟨z, hz, rfl⟩ := List.mem_map.1 hq
      obtain ⟨i, hi⟩ := List.mem_iff_getElem?.1 hz
      exact (hp i z hi).2.2.2.1
    · rw [pre_sum _ _ (Nat.le_refl _)]
      refine Nat.le_trans (sumTo_mono (g := ws) (fun j hj => ?_)) (by simpa using hws)
      have hj' : j < l.length := by simpa using hj
      rw [List.getElem?_map, List.getElem?_eq_getElem hj']
      exact (hp j l[j] (List.getElem?_eq_getElem hj')).2.2.2.2
theorem coPls : Try.prog.cellsOf 25 = 1 := by kernel_rfl
/-- Threads of plans. -/
theorem threads_open {H : Type} {enc : TypeId × Value → H} {W : World} {sp : Nat → Bool} {held : Bool} {p : Option Addr} {n c : Nat} {d : DataW H} {ps : List MemPlace} (h : DataW.Trod enc Try.prog W 0 sp held 22 (.slice p n c) d ps) (hM : Rows.uptoBulk d ≤ 1048576) :
    ∃ (ll : List (List PlP)) (ap : Nat → Option Addr) (ac : Nat → Nat) (lp : Nat → Nat → Option Addr) (lc : Nat → Nat → Nat), ll.length = n ∧ ThsAt W W.heap.size p ll ap ac lp lc ∧ ll.length ≤ 1048576 ∧ (∀ l ∈ ll, l.length ≤ 1048576) ∧ (∀ l ∈ ll, ∀ q ∈ l, q.L.length ≤ 1048576) ∧ sumTo (fun i => match ll[i]? with | some l => pre l l.length | none => 0) ll.length ≤ Rows.uptoBulk d := by
  obtain ⟨fuel, hf⟩ := h
  obtain ⟨p', n', c', hcs, hb, ws, hws, hr⟩ := slice_rowsS (s := 1) (M := 1048576) hM (Q := fun cs w => ∃ (l : List PlP) (p : Option Addr) (c : Nat) (lp : Nat → Option Addr) (lc : Nat → Nat), cs = [.slice p l.length c] ∧ PlansAt W W.heap.size p l lp lc ∧ l.length ≤ 1048576 ∧ (∀ q ∈ l, q.L.length ≤ 1048576) ∧ pre l l.length ≤ w) Try.underlying22 coPls (by decide) (fun fuel cs y hy hyM => plans_openS hy hyM) hf
  have e : p = p' ∧ n = n' ∧ c = c' := by simpa [Value.cells] using hcs
  obtain ⟨rfl, rfl, rfl⟩ := e
  rcases hr with rfl | ⟨bk, off, rfl, hbk, hr⟩
  · exact ⟨[], fun _ => none, fun _ => 0, fun _ _ => none, fun _ _ => 0, rfl, fun i l hl => by simp at hl, by simp, fun l hl => by simp at hl, fun l hl => by simp at hl, Nat.zero_le _⟩
  · obtain ⟨ll, hl, hp⟩ := choose_list (P := fun i (z : List PlP × Option Addr × Nat × (Nat → Option Addr) × (Nat → Nat)) => W.cell? ⟨bk, off + i, none⟩ = some (.slice z.2.1 z.1.length z.2.2.1) ∧ PlansAt W W.heap.size z.2.1 z.1 z.2.2.2.1 z.2.2.2.2 ∧ z.1.length ≤ 1048576 ∧ (∀ q ∈ z.1, q.L.length ≤ 1048576) ∧ pre z.1 z.1.length ≤ ws i) n (fun i hi => by
      obtain ⟨cs', ⟨l, p, c, lp, lc, rfl, hP, hL, hLq, hw⟩, hc⟩ := hr i hi
      exact ⟨⟨l, p, c, lp, lc⟩, by have := hc 0 _ rfl; simpa using this, hP, hL, hLq, hw⟩)
    subst hl
    refine ⟨ll.map (·.1), fun i => match ll[i]? with | some z => z.2.1 | none => none, fun i => match ll[i]? with | some z => z.2.2.1 | none => 0, fun i => match ll[i]? with | some z => z.2.2.2.1 | none => fun _ => none, fun i => match ll[i]? with | some z => z.2.2.2.2 | none => fun _ => 0, by simp, fun i l hl => ?_, by simp; have hb' : _ ≤ Rows.uptoBulk d := hb; omega, fun l hl => ?_, fun l hl => ?_, ?_⟩
    · rw [List.getElem?_map] at hl
      cases hz : ll[i]? with
      | none => rw [hz] at hl; simp at hl
      | some z =>
        rw [hz] at hl
        simp at hl
        subst hl
        obtain ⟨a1, a2, a3, a4, a5⟩ := hp i z hz
        simp only [hz]
        exact ⟨⟨bk, off, rfl, hbk, a1⟩, a2⟩
    · obtain ⟨z, hz, rfl⟩ := List.mem_map.1 hl
      obtain ⟨i, hi⟩ := List.mem_iff_getElem?.1 hz
      exact (hp i z hi).2.2.1
    · obtain ⟨z, hz, rfl⟩ := List.mem_map.1 hl
      obtain ⟨i, hi⟩ := List.mem_iff_getElem?.1 hz
      exact (hp i z hi).2.2.2.1
    · refine Nat.le_trans (sumTo_mono (g := ws) (fun j hj => ?_)) (by simpa using hws)
      have hj' : j < ll.length := by simpa using hj
      rw [List.getElem?_map, List.getElem?_eq_getElem hj']
      exact (hp j ll[j] (List.getElem?_eq_getElem hj')).2.2.2.2
end Go.Proofs.Ytnhiodmigmmfgaa
/- The document's runner: a new one, walked. -/
namespace Go.Proofs.Ytnhiodmigmmfgaa
open Go.RowKit Go.Shelf
set_option linter.unusedVariables false

theorem infoI4 : (Try.prog.info? 3).map (fun i => (i.zero, i.size, i.bytes)) = some (some (.int .i64 0), 1, 8) := by kernel_rfl
theorem infoUs4 : (Try.prog.info? 31).map (fun i => (i.zero, i.size, i.bytes)) = some (some (.slice none 0 0), 1, 24) := by kernel_rfl
theorem made_ints (n : Nat) : madeCells #[Value.int .i64 0] n = intR (fun _ => 0) n := by
  apply Array.ext'
  rw [toList_madeCells_one]
  simp [intR, List.map_const']
theorem made_vals (n : Nat) : madeCells #[Value.slice none 0 0] n = valR (fun _ => .slice none 0 0) n := by
  apply Array.ext'
  rw [toList_madeCells_one]
  simp [valR, List.map_const']
theorem make_ints4 (n : Nat) (hn : n ≤ 64) (u : World) : (Instr.makeSlice 23 (.int .i64 (n : Int)) (.int .i64 (n : Int))).run Try.prog u = .ok (.slice (some ⟨u.heap.size, 0, none⟩) n n) (u.alloc (.cells (intR (fun _ => 0) n) 3)) := by
  obtain ⟨i0, hi, hz0, hz1, hz2⟩ := info_parts infoI4
  have h := run_make (P := Try.prog) u 23 3 i0 (.int .i64 0) Try.underlying23 hi hz0 .i64 .i64 (n : Int) (n : Int) (by omega) (Int.le_refl _) (by rw [hz2]; omega) (by omega)
  rw [← made_ints]
  simpa [hz1, Value.cells] using h
theorem make_vals4 (n : Nat) (hn : n ≤ 64) (u : World) : (Instr.makeSlice 113 (.int .i64 (n : Int)) (.int .i64 (n : Int))).run Try.prog u = .ok (.slice (some ⟨u.heap.size, 0, none⟩) n n) (u.alloc (.cells (valR (fun _ => .slice none 0 0) n) 31)) := by
  obtain ⟨i0, hi, hz0, hz1, hz2⟩ := info_parts infoUs4
  have h := run_make (P := Try.prog) u 113 31 i0 (.slice none 0 0) Try.underlying113 hi hz0 .i64 .i64 (n : Int) (n : Int) (by omega) (Int.le_refl _) (by rw [hz2]; omega) (by omega)
  rw [← made_vals]
  simpa [hz1, Value.cells] using h
theorem alloc4 (w : World) (a b c d : Obj) : ((((w.alloc a).alloc b).alloc c).alloc d).heap[w.heap.size]? = some a ∧ ((((w.alloc a).alloc b).alloc c).alloc d).heap[w.heap.size + 1]? = some b ∧ ((((w.alloc a).alloc b).alloc c).alloc d).heap[w.heap.size + 1 + 1]? = some c ∧ ((((w.alloc a).alloc b).alloc c).alloc d).heap[w.heap.size + 1 + 1 + 1]? = some d := by
  have s1 : (w.alloc a).heap.size = w.heap.size + 1 := World.size_alloc _ _
  have s2 : ((w.alloc a).alloc b).heap.size = w.heap.size + 1 + 1 := by rw [World.size_alloc, s1]
  have s3 : (((w.alloc a).alloc b).alloc c).heap.size = w.heap.size + 1 + 1 + 1 := by rw [World.size_alloc, s2]
  refine ⟨?_, ?_, ?_, ?_⟩
  · rw [Below.heap_alloc _ _ _ (by omega), Below.heap_alloc _ _ _ (by omega), Below.heap_alloc _ _ _ (by omega)]
    exact heap_alloc_new _ _
  · rw [Below.heap_alloc _ _ _ (by omega), Below.heap_alloc _ _ _ (by omega), ← s1]
    exact heap_alloc_new _ _
  · rw [Below.heap_alloc _ _ _ (by omega), ← s2]
    exact heap_alloc_new _ _
  · rw [← s3]
    exact heap_alloc_new _ _
def tooL (ll : List (List PlP)) : Bool := decide (64 < ll.length) || ll.any (fun l => decide (4096 < l.length))
/-- The four blocks of a new one. -/
structure N4 (X wx : World) (r nm T gc ga gg : Nat) (p : Option Addr) (c8 : Nat) : Prop where
  blk : wx.heap[r]? = some (.cells #[.pointer (some ⟨nm, 0, none⟩), .slice p T c8, .slice (some ⟨gc, 0, none⟩) T T, .slice (some ⟨ga, 0, none⟩) T T, .int .i64 0, .slice none 0 0, .slice none 0 0, .slice (some ⟨gg, 0, none⟩) T T] 115 (0, 0))
  cb : wx.heap[gc]? = some (.cells (intR (fun _ => 0) T) 3 (0, 0))
  ab : wx.heap[ga]? = some (.cells (intR (fun _ => 0) T) 3 (0, 0))
  gb : wx.heap[gg]? = some (.cells (valR (fun _ => .slice none 0 0) T) 31 (0, 0))
  ne : gc ≠ ga
  lo : X.heap.size ≤ r ∧ X.heap.size ≤ gc ∧ X.heap.size ≤ ga ∧ X.heap.size ≤ gg
  chg : Chg (fun _ => False) X wx
set_option maxRecDepth 100000 in
set_option maxHeartbeats 8000000 in
theorem d4_new {X : World} {B nm c8 : Nat} {p : Option Addr} {ll : List (List PlP)} {ap : Nat → Option Addr} {ac : Nat → Nat} {lp : Nat → Nat → Option Addr} {lc : Nat → Nat → Nat} {R : Nat → Prop} {m : Mu} {t : List Acc} (hP : ThsAt X B p ll ap ac lp lc) (hB : B ≤ X.heap.size) (hll : ll.length ≤ 1048576) (hls : ∀ l ∈ ll, l.length ≤ 1048576) (hM : RM X R nm 200 m.next m.cs t) (hR : ∀ k, R k → B ≤ k) (hm : m.next ≤ 200) (ht : t.length ≤ 1) (hb : tooL ll = false) :
    Calls Try.prog 23 #[.pointer (some ⟨nm, 0, none⟩), .slice p ll.length c8] X fun e Y => ∃ r, e = .returned (.tuple #[.pointer (some ⟨r, 0, none⟩), .int .i64 0]) ∧ ∃ K, D4x Y B r nm ll.length p c8 ⟨0, fun _ => 0, fun _ => 0, [], List.replicate t.length (-1), fun _ => [], m, t⟩ K ∧ (∀ k, K k → (R k ∨ X.heap.size ≤ k) ∧ k < Y.heap.size) ∧ Chg (fun _ => False) X Y := by
  have hT : ll.length ≤ 64 := by
    unfold tooL at hb
    simp at hb
    omega
  have hL : ∀ l ∈ ll, l.length ≤ 4096 := fun l hl => by
    unfold tooL at hb
    simp at hb
    have := hb.2 l hl
    omega
  have HP := keepH hP
  have HL := keepH hL
  have HM := keepH hM
  have HR := keepH hR
  have hi4 := make_ints4 ll.length hT
  have hv4 := make_vals4 ll.length hT
  have HI4 := keepH hi4
  have HV4 := keepH hv4
  clear hP hls hM hR hb hL hi4 hv4
  go_enter Try.func23, Try.ntmps23
  go_wp2_with fail
  go_loopw [6] (fun s wx => ∃ i : Nat, i ≤ ll.length ∧ s = .int .i64 (i : Int) ∧ Hid (wx.heap = X.heap ∧ Chg (fun _ => False) X wx)) (fun s _ => ll.length - (intOf s).toNat)
  case atStart => exact ⟨0, Nat.zero_le _, rfl, rfl, Chg.refl _ _⟩
  case round =>
    obtain ⟨i, hil, rfl, HC⟩ := hrel
    obtain ⟨w1, hw1⟩ : ∃ w1, w1 = wr := ⟨_, rfl⟩
    subst hw1
    by_cases hi : i < ll.length
    · have z1 : (i : Int) < (ll.length : Int) := by omega
      obtain ⟨l, hl⟩ : ∃ l, ll[i]? = some l := ⟨ll[i], List.getElem?_eq_getElem hi⟩
      obtain ⟨⟨bk, off, rfl, _, d0⟩, _⟩ := (HP.out.chg hB HC.out.2) i l hl
      have hl4 := HL.out l (List.mem_of_getElem? hl)
      have z2 : ¬ (4096 : Int) < (l.length : Int) := by omega
      clear hl
      go_wp2_with fail
      go_roundw
      case rel => exact ⟨i + 1, by omega, by first | rfl | go_num, HC.out⟩
      case measure => simp [intOf]; omega
    · have z1 : ¬ (i : Int) < (ll.length : Int) := by omega
      have hi4 := HI4.out
      have hv4 := HV4.out
      go_upto_region 10 with fail
      go_cut [7] (fun s7 wx => ∃ r gc ga gg, s7 = .pointer (some ⟨r, 0, none⟩) ∧ Hid (N4 w1 wx r nm ll.length gc ga gg p c8))
      case first =>
        go_region
        all_goals (try go_wp2_with fail)
        all_goals go_meet
        all_goals (refine ⟨_, _, _, _, rfl, ⟨(alloc4 w1 _ _ _ _).2.2.2, ?_, ?_, ?_, by omega, ⟨by omega, by omega, by omega, by omega⟩, ?_⟩⟩)
        all_goals first | exact (alloc4 w1 _ _ _ _).1 | exact (alloc4 w1 _ _ _ _).2.1 | exact (alloc4 w1 _ _ _ _).2.2.1 | exact ((((((Chg.refl (fun _ => False) w1).alloc _).alloc _).alloc _).alloc _).drew)
      case rest =>
        obtain ⟨r, gc, ga, gg, rfl, HN⟩ := hcut
        obtain ⟨w2, hw2⟩ : ∃ w2, w2 = wc := ⟨_, rfl⟩
        subst hw2
        have HCX : Hid (Chg (fun _ => False) X w2) := HC.out.2.trans HN.out.chg (fun _ _ x => x) (fun _ _ x => x)
        have hsz : X.heap.size = w1.heap.size := by rw [HC.out.1]
        have HD : Hid (D4At w2 B (fun k => open Classical in if k = r then 1 else if k = gc then 2 else if k = ga then 3 else if k = gg then 4 else if R k then 7 else 0) r nm ll.length 0 gc ga gg p c8 (.slice none 0 0) (.slice none 0 0) [] [] (fun _ => .slice none 0 0) (fun _ => []) R m t (fun _ => 0) (fun _ => 0)) := by
          have h := HN.out
          obtain ⟨l1, l2, l3, l4⟩ := h.lo
          have rc : gc ≠ r := typ_ne h.cb h.blk (by decide)
          have ra : ga ≠ r := typ_ne h.ab h.blk (by decide)
          have rg : gg ≠ r := typ_ne h.gb h.blk (by decide)
          have gcg : gg ≠ gc := typ_ne h.gb h.cb (by decide)
          have gag : gg ≠ ga := typ_ne h.gb h.ab (by decide)
          have rl : ∀ k, R k → k < X.heap.size := fun k e => HM.out.lt k e
          refine ⟨h.blk, h.cb, h.ab, h.gb, World.ownsRow_nil _ _ _ _, World.ownsRow_nil _ _ _ _, fun i _ => World.ownsRow_nil _ _ _ _, HM.out.chg HCX.out (fun _ _ x => x), ?_, ?_, ?_, ?_, fun k e => by simp [Value.ownBlock] at e, fun k e => by simp [Value.ownBlock] at e, fun k e => ?_, fun i k _ e => by simp [Value.ownBlock] at e, fun k e => ?_, ⟨by simp, by simp, fun _ _ => by simp, by omega, hm, hT⟩⟩
          · simp
          · simp [rc]
          · simp [ra, h.ne.symm]
          · simp [rg, gcg, gag]
          · have := rl k e
            simp [show k ≠ r by omega, show k ≠ gc by omega, show k ≠ ga by omega, show k ≠ gg by omega, e]
          · have lr := lt_of h.blk
            have lgc := lt_of h.cb
            have lga := lt_of h.ab
            have lgg := lt_of h.gb
            have sz := HCX.out.size
            by_cases e1 : k = r
            · omega
            by_cases e2 : k = gc
            · omega
            by_cases e3 : k = ga
            · omega
            by_cases e4 : k = gg
            · omega
            by_cases e5 : R k
            · have := rl k e5; have := HR.out k e5; omega
            · simp [e1, e2, e3, e4, e5] at e
        have HKK : Hid (∀ k, (fun k => open Classical in if k = r then 1 else if k = gc then 2 else if k = ga then 3 else if k = gg then 4 else if R k then 7 else 0) k ≠ 0 → R k ∨ X.heap.size ≤ k) := fun k e => by
          obtain ⟨l1, l2, l3, l4⟩ := HN.out.lo
          by_cases e1 : k = r
          · right; omega
          by_cases e2 : k = gc
          · right; omega
          by_cases e3 : k = ga
          · right; omega
          by_cases e4 : k = gg
          · right; omega
          by_cases e5 : R k
          · exact .inl e5
          · simp [e1, e2, e3, e4, e5] at e
        have HLO : Hid (∀ k, R k → k < X.heap.size) := fun k e => HM.out.lt k e
        clear HM HC HN hi4 hv4
        obtain ⟨j0, hj0, hy0, hy1, hy2⟩ := info_parts infoI4
        go_wp2_with fail
        go_loopw [8] (fun s wx => ∃ k : Nat, k ≤ t.length ∧ s = .int .i64 (k : Int) ∧ Hid (∃ tg wv ws, ws.length = k ∧ ws = List.replicate ws.length (-1) ∧ D4At wx B tg r nm ll.length 0 gc ga gg p c8 (.slice none 0 0) wv [] ws (fun _ => .slice none 0 0) (fun _ => []) R m t (fun _ => 0) (fun _ => 0) ∧ (∀ k, tg k ≠ 0 → R k ∨ X.heap.size ≤ k) ∧ Chg (fun _ => False) X wx)) (fun s _ => t.length - (intOf s).toNat)
        case atStart => exact ⟨0, Nat.zero_le _, rfl, _, _, [], rfl, rfl, HD.out, HKK.out, HCX.out⟩
        case round =>
          obtain ⟨k, hkt, rfl, HX⟩ := hrel
          obtain ⟨tg, wv, ws, hws, hwr, h, hK, hC⟩ := HX.out
          have HWR := keepH hwr
          clear hwr
          obtain ⟨w3, hw3⟩ : ∃ w3, w3 = wr := ⟨_, rfl⟩
          subst hw3
          obtain ⟨lr, ⟨nc, av, os, hRm⟩, hbr⟩ := h.rm
          obtain ⟨pa, ca, eav⟩ := slice_of hRm.acc
          have elr : lr.length = t.length := by rw [← hbr]; simp
          have c2 : w3.cell? ⟨nm, 2, none⟩ = some (.slice pa t.length ca) := by
            have e := cell_of hRm.blk 2
            rw [eav, elr] at e
            exact e
          have r0 : w3.cell? ⟨r, 0, none⟩ = some (.pointer (some ⟨nm, 0, none⟩)) := cell_of h.blk 0
          obtain ⟨pw, cw, ewv⟩ := slice_of h.wr
          subst ewv
          have c6 : w3.cell? ⟨r, 6, none⟩ = some (.slice pw ws.length cw) := cell_of h.blk 6
          have f6 := free_of h.blk 6
          have H := keepH h
          have HKT := keepH hK
          have HCT := keepH hC
          clear HX h hK hC hRm hbr
          subst hws
          by_cases hk : ws.length < t.length
          · have z3 : (ws.length : Int) < (t.length : Int) := by omega
            have HW := keepH H.out.wr
            have g6 : ∀ w' : World, w'.heap[r]? = w3.heap[r]? → w'.cell? ⟨r, 6, none⟩ = some (.slice pw ws.length cw) ∧ w'.frozen? ⟨r, 6, none⟩ = false := fun w' e => ⟨(World.cell?_of_block (w := w3) e).trans c6, (World.frozen?_of_block (w := w3) e).trans f6⟩
            have HG6 := keepH g6
            clear g6
            go_wp2_with (at_builtin; refine wpList_append_own_at _ rfl _ _ 23 rfl 0 3 j0 (.int .i64 0) 1 8 Try.underlying23 hj0 hy0 hy1 hy2 rfl (by decide) _ _ _ rfl (HW.out.alloc _) ⟨_, 0, none⟩ 1 1 [.int .i64 (-1)] rfl rfl (cells_new _ _ rfl _ _) (by intro u hu; simp at hu; subst hu; rfl) (by unfold maxLen; omega) (by omega) (Nat.zero_le _) ?_; intro v' w4 s1 s2 s3 s4; obtain ⟨gp, gcp, ev'⟩ := slice_of s1; subst ev'; have h6 := HG6.out w4 ((s2.block r (by rw [World.size_alloc]; have := lt_of H.out.blk; omega) (fun e => by have := H.out.tw r e.symm; rw [H.out.tr] at this; omega)).trans (Below.heap_alloc _ _ r (lt_of H.out.blk))); have c6' := h6.1; have f6' := h6.2; clear h6; have HB3 := keepH (H.out.noted s1 s2 s4 (Nat.le_trans hB HCT.out.size) (by omega)); have HS2 := keepH s2; have HS4 := keepH s4; have HS1 := keepH s1; clear s1 s2 s3 s4)
            have HC4 : Hid (Chg (fun _ => False) X (w4.setCell ⟨r, 6, none⟩ (.slice gp (ws.length + 1) gcp))) := by
              have c4 : Chg (fun k => (Value.slice pw ws.length cw).ownBlock = some k) w3 w4 := ((Chg.refl (fun k => (Value.slice pw ws.length cw).ownBlock = some k) w3).alloc _).grown HS2.out (fun k e _ => e)
              have c5 : Chg (fun _ => False) X w4 := HCT.out.trans c4 (fun _ _ x => x) (fun k hk e => by
                have e6 := H.out.tw k e
                rcases HKT.out k (by rw [e6]; decide) with q | q
                · have := H.out.tR k q; omega
                · omega)
              refine c5.setCell (p := ⟨r, 6, none⟩) (fun q => ?_) _
              have q2 : r < X.heap.size := q
              rcases HKT.out r (by rw [H.out.tr]; decide) with z | z
              · have := H.out.tR r z; have := H.out.tr; omega
              · omega
            go_roundw
            case rel =>
              refine ⟨ws.length + 1, by omega, by first | rfl | go_num, _, _, ws ++ [-1], by simp, by rw [List.length_append, List.length_singleton, List.replicate_succ', ← HWR.out], HB3.out, fun k e => ?_, HC4.out⟩
              by_cases q : k < w3.heap.size
              · simp only [if_pos q] at e
                exact HKT.out k e
              · exact .inr (Nat.le_trans HCT.out.size (by omega))
            case measure => simp [intOf]; omega
          · have z3 : ¬ (ws.length : Int) < (t.length : Int) := by omega
            go_wp2_with fail
            go_ret2
            have ews : List.replicate t.length (-1) = ws := by rw [show t.length = ws.length by omega]; exact HWR.out.symm
            rw [ews]
            exact ⟨_, by simp, fun k => (R k ∨ X.heap.size ≤ k) ∧ k < w3.heap.size, ⟨_, _, _, _, _, _, _, _, H.out, fun k e => ⟨HKT.out k e, (H.out.lo k e).2⟩⟩, fun k e => by rw [← hsz]; exact e, HCT.out⟩
end Go.Proofs.Ytnhiodmigmmfgaa
/- The document's runner: too many threads, or calls. -/
namespace Go.Proofs.Ytnhiodmigmmfgaa
open Go.RowKit Go.Shelf
set_option linter.unusedVariables false

set_option maxRecDepth 100000 in
set_option maxHeartbeats 4000000 in
theorem d4_long {X : World} {B nm c8 : Nat} {p : Option Addr} {ll : List (List PlP)} {ap : Nat → Option Addr} {ac : Nat → Nat} {lp : Nat → Nat → Option Addr} {lc : Nat → Nat → Nat} (hP : ThsAt X B p ll ap ac lp lc) (hB : B ≤ X.heap.size) (hll : ll.length ≤ 1048576) (hls : ∀ l ∈ ll, l.length ≤ 1048576) (hb : tooL ll = true) :
    Calls Try.prog 23 #[.pointer (some ⟨nm, 0, none⟩), .slice p ll.length c8] X fun e Y => e = .returned (.tuple #[.pointer none, .int .i64 6]) ∧ Chg (fun _ => False) X Y := by
  have HP := keepH hP
  have HLS := keepH hls
  clear hP hls
  by_cases hT : 64 < ll.length
  · have z0 : (64 : Int) < (ll.length : Int) := by omega
    go_enter Try.func23, Try.ntmps23
    go_wp2_with fail
    go_ret2
    exact ⟨by simp, Chg.refl _ _⟩
  · have z0 : ¬ (64 : Int) < (ll.length : Int) := by omega
    have HL : Hid (∃ l ∈ ll, 4096 < l.length) := by
      unfold tooL at hb
      simp [hT] at hb
      exact hb
    clear hb
    go_enter Try.func23, Try.ntmps23
    go_wp2_with fail
    go_loopw [6] (fun s wx => ∃ i : Nat, i ≤ ll.length ∧ s = .int .i64 (i : Int) ∧ Hid ((∀ (j : Nat) (l : List PlP), j < i → ll[j]? = some l → l.length ≤ 4096) ∧ Chg (fun _ => False) X wx)) (fun s _ => ll.length - (intOf s).toNat)
    case atStart => exact ⟨0, Nat.zero_le _, rfl, fun j l hj => by omega, Chg.refl _ _⟩
    case round =>
      obtain ⟨i, hil, rfl, HC⟩ := hrel
      obtain ⟨w1, hw1⟩ : ∃ w1, w1 = wr := ⟨_, rfl⟩
      subst hw1
      by_cases hi : i < ll.length
      · have z1 : (i : Int) < (ll.length : Int) := by omega
        obtain ⟨l, hl⟩ : ∃ l, ll[i]? = some l := ⟨ll[i], List.getElem?_eq_getElem hi⟩
        obtain ⟨⟨bk, off, rfl, _, d0⟩, _⟩ := (HP.out.chg hB HC.out.2) i l hl
        have hl4 := HLS.out l (List.mem_of_getElem? hl)
        have HLL := keepH hl
        clear hl
        by_cases h4 : 4096 < l.length
        · have z2 : (4096 : Int) < (l.length : Int) := by omega
          go_wp2_with fail
          go_ret2
          exact ⟨by simp, HC.out.2⟩
        · have z2 : ¬ (4096 : Int) < (l.length : Int) := by omega
          go_wp2_with fail
          go_roundw
          case rel =>
            refine ⟨i + 1, by omega, by first | rfl | go_num, fun j l' hj hl' => ?_, HC.out.2⟩
            by_cases e : j = i
            · subst e; rw [HLL.out] at hl'; injection hl' with hl'; subst hl'; omega
            · exact HC.out.1 j l' (by omega) hl'
          case measure => simp [intOf]; omega
      · exfalso
        obtain ⟨l, hm, h4⟩ := HL.out
        obtain ⟨j, hj⟩ := List.mem_iff_getElem?.1 hm
        have hjl := (List.getElem?_eq_some_iff.1 hj).1
        have := HC.out.1 j l (by omega) hj
        omega
end Go.Proofs.Ytnhiodmigmmfgaa
/- Both: a program's runner, and the document's. -/
namespace Go.Proofs.Ytnhiodmigmmfgaa
open Go.RowKit Go.Shelf
set_option linter.unusedVariables false

theorem tooL_B {ll : List (List PlP)} {rv : Nat → Value} {pb : Nat → Nat → Nat} : tooLongB (tlOfP ll rv pb) = tooL ll := by
  have e1 : (tlOfP ll rv pb).length = ll.length := by simp [tlOfP]
  unfold tooLongB tooL
  rw [e1]
  congr 1
  rw [Bool.eq_iff_iff, List.any_eq_true, List.any_eq_true]
  constructor
  · rintro ⟨x, hx, h⟩
    obtain ⟨i, hi, rfl⟩ := List.mem_map.1 hx
    exact ⟨lOf ll i, List.mem_of_getElem? (lOf_get (List.mem_range.1 hi)), by simpa [ifL] using h⟩
  · rintro ⟨l, hl, h⟩
    obtain ⟨i, hi⟩ := List.mem_iff_getElem?.1 hl
    have hil := (List.getElem?_eq_some_iff.1 hi).1
    have e : lOf ll i = l := by have := lOf_get hil; rw [hi] at this; injection this with this; exact this.symm
    exact ⟨_, List.mem_map.2 ⟨i, List.mem_range.2 hil, rfl⟩, by simpa [ifL, e] using h⟩
/-- The lists that were handed in, some of them wiped. -/
structure Wp (w8 X : World) (ll : List (List PlP)) (gt ct : Nat) (rv : Nat → Value) (i : Nat) : Prop where
  tb : ∃ cur : Array Value, X.heap[gt]? = some (.cells cur 59 (0, 0)) ∧ ll.length ≤ cur.size ∧ ∀ j, i ≤ j → j < ll.length → cur[j]? = some (rv j)
  rb : ∀ j g, j < ll.length → (rv j).ownBlock = some g → ∃ cur : Array Value, X.heap[g]? = some (.cells cur 77 (0, 0)) ∧ clOf ll j ≤ cur.size
  sh : ∀ j, j < ll.length → ∃ p c, rv j = .slice p (clOf ll j) c ∧ (0 < clOf ll j → ∃ g, p = some ⟨g, 0, none⟩)
  chg : Chg (mineS ll.length (.slice (some ⟨gt, 0, none⟩) ll.length ct) rv) w8 X
theorem Wp.cell {w8 X : World} {ll : List (List PlP)} {gt ct : Nat} {rv : Nat → Value} {i g k : Nat} (h : Wp w8 X ll gt ct rv i) (j : Nat) (hj : j < ll.length) (hg : (rv j).ownBlock = some g) (u : Value) : Wp w8 (X.setCell ⟨g, k, none⟩ u) ll gt ct rv i := by
  obtain ⟨cu, b1, b2⟩ := h.rb j g hj hg
  obtain ⟨cur, a1, a2, a3⟩ := h.tb
  refine ⟨⟨cur, (Below.heap_setCell _ _ _ gt (fun e => typ_ne a1 b1 (by decide) e)).trans a1, a2, a3⟩, fun j' g' hj' hg' => ?_, h.sh, h.chg.setCell (p := ⟨g, k, none⟩) (fun _ => .inr ⟨j, hj, hg⟩) u⟩
  by_cases e : g' = g
  · subst e
    obtain ⟨cu', d1, d2⟩ := h.rb j' g' hj' hg'
    exact ⟨_, set_of d1 k u, by simpa using d2⟩
  · obtain ⟨cu', d1, d2⟩ := h.rb j' g' hj' hg'
    exact ⟨cu', (Below.heap_setCell _ _ _ g' (fun q => e q)).trans d1, d2⟩
theorem Wp.row {w8 X : World} {ll : List (List PlP)} {gt ct : Nat} {rv : Nat → Value} {i : Nat} (h : Wp w8 X ll gt ct rv i) (u : Value) : Wp w8 (X.setCell ⟨gt, i, none⟩ u) ll gt ct rv (i + 1) := by
  obtain ⟨cur, a1, a2, a3⟩ := h.tb
  refine ⟨⟨_, set_of a1 i u, by simpa using a2, fun j h1 h2 => ?_⟩, fun j g hj hg => ?_, h.sh, h.chg.setCell (p := ⟨gt, i, none⟩) (fun _ => .inl rfl) u⟩
  · rw [Array.getElem?_setIfInBounds_ne (by omega)]
    exact a3 j (by omega) h2
  · obtain ⟨cu, d1, d2⟩ := h.rb j g hj hg
    exact ⟨cu, (Below.heap_setCell _ _ _ g (fun q => typ_ne d1 a1 (by decide) q)).trans d1, d2⟩
/-- The memories, with one access made ahead. -/
structure Mid9 (V X : World) (F R : Nat → Prop) (b : Nat) : Prop where
  mem : IsMem X (b + 1) b
  bank : ∃ vs, Bank X F b 200 1 (stN 200 [] 50 3) [⟨9, 2, 50, 3, 0, vs, [], 0, false⟩]
  rm : RM X R (b + 3) 200 1 (stN 200 [] 50 3) [⟨9, 2, 50, 3, 0, .slice none 0 0, [], 0, false⟩]
  lo : (∀ k, F k → V.heap.size ≤ k) ∧ (∀ k, R k → V.heap.size ≤ k) ∧ V.heap.size ≤ b
  ap : (∀ k, R k → ¬ F k) ∧ ¬ F (b + 1) ∧ ¬ R (b + 1)
  chg : Chg (fun _ => False) V X
theorem mid9 {V w1 w2 w4 w5 : World} {b v : Nat} {F R : Nat → Prop} {vs : Value} {o : Obj} (eb : V.heap.size = b) (m1 : IsMem w1 (b + 1) b) (c1 : Chg (fun _ => False) V w1) (z1 : w1.heap.size = b + 2) (c2 : Chg (fun _ => False) w1 w2) (z2 : w2.heap.size = b + 4) (hv : v = b + 4) (b4 : Bank w4 F b 200 1 (stN 200 [] 50 3) [⟨9, 2, 50, 3, 0, vs, [], 0, false⟩]) (g4 : GoesV (w2.alloc o) w4 (fun k => k = b) F v)
    (r5 : RMem w5 R (b + 3) 200 1 (stN 200 [] 50 3) [⟨9, 2, 50, 3, 0, .slice none 0 0, [], 0, false⟩]) (g5 : Goes w4 w5 (fun k => k = b + 2 ∨ k = b + 3) R) : Mid9 V w5 F R b := by
  have z3 : (w2.alloc o).heap.size = b + 5 := by simp [z2]
  have s4 := g4.chg.size
  have c3 : Chg (fun _ => False) V (w2.alloc o) := (c1.trans c2 (H := fun _ => False) (fun _ _ x => x) (fun _ _ x => x)).alloc o
  have c4 : Chg (fun _ => False) V w4 := c3.trans g4.chg (fun _ _ x => x) (fun k hk e => by rcases e with e | e <;> omega)
  have c5 : Chg (fun _ => False) V w5 := c4.trans g5.chg (fun _ _ x => x) (fun k hk e => by rcases e with e | e <;> omega)
  have lF : ∀ k, F k → k = b ∨ b + 5 ≤ k := fun k e => (g4.new k e).imp id (fun q => by omega)
  have lR : ∀ k, R k → (k = b + 2 ∨ k = b + 3) ∨ w4.heap.size ≤ k := fun k e => g5.new k e
  have hmem2 : IsMem (w2.alloc o) (b + 1) b := (Below.heap_alloc _ _ _ (by omega)).trans ((c2.block _ (by omega) (fun x => x)).trans m1)
  have hmem4 : IsMem w4 (b + 1) b := (g4.chg.block _ (by omega) (fun e => by rcases e with e | e <;> omega)).trans hmem2
  refine ⟨(g5.chg.block _ (by omega) (fun e => by rcases e with e | e <;> omega)).trans hmem4, ⟨vs, b4.chg g5.chg (fun k e q => ?_)⟩, ⟨_, r5, rfl⟩, ⟨fun k e => ?_, fun k e => ?_, by omega⟩, ⟨fun k e q => ?_, fun q => ?_, fun q => ?_⟩, c5⟩
  · rcases lF k e with z | z <;> rcases q with q | q <;> omega
  · rcases lF k e with z | z <;> omega
  · rcases lR k e with (z | z) | z <;> omega
  · have hlt := b4.ltF k q
    rcases lR k e with (z | z) | z
    · rcases lF k q with y | y <;> omega
    · rcases lF k q with y | y <;> omega
    · omega
  · rcases lF _ q with z | z <;> omega
  · rcases lR _ q with (z | z) | z <;> omega
end Go.Proofs.Ytnhiodmigmmfgaa
