/- Plans that come in. -/
import Derived.Lib.SmallJoins
import Derived.Deep.Slices
import Derived.Carry
import Derived.OpenShut
import Derived.SizedLaws
import Derived.Test.YtkfmpebhibnniaaRows
import Derived.Test.YtkfmpebhibnniaaYj
import Derived.Test.YtkfmpebhibnniaaY2
import Derived.Test.YtkfmpebhibnniaaSPickIn
import Derived.Test.YtkfmpebhibnniaaSNew
import Derived.Test.YtkfmpebhibnniaaY8
import Derived.Test.YtkfmpebhibnniaaYw
import Derived.Test.YtkfmpebhibnniaaY9
import Derived.Test.YtkfmpebhibnniaaYm
import Derived.Test.YtkfmpebhibnniaaYk
import Derived.Deep.CutRange
import Derived.Test.YtkfmpebhibnniaaYH1
import Derived.Test.YtkfmpebhibnniaaY6
namespace Go.Proofs.Ytkfmpebhibnniaa
open Go.RowKit Go.Shelf Go.Joins Go.ChangeShapes Go.WideShapes Go.Deep
set_option linter.unusedVariables false

theorem bulk_one {H : Type} (d : DataW H) : 1 ≤ Rows.uptoBulk d := by
  cases d with
  | lit l => cases l <;> simp [Rows.uptoBulk]
  | nil => simp [Rows.uptoBulk]
  | ptr d => simp [Rows.uptoBulk]
  | slice elems spare => simp [Rows.uptoBulk]
  | agg parts => simp [Rows.uptoBulk]
  | iface t d => simp [Rows.uptoBulk]
  | map entries => simp [Rows.uptoBulk]
  | held h => simp [Rows.uptoBulk]
theorem bulk_length {H : Type} (l : List (DataW H)) : l.length ≤ Rows.uptoBulkAll l := by
  induction l with
  | nil => simp [Rows.uptoBulkAll]
  | cons x r ih => have := bulk_one x; simp only [Rows.uptoBulkAll, List.length_cons]; omega
theorem bulk_mem {H : Type} {d : DataW H} {l : List (DataW H)} (h : d ∈ l) : Rows.uptoBulk d ≤ Rows.uptoBulkAll l := by
  induction l with
  | nil => simp at h
  | cons x r ih =>
    simp only [Rows.uptoBulkAll]
    rcases List.mem_cons.1 h with rfl | h
    · omega
    · have := ih h
      omega
theorem cells_each {w : World} {a : Addr} {n : Nat} {cs : List Value} (h : w.cells? 0 a n = some cs) : ∀ j u, cs[j]? = some u → w.cell? (a.add j) = some u := by
  obtain ⟨_, hl, hc⟩ := World.cells?_some h
  intro j u hj
  have hlt : j < n := by
    have := (List.getElem?_eq_some_iff.1 hj).1
    omega
  rw [hc j hlt, hj]
theorem choose_list {α : Type} {P : Nat → α → Prop} (n : Nat) (h : ∀ i, i < n → ∃ a, P i a) : ∃ l : List α, l.length = n ∧ ∀ (i : Nat) (a : α), l[i]? = some a → P i a := by
  induction n with
  | zero => exact ⟨[], rfl, fun i a e => by simp at e⟩
  | succ n ih =>
    obtain ⟨l, hl, hp⟩ := ih (fun i hi => h i (by omega))
    obtain ⟨a, ha⟩ := h n (by omega)
    refine ⟨l ++ [a], by simp [hl], fun i b e => ?_⟩
    by_cases c : i < n
    · rw [List.getElem?_append_left (by omega)] at e
      exact hp i b e
    · have hi : i = n := by
        have := (List.getElem?_eq_some_iff.1 e).1
        simp [hl] at this
        omega
      subst hi
      rw [← hl] at e
      simp at e
      subst e
      exact ha
theorem slice_rowsM {H : Type} {enc : TypeId × Value → H} {W : World} {sp : Nat → Bool} {held : Bool} {fuel : Nat} {cs : List Value} {x : DataW H × List MemPlace} {T E : TypeId} {s : Nat} {Q : List Value → Prop} {M : Nat} (hM : Rows.uptoBulk x.1 ≤ M) (hT : Try.prog.underlying T = some (.slice E)) (hs : Try.prog.cellsOf E = s) (hs0 : 0 < s)
    (hQ : ∀ fuel cs y, DataW.trod enc Try.prog W 0 sp held fuel E cs = some y → Rows.uptoBulk y.1 ≤ M → Q cs ∧ cs.length = s) (hf : DataW.trod enc Try.prog W 0 sp held fuel T cs = some x) :
    ∃ p n c, cs = [.slice p n c] ∧ n ≤ Rows.uptoBulk x.1 ∧ (n = 0 ∨ ∃ bk off, p = some ⟨bk, off, none⟩ ∧ bk < W.heap.size ∧ ∀ i, i < n → ∃ cs' : List Value, Q cs' ∧ ∀ (j : Nat) (u : Value), cs'[j]? = some u → W.cell? ⟨bk, off + (i * s + j), none⟩ = some u) := by
  rcases open_slice hT hf with ⟨hcs, _⟩ | ⟨a, len, cap, m, k, D, Pl, hcs, _, hl, hm, hme, hx, hi⟩
  · exact ⟨none, 0, 0, hcs, Nat.zero_le _, .inl rfl⟩
  · have hmn : len ≤ m := by rw [hme]; split <;> omega
    have hb : len ≤ Rows.uptoBulk x.1 := by
      rw [hx]
      have := bulk_length ((List.range len).map D)
      simp only [Rows.uptoBulk]
      simp at this
      omega
    have hbD : ∀ i, i < len → Rows.uptoBulk (D i) ≤ M := fun i hi2 => by
      refine Nat.le_trans ?_ hM
      rw [hx]
      have := bulk_mem (d := D i) (l := (List.range len).map D) (List.mem_map.2 ⟨i, List.mem_range.2 hi2, rfl⟩)
      simp only [Rows.uptoBulk]
      omega
    refine ⟨some a, len, cap, hcs, hb, ?_⟩
    rcases Nat.eq_zero_or_pos len with h0 | h0
    · exact .inl h0
    · obtain ⟨bk, off, spot⟩ := a
      have hrow : ∀ i, i < len → ∃ cs' : List Value, (Q cs' ∧ cs'.length = s) ∧ ∀ (j : Nat) (u : Value), cs'[j]? = some u → W.cell? ((⟨bk, off, spot⟩ : Addr).add (i * s + j)) = some u := fun i hin => by
        obtain ⟨cs', hc, ht⟩ := hi i (by omega)
        refine ⟨cs', hQ _ _ _ ht (hbD i hin), fun j u hj => ?_⟩
        rw [hs] at hc
        have e2 := cells_each hc j u hj
        have e3 : ((⟨bk, off, spot⟩ : Addr).add (i * s)).add j = (⟨bk, off, spot⟩ : Addr).add (i * s + j) := by
          unfold Addr.add
          split <;> split <;> simp_all <;> omega
        rw [← e3]
        exact e2
      have h00 : ∃ u, W.cell? ((⟨bk, off, spot⟩ : Addr).add 0) = some u := by
        obtain ⟨cs', ⟨_, hl'⟩, ho⟩ := hrow 0 h0
        obtain ⟨u, hu⟩ : ∃ u, cs'[0]? = some u := ⟨cs'[0]'(by omega), List.getElem?_eq_getElem _⟩
        exact ⟨u, by simpa using ho 0 u hu⟩
      obtain ⟨u, hu⟩ := h00
      have hspot : spot = none := by simpa [Addr.add] using World.cell?_spot hu
      subst hspot
      have hbk : bk < W.heap.size := World.block_lt_of_cell? W _ hu
      refine .inr ⟨bk, off, rfl, hbk, fun i hin => ?_⟩
      obtain ⟨cs', ⟨hq, _⟩, ho⟩ := hrow i hin
      refine ⟨cs', hq, fun j u hj => ?_⟩
      have e := ho j u hj
      unfold Addr.add at e
      split at e
      · rename_i z
        have z0 : i * s + j = 0 := by simpa using z
        rw [z0]
        exact e
      · exact e
theorem coU : Try.prog.cellsOf 51 = 1 := by kernel_rfl
theorem coUs : Try.prog.cellsOf 49 = 1 := by kernel_rfl
theorem coK : Try.prog.cellsOf 50 = 1 := by kernel_rfl
theorem coB : Try.prog.cellsOf 4 = 1 := by kernel_rfl
theorem coDo : Try.prog.cellsOf 53 = 5 := by kernel_rfl
theorem coDos : Try.prog.cellsOf 41 = 1 := by kernel_rfl
theorem coPl : Try.prog.cellsOf 43 = 2 := by kernel_rfl
theorem nat_u64 {n : Int} (h : (Lit.int .u64 n).wf = true) : ∃ m : Nat, n = (m : Int) ∧ m < 18446744073709551616 := by
  have b := bounds_u64 h
  exact ⟨n.toNat, by omega, by omega⟩
theorem list5 {α : Type} {cs : List α} (h : cs.length = 5) : ∃ a b c d e, cs = [a, b, c, d, e] := by
  match cs, h with
  | [a, b, c, d, e], _ => exact ⟨a, b, c, d, e, rfl⟩
theorem list2 {α : Type} {cs : List α} (h : cs.length = 2) : ∃ c0 c1, cs = [c0, c1] := by
  match cs, h with
  | [c0, c1], _ => exact ⟨c0, c1, rfl⟩
theorem add_plainY (bk off i : Nat) : (⟨bk, off, none⟩ : Addr).add i = ⟨bk, off + i, none⟩ := by
  unfold Addr.add
  split <;> simp
theorem vals_open {H : Type} {enc : TypeId × Value → H} {W : World} {sp : Nat → Bool} {held : Bool} {fuel : Nat} {cs : List Value} {x : DataW H × List MemPlace} (hM : Rows.uptoBulk x.1 ≤ 1048576) (hf : DataW.trod enc Try.prog W 0 sp held fuel 49 cs = some x) :
    ∃ (p : Option Addr) (c : Nat) (l : List Nat), cs = [.slice p l.length c] ∧ Reads W p l ∧ (∀ ad, p = some ad → l ≠ [] → ad.block < W.heap.size) ∧ (∀ y ∈ l, y < 18446744073709551616) ∧ l.length ≤ 1048576 := by
  obtain ⟨p, n, c, hcs, hb, hr⟩ := slice_rowsM (s := 1) (M := 1048576) hM (Q := fun cs => ∃ k : Nat, k < 18446744073709551616 ∧ cs = [.int .u64 (k : Int)]) Try.underlying49 coU (by decide) (fun fuel cs y hy _ => by
    obtain ⟨z, e, _, w⟩ := DataW.trod_int Try.underlying51 hy
    obtain ⟨k, rfl, hk⟩ := nat_u64 w
    exact ⟨⟨k, hk, e⟩, by rw [e]; rfl⟩) hf
  rcases hr with rfl | ⟨bk, off, rfl, hbk, hr⟩
  · exact ⟨p, c, [], hcs, .inl rfl, fun _ _ h => absurd rfl h, fun y hy => by simp at hy, by simp⟩
  · obtain ⟨l, hl, hp⟩ := choose_list (P := fun i (k : Nat) => k < 18446744073709551616 ∧ W.cell? ⟨bk, off + i, none⟩ = some (.int .u64 (k : Int))) n (fun i hi => by
      obtain ⟨cs', ⟨k, hk, rfl⟩, hc⟩ := hr i hi
      have := hc 0 _ rfl
      simp at this
      exact ⟨k, hk, this⟩)
    subst hl
    refine ⟨_, c, l, hcs, .inr ⟨⟨bk, off, none⟩, rfl, fun j u hj => ?_⟩, fun ad e _ => by injection e with e; rw [← e]; exact hbk, fun y hy => ?_, by omega⟩
    · rw [List.getElem?_map] at hj
      cases hx : l[j]? with
      | none => rw [hx] at hj; simp at hj
      | some y => rw [hx] at hj; simp at hj; rw [← hj, add_plainY]; exact (hp j y hx).2
    · obtain ⟨i, hi⟩ := List.mem_iff_getElem?.1 hy
      exact (hp i y hi).1
theorem do_open {H : Type} {enc : TypeId × Value → H} {W : World} {sp : Nat → Bool} {held : Bool} {fuel : Nat} {cs : List Value} {y : DataW H × List MemPlace} (hf : DataW.trod enc Try.prog W 0 sp held fuel 53 cs = some y) (hM : Rows.uptoBulk y.1 ≤ 1048576) :
    (∃ (d : DoP) (vp : Option Addr) (vc : Nat), cs = [.int .u8 d.kd, .int .u64 (d.ad : Int), .int .u64 (d.a : Int), .int .u64 (d.b : Int), .slice vp d.vals.length vc] ∧ d.Ok ∧ Reads W vp d.vals ∧ ∀ ad, vp = some ad → d.vals ≠ [] → ad.block < W.heap.size) ∧ cs.length = 5 := by
  obtain ⟨xs, n, hn, hx, hl, hlen, hh⟩ := DataW.trod_struct Try.underlying53 hf
  subst hn
  rw [coDo] at hl
  refine ⟨?_, hl⟩
  obtain ⟨c0, c1, c2, c3, c4, rfl⟩ := list5 hl
  obtain ⟨y0, y1, y2, y3, y4, rfl⟩ := list5 (show xs.length = 5 from hlen)
  have h0 : DataW.trod enc Try.prog W 0 sp held n 50 [c0] = some y0 := by have := hh 0 _ rfl; simpa [coK] using this
  have h1 : DataW.trod enc Try.prog W 0 sp held n 51 [c1] = some y1 := by have := hh 1 _ rfl; simpa [coK, coU] using this
  have h2 : DataW.trod enc Try.prog W 0 sp held n 51 [c2] = some y2 := by have := hh 2 _ rfl; simpa [coK, coU] using this
  have h3 : DataW.trod enc Try.prog W 0 sp held n 51 [c3] = some y3 := by have := hh 3 _ rfl; simpa [coK, coU] using this
  have h4 : DataW.trod enc Try.prog W 0 sp held n 49 [c4] = some y4 := by have := hh 4 _ rfl; simpa [coK, coU, coUs] using this
  obtain ⟨z0, e0, _, w0⟩ := DataW.trod_int Try.underlying50 h0
  obtain ⟨z1, e1, _, w1⟩ := DataW.trod_int Try.underlying51 h1
  obtain ⟨z2, e2, _, w2⟩ := DataW.trod_int Try.underlying51 h2
  obtain ⟨z3, e3, _, w3⟩ := DataW.trod_int Try.underlying51 h3
  obtain ⟨m1, rfl, b1⟩ := nat_u64 w1
  obtain ⟨m2, rfl, b2⟩ := nat_u64 w2
  obtain ⟨m3, rfl, b3⟩ := nat_u64 w3
  have q := bulk_mem (d := y4.1) (l := [y0.1, y1.1, y2.1, y3.1, y4.1]) (by simp)
  have hM4 : Rows.uptoBulk y4.1 ≤ 1048576 := by
    rw [hx] at hM
    simp only [Rows.uptoBulk] at hM
    simp at q hM
    omega
  obtain ⟨vp, vc, l, hc, hR, hB, hS, hL⟩ := vals_open hM4 h4
  simp at e0 e1 e2 e3 hc
  subst e0 e1 e2 e3 hc
  have b0 : 0 ≤ z0 ∧ z0 < 256 := by
    simp [Lit.wf, IntKind.min, IntKind.max, IntKind.signed, IntKind.bits] at w0
    omega
  exact ⟨⟨z0, m1, m2, m3, l⟩, vp, vc, rfl, ⟨b0, b1, b2, b3, hS, by simp only; omega⟩, hR, hB⟩
theorem dos_open {H : Type} {enc : TypeId × Value → H} {W : World} {sp : Nat → Bool} {held : Bool} {fuel : Nat} {cs : List Value} {x : DataW H × List MemPlace} (hM : Rows.uptoBulk x.1 ≤ 1048576) (hf : DataW.trod enc Try.prog W 0 sp held fuel 41 cs = some x) :
    ∃ (p : Option Addr) (c : Nat) (L : List DoP), cs = [.slice p L.length c] ∧ DosAt W W.heap.size p L ∧ L.length ≤ 1048576 := by
  obtain ⟨p, n, c, hcs, hb, hr⟩ := slice_rowsM (s := 5) (M := 1048576) hM (Q := fun cs => ∃ (d : DoP) (vp : Option Addr) (vc : Nat), cs = [.int .u8 d.kd, .int .u64 (d.ad : Int), .int .u64 (d.a : Int), .int .u64 (d.b : Int), .slice vp d.vals.length vc] ∧ d.Ok ∧ Reads W vp d.vals ∧ ∀ ad, vp = some ad → d.vals ≠ [] → ad.block < W.heap.size) Try.underlying41 coDo (by decide) (fun fuel cs y hy hyM => do_open hy hyM) hf
  rcases hr with rfl | ⟨bk, off, rfl, hbk, hr⟩
  · exact ⟨p, c, [], hcs, fun i d hd => by simp at hd, by simp⟩
  · obtain ⟨L, hl, hp⟩ := choose_list (P := fun i (d : DoP) => d.Ok ∧ ∃ vp vc, W.cell? ⟨bk, off + i * 5, none⟩ = some (.int .u8 d.kd) ∧ W.cell? ⟨bk, off + i * 5 + 1, none⟩ = some (.int .u64 (d.ad : Int)) ∧ W.cell? ⟨bk, off + i * 5 + 2, none⟩ = some (.int .u64 (d.a : Int)) ∧ W.cell? ⟨bk, off + i * 5 + 3, none⟩ = some (.int .u64 (d.b : Int)) ∧ W.cell? ⟨bk, off + i * 5 + 4, none⟩ = some (.slice vp d.vals.length vc) ∧ Reads W vp d.vals ∧ ∀ ad, vp = some ad → d.vals ≠ [] → ad.block < W.heap.size) n (fun i hi => by
      obtain ⟨cs', ⟨d, vp, vc, rfl, ho, hR, hB⟩, hc⟩ := hr i hi
      exact ⟨d, ho, vp, vc, by have := hc 0 _ rfl; simpa using this, by have := hc 1 _ rfl; simpa [Nat.add_assoc] using this, by have := hc 2 _ rfl; simpa [Nat.add_assoc] using this, by have := hc 3 _ rfl; simpa [Nat.add_assoc] using this, by have := hc 4 _ rfl; simpa [Nat.add_assoc] using this, hR, hB⟩)
    subst hl
    exact ⟨_, c, L, hcs, fun i d hd => by
      obtain ⟨ho, vp, vc, r⟩ := hp i d hd
      exact ⟨ho, bk, off, vp, vc, rfl, hbk, r⟩, by omega⟩
theorem plan_open {H : Type} {enc : TypeId × Value → H} {W : World} {sp : Nat → Bool} {held : Bool} {fuel : Nat} {cs : List Value} {y : DataW H × List MemPlace} (hf : DataW.trod enc Try.prog W 0 sp held fuel 43 cs = some y) (hM : Rows.uptoBulk y.1 ≤ 1048576) :
    (∃ (q : PlP) (lp : Option Addr) (lc : Nat), cs = [.bool q.none, .slice lp q.L.length lc] ∧ DosAt W W.heap.size lp q.L ∧ q.L.length ≤ 1048576) ∧ cs.length = 2 := by
  obtain ⟨xs, n, hn, hx, hl, hlen, hh⟩ := DataW.trod_struct Try.underlying43 hf
  subst hn
  rw [coPl] at hl
  refine ⟨?_, hl⟩
  obtain ⟨c0, c1, rfl⟩ := list2 hl
  obtain ⟨y0, y1, rfl⟩ := list2 (show xs.length = 2 from hlen)
  have h0 : DataW.trod enc Try.prog W 0 sp held n 4 [c0] = some y0 := by have := hh 0 _ rfl; simpa [coB] using this
  have h1 : DataW.trod enc Try.prog W 0 sp held n 41 [c1] = some y1 := by have := hh 1 _ rfl; simpa [coB, coDos] using this
  obtain ⟨z0, e0, _⟩ := DataW.trod_bool Try.underlying4 h0
  have q := bulk_mem (d := y1.1) (l := [y0.1, y1.1]) (by simp)
  have hM1 : Rows.uptoBulk y1.1 ≤ 1048576 := by
    rw [hx] at hM
    simp only [Rows.uptoBulk] at hM
    simp at q hM
    omega
  obtain ⟨lp, lc, L, hc, hD, hL⟩ := dos_open hM1 h1
  simp at e0 hc
  subst e0 hc
  exact ⟨⟨z0, L⟩, lp, lc, rfl, hD, hL⟩
theorem plans_open {H : Type} {enc : TypeId × Value → H} {W : World} {sp : Nat → Bool} {held : Bool} {p : Option Addr} {n c : Nat} {d : DataW H} {ps : List MemPlace} (h : DataW.Trod enc Try.prog W 0 sp held 22 (.slice p n c) d ps) (hM : Rows.uptoBulk d ≤ 1048576) :
    ∃ (l : List PlP) (lp : Nat → Option Addr) (lc : Nat → Nat), l.length = n ∧ PlansAt W W.heap.size p l lp lc ∧ l.length ≤ 1048576 ∧ ∀ q ∈ l, q.L.length ≤ 1048576 := by
  obtain ⟨fuel, hf⟩ := h
  obtain ⟨p', n', c', hcs, hb, hr⟩ := slice_rowsM (s := 2) (M := 1048576) hM (Q := fun cs => ∃ (q : PlP) (lp : Option Addr) (lc : Nat), cs = [.bool q.none, .slice lp q.L.length lc] ∧ DosAt W W.heap.size lp q.L ∧ q.L.length ≤ 1048576) Try.underlying22 coPl (by decide) (fun fuel cs y hy hyM => plan_open hy hyM) hf
  have e : p = p' ∧ n = n' ∧ c = c' := by simpa [Value.cells] using hcs
  obtain ⟨rfl, rfl, rfl⟩ := e
  rcases hr with rfl | ⟨bk, off, rfl, hbk, hr⟩
  · exact ⟨[], fun _ => none, fun _ => 0, rfl, fun i q hq => by simp at hq, by simp, fun q hq => by simp at hq⟩
  · obtain ⟨l, hl, hp⟩ := choose_list (P := fun i (z : PlP × Option Addr × Nat) => W.cell? ⟨bk, off + i * 2, none⟩ = some (.bool z.1.none) ∧ W.cell? ⟨bk, off + i * 2 + 1, none⟩ = some (.slice z.2.1 z.1.L.length z.2.2) ∧ DosAt W W.heap.size z.2.1 z.1.L ∧ z.1.L.length ≤ 1048576) n (fun i hi => by
      obtain ⟨cs', ⟨q, lp, lc, rfl, hD, hL⟩, hc⟩ := hr i hi
      exact ⟨⟨q, lp, lc⟩, by have := hc 0 _ rfl; simpa using this, by have := hc 1 _ rfl; simpa [Nat.add_assoc] using this, hD, hL⟩)
    subst hl
    refine ⟨l.map (·.1), fun i => match l[i]? with | some z => z.2.1 | none => none, fun i => match l[i]? with | some z => z.2.2 | none => 0, by simp, fun i q hq => ?_, by simp; have hb' : _ ≤ Rows.uptoBulk d := hb; omega, fun q hq => ?_⟩
    · rw [List.getElem?_map] at hq
      cases hz : l[i]? with
      | none => rw [hz] at hq; simp at hq
      | some z =>
        rw [hz] at hq
        simp at hq
        subst hq
        obtain ⟨a1, a2, a3, a4⟩ := hp i z hz
        simp only [hz]
        exact ⟨⟨bk, off, rfl, hbk, a1, a2⟩, a3⟩
    · obtain ⟨z, hz, rfl⟩ := List.mem_map.1 hq
      obtain ⟨i, hi⟩ := List.mem_iff_getElem?.1 hz
      exact (hp i z hi).2.2.2
end Go.Proofs.Ytkfmpebhibnniaa
/- Runs of plans' procs: a pick, with its events. -/
namespace Go.Proofs.Ytkfmpebhibnniaa
open Go.RowKit Go.Shelf
set_option linter.unusedVariables false

/-- A runner with its procs, where the pure run has come to c. -/
structure GRAt {P : Type} {Lo : Nat} {W0 : World} (κ : KindL P Lo W0) (most m b T : Nat) (cl : Nat → Nat) (vb : Nat → Nat) (pv : Nat → Nat → Value) (c : Cfg P) (W Z X : World) (S G K : Nat → Prop) (r : Nat) (vw : List Value) (tv ev av : Value) (ths : List Thr) : Prop where
  run : RunAt X G r m vw tv ev av ths c.st c.evs c.ats
  ma : MA κ most m b T cl vb pv c.st c X K
  apart : ∀ j, G j → ¬ K j
  len : ths.length = T
  thr : ∀ (j : Nat) (t : Thr), ths[j]? = some t → t.calls.length = cl j ∧ (∀ q, q < cl j → t.calls[q]? = some (pv j q)) ∧ t.next = c.ix j ∧ t.begun = c.bg j
  vws : ∀ j, j < T → vw[j]? = some (.pointer (some ⟨vb j, 0, none⟩))
  evl : c.evs.length ≤ 2 * c.st
  inW : ∀ j, G j ∨ (K j ∧ Lo ≤ j) → W.heap.size ≤ j
  lo : Lo ≤ W.heap.size
  chg : Chg (fun _ => False) W X
  keep : ∀ j, S j → j < X.heap.size ∧ X.heap[j]? = Z.heap[j]? ∧ ¬ G j ∧ ¬ K j
def GR {P : Type} {Lo : Nat} {W0 : World} (κ : KindL P Lo W0) (most m b T : Nat) (cl : Nat → Nat) (vb : Nat → Nat) (pv : Nat → Nat → Value) (c : Cfg P) (W Z X : World) (S : Nat → Prop) (r : Nat) : Prop := ∃ G K vw tv ev av ths, GRAt κ most m b T cl vb pv c W Z X S G K r vw tv ev av ths
section
variable {P : Type} {Lo : Nat} {W0 : World} {κ : KindL P Lo W0} {most m b T : Nat} {cl : Nat → Nat} {vb : Nat → Nat} {pv : Nat → Nat → Value} {c : Cfg P} {W Z X : World} {S : Nat → Prop} {r : Nat}
theorem MA.goes {n : Nat} {Y : World} {G K : Nat → Prop} (h : MA κ most m b T cl vb pv n c X K) (hg : Goes X Y G G) (ha : ∀ j, G j → ¬ K j) : MA κ most m b T cl vb pv n c Y K :=
  h.keep hg.chg.size (fun j hj => hg.chg.block j (h.ltK j hj) (fun e => ha j e hj))
theorem MA.tlen {n : Nat} {K : Nat → Prop} (h : MA κ most m b T cl vb pv n c X K) : c.t.length ≤ n + 16000000 := by
  obtain ⟨F, D, md, tg, h⟩ := h
  exact h.tn
theorem MA.lows {n : Nat} {K : Nat → Prop} (h : MA κ most m b T cl vb pv n c X K) (k : Nat) (hk : k < Lo) : X.heap[k]? = W0.heap[k]? := by
  obtain ⟨F, D, md, tg, h⟩ := h
  exact h.low k hk
theorem MA.tick {n : Nat} {K : Nat → Prop} (h : MA κ most m b T cl vb pv n c X K) : MA κ most m b T cl vb pv n c.tick X K := by
  obtain ⟨F, D, md, tg, h⟩ := h
  exact ⟨F, D, md, tg, ⟨h.bank, h.mem, h.views, h.procs, h.oks, h.inF, h.inM, h.inV, h.inD, h.lt, h.tn, h.mo, h.lowK, h.low, h.hi⟩⟩
theorem chg_low {W X Y : World} {Lo : Nat} {H : Nat → Prop} (h : Chg (fun _ => False) W X) (c : Chg H X Y) (hl : ∀ k, k < Lo → Y.heap[k]? = X.heap[k]?) (hH : ∀ k, k < W.heap.size → H k → k < Lo) : Chg (fun _ => False) W Y := by
  have z : Chg (fun k => k < Lo) W Y := h.trans c (fun _ _ x => x.elim) hH
  refine ⟨z.os, z.tape, z.output, z.size, fun k hk _ => ?_⟩
  by_cases e : k < Lo
  · exact (hl k e).trans (h.block k hk (fun x => x))
  · exact z.block k hk e
set_option maxRecDepth 100000 in
theorem gr_pick (h : GR κ most m b T cl vb pv c W Z X S r) (th : Int) (hk : c.st ≤ 16777216) :
    Calls Try.prog 32 #[.pointer (some ⟨r, 0, none⟩), .int .i64 th] X fun e X' => e = .returned (.bool (decide (Cfg.can T cl c th))) ∧ GR κ most m b T cl vb pv (c.pick κ most T cl th) W Z X' S r := by
  obtain ⟨G, K, vw, tv, ev, av, ths, h⟩ := h
  have hl := h.len
  have hma := h.ma
  have hthr := h.thr
  have htl := hma.tlen
  have idle : c.pick κ most T cl th = c.tick → ∀ X', RunAt X' G r m vw tv ev av ths (c.st + 1) c.evs c.ats → Goes X X' G G → GR κ most m b T cl vb pv (c.pick κ most T cl th) W Z X' S r := fun e X' R' GG => by
    rw [e]
    exact ⟨G, K, vw, tv, ev, av, ths, R', ((hma.goes GG h.apart).more (Nat.le_succ c.st)).tick, h.apart, hl, hthr, h.vws, by have := h.evl; show c.evs.length ≤ 2 * (c.st + 1); omega, h.inW, h.lo, h.chg.trans GG.chg (fun _ _ x => x) (fun j hj e => by have := h.inW j (.inl e); omega), fun j hj => ⟨Nat.lt_of_lt_of_le (h.keep j hj).1 GG.chg.size, (GG.chg.block j (h.keep j hj).1 (h.keep j hj).2.2.1).trans (h.keep j hj).2.1, (h.keep j hj).2.2⟩⟩
  by_cases hin : 0 ≤ th ∧ th < (T : Int)
  · obtain ⟨i, rfl⟩ : ∃ i : Nat, th = (i : Int) := ⟨th.toNat, by omega⟩
    have hi : i < T := by omega
    have hlt : i < ths.length := by omega
    obtain ⟨x, hx⟩ : ∃ x, ths[i]? = some x := ⟨ths[i], List.getElem?_eq_getElem hlt⟩
    obtain ⟨hxl, hxc, hxn, hxb⟩ := hthr i x hx
    obtain ⟨g, cc, htv⟩ := slice_pos h.run.tr (by omega)
    have hr := h.run
    rw [htv] at hr
    by_cases hn0 : c.ix i < cl i
    · have hn : x.next < x.calls.length := by omega
      have hp : x.calls[x.next]? = some (pv i (c.ix i)) := by rw [hxn]; exact hxc _ hn0
      have hcan : Cfg.can T cl c (i : Int) := ⟨by omega, by omega, by simpa using hn0⟩
      have hgo : c.pick κ most T cl (i : Int) = (c.go κ most i).tick := by
        unfold Cfg.pick
        rw [if_pos hcan]
        simp
      have few : (c.go κ most i).t.length ≤ c.t.length + 1 := by
        have fw : (c.out κ most i).acc.length ≤ 1 := κ.few (i : Int) most c.next c.cs (c.σ i (c.ix i))
        show (c.t ++ (c.out κ most i).acc).length ≤ _
        rw [List.length_append]
        omega
      refine (r_pick_in (vb := vb i) (fun X K => MA κ most m b T cl vb pv c.st c X K) (fun d X K => d = (c.out κ most i).done ∧ MA κ most m b T cl vb pv (c.st + 1) (c.go κ most i) X K) c.t.length (fun _ => (c.go κ most i).t.length) i x (pv i (c.ix i)) X hr hx hn hp (h.vws i hi) hma h.apart (fun X Y K h hs hk => h.keep hs hk) (fun X K h => h.ltK) (fun X K h => h.memK)
        (fun d X Y K h hs hk => ⟨h.1, h.2.keep hs hk⟩) (fun d X K h => h.2.ltK) (fun d Y K hh => hh.2.memK)
        (fun X K hI => (hI.step i hi hn0 (by omega)).mono (fun e Y z => by obtain ⟨rfl, K', M, GG⟩ := z; exact ⟨_, K', rfl, ⟨rfl, M⟩, GG⟩)) (by omega) (by have := h.evl; omega) (by omega) (fun _ => by omega)).mono ?_
      rintro e X' ⟨d, G', K', ev', av', rfl, R', ⟨rfl, M'⟩, A', GG⟩
      have hev : pickEvs c.evs x c.st i (c.out κ most i).done = evsOf c i (c.out κ most i).done := by unfold pickEvs evsOf; rw [hxn, hxb]
      rw [hev] at R'
      refine ⟨by rw [decide_eq_true hcan], ?_⟩
      rw [hgo]
      refine ⟨G', K', vw, _, ev', av', _, R', M'.tick, A', by simp [hl], fun j t ht => ?_, h.vws, ?_, fun j e => ?_, h.lo, chg_low h.chg GG.chg (fun k hk => (M'.lows k hk).trans (hma.lows k hk).symm) (fun j hj e => ?_), fun j hj => ⟨Nat.lt_of_lt_of_le (h.keep j hj).1 GG.chg.size, (GG.chg.block j (h.keep j hj).1 (fun e => e.elim (h.keep j hj).2.2.1 (h.keep j hj).2.2.2)).trans (h.keep j hj).2.1, fun e => (GG.new j (.inl e)).elim (fun e => e.elim (h.keep j hj).2.2.1 (h.keep j hj).2.2.2) (fun e => by have := (h.keep j hj).1; omega), fun e => (GG.new j (.inr e)).elim (fun e => e.elim (h.keep j hj).2.2.1 (h.keep j hj).2.2.2) (fun e => by have := (h.keep j hj).1; omega)⟩⟩
      · show _ ∧ _ ∧ t.next = updN c.ix i (if (c.out κ most i).done then c.ix i + 1 else c.ix i) j ∧ t.begun = updN c.bg i (!(c.out κ most i).done) j
        by_cases hji : j = i
        · subst hji
          simp [hlt] at ht
          subst ht
          rw [updN_same, updN_same]
          refine ⟨hxl, hxc, ?_, rfl⟩
          simp only [pickThr, hxn]
          split <;> simp_all
        · rw [List.getElem?_set_ne (by omega)] at ht
          rw [updN_other _ _ _ _ hji, updN_other _ _ _ _ hji]
          exact hthr j t ht
      · have := h.evl
        show (evsOf c i (c.out κ most i).done).length ≤ 2 * (c.st + 1)
        unfold evsOf
        split <;> split <;> simp <;> omega
      · rcases e with e | ⟨e, q⟩
        · rcases GG.new j (.inl e) with (w | w) | w
          · exact h.inW j (.inl w)
          · by_cases z : Lo ≤ j
            · exact h.inW j (.inr ⟨w, z⟩)
            · have hK' : K' j := by obtain ⟨F, D, md, tg, M'⟩ := M'; exact M'.lowK j (by omega)
              exact absurd hK' (A' j e)
          · exact Nat.le_trans h.chg.size w
        · rcases GG.new j (.inr e) with (w | w) | w
          · exact h.inW j (.inl w)
          · exact h.inW j (.inr ⟨w, q⟩)
          · exact Nat.le_trans h.chg.size w
      · rcases e with e | e
        · have := h.inW j (.inl e); omega
        · rcases Nat.lt_or_ge j Lo with z | z
          · exact z
          · have := h.inW j (.inr ⟨e, z⟩); omega
    · have hcan : ¬ Cfg.can T cl c (i : Int) := fun e => hn0 (by simpa using e.2.2)
      have hid : c.pick κ most T cl (i : Int) = c.tick := by
        unfold Cfg.pick
        rw [if_neg hcan]
      refine (r_pick_done i x X hr hx (by omega) (by omega)).mono ?_
      rintro e X' ⟨rfl, R', GG⟩
      rw [← htv] at R'
      exact ⟨by rw [decide_eq_false hcan], idle hid X' R' GG⟩
  · have hcan : ¬ Cfg.can T cl c th := fun e => hin ⟨e.1, e.2.1⟩
    have hid : c.pick κ most T cl th = c.tick := by
      unfold Cfg.pick
      rw [if_neg hcan]
    refine (r_pick_out th X h.run (by omega) (by omega)).mono ?_
    rintro e X' ⟨rfl, R', GG⟩
    exact ⟨by rw [decide_eq_false hcan], idle hid X' R' GG⟩
end
end Go.Proofs.Ytkfmpebhibnniaa
/- What a runner tells. -/
namespace Go.Proofs.Ytkfmpebhibnniaa
open Go.RowKit Go.Shelf

set_option maxRecDepth 100000 in
theorem clone_e (v : Value) (n : Nat) (xs : List Value) (W : World) (h : W.ownsRow 0 112 4 v n xs) (hn : n ≤ 1099511627776) (h1 : ∀ u ∈ xs, u.oneCell' = true) :
    Calls Try.prog 45 #[v] W fun e W' => ∃ v', e = .returned v' ∧ W'.ownsRow 0 112 4 v' n xs ∧ Chg (fun _ => False) W W' ∧ ∀ k, v'.ownBlock = some k → W.heap.size ≤ k := by
  obtain ⟨i0, hi, hz0, hz1, hz2⟩ := info_parts infoE
  have q1 : ∀ (w : World) (a : Option Addr) (n c n' c' : Nat), (binOp .eql 76 (.slice a n c) (.slice none n' c')).run Try.prog w = .ok (.bool a.isNone) w := fun w a n c n' c' => Lib.run_eql_slice_nil w _ _ a n c n' c' Try.underlying76
  rcases h.2 with ⟨rfl, rfl⟩ | ⟨g, cap, cur, rfl, _⟩
  · have hx : xs = [] := List.eq_nil_of_length_eq_zero (by simpa using h.1)
    subst hx
    clear h h1
    go_enter Try.func45, Try.ntmps45
    go_wp2_with fail
    go_ret
    exact ⟨.slice none 0 0, by simp, World.ownsRow_nil _ _ _ _, Chg.refl _ _, fun k e => by simp [Value.ownBlock] at e⟩
  · have H := keepH h
    have H1 := keepH h1
    have hxl := h.1
    clear h h1
    go_enter Try.func45, Try.ntmps45
    go_wp2_with (at_builtin; refine wpList_append_own_at _ rfl _ _ 76 rfl 0 112 i0 (evV 0 0 0 false) 4 32 Try.underlying76 hi hz0 hz1 hz2 rfl (by decide) (.slice (some ⟨W.heap.size, 0, none⟩) 0 0) 0 [] rfl ⟨rfl, .inr ⟨W.heap.size, 0, #[], rfl, Nat.zero_le _, heap_alloc_new _ _, Nat.le_refl _, by unfold maxLen; omega, rfl, rfl⟩⟩ ⟨g, 0, none⟩ n cap xs rfl hxl (fun j u hj => ((H.out.alloc _).cells (g := g) rfl j u hj)) H1.out (by unfold maxLen; omega) (by omega) (Nat.zero_le _) ?_; intro v' w1 r1 r2 r3 r4; have R1 := keepH r1; have R4 := keepH r4; clear r1 r3 r4)
    go_ret
    refine ⟨v', by simp, ?_, ((Chg.refl _ W).alloc _).grown r2 (fun k e hk => by simp [Value.ownBlock] at e; omega), fun k e => ?_⟩
    · have e := R1.out
      simpa using e
    · rcases R4.out with e2 | e2
      · rw [e2] at e
        simp [Value.ownBlock] at e
        omega
      · rw [e2] at e
        simp at e
        omega

set_option maxRecDepth 100000 in
theorem clone_i (v : Value) (n : Nat) (xs : List Value) (W : World) (h : W.ownsRow 0 3 1 v n xs) (hn : n ≤ 1099511627776) (h1 : ∀ u ∈ xs, u.oneCell' = true) :
    Calls Try.prog 54 #[v] W fun e W' => ∃ v', e = .returned v' ∧ W'.ownsRow 0 3 1 v' n xs ∧ Chg (fun _ => False) W W' ∧ ∀ k, v'.ownBlock = some k → W.heap.size ≤ k := by
  obtain ⟨i0, hi, hz0, hz1, hz2⟩ := info_parts infoInt
  have q1 : ∀ (w : World) (a : Option Addr) (n c n' c' : Nat), (binOp .eql 66 (.slice a n c) (.slice none n' c')).run Try.prog w = .ok (.bool a.isNone) w := fun w a n c n' c' => Lib.run_eql_slice_nil w _ _ a n c n' c' Try.underlying66
  rcases h.2 with ⟨rfl, rfl⟩ | ⟨g, cap, cur, rfl, _⟩
  · have hx : xs = [] := List.eq_nil_of_length_eq_zero (by simpa using h.1)
    subst hx
    clear h h1
    go_enter Try.func54, Try.ntmps54
    go_wp2_with fail
    go_ret
    exact ⟨.slice none 0 0, by simp, World.ownsRow_nil _ _ _ _, Chg.refl _ _, fun k e => by simp [Value.ownBlock] at e⟩
  · have H := keepH h
    have H1 := keepH h1
    have hxl := h.1
    clear h h1
    go_enter Try.func54, Try.ntmps54
    go_wp2_with (at_builtin; refine wpList_append_own_at _ rfl _ _ 66 rfl 0 3 i0 (.int .i64 0) 1 8 Try.underlying66 hi hz0 hz1 hz2 rfl (by decide) (.slice (some ⟨W.heap.size, 0, none⟩) 0 0) 0 [] rfl ⟨rfl, .inr ⟨W.heap.size, 0, #[], rfl, Nat.zero_le _, heap_alloc_new _ _, Nat.le_refl _, by unfold maxLen; omega, rfl, rfl⟩⟩ ⟨g, 0, none⟩ n cap xs rfl hxl (fun j u hj => ((H.out.alloc _).cells (g := g) rfl j u hj)) H1.out (by unfold maxLen; omega) (by omega) (Nat.zero_le _) ?_; intro v' w1 r1 r2 r3 r4; have R1 := keepH r1; have R4 := keepH r4; clear r1 r3 r4)
    go_ret
    refine ⟨v', by simp, ?_, ((Chg.refl _ W).alloc _).grown r2 (fun k e hk => by simp [Value.ownBlock] at e; omega), fun k e => ?_⟩
    · have e := R1.out
      simpa using e
    · rcases R4.out with e2 | e2
      · rw [e2] at e
        simp [Value.ownBlock] at e
        omega
      · rw [e2] at e
        simp at e
        omega

theorem evRow_one (l : List Ev) : ∀ u ∈ evRow l, u.oneCell' = true := by
  intro u hu
  obtain ⟨x, _, hu⟩ := List.mem_flatMap.1 hu
  simp only [Ev.cells, List.mem_cons, List.not_mem_nil, or_false] at hu
  rcases hu with rfl | rfl | rfl | rfl <;> rfl
theorem i64_one (l : List Int) : ∀ u ∈ l.map i64V, u.oneCell' = true := by
  intro u hu
  obtain ⟨x, _, rfl⟩ := List.mem_map.1 hu
  rfl

section
variable {r m : Nat} {vw : List Value} {tv ev av : Value} {ths : List Thr} {steps : Nat} {evs : List Ev} {ats : List Int} {G : Nat → Prop}
set_option maxRecDepth 100000 in
theorem r_steps (W : World) (h : RunAt W G r m vw tv ev av ths steps evs ats) : Calls Try.prog 23 #[.pointer (some ⟨r, 0, none⟩)] W fun e W' => e = .returned (.int .i64 (steps : Int)) ∧ W' = W := by
  have c1 : W.cell? ⟨r, 66, none⟩ = some (.int .i64 (steps : Int)) := h.cellk 1
  clear h
  go_enter Try.func23, Try.ntmps23
  go_wp2_with fail
  go_ret
  exact ⟨by simp, rfl⟩
set_option maxRecDepth 100000 in
theorem r_events (W : World) (h : RunAt W G r m vw tv ev av ths steps evs ats) (hl : evs.length ≤ 1099511627776) : Calls Try.prog 22 #[.pointer (some ⟨r, 0, none⟩)] W fun e W' => ∃ p c, e = .returned (.slice p evs.length c) ∧ W'.ownsRow 0 112 4 (.slice p evs.length c) evs.length (evRow evs) ∧ Chg (fun _ => False) W W' ∧ ∀ k, (Value.slice p evs.length c).ownBlock = some k → W.heap.size ≤ k := by
  have c2 : W.cell? ⟨r, 67, none⟩ = some ev := h.cellk 2
  have H := keepH h
  clear h
  go_enter Try.func22, Try.ntmps22
  go_wp2_with fail
  refine (clone_e ev evs.length (evRow evs) _ H.out.er hl (evRow_one evs)).mono ?_
  rintro e w' ⟨v, rfl, R, C, B⟩
  have HR := keepH R
  have HC := keepH C
  have HB := keepH B
  obtain ⟨p, c, rfl⟩ := slice_of R
  clear R C B
  go_wp2_with fail
  go_ret
  exact ⟨p, c, by simp, HR.out, HC.out, HB.out⟩
def allDone (ths : List Thr) : Bool := ths.all fun x => decide (x.calls.length ≤ x.next)
set_option maxRecDepth 100000 in
set_option maxHeartbeats 1000000 in
theorem r_done (W : World) (h : RunAt W G r m vw tv ev av ths steps evs ats) : Calls Try.prog 27 #[.pointer (some ⟨r, 0, none⟩)] W fun e W' => e = .returned (.bool (allDone ths)) ∧ ∃ q, W' = W.drewN q := by
  have c0 : W.cell? ⟨r, 65, none⟩ = some tv := h.cellk 0
  have H := keepH h
  obtain ⟨p, c, hv⟩ := slice_of h.tr
  have hth := h.thl
  subst hv
  clear h
  go_enter Try.func27, Try.ntmps27
  go_wp2_with fail
  go_loopw [11] (fun s wr => ∃ (k q : Nat), k ≤ ths.length ∧ s = .int .i64 (k : Int) ∧ wr = W.drewN q ∧ Hid (∀ j x, j < k → ths[j]? = some x → x.calls.length ≤ x.next)) (fun s _ => ths.length - (intOf s).toNat)
  case atStart => exact ⟨0, 0, by omega, rfl, rfl, fun j x hj => absurd hj (Nat.not_lt_zero _)⟩
  case round =>
    obtain ⟨k, q, hk, rfl, rfl, HK⟩ := hrel
    by_cases hlt : k < ths.length
    · have t2 : (k : Int) < (ths.length : Int) := by omega
      obtain ⟨x, hx⟩ : ∃ x, ths[k]? = some x := ⟨ths[k], List.getElem?_eq_getElem hlt⟩
      obtain ⟨g, c', hg⟩ := slice_pos H.out.tr (by omega)
      simp only [Value.slice.injEq, true_and] at hg
      obtain ⟨rfl, rfl⟩ := hg
      have HX := keepH hx
      have d0 := keepH (H.out.thrCell k 0 (by omega) x hx)
      have d1 := keepH (H.out.thrCell k 1 (by omega) x hx)
      have dc := keepH (H.out.calls x (List.mem_of_getElem? hx))
      clear hx
      by_cases hd : x.calls.length ≤ x.next
      · go_wp2_with fail
        refine (s_isDone g k x (W.drewN q) d0.out d1.out (row_kept (W := W) dc.out fun _ _ => rfl)).mono ?_
        rintro e w' ⟨rfl, q2, rfl⟩
        go_wp2_with fail
        go_roundw
        case rel => exact ⟨k + 1, _, by omega, by go_num, rfl, fun j y hj hy => by
            by_cases e : j = k
            · subst e
              have e2 := HX.out
              rw [e2] at hy
              simp at hy
              subst hy
              exact hd
            · exact HK.out j y (by omega) hy⟩
        case measure => simp [intOf]; omega
      · have hd' : decide (x.calls.length ≤ x.next) = false := by simpa using hd
        go_wp2_with fail
        refine (s_isDone g k x (W.drewN q) d0.out d1.out (row_kept (W := W) dc.out fun _ _ => rfl)).mono ?_
        rintro e w' ⟨rfl, q2, rfl⟩
        go_wp2_with fail
        go_ret
        refine ⟨?_, _, rfl⟩
        have e : allDone ths = false := by
          rw [allDone, List.all_eq_false]
          exact ⟨x, List.mem_of_getElem? HX.out, by simpa using hd⟩
        simp [e]
    · obtain rfl : k = ths.length := by omega
      go_wp2_with fail
      go_ret
      refine ⟨?_, _, rfl⟩
      have e : allDone ths = true := by
        rw [allDone, List.all_eq_true]
        intro x hx
        obtain ⟨j, hj⟩ := List.getElem?_of_mem hx
        simpa using HK.out j x (List.getElem?_eq_some_iff.1 hj).1 hj
      simp [e]
set_option maxRecDepth 100000 in
set_option maxHeartbeats 4000000 in
theorem r_at {b most next : Nat} {F : Nat → Prop} {cs : List Nat} {l : List Acc} (W : World) (h : RunAt W G r m vw tv ev av ths steps evs ats) (hm : IsMem W m b) (hb : Bank W F b most next cs l) (ha : ats.length ≤ 1099511627776) (hl : l.length ≤ 1099511627776) :
    Calls Try.prog 33 #[.pointer (some ⟨r, 0, none⟩)] W fun e W' => ∃ p c, e = .returned (.slice p (extN ats l.length (-1)).length c) ∧ W'.ownsRow 0 3 1 (.slice p (extN ats l.length (-1)).length c) (extN ats l.length (-1)).length ((extN ats l.length (-1)).map i64V) ∧ Chg (fun _ => False) W W' ∧ ∀ k, (Value.slice p (extN ats l.length (-1)).length c).ownBlock = some k → W.heap.size ≤ k := by
  have c3 : W.cell? ⟨r, 68, none⟩ = some av := h.cellk 3
  have c0 : W.cell? ⟨r, 0, none⟩ = some (.pointer (some ⟨m, 0, none⟩)) := h.cell0
  have H := keepH h
  have HM := keepH hm
  have HB := keepH hb
  have hrl := lt_of h.blk
  clear h hm hb
  go_enter Try.func33, Try.ntmps33
  go_wp2_with fail
  go_region_with (first
    | (go_at_call 54; refine (clone_i av ats.length (ats.map i64V) W.drew (row_kept (W := W) H.out.ar fun k _ => rfl) ha (i64_one ats)).mono ?_; rintro e w1 ⟨v1, rfl, R1, C1, B1⟩; have HR1 := keepH R1; have HC1 : Hid (Chg (fun _ => False) W w1) := ⟨C1.os, C1.tape, C1.output, C1.size, C1.block⟩; have HB1 := keepH B1; have d0 : w1.cell? ⟨r, 0, none⟩ = some (.pointer (some ⟨m, 0, none⟩)) := cell_chg HC1.out c0 (fun h => h); clear R1 C1 B1)
    | (go_at_call 51; refine (m_made m b most next F cs l _ (HM.out.chg HC1.out (fun h => h)) (HB.out.chg HC1.out (fun _ _ h => h))).mono ?_; rintro e w2 ⟨rfl, rfl⟩)
    | (go_at_call 51; refine (m_made m b most next F cs l W.drew (HM.out.chg (W' := W.drew) (Goes.drewN W (fun _ => False) 1).chg (fun h => h)) (HB.out.chg (W' := W.drew) (Goes.drewN W (fun _ => False) 1).chg (fun _ _ h => h))).mono ?_; rintro e w2 ⟨rfl, rfl⟩)
    | (go_at_call 53; refine (s_extend _ ats l.length (-1) _ HR1.out hl).mono ?_; rintro e w3 ⟨v3, rfl, R3, C3, B3⟩; have HR3 := keepH R3; have HC3 := keepH C3; have HB3 := keepH B3; clear R3 C3 B3))
  all_goals (obtain ⟨p3, q3, hv3⟩ := slice_of HR3.out; subst hv3)
  all_goals (try go_wp2_with fail)
  all_goals go_ret
  all_goals
    refine ⟨p3, q3, by simp [Act.put], HR3.out, HC1.out.trans HC3.out (fun _ _ x => x) (fun k hk e => by have : W.heap.size ≤ k := HB1.out k e; omega), fun k e => ?_⟩
    rcases HB3.out k e with e | e
    · exact HB1.out k e
    · exact Nat.le_trans HC1.out.size e
end
end Go.Proofs.Ytkfmpebhibnniaa
/- Runs of plans' procs: Run, a turn, Finish. -/
namespace Go.Proofs.Ytkfmpebhibnniaa
open Go.RowKit Go.Shelf
set_option linter.unusedVariables false

section
variable {P : Type} {Lo : Nat} {W0 : World}
/-- A turn, so far: where it has come to, and how many picks it made. -/
def tst (κ : KindL P Lo W0) (most T : Nat) (cl : Nat → Nat) (lim : Nat) (s : Cfg P × Nat) (j : Nat) : Cfg P × Nat := if s.2 < lim ∧ Cfg.can T cl s.1 (j : Int) then (s.1.pick κ most T cl (j : Int), s.2 + 1) else s
def turnR (κ : KindL P Lo W0) (most T : Nat) (cl : Nat → Nat) (lim : Nat) (c : Cfg P) (j : Nat) : Cfg P × Nat := (List.range j).foldl (tst κ most T cl lim) (c, 0)
theorem turnR_zero (κ : KindL P Lo W0) (most T : Nat) (cl : Nat → Nat) (lim : Nat) (c : Cfg P) : turnR κ most T cl lim c 0 = (c, 0) := rfl
theorem turnR_succ (κ : KindL P Lo W0) (most T : Nat) (cl : Nat → Nat) (lim : Nat) (c : Cfg P) (j : Nat) : turnR κ most T cl lim c (j + 1) = tst κ most T cl lim (turnR κ most T cl lim c j) j := by
  unfold turnR
  rw [List.range_succ, List.foldl_append]
  rfl
theorem turnR_le (κ : KindL P Lo W0) (most T : Nat) (cl : Nat → Nat) (lim : Nat) (c : Cfg P) : ∀ j, (turnR κ most T cl lim c j).2 ≤ lim ∧ (turnR κ most T cl lim c j).2 ≤ j := by
  intro j
  induction j with
  | zero => rw [turnR_zero]; simp
  | succ j ih =>
    rw [turnR_succ]
    unfold tst
    split
    · rename_i h; simp only; omega
    · omega
def doneP (T : Nat) (cl : Nat → Nat) (c : Cfg P) : Prop := ∀ j, j < T → cl j ≤ c.ix j
instance (T : Nat) (cl : Nat → Nat) (c : Cfg P) : Decidable (doneP T cl c) := by unfold doneP; exact inferInstance
/-- A turn of one who is not done makes a pick. -/
theorem turnR_pos (κ : KindL P Lo W0) (most T : Nat) (cl : Nat → Nat) (lim : Nat) (c : Cfg P) (hl : 0 < lim) (hd : ¬ doneP T cl c) : 0 < (turnR κ most T cl lim c T).2 := by
  have key : ∀ j, j ≤ T → (turnR κ most T cl lim c j).2 = 0 → (turnR κ most T cl lim c j).1 = c ∧ ∀ i, i < j → cl i ≤ c.ix i := by
    intro j
    induction j with
    | zero => intro _ _; exact ⟨rfl, fun i hi => by omega⟩
    | succ j ih =>
      intro hj h0
      rw [turnR_succ] at h0 ⊢
      unfold tst at h0 ⊢
      by_cases hc : (turnR κ most T cl lim c j).2 < lim ∧ Cfg.can T cl (turnR κ most T cl lim c j).1 (j : Int)
      · rw [if_pos hc] at h0; simp at h0
      · rw [if_neg hc] at h0 ⊢
        obtain ⟨e1, e2⟩ := ih (by omega) h0
        refine ⟨e1, fun i hi => ?_⟩
        by_cases e : i = j
        · subst e
          rw [e1, h0] at hc
          apply Nat.le_of_not_lt
          intro hlt
          exact hc ⟨hl, by omega, by omega, by simpa using hlt⟩
        · exact e2 i (by omega)
  apply Nat.pos_of_ne_zero
  intro h0
  exact hd (key T (Nat.le_refl _) h0).2
def finR (κ : KindL P Lo W0) (most T : Nat) (cl : Nat → Nat) : Nat → Nat → Cfg P → Cfg P
  | 0, _, c => c
  | n + 1, lim, c => if 0 < lim ∧ ¬ doneP T cl c then finR κ most T cl n (lim - (turnR κ most T cl lim c T).2) (turnR κ most T cl lim c T).1 else c
theorem finR_stop (κ : KindL P Lo W0) (most T : Nat) (cl : Nat → Nat) (n lim : Nat) (c : Cfg P) (h : ¬ (0 < lim ∧ ¬ doneP T cl c)) : finR κ most T cl n lim c = c := by
  cases n with
  | zero => rfl
  | succ n => simp only [finR]; rw [if_neg h]
theorem finR_more (κ : KindL P Lo W0) (most T : Nat) (cl : Nat → Nat) : ∀ (n lim : Nat) (c : Cfg P), lim ≤ n → finR κ most T cl (n + 1) lim c = finR κ most T cl n lim c := by
  intro n
  induction n with
  | zero =>
    intro lim c h
    rw [finR_stop _ _ _ _ _ _ _ (fun e => by omega), finR_stop _ _ _ _ _ _ _ (fun e => by omega)]
  | succ n ih =>
    intro lim c h
    by_cases hc : 0 < lim ∧ ¬ doneP T cl c
    · have e1 : finR κ most T cl (n + 1 + 1) lim c = finR κ most T cl (n + 1) (lim - (turnR κ most T cl lim c T).2) (turnR κ most T cl lim c T).1 := by
        rw [finR, if_pos hc]
      have e2 : finR κ most T cl (n + 1) lim c = finR κ most T cl n (lim - (turnR κ most T cl lim c T).2) (turnR κ most T cl lim c T).1 := by
        rw [finR, if_pos hc]
      rw [e1, e2]
      have := turnR_pos κ most T cl lim c hc.1 hc.2
      exact ih _ _ (by omega)
    · rw [finR_stop _ _ _ _ _ _ _ hc, finR_stop _ _ _ _ _ _ _ hc]
theorem finR_any (κ : KindL P Lo W0) (most T : Nat) (cl : Nat → Nat) (n lim : Nat) (c : Cfg P) (h : lim ≤ n) : finR κ most T cl n lim c = finR κ most T cl lim lim c := by
  induction n with
  | zero =>
    have : lim = 0 := by omega
    subst this; rfl
  | succ n ih =>
    by_cases e : lim = n + 1
    · subst e; rfl
    · rw [finR_more _ _ _ _ n lim c (by omega)]; exact ih (by omega)
/-- A turn leads on. -/
theorem finR_turn (κ : KindL P Lo W0) (most T : Nat) (cl : Nat → Nat) (lim : Nat) (c : Cfg P) (hl : 0 < lim) (hd : ¬ doneP T cl c) : finR κ most T cl lim lim c = finR κ most T cl (lim - (turnR κ most T cl lim c T).2) (lim - (turnR κ most T cl lim c T).2) (turnR κ most T cl lim c T).1 := by
  have hp := turnR_pos κ most T cl lim c hl hd
  have hle := (turnR_le κ most T cl lim c T).1
  obtain ⟨n, rfl⟩ : ∃ n, lim = n + 1 := ⟨lim - 1, by omega⟩
  conv => lhs; rw [finR, if_pos ⟨hl, hd⟩]
  exact finR_any _ _ _ _ _ _ _ (by omega)
end
section
variable {P : Type} {Lo : Nat} {W0 : World} {κ : KindL P Lo W0} {most m b T : Nat} {cl : Nat → Nat} {vb : Nat → Nat} {pv : Nat → Nat → Value} {c : Cfg P} {W Z X : World} {S : Nat → Prop} {r : Nat}
theorem GR.quiet {Y : World} (h : GR κ most m b T cl vb pv c W Z X S r) (q : Chg (fun _ => False) X Y) : GR κ most m b T cl vb pv c W Z Y S r := by
  obtain ⟨G, K, vw, tv, ev, av, ths, h⟩ := h
  exact ⟨G, K, vw, tv, ev, av, ths, h.run.kept q.size (fun k e => q.block k (h.run.lt k e) (fun x => x)), h.ma.keep q.size (fun k e => q.block k (h.ma.ltK k e) (fun x => x)), h.apart, h.len, h.thr, h.vws, h.evl, h.inW, h.lo, h.chg.trans q (fun _ _ x => x) (fun _ _ x => x), fun j hj => ⟨Nat.lt_of_lt_of_le (h.keep j hj).1 q.size, (q.block j (h.keep j hj).1 (fun x => x)).trans (h.keep j hj).2.1, (h.keep j hj).2.2⟩⟩
theorem GRAt.done {G K : Nat → Prop} {vw : List Value} {tv ev av : Value} {ths : List Thr} (h : GRAt κ most m b T cl vb pv c W Z X S G K r vw tv ev av ths) : allDone ths = decide (doneP T cl c) := by
  by_cases hd : doneP T cl c
  · rw [decide_eq_true hd, allDone, List.all_eq_true]
    intro x hx
    obtain ⟨j, hj⟩ := List.getElem?_of_mem hx
    have hjl := (List.getElem?_eq_some_iff.1 hj).1
    obtain ⟨h1, _, h2, _⟩ := h.thr j x hj
    rw [h1, h2, decide_eq_true_eq]
    exact hd j (by have := h.len; omega)
  · rw [decide_eq_false hd, allDone, List.all_eq_false]
    obtain ⟨j, hj, hlt⟩ : ∃ j, j < T ∧ ¬ cl j ≤ c.ix j := by
      apply Classical.byContradiction
      intro hn
      exact hd (fun j hj => Classical.byContradiction (fun e => hn ⟨j, hj, e⟩))
    have hjl : j < ths.length := by have := h.len; omega
    obtain ⟨h1, _, h2, _⟩ := h.thr j ths[j] (List.getElem?_eq_getElem hjl)
    refine ⟨ths[j], List.getElem_mem hjl, ?_⟩
    rw [h1, h2, decide_eq_true_eq]
    exact hlt
theorem gr_done (h : GR κ most m b T cl vb pv c W Z X S r) : Calls Try.prog 27 #[.pointer (some ⟨r, 0, none⟩)] X fun e Y => e = .returned (.bool (decide (doneP T cl c))) ∧ GR κ most m b T cl vb pv c W Z Y S r := by
  have h0 := h
  obtain ⟨G, K, vw, tv, ev, av, ths, h⟩ := h
  refine (r_done X h.run).mono ?_
  rintro e Y ⟨rfl, q, rfl⟩
  exact ⟨by rw [h.done], h0.quiet (drewN_chgY _ _)⟩
theorem gr_can (h : GR κ most m b T cl vb pv c W Z X S r) (i : Nat) (hi : i < T) : Calls Try.prog 50 #[.pointer (some ⟨r, 0, none⟩), .int .i64 (i : Int)] X fun e Y => e = .returned (.bool (decide (Cfg.can T cl c (i : Int)))) ∧ GR κ most m b T cl vb pv c W Z Y S r := by
  have h0 := h
  obtain ⟨G, K, vw, tv, ev, av, ths, h⟩ := h
  have hlt : i < ths.length := by have := h.len; omega
  obtain ⟨x, hx⟩ : ∃ x, ths[i]? = some x := ⟨ths[i], List.getElem?_eq_getElem hlt⟩
  obtain ⟨g, cc, htv⟩ := slice_pos h.run.tr (by omega)
  have hr := h.run
  rw [htv] at hr
  obtain ⟨h1, _, h2, _⟩ := h.thr i x hx
  refine (s_canStep_in i x X hr hx).mono ?_
  rintro e Y ⟨rfl, q, rfl⟩
  refine ⟨?_, h0.quiet (drewN_chgY _ _)⟩
  congr 2
  rw [h1, h2]
  apply decide_eq_decide.2
  unfold Cfg.can
  simp
  omega
set_option maxRecDepth 100000 in
set_option maxHeartbeats 4000000 in
theorem gr_turn (Inv : Cfg P → Prop) (hb : ∀ c, Inv c → c.st ≤ 16777216) (hp : ∀ c j, Inv c → Cfg.can T cl c j → Inv (c.pick κ most T cl j)) (hI : Inv c) (h : GR κ most m b T cl vb pv c W Z X S r) (lim : Nat) (hlim : lim ≤ 4611686018427387904) :
    Calls Try.prog 47 #[.pointer (some ⟨r, 0, none⟩), .int .i64 (lim : Int)] X fun e X' => e = .returned (.int .i64 ((turnR κ most T cl lim c T).2 : Int)) ∧ GR κ most m b T cl vb pv (turnR κ most T cl lim c T).1 W Z X' S r ∧ Inv (turnR κ most T cl lim c T).1 := by
  have H := keepH h
  have HB := keepH hb
  have HPI := keepH hp
  have HI := keepH hI
  obtain ⟨G, K, vw, tv, ev, av, ths, h⟩ := h
  have c0 : X.cell? ⟨r, 65, none⟩ = some tv := h.run.cellk 0
  have hl := h.len
  have h64 := h.run.thl
  obtain ⟨p, c8, htv⟩ := slice_of h.run.tr
  rw [htv, hl] at c0
  clear h htv hb hp hI
  go_enter Try.func47, Try.ntmps47
  go_wp2_with fail
  go_loopw [5, 12] (fun s5 s12 wr => ∃ j : Nat, j ≤ T ∧ s12 = .int .i64 (j : Int) ∧ ∃ n : Nat, n ≤ j ∧ s5 = .int .i64 (n : Int) ∧ Hid (n = (turnR κ most T cl lim c j).2 ∧ GR κ most m b T cl vb pv (turnR κ most T cl lim c j).1 W Z wr S r ∧ Inv (turnR κ most T cl lim c j).1)) (fun _ s12 _ => T - (intOf s12).toNat)
  case atStart => exact ⟨0, by omega, rfl, 0, by omega, rfl, rfl, H.out, HI.out⟩
  case round =>
    obtain ⟨j, hj, rfl, n, hnj, rfl, HJ⟩ := hrel
    by_cases hjT : j < T
    · have t1 : (j : Int) < (T : Int) := by omega
      obtain ⟨d, hd⟩ : ∃ d, d = turnR κ most T cl lim c j := ⟨_, rfl⟩
      have HD := keepH hd
      have HJ2 : Hid (n = d.2 ∧ GR κ most m b T cl vb pv d.1 W Z wr S r ∧ Inv d.1) := by rw [hd]; exact HJ.out
      clear hd HJ
      by_cases hnl : n < lim
      · have t2 : (n : Int) < (lim : Int) := by omega
        have HC := keepH (gr_can HJ2.out.2.1 j hjT)
        by_cases hcan : Cfg.can T cl d.1 (j : Int)
        · rw [decide_eq_true hcan] at HC
          have HCN := keepH hcan
          clear hcan
          go_wp2_with fail
          refine HC.out.mono ?_
          rintro e w1 ⟨rfl, g1⟩
          have HG1 := keepH g1
          clear g1
          go_wp2_with fail
          refine (gr_pick HG1.out (j : Int) (HB.out _ HJ2.out.2.2)).mono ?_
          rintro e w2 ⟨rfl, g2⟩
          have HG2 := keepH g2
          clear g2
          go_wp2_with fail
          go_roundw
          case rel =>
            have e1 : turnR κ most T cl lim c (j + 1) = (d.1.pick κ most T cl (j : Int), d.2 + 1) := by
              rw [turnR_succ, ← HD.out]
              unfold tst
              rw [if_pos ⟨by have := HJ2.out.1; omega, HCN.out⟩]
            refine ⟨j + 1, by omega, by first | rfl | go_num, n + 1, by omega, by first | rfl | go_num, ?_⟩
            rw [e1]
            exact ⟨by have := HJ2.out.1; omega, HG2.out, HPI.out _ _ HJ2.out.2.2 HCN.out⟩
          case measure => simp [intOf]; omega
        · rw [decide_eq_false hcan] at HC
          have HCN := keepH hcan
          clear hcan
          go_wp2_with fail
          refine HC.out.mono ?_
          rintro e w1 ⟨rfl, g1⟩
          have HG1 := keepH g1
          clear g1
          go_wp2_with fail
          go_roundw
          case rel =>
            have e1 : turnR κ most T cl lim c (j + 1) = d := by
              rw [turnR_succ, ← HD.out]
              unfold tst
              rw [if_neg (fun e => HCN.out e.2)]
            refine ⟨j + 1, by omega, by first | rfl | go_num, n, by omega, rfl, ?_⟩
            rw [e1]
            exact ⟨HJ2.out.1, HG1.out, HJ2.out.2.2⟩
          case measure => simp [intOf]; omega
      · have t2 : ¬ (n : Int) < (lim : Int) := by omega
        go_wp2_with fail
        go_roundw
        case rel =>
          have e1 : turnR κ most T cl lim c (j + 1) = d := by
            rw [turnR_succ, ← HD.out]
            unfold tst
            rw [if_neg (fun e => by have := HJ2.out.1; omega)]
          refine ⟨j + 1, by omega, by first | rfl | go_num, n, by omega, rfl, ?_⟩
          rw [e1]
          exact ⟨HJ2.out.1, HJ2.out.2.1, HJ2.out.2.2⟩
        case measure => simp [intOf]; omega
    · have t1 : ¬ (j : Int) < (T : Int) := by omega
      obtain rfl : j = T := by omega
      go_wp2_with fail
      refine bodyPost_ret (results_tmp rfl _ _ _) rfl ⟨?_, HJ.out.2.1, HJ.out.2.2⟩
      rw [← HJ.out.1]
      rfl
set_option maxRecDepth 100000 in
set_option maxHeartbeats 4000000 in
theorem gr_finish (Inv : Cfg P → Prop) (hb : ∀ c, Inv c → c.st ≤ 16777216) (hp : ∀ c j, Inv c → Cfg.can T cl c j → Inv (c.pick κ most T cl j)) (hI : Inv c) (h : GR κ most m b T cl vb pv c W Z X S r) (lim : Nat) (hlim : lim ≤ 4611686018427387904) :
    Calls Try.prog 26 #[.pointer (some ⟨r, 0, none⟩), .int .i64 (lim : Int)] X fun e X' => e = .returned (.bool (decide (doneP T cl (finR κ most T cl lim lim c)))) ∧ GR κ most m b T cl vb pv (finR κ most T cl lim lim c) W Z X' S r ∧ Inv (finR κ most T cl lim lim c) := by
  have H := keepH h
  have HB := keepH hb
  have HPI := keepH hp
  have HI := keepH hI
  clear h hb hp hI
  go_enter Try.func26, Try.ntmps26
  go_wp2_with fail
  go_loopw [1] (fun s wr => ∃ k : Nat, k ≤ lim ∧ s = .int .i64 (k : Int) ∧ Hid (∃ d, GR κ most m b T cl vb pv d W Z wr S r ∧ Inv d ∧ finR κ most T cl lim lim c = finR κ most T cl k k d)) (fun s _ => (intOf s).toNat)
  case atStart => exact ⟨lim, Nat.le_refl _, rfl, c, H.out, HI.out, rfl⟩
  case round =>
    obtain ⟨k, hk, rfl, HX⟩ := hrel
    obtain ⟨d, g0, i0, e0⟩ := HX.out
    have HG0 := keepH g0
    have HI0 := keepH i0
    have HE0 := keepH e0
    clear g0 i0 e0 HX
    by_cases hk0 : 0 < k
    · have t1 : (0 : Int) < (k : Int) := by omega
      have HDN := keepH (gr_done HG0.out)
      by_cases hd : doneP T cl d
      · rw [decide_eq_true hd] at HDN
        have HDD := keepH hd
        clear hd
        go_wp2_with fail
        refine HDN.out.mono ?_
        rintro e w1 ⟨rfl, g1⟩
        have HG1 := keepH g1
        clear g1
        go_wp2_with fail
        refine (gr_done HG1.out).mono ?_
        rintro e w2 ⟨rfl, g2⟩
        have HG2 := keepH g2
        clear g2
        go_wp2_with fail
        have e1 : finR κ most T cl lim lim c = d := by rw [HE0.out]; exact finR_stop _ _ _ _ _ _ _ (fun e => e.2 HDD.out)
        refine bodyPost_ret (results_tmp rfl _ _ _) rfl ?_
        rw [e1]
        exact ⟨rfl, HG2.out, HI0.out⟩
      · rw [decide_eq_false hd] at HDN
        have HDD := keepH hd
        clear hd
        obtain ⟨n, hn⟩ : ∃ n, n = (turnR κ most T cl k d T).2 := ⟨_, rfl⟩
        have HN := keepH hn
        have hn1 : 0 < n ∧ n ≤ k := by rw [hn]; exact ⟨turnR_pos κ most T cl k d hk0 HDD.out, (turnR_le κ most T cl k d T).1⟩
        have HTN := keepH (fun w (g : GR κ most m b T cl vb pv d W Z w S r) => gr_turn Inv HB.out HPI.out HI0.out g k (by omega))
        rw [← hn] at HTN
        clear hn
        go_wp2_with fail
        refine HDN.out.mono ?_
        rintro e w1 ⟨rfl, g1⟩
        have HG1 := keepH g1
        clear g1
        go_wp2_with fail
        refine (HTN.out _ HG1.out).mono ?_
        rintro e w2 ⟨rfl, g2, i2⟩
        have HG2 := keepH g2
        have HI2 := keepH i2
        clear g2 i2
        go_wp2_with fail
        go_roundw
        case rel =>
          refine ⟨k - n, by omega, by first | rfl | go_num | (congr 1; omega), _, HG2.out, HI2.out, ?_⟩
          rw [HE0.out, finR_turn κ most T cl k d hk0 HDD.out, ← HN.out]
        case measure => simp [intOf]; omega
    · have t1 : ¬ (0 : Int) < (k : Int) := by omega
      go_wp2_with fail
      refine (gr_done HG0.out).mono ?_
      rintro e w2 ⟨rfl, g2⟩
      have HG2 := keepH g2
      clear g2
      go_wp2_with fail
      have e1 : finR κ most T cl lim lim c = d := by rw [HE0.out]; exact finR_stop _ _ _ _ _ _ _ (fun e => hk0 e.1)
      refine bodyPost_ret (results_tmp rfl _ _ _) rfl ?_
      rw [e1]
      exact ⟨rfl, HG2.out, HI0.out⟩
end
end Go.Proofs.Ytkfmpebhibnniaa
/- How many steps are left of plans' procs; what a turn and Finish leave of them. -/
namespace Go.Proofs.Ytkfmpebhibnniaa
open Go.RowKit Go.Shelf
set_option linter.unusedVariables false

def sumTo (f : Nat → Nat) : Nat → Nat
  | 0 => 0
  | n + 1 => sumTo f n + f n
theorem sumTo_congr {f g : Nat → Nat} : ∀ {n : Nat}, (∀ j, j < n → f j = g j) → sumTo f n = sumTo g n
  | 0, _ => rfl
  | n + 1, h => by simp only [sumTo]; rw [sumTo_congr (fun j hj => h j (by omega)), h n (by omega)]
theorem sumTo_dec {f g : Nat → Nat} {i n : Nat} (hi : i < n) (h : ∀ j, j ≠ i → g j = f j) (hf : f i = g i + 1) : sumTo f n = sumTo g n + 1 := by
  induction n with
  | zero => omega
  | succ n ih =>
    simp only [sumTo]
    by_cases e : i = n
    · subst e
      rw [sumTo_congr (f := g) (g := f) (fun j hj => h j (by omega))]
      omega
    · rw [ih (by omega), h n (fun z => e z.symm)]
      omega
theorem sumTo_ge {f : Nat → Nat} {i n : Nat} (hi : i < n) : f i ≤ sumTo f n := by
  induction n with
  | zero => omega
  | succ n ih =>
    simp only [sumTo]
    by_cases e : i = n
    · subst e; omega
    · have := ih (by omega); omega
theorem sumTo_zero {f : Nat → Nat} {n : Nat} (h : ∀ j, j < n → f j = 0) : sumTo f n = 0 := by
  induction n with
  | zero => rfl
  | succ n ih => simp only [sumTo]; rw [ih (fun j hj => h j (by omega)), h n (by omega)]
def rp (s : PS) : Nat := nst s.pl - s.at_
def remT (cl : Nat → Nat) (c : Cfg PS) (i : Nat) : Nat := sumTo (fun j => if j < c.ix i then 0 else rp (c.σ i j)) (cl i)
def rem (T : Nat) (cl : Nat → Nat) (c : Cfg PS) : Nat := sumTo (remT cl c) T
structure PInv (T : Nat) (cl : Nat → Nat) (pl : Nat → Nat → PlP) (c : Cfg PS) : Prop where
  pl : ∀ i j, i < T → j < cl i → (c.σ i j).pl = pl i j
  at_ : ∀ i j, i < T → j < cl i → c.ix i ≤ j → (c.σ i j).at_ < nst (c.σ i j).pl
  bg : ∀ i, i < T → c.bg i = true → c.ix i < cl i
section
variable {Lo : Nat} {W0 : World} {most T : Nat} {cl : Nat → Nat} {pl : Nat → Nat → PlP} {c : Cfg PS}
theorem ps_step {s : PS} (h : s.at_ < nst s.pl) (th : Int) (next : Nat) (cs : List Nat) : (psS th most next cs s).s.pl = s.pl ∧ ((psS th most next cs s).done = true → rp s = 1) ∧ ((psS th most next cs s).done = false → rp s = rp (psS th most next cs s).s + 1 ∧ (psS th most next cs s).s.at_ < nst s.pl) := by
  unfold psS rp
  by_cases hn : s.pl.none = true
  · simp only [if_pos hn]
    have e : nst s.pl = 1 := by unfold nst; rw [if_pos hn]
    refine ⟨trivial, fun _ => by omega, fun z => by simp at z⟩
  · simp only [if_neg hn]
    have e : nst s.pl = if s.pl.L.length < 1 then 1 else s.pl.L.length := by unfold nst; rw [if_neg hn]
    refine ⟨trivial, fun z => ?_, fun z => ?_⟩
    · have z' := of_decide_eq_true z
      split at e <;> omega
    · have z' := of_decide_eq_false z
      rw [List.getElem?_eq_getElem (show s.at_ < s.pl.L.length by omega)]
      simp only [nxtA]
      split at e <;> omega
theorem PInv.go (h : PInv T cl pl c) (i : Nat) (hi : i < T) (hj : c.ix i < cl i) : PInv T cl pl (c.go (plK Lo W0) most i).tick ∧ rem T cl c = rem T cl (c.go (plK Lo W0) most i).tick + 1 := by
  have hs := ps_step (most := most) (h.at_ i _ hi hj (Nat.le_refl _)) (i : Int) c.next c.cs
  obtain ⟨d, hd⟩ : ∃ d, d = (psS (i : Int) most c.next c.cs (c.σ i (c.ix i))).done := ⟨_, rfl⟩
  obtain ⟨s', hs'⟩ : ∃ s', s' = (psS (i : Int) most c.next c.cs (c.σ i (c.ix i))).s := ⟨_, rfl⟩
  rw [← hd, ← hs'] at hs
  obtain ⟨g1, g2, g3⟩ := hs
  have hix : ∀ t, (c.go (plK Lo W0) most i).tick.ix t = if t = i then (if d = true then c.ix i + 1 else c.ix i) else c.ix t := fun t => by
    show updN c.ix i _ t = _
    unfold updN
    rw [hd]
    rfl
  have hsg : ∀ t q, (c.go (plK Lo W0) most i).tick.σ t q = if t = i then (if q = c.ix i then s' else c.σ i q) else c.σ t q := fun t q => by
    show updN c.σ i _ t q = _
    unfold updN
    rw [hs']
    split <;> rfl
  have hbg : ∀ t, (c.go (plK Lo W0) most i).tick.bg t = if t = i then !d else c.bg t := fun t => by
    show updN c.bg i _ t = _
    unfold updN
    rw [hd]
    rfl
  refine ⟨⟨fun t q ht hq => ?_, fun t q ht hq hle => ?_, fun t ht hb => ?_⟩, ?_⟩
  · rw [hsg]
    split
    · rename_i e; subst e
      split
      · rename_i e2; subst e2; rw [g1]; exact h.pl t _ ht hq
      · exact h.pl t q ht hq
    · exact h.pl t q ht hq
  · rw [hix] at hle
    rw [hsg]
    split at hle
    · rename_i e; subst e
      simp only [if_true]
      cases d with
      | true =>
        simp only [if_true] at hle
        rw [if_neg (by omega)]
        exact h.at_ t q ht hq (by omega)
      | false =>
        simp only [Bool.false_eq_true, if_false] at hle
        split
        · rename_i e2; subst e2; rw [g1]; exact (g3 rfl).2
        · exact h.at_ t q ht hq hle
    · rename_i e
      rw [if_neg e]
      exact h.at_ t q ht hq hle
  · rw [hbg] at hb
    rw [hix]
    split at hb
    · rename_i e; subst e
      cases d with
      | true => simp at hb
      | false => simpa using hj
    · rename_i e
      rw [if_neg e]
      exact h.bg t ht hb
  · unfold rem
    refine sumTo_dec hi (fun t ht => ?_) ?_
    · unfold remT
      rw [hix, if_neg ht]
      exact sumTo_congr (fun q _ => by rw [hsg, if_neg ht])
    · unfold remT
      refine sumTo_dec hj (fun q hq => ?_) ?_
      · rw [hix, if_pos rfl, hsg, if_pos rfl, if_neg hq]
        cases d with
        | true =>
          simp only [if_true]
          by_cases z : q < c.ix i
          · rw [if_pos z, if_pos (by omega)]
          · rw [if_neg z, if_neg (by omega)]
        | false => rfl
      · rw [hix, if_pos rfl, hsg, if_pos rfl, if_pos rfl, if_neg (Nat.lt_irrefl _)]
        cases d with
        | true =>
          simp only [if_true]
          rw [if_pos (by omega)]
          exact g2 rfl
        | false =>
          simp only [Bool.false_eq_true, if_false]
          rw [if_neg (Nat.lt_irrefl _)]
          exact (g3 rfl).1
theorem PInv.tick (h : PInv T cl pl c) : PInv T cl pl c.tick := ⟨h.pl, h.at_, h.bg⟩
theorem PInv.pick (h : PInv T cl pl c) (th : Int) : PInv T cl pl (c.pick (plK Lo W0) most T cl th) ∧ rem T cl c = rem T cl (c.pick (plK Lo W0) most T cl th) + (if Cfg.can T cl c th then 1 else 0) := by
  unfold Cfg.pick
  by_cases hc : Cfg.can T cl c th
  · rw [if_pos hc, if_pos hc]
    exact h.go th.toNat (by have := hc.1; have := hc.2.1; omega) hc.2.2
  · rw [if_neg hc, if_neg hc]
    exact ⟨h.tick, rfl⟩
theorem rem_done (h : PInv T cl pl c) : rem T cl c = 0 ↔ doneP T cl c := by
  constructor
  · intro h0 i hi
    apply Nat.le_of_not_lt
    intro hlt
    have h1 := h.at_ i _ hi hlt (Nat.le_refl _)
    have h2 : remT cl c i ≤ rem T cl c := sumTo_ge (f := remT cl c) hi
    have h3 : (fun j => if j < c.ix i then 0 else rp (c.σ i j)) (c.ix i) ≤ remT cl c i := sumTo_ge (f := fun j => if j < c.ix i then 0 else rp (c.σ i j)) hlt
    simp only [Nat.lt_irrefl, if_false] at h3
    unfold rp at h3
    omega
  · intro hd
    refine sumTo_zero (fun i hi => sumTo_zero (fun j hj => ?_))
    rw [if_pos (by have := hd i hi; omega)]
theorem turn_rem (h : PInv T cl pl c) (lim : Nat) : ∀ j, PInv T cl pl (turnR (plK Lo W0) most T cl lim c j).1 ∧ rem T cl c = rem T cl (turnR (plK Lo W0) most T cl lim c j).1 + (turnR (plK Lo W0) most T cl lim c j).2 := by
  intro j
  induction j with
  | zero => rw [turnR_zero]; exact ⟨h, rfl⟩
  | succ j ih =>
    rw [turnR_succ]
    unfold tst
    by_cases hc : (turnR (plK Lo W0) most T cl lim c j).2 < lim ∧ Cfg.can T cl (turnR (plK Lo W0) most T cl lim c j).1 (j : Int)
    · rw [if_pos hc]
      have hp := ih.1.pick (Lo := Lo) (W0 := W0) (most := most) (j : Int)
      rw [if_pos hc.2] at hp
      exact ⟨hp.1, by have := ih.2; have := hp.2; simp only; omega⟩
    · rw [if_neg hc]; exact ih
theorem fin_rem : ∀ (lim : Nat) (c : Cfg PS), PInv T cl pl c → PInv T cl pl (finR (plK Lo W0) most T cl lim lim c) ∧ rem T cl (finR (plK Lo W0) most T cl lim lim c) = rem T cl c - lim := by
  intro lim
  induction lim using Nat.strongRecOn with
  | _ lim ih =>
    intro c h
    by_cases hc : 0 < lim ∧ ¬ doneP T cl c
    · rw [finR_turn _ _ _ _ _ _ hc.1 hc.2]
      have hp := turnR_pos (plK Lo W0) most T cl lim c hc.1 hc.2
      have hl := (turnR_le (plK Lo W0) most T cl lim c T).1
      have ht := turn_rem (Lo := Lo) (W0 := W0) (most := most) h lim T
      obtain ⟨r1, r2⟩ := ih (lim - (turnR (plK Lo W0) most T cl lim c T).2) (by omega) _ ht.1
      exact ⟨r1, by rw [r2]; have := ht.2; omega⟩
    · rw [finR_stop _ _ _ _ _ _ _ hc]
      refine ⟨h, ?_⟩
      by_cases h0 : 0 < lim
      · have hd : doneP T cl c := Classical.byContradiction (fun e => hc ⟨h0, e⟩)
        rw [(rem_done h).2 hd]; omega
      · have : lim = 0 := by omega
        subst this; omega
end
end Go.Proofs.Ytkfmpebhibnniaa
/- Lists of lists of plans that come in, and the sum of all their steps. -/
namespace Go.Proofs.Ytkfmpebhibnniaa
open Go.RowKit Go.Shelf Go.ChangeShapes Go.WideShapes Go.ChangeAt Go.Deep
set_option linter.unusedVariables false

theorem bulkAll_append {H : Type} (a b : List (DataW H)) : Rows.uptoBulkAll (a ++ b) = Rows.uptoBulkAll a + Rows.uptoBulkAll b := by
  induction a with
  | nil => simp [Rows.uptoBulkAll]
  | cons x r ih => simp only [List.cons_append, Rows.uptoBulkAll, ih]; omega
theorem bulk_sum {H : Type} (D : Nat → DataW H) : ∀ n, Rows.uptoBulkAll ((List.range n).map D) = sumTo (fun i => Rows.uptoBulk (D i)) n
  | 0 => by simp [Rows.uptoBulkAll, sumTo]
  | n + 1 => by
    rw [List.range_succ, List.map_append, bulkAll_append, bulk_sum D n]
    simp [Rows.uptoBulkAll, sumTo]
theorem sumTo_mono {f g : Nat → Nat} : ∀ {n : Nat}, (∀ j, j < n → f j ≤ g j) → sumTo f n ≤ sumTo g n
  | 0, _ => Nat.le_refl _
  | n + 1, h => by
    have := sumTo_mono (f := f) (g := g) (n := n) (fun j hj => h j (by omega))
    have := h n (by omega)
    simp only [sumTo]
    omega
set_option maxRecDepth 100000 in
theorem slice_rowsS {H : Type} {enc : TypeId × Value → H} {W : World} {sp : Nat → Bool} {held : Bool} {fuel : Nat} {cs : List Value} {x : DataW H × List MemPlace} {T E : TypeId} {s : Nat} {Q : List Value → Nat → Prop} {M : Nat} (hM : Rows.uptoBulk x.1 ≤ M) (hT : Try.prog.underlying T = some (.slice E)) (hs : Try.prog.cellsOf E = s) (hs0 : 0 < s)
    (hQ : ∀ fuel cs y, DataW.trod enc Try.prog W 0 sp held fuel E cs = some y → Rows.uptoBulk y.1 ≤ M → Q cs (Rows.uptoBulk y.1) ∧ cs.length = s) (hf : DataW.trod enc Try.prog W 0 sp held fuel T cs = some x) :
    ∃ p n c, cs = [.slice p n c] ∧ n ≤ Rows.uptoBulk x.1 ∧ ∃ ws : Nat → Nat, sumTo ws n ≤ Rows.uptoBulk x.1 ∧ (n = 0 ∨ ∃ bk off, p = some ⟨bk, off, none⟩ ∧ bk < W.heap.size ∧ ∀ i, i < n → ∃ cs' : List Value, Q cs' (ws i) ∧ ∀ (j : Nat) (u : Value), cs'[j]? = some u → W.cell? ⟨bk, off + (i * s + j), none⟩ = some u) := by
  rcases open_slice hT hf with ⟨hcs, _⟩ | ⟨a, len, cap, m, k, D, Pl, hcs, _, hl, hm, hme, hx, hi⟩
  · exact ⟨none, 0, 0, hcs, Nat.zero_le _, fun _ => 0, Nat.zero_le _, .inl rfl⟩
  · have hmn : len ≤ m := by rw [hme]; split <;> omega
    have hb : len ≤ Rows.uptoBulk x.1 := by
      rw [hx]
      have := bulk_length ((List.range len).map D)
      simp only [Rows.uptoBulk]
      simp at this
      omega
    have hbD : ∀ i, i < len → Rows.uptoBulk (D i) ≤ M := fun i hi2 => by
      refine Nat.le_trans ?_ hM
      rw [hx]
      have := bulk_mem (d := D i) (l := (List.range len).map D) (List.mem_map.2 ⟨i, List.mem_range.2 hi2, rfl⟩)
      simp only [Rows.uptoBulk]
      omega
    have hsum : sumTo (fun i => Rows.uptoBulk (D i)) len ≤ Rows.uptoBulk x.1 := by
      rw [hx, ← bulk_sum]
      simp only [Rows.uptoBulk]
      omega
    refine ⟨some a, len, cap, hcs, hb, fun i => Rows.uptoBulk (D i), hsum, ?_⟩
    rcases Nat.eq_zero_or_pos len with h0 | h0
    · exact .inl h0
    · obtain ⟨bk, off, spot⟩ := a
      have hrow : ∀ i, i < len → ∃ cs' : List Value, (Q cs' (Rows.uptoBulk (D i)) ∧ cs'.length = s) ∧ ∀ (j : Nat) (u : Value), cs'[j]? = some u → W.cell? ((⟨bk, off, spot⟩ : Addr).add (i * s + j)) = some u := fun i hin => by
        obtain ⟨cs', hc, ht⟩ := hi i (by omega)
        refine ⟨cs', hQ _ _ _ ht (hbD i hin), fun j u hj => ?_⟩
        rw [hs] at hc
        have e2 := cells_each hc j u hj
        have e3 : ((⟨bk, off, spot⟩ : Addr).add (i * s)).add j = (⟨bk, off, spot⟩ : Addr).add (i * s + j) := by
          unfold Addr.add
          split <;> split <;> simp_all <;> omega
        rw [← e3]
        exact e2
      have h00 : ∃ u, W.cell? ((⟨bk, off, spot⟩ : Addr).add 0) = some u := by
        obtain ⟨cs', ⟨_, hl'⟩, ho⟩ := hrow 0 h0
        obtain ⟨u, hu⟩ : ∃ u, cs'[0]? = some u := ⟨cs'[0]'(by omega), List.getElem?_eq_getElem _⟩
        exact ⟨u, by simpa using ho 0 u hu⟩
      obtain ⟨u, hu⟩ := h00
      have hspot : spot = none := by simpa [Addr.add] using World.cell?_spot hu
      subst hspot
      have hbk : bk < W.heap.size := World.block_lt_of_cell? W _ hu
      refine .inr ⟨bk, off, rfl, hbk, fun i hin => ?_⟩
      obtain ⟨cs', ⟨hq, _⟩, ho⟩ := hrow i hin
      refine ⟨cs', hq, fun j u hj => ?_⟩
      have e := ho j u hj
      unfold Addr.add at e
      split at e
      · rename_i z
        have z0 : i * s + j = 0 := by simpa using z
        rw [z0]
        exact e
      · exact e

theorem pre_sum (l : List PlP) : ∀ i, i ≤ l.length → pre l i = sumTo (fun j => match l[j]? with | some q => nst q | none => 0) i := by
  intro i
  induction i with
  | zero => intro _; rw [pre_zero]; rfl
  | succ i ih =>
    intro hi
    have hp : l[i]? = some l[i] := List.getElem?_eq_getElem (by omega)
    rw [pre_succ hp, ih (by omega)]
    simp only [sumTo, hp]
theorem plan_openS {H : Type} {enc : TypeId × Value → H} {W : World} {sp : Nat → Bool} {held : Bool} {fuel : Nat} {cs : List Value} {y : DataW H × List MemPlace} (hf : DataW.trod enc Try.prog W 0 sp held fuel 43 cs = some y) (hM : Rows.uptoBulk y.1 ≤ 1048576) :
    (∃ (q : PlP) (lp : Option Addr) (lc : Nat), cs = [.bool q.none, .slice lp q.L.length lc] ∧ DosAt W W.heap.size lp q.L ∧ q.L.length ≤ 1048576 ∧ nst q ≤ Rows.uptoBulk y.1) ∧ cs.length = 2 := by
  obtain ⟨xs, n, hn, hx, hl, hlen, hh⟩ := DataW.trod_struct Try.underlying43 hf
  subst hn
  rw [coPl] at hl
  refine ⟨?_, hl⟩
  obtain ⟨c0, c1, rfl⟩ := list2 hl
  obtain ⟨y0, y1, rfl⟩ := list2 (show xs.length = 2 from hlen)
  have h0 : DataW.trod enc Try.prog W 0 sp held n 4 [c0] = some y0 := by have := hh 0 _ rfl; simpa [coB] using this
  have h1 : DataW.trod enc Try.prog W 0 sp held n 41 [c1] = some y1 := by have := hh 1 _ rfl; simpa [coB, coDos] using this
  obtain ⟨z0, e0, _⟩ := DataW.trod_bool Try.underlying4 h0
  have q := bulk_mem (d := y1.1) (l := [y0.1, y1.1]) (by simp)
  have hB1 : Rows.uptoBulk y1.1 + 1 ≤ Rows.uptoBulk y.1 := by
    rw [hx]
    simp only [Rows.uptoBulk]
    simp at q ⊢
    omega
  obtain ⟨p, m, c, hcs, hb, hr⟩ := slice_rowsM (s := 5) (M := 1048576) (show Rows.uptoBulk y1.1 ≤ 1048576 by omega) (Q := fun _ => True) Try.underlying41 coDo (by decide) (fun fuel cs y hy hyM => ⟨trivial, (do_open hy hyM).2⟩) h1
  obtain ⟨lp, lc, L, hc, hD, hL⟩ := dos_open (show Rows.uptoBulk y1.1 ≤ 1048576 by omega) h1
  have hLm : L.length = m := by rw [hcs] at hc; simp at hc; exact hc.2.1.symm
  simp at e0 hc
  subst e0 hc
  refine ⟨⟨z0, L⟩, lp, lc, rfl, hD, by show L.length ≤ 1048576; omega, ?_⟩
  unfold nst
  split
  · omega
  · split
    · omega
    · show L.length ≤ _
      omega
theorem plans_openS {H : Type} {enc : TypeId × Value → H} {W : World} {sp : Nat → Bool} {held : Bool} {fuel : Nat} {cs : List Value} {y : DataW H × List MemPlace} (hf : DataW.trod enc Try.prog W 0 sp held fuel 22 cs = some y) (hM : Rows.uptoBulk y.1 ≤ 1048576) :
    (∃ (l : List PlP) (p : Option Addr) (c : Nat) (lp : Nat → Option Addr) (lc : Nat → Nat), cs = [.slice p l.length c] ∧ PlansAt W W.heap.size p l lp lc ∧ l.length ≤ 1048576 ∧ (∀ q ∈ l, q.L.length ≤ 1048576) ∧ pre l l.length ≤ Rows.uptoBulk y.1) ∧ cs.length = 1 := by
  obtain ⟨p, n, c, hcs, hb, ws, hws, hr⟩ := slice_rowsS (s := 2) (M := 1048576) hM (Q := fun cs w => ∃ (q : PlP) (lp : Option Addr) (lc : Nat), cs = [.bool q.none, .slice lp q.L.length lc] ∧ DosAt W W.heap.size lp q.L ∧ q.L.length ≤ 1048576 ∧ nst q ≤ w) Try.underlying22 coPl (by decide) (fun fuel cs y hy hyM => plan_openS hy hyM) hf
  refine ⟨?_, by rw [hcs]; rfl⟩
  rcases hr with rfl | ⟨bk, off, rfl, hbk, hr⟩
  · exact ⟨[], p, c, fun _ => none, fun _ => 0, hcs, fun i q hq => by simp at hq, by simp, fun q hq => by simp at hq, by simp [pre]⟩
  · obtain ⟨l, hl, hp⟩ := choose_list (P := fun i (z : PlP × Option Addr × Nat) => W.cell? ⟨bk, off + i * 2, none⟩ = some (.bool z.1.none) ∧ W.cell? ⟨bk, off + i * 2 + 1, none⟩ = some (.slice z.2.1 z.1.L.length z.2.2) ∧ DosAt W W.heap.size z.2.1 z.1.L ∧ z.1.L.length ≤ 1048576 ∧ nst z.1 ≤ ws i) n (fun i hi => by
      obtain ⟨cs', ⟨q, lp, lc, rfl, hD, hL⟩, hc⟩ := hr i hi
      exact ⟨⟨q, lp, lc⟩, by have := hc 0 _ rfl; simpa using this, by have := hc 1 _ rfl; simpa [Nat.add_assoc] using this, hD, hL⟩)
    subst hl
    refine ⟨l.map (·.1), some ⟨bk, off, none⟩, c, fun i => match l[i]? with | some z => z.2.1 | none => none, fun i => match l[i]? with | some z => z.2.2 | none => 0, by simpa using hcs, fun i q hq => ?_, by simp; omega, fun q hq => ?_, ?_⟩
    · rw [List.getElem?_map] at hq
      cases hz : l[i]? with
      | none => rw [hz] at hq; simp at hq
      | some z =>
        rw [hz] at hq
        simp at hq
        subst hq
        obtain ⟨a1, a2, a3, a4, a5⟩ := hp i z hz
        simp only [hz]
        exact ⟨⟨bk, off, rfl, hbk, a1, a2⟩, a3⟩
    · obtain ⟨z, hz, rfl⟩ := List.mem_map.1 hq
      obtain ⟨i, hi⟩ := List.mem_iff_getElem?.1 hz
      exact (hp i z hi).2.2.2.1
    · rw [pre_sum _ _ (Nat.le_refl _)]
      refine Nat.le_trans (sumTo_mono (g := ws) (fun j hj => ?_)) (by simpa using hws)
      have hj' : j < l.length := by simpa using hj
      rw [List.getElem?_map, List.getElem?_eq_getElem hj']
      exact (hp j l[j] (List.getElem?_eq_getElem hj')).2.2.2.2
theorem coPls : Try.prog.cellsOf 22 = 1 := by kernel_rfl
/-- Threads of plans. -/
theorem threads_open {H : Type} {enc : TypeId × Value → H} {W : World} {sp : Nat → Bool} {held : Bool} {p : Option Addr} {n c : Nat} {d : DataW H} {ps : List MemPlace} (h : DataW.Trod enc Try.prog W 0 sp held 35 (.slice p n c) d ps) (hM : Rows.uptoBulk d ≤ 1048576) :
    ∃ (ll : List (List PlP)) (ap : Nat → Option Addr) (ac : Nat → Nat) (lp : Nat → Nat → Option Addr) (lc : Nat → Nat → Nat), ll.length = n ∧ ThsAt W W.heap.size p ll ap ac lp lc ∧ ll.length ≤ 1048576 ∧ (∀ l ∈ ll, l.length ≤ 1048576) ∧ (∀ l ∈ ll, ∀ q ∈ l, q.L.length ≤ 1048576) ∧ sumTo (fun i => match ll[i]? with | some l => pre l l.length | none => 0) ll.length ≤ Rows.uptoBulk d := by
  obtain ⟨fuel, hf⟩ := h
  obtain ⟨p', n', c', hcs, hb, ws, hws, hr⟩ := slice_rowsS (s := 1) (M := 1048576) hM (Q := fun cs w => ∃ (l : List PlP) (p : Option Addr) (c : Nat) (lp : Nat → Option Addr) (lc : Nat → Nat), cs = [.slice p l.length c] ∧ PlansAt W W.heap.size p l lp lc ∧ l.length ≤ 1048576 ∧ (∀ q ∈ l, q.L.length ≤ 1048576) ∧ pre l l.length ≤ w) Try.underlying35 coPls (by decide) (fun fuel cs y hy hyM => plans_openS hy hyM) hf
  have e : p = p' ∧ n = n' ∧ c = c' := by simpa [Value.cells] using hcs
  obtain ⟨rfl, rfl, rfl⟩ := e
  rcases hr with rfl | ⟨bk, off, rfl, hbk, hr⟩
  · exact ⟨[], fun _ => none, fun _ => 0, fun _ _ => none, fun _ _ => 0, rfl, fun i l hl => by simp at hl, by simp, fun l hl => by simp at hl, fun l hl => by simp at hl, Nat.zero_le _⟩
  · obtain ⟨ll, hl, hp⟩ := choose_list (P := fun i (z : List PlP × Option Addr × Nat × (Nat → Option Addr) × (Nat → Nat)) => W.cell? ⟨bk, off + i, none⟩ = some (.slice z.2.1 z.1.length z.2.2.1) ∧ PlansAt W W.heap.size z.2.1 z.1 z.2.2.2.1 z.2.2.2.2 ∧ z.1.length ≤ 1048576 ∧ (∀ q ∈ z.1, q.L.length ≤ 1048576) ∧ pre z.1 z.1.length ≤ ws i) n (fun i hi => by
      obtain ⟨cs', ⟨l, p, c, lp, lc, rfl, hP, hL, hLq, hw⟩, hc⟩ := hr i hi
      exact ⟨⟨l, p, c, lp, lc⟩, by have := hc 0 _ rfl; simpa using this, hP, hL, hLq, hw⟩)
    subst hl
    refine ⟨ll.map (·.1), fun i => match ll[i]? with | some z => z.2.1 | none => none, fun i => match ll[i]? with | some z => z.2.2.1 | none => 0, fun i => match ll[i]? with | some z => z.2.2.2.1 | none => fun _ => none, fun i => match ll[i]? with | some z => z.2.2.2.2 | none => fun _ => 0, by simp, fun i l hl => ?_, by simp; have hb' : _ ≤ Rows.uptoBulk d := hb; omega, fun l hl => ?_, fun l hl => ?_, ?_⟩
    · rw [List.getElem?_map] at hl
      cases hz : ll[i]? with
      | none => rw [hz] at hl; simp at hl
      | some z =>
        rw [hz] at hl
        simp at hl
        subst hl
        obtain ⟨a1, a2, a3, a4, a5⟩ := hp i z hz
        simp only [hz]
        exact ⟨⟨bk, off, rfl, hbk, a1⟩, a2⟩
    · obtain ⟨z, hz, rfl⟩ := List.mem_map.1 hl
      obtain ⟨i, hi⟩ := List.mem_iff_getElem?.1 hz
      exact (hp i z hi).2.2.1
    · obtain ⟨z, hz, rfl⟩ := List.mem_map.1 hl
      obtain ⟨i, hi⟩ := List.mem_iff_getElem?.1 hz
      exact (hp i z hi).2.2.2.1
    · refine Nat.le_trans (sumTo_mono (g := ws) (fun j hj => ?_)) (by simpa using hws)
      have hj' : j < ll.length := by simpa using hj
      rw [List.getElem?_map, List.getElem?_eq_getElem hj']
      exact (hp j ll[j] (List.getElem?_eq_getElem hj')).2.2.2.2
end Go.Proofs.Ytkfmpebhibnniaa
/- The document's runner: a new one, walked. -/
namespace Go.Proofs.Ytkfmpebhibnniaa
open Go.RowKit Go.Shelf
set_option linter.unusedVariables false

theorem infoI4 : (Try.prog.info? 3).map (fun i => (i.zero, i.size, i.bytes)) = some (some (.int .i64 0), 1, 8) := by kernel_rfl
theorem infoUs4 : (Try.prog.info? 49).map (fun i => (i.zero, i.size, i.bytes)) = some (some (.slice none 0 0), 1, 24) := by kernel_rfl
theorem made_ints (n : Nat) : madeCells #[Value.int .i64 0] n = intR (fun _ => 0) n := by
  apply Array.ext'
  rw [toList_madeCells_one]
  simp [intR, List.map_const']
theorem made_vals (n : Nat) : madeCells #[Value.slice none 0 0] n = valR (fun _ => .slice none 0 0) n := by
  apply Array.ext'
  rw [toList_madeCells_one]
  simp [valR, List.map_const']
theorem make_ints4 (n : Nat) (hn : n ≤ 64) (u : World) : (Instr.makeSlice 66 (.int .i64 (n : Int)) (.int .i64 (n : Int))).run Try.prog u = .ok (.slice (some ⟨u.heap.size, 0, none⟩) n n) (u.alloc (.cells (intR (fun _ => 0) n) 3)) := by
  obtain ⟨i0, hi, hz0, hz1, hz2⟩ := info_parts infoI4
  have h := run_make (P := Try.prog) u 66 3 i0 (.int .i64 0) Try.underlying66 hi hz0 .i64 .i64 (n : Int) (n : Int) (by omega) (Int.le_refl _) (by rw [hz2]; omega) (by omega)
  rw [← made_ints]
  simpa [hz1, Value.cells] using h
theorem make_vals4 (n : Nat) (hn : n ≤ 64) (u : World) : (Instr.makeSlice 118 (.int .i64 (n : Int)) (.int .i64 (n : Int))).run Try.prog u = .ok (.slice (some ⟨u.heap.size, 0, none⟩) n n) (u.alloc (.cells (valR (fun _ => .slice none 0 0) n) 49)) := by
  obtain ⟨i0, hi, hz0, hz1, hz2⟩ := info_parts infoUs4
  have h := run_make (P := Try.prog) u 118 49 i0 (.slice none 0 0) Try.underlying118 hi hz0 .i64 .i64 (n : Int) (n : Int) (by omega) (Int.le_refl _) (by rw [hz2]; omega) (by omega)
  rw [← made_vals]
  simpa [hz1, Value.cells] using h
theorem alloc4 (w : World) (a b c d : Obj) : ((((w.alloc a).alloc b).alloc c).alloc d).heap[w.heap.size]? = some a ∧ ((((w.alloc a).alloc b).alloc c).alloc d).heap[w.heap.size + 1]? = some b ∧ ((((w.alloc a).alloc b).alloc c).alloc d).heap[w.heap.size + 1 + 1]? = some c ∧ ((((w.alloc a).alloc b).alloc c).alloc d).heap[w.heap.size + 1 + 1 + 1]? = some d := by
  have s1 : (w.alloc a).heap.size = w.heap.size + 1 := World.size_alloc _ _
  have s2 : ((w.alloc a).alloc b).heap.size = w.heap.size + 1 + 1 := by rw [World.size_alloc, s1]
  have s3 : (((w.alloc a).alloc b).alloc c).heap.size = w.heap.size + 1 + 1 + 1 := by rw [World.size_alloc, s2]
  refine ⟨?_, ?_, ?_, ?_⟩
  · rw [Below.heap_alloc _ _ _ (by omega), Below.heap_alloc _ _ _ (by omega), Below.heap_alloc _ _ _ (by omega)]
    exact heap_alloc_new _ _
  · rw [Below.heap_alloc _ _ _ (by omega), Below.heap_alloc _ _ _ (by omega), ← s1]
    exact heap_alloc_new _ _
  · rw [Below.heap_alloc _ _ _ (by omega), ← s2]
    exact heap_alloc_new _ _
  · rw [← s3]
    exact heap_alloc_new _ _
def tooL (ll : List (List PlP)) : Bool := decide (64 < ll.length) || ll.any (fun l => decide (4096 < l.length))
/-- The four blocks of a new one. -/
structure N4 (X wx : World) (r nm T gc ga gg : Nat) (p : Option Addr) (c8 : Nat) : Prop where
  blk : wx.heap[r]? = some (.cells #[.pointer (some ⟨nm, 0, none⟩), .slice p T c8, .slice (some ⟨gc, 0, none⟩) T T, .slice (some ⟨ga, 0, none⟩) T T, .int .i64 0, .slice none 0 0, .slice none 0 0, .slice (some ⟨gg, 0, none⟩) T T] 120 (0, 0))
  cb : wx.heap[gc]? = some (.cells (intR (fun _ => 0) T) 3 (0, 0))
  ab : wx.heap[ga]? = some (.cells (intR (fun _ => 0) T) 3 (0, 0))
  gb : wx.heap[gg]? = some (.cells (valR (fun _ => .slice none 0 0) T) 49 (0, 0))
  ne : gc ≠ ga
  lo : X.heap.size ≤ r ∧ X.heap.size ≤ gc ∧ X.heap.size ≤ ga ∧ X.heap.size ≤ gg
  chg : Chg (fun _ => False) X wx
set_option maxRecDepth 100000 in
set_option maxHeartbeats 8000000 in
theorem d4_new {X : World} {B nm c8 : Nat} {p : Option Addr} {ll : List (List PlP)} {ap : Nat → Option Addr} {ac : Nat → Nat} {lp : Nat → Nat → Option Addr} {lc : Nat → Nat → Nat} {R : Nat → Prop} {m : Mu} {t : List Acc} (hP : ThsAt X B p ll ap ac lp lc) (hB : B ≤ X.heap.size) (hll : ll.length ≤ 1048576) (hls : ∀ l ∈ ll, l.length ≤ 1048576) (hM : RM X R nm 200 m.next m.cs t) (hR : ∀ k, R k → B ≤ k) (hm : m.next ≤ 200) (ht : t.length ≤ 1) (hb : tooL ll = false) :
    Calls Try.prog 44 #[.pointer (some ⟨nm, 0, none⟩), .slice p ll.length c8] X fun e Y => ∃ r, e = .returned (.tuple #[.pointer (some ⟨r, 0, none⟩), .int .i64 0]) ∧ ∃ K, D4 Y B r nm ll.length 0 p c8 (fun _ => 0) (fun _ => 0) K ∧ (∀ k, K k → (R k ∨ X.heap.size ≤ k) ∧ k < Y.heap.size) ∧ Chg (fun _ => False) X Y := by
  have hT : ll.length ≤ 64 := by
    unfold tooL at hb
    simp at hb
    omega
  have hL : ∀ l ∈ ll, l.length ≤ 4096 := fun l hl => by
    unfold tooL at hb
    simp at hb
    have := hb.2 l hl
    omega
  have HP := keepH hP
  have HL := keepH hL
  have HM := keepH hM
  have HR := keepH hR
  have hi4 := make_ints4 ll.length hT
  have hv4 := make_vals4 ll.length hT
  have HI4 := keepH hi4
  have HV4 := keepH hv4
  clear hP hls hM hR hb hL hi4 hv4
  go_enter Try.func44, Try.ntmps44
  go_wp2_with fail
  go_loopw [6] (fun s wx => ∃ i : Nat, i ≤ ll.length ∧ s = .int .i64 (i : Int) ∧ Hid (wx.heap = X.heap ∧ Chg (fun _ => False) X wx)) (fun s _ => ll.length - (intOf s).toNat)
  case atStart => exact ⟨0, Nat.zero_le _, rfl, rfl, Chg.refl _ _⟩
  case round =>
    obtain ⟨i, hil, rfl, HC⟩ := hrel
    obtain ⟨w1, hw1⟩ : ∃ w1, w1 = wr := ⟨_, rfl⟩
    subst hw1
    by_cases hi : i < ll.length
    · have z1 : (i : Int) < (ll.length : Int) := by omega
      obtain ⟨l, hl⟩ : ∃ l, ll[i]? = some l := ⟨ll[i], List.getElem?_eq_getElem hi⟩
      obtain ⟨⟨bk, off, rfl, _, d0⟩, _⟩ := (HP.out.chg hB HC.out.2) i l hl
      have hl4 := HL.out l (List.mem_of_getElem? hl)
      have z2 : ¬ (4096 : Int) < (l.length : Int) := by omega
      clear hl
      go_wp2_with fail
      go_roundw
      case rel => exact ⟨i + 1, by omega, by first | rfl | go_num, HC.out⟩
      case measure => simp [intOf]; omega
    · have z1 : ¬ (i : Int) < (ll.length : Int) := by omega
      have hi4 := HI4.out
      have hv4 := HV4.out
      go_upto_region 10 with fail
      go_cut [7] (fun s7 wx => ∃ r gc ga gg, s7 = .pointer (some ⟨r, 0, none⟩) ∧ Hid (N4 w1 wx r nm ll.length gc ga gg p c8))
      case first =>
        go_region
        all_goals (try go_wp2_with fail)
        all_goals go_meet
        all_goals (refine ⟨_, _, _, _, rfl, ⟨(alloc4 w1 _ _ _ _).2.2.2, ?_, ?_, ?_, by omega, ⟨by omega, by omega, by omega, by omega⟩, ?_⟩⟩)
        all_goals first | exact (alloc4 w1 _ _ _ _).1 | exact (alloc4 w1 _ _ _ _).2.1 | exact (alloc4 w1 _ _ _ _).2.2.1 | exact ((((((Chg.refl (fun _ => False) w1).alloc _).alloc _).alloc _).alloc _).drew)
      case rest =>
        obtain ⟨r, gc, ga, gg, rfl, HN⟩ := hcut
        obtain ⟨w2, hw2⟩ : ∃ w2, w2 = wc := ⟨_, rfl⟩
        subst hw2
        have HCX : Hid (Chg (fun _ => False) X w2) := HC.out.2.trans HN.out.chg (fun _ _ x => x) (fun _ _ x => x)
        have hsz : X.heap.size = w1.heap.size := by rw [HC.out.1]
        have HD : Hid (D4At w2 B (fun k => open Classical in if k = r then 1 else if k = gc then 2 else if k = ga then 3 else if k = gg then 4 else if R k then 7 else 0) r nm ll.length 0 gc ga gg p c8 (.slice none 0 0) (.slice none 0 0) [] [] (fun _ => .slice none 0 0) (fun _ => []) R m t (fun _ => 0) (fun _ => 0)) := by
          have h := HN.out
          obtain ⟨l1, l2, l3, l4⟩ := h.lo
          have rc : gc ≠ r := typ_ne h.cb h.blk (by decide)
          have ra : ga ≠ r := typ_ne h.ab h.blk (by decide)
          have rg : gg ≠ r := typ_ne h.gb h.blk (by decide)
          have gcg : gg ≠ gc := typ_ne h.gb h.cb (by decide)
          have gag : gg ≠ ga := typ_ne h.gb h.ab (by decide)
          have rl : ∀ k, R k → k < X.heap.size := fun k e => HM.out.lt k e
          refine ⟨h.blk, h.cb, h.ab, h.gb, World.ownsRow_nil _ _ _ _, World.ownsRow_nil _ _ _ _, fun i _ => World.ownsRow_nil _ _ _ _, HM.out.chg HCX.out (fun _ _ x => x), ?_, ?_, ?_, ?_, fun k e => by simp [Value.ownBlock] at e, fun k e => by simp [Value.ownBlock] at e, fun k e => ?_, fun i k _ e => by simp [Value.ownBlock] at e, fun k e => ?_, ⟨by simp, by simp, fun _ _ => by simp, by omega, hm, hT⟩⟩
          · simp
          · simp [rc]
          · simp [ra, h.ne.symm]
          · simp [rg, gcg, gag]
          · have := rl k e
            simp [show k ≠ r by omega, show k ≠ gc by omega, show k ≠ ga by omega, show k ≠ gg by omega, e]
          · have lr := lt_of h.blk
            have lgc := lt_of h.cb
            have lga := lt_of h.ab
            have lgg := lt_of h.gb
            have sz := HCX.out.size
            by_cases e1 : k = r
            · omega
            by_cases e2 : k = gc
            · omega
            by_cases e3 : k = ga
            · omega
            by_cases e4 : k = gg
            · omega
            by_cases e5 : R k
            · have := rl k e5; have := HR.out k e5; omega
            · simp [e1, e2, e3, e4, e5] at e
        have HKK : Hid (∀ k, (fun k => open Classical in if k = r then 1 else if k = gc then 2 else if k = ga then 3 else if k = gg then 4 else if R k then 7 else 0) k ≠ 0 → R k ∨ X.heap.size ≤ k) := fun k e => by
          obtain ⟨l1, l2, l3, l4⟩ := HN.out.lo
          by_cases e1 : k = r
          · right; omega
          by_cases e2 : k = gc
          · right; omega
          by_cases e3 : k = ga
          · right; omega
          by_cases e4 : k = gg
          · right; omega
          by_cases e5 : R k
          · exact .inl e5
          · simp [e1, e2, e3, e4, e5] at e
        have HLO : Hid (∀ k, R k → k < X.heap.size) := fun k e => HM.out.lt k e
        clear HM HC HN hi4 hv4
        obtain ⟨j0, hj0, hy0, hy1, hy2⟩ := info_parts infoI4
        go_wp2_with fail
        go_loopw [8] (fun s wx => ∃ k : Nat, k ≤ t.length ∧ s = .int .i64 (k : Int) ∧ Hid (∃ tg wv ws, ws.length = k ∧ D4At wx B tg r nm ll.length 0 gc ga gg p c8 (.slice none 0 0) wv [] ws (fun _ => .slice none 0 0) (fun _ => []) R m t (fun _ => 0) (fun _ => 0) ∧ (∀ k, tg k ≠ 0 → R k ∨ X.heap.size ≤ k) ∧ Chg (fun _ => False) X wx)) (fun s _ => t.length - (intOf s).toNat)
        case atStart => exact ⟨0, Nat.zero_le _, rfl, _, _, [], rfl, HD.out, HKK.out, HCX.out⟩
        case round =>
          obtain ⟨k, hkt, rfl, HX⟩ := hrel
          obtain ⟨tg, wv, ws, hws, h, hK, hC⟩ := HX.out
          obtain ⟨w3, hw3⟩ : ∃ w3, w3 = wr := ⟨_, rfl⟩
          subst hw3
          obtain ⟨lr, ⟨nc, av, os, hRm⟩, hbr⟩ := h.rm
          obtain ⟨pa, ca, eav⟩ := slice_of hRm.acc
          have elr : lr.length = t.length := by rw [← hbr]; simp
          have c2 : w3.cell? ⟨nm, 2, none⟩ = some (.slice pa t.length ca) := by
            have e := cell_of hRm.blk 2
            rw [eav, elr] at e
            exact e
          have r0 : w3.cell? ⟨r, 0, none⟩ = some (.pointer (some ⟨nm, 0, none⟩)) := cell_of h.blk 0
          obtain ⟨pw, cw, ewv⟩ := slice_of h.wr
          subst ewv
          have c6 : w3.cell? ⟨r, 6, none⟩ = some (.slice pw ws.length cw) := cell_of h.blk 6
          have f6 := free_of h.blk 6
          have H := keepH h
          have HKT := keepH hK
          have HCT := keepH hC
          clear HX h hK hC hRm hbr
          subst hws
          by_cases hk : ws.length < t.length
          · have z3 : (ws.length : Int) < (t.length : Int) := by omega
            have HW := keepH H.out.wr
            have g6 : ∀ w' : World, w'.heap[r]? = w3.heap[r]? → w'.cell? ⟨r, 6, none⟩ = some (.slice pw ws.length cw) ∧ w'.frozen? ⟨r, 6, none⟩ = false := fun w' e => ⟨(World.cell?_of_block (w := w3) e).trans c6, (World.frozen?_of_block (w := w3) e).trans f6⟩
            have HG6 := keepH g6
            clear g6
            go_wp2_with (at_builtin; refine wpList_append_own_at _ rfl _ _ 66 rfl 0 3 j0 (.int .i64 0) 1 8 Try.underlying66 hj0 hy0 hy1 hy2 rfl (by decide) _ _ _ rfl (HW.out.alloc _) ⟨_, 0, none⟩ 1 1 [.int .i64 (-1)] rfl rfl (cells_new _ _ rfl _ _) (by intro u hu; simp at hu; subst hu; rfl) (by unfold maxLen; omega) (by omega) (Nat.zero_le _) ?_; intro v' w4 s1 s2 s3 s4; obtain ⟨gp, gcp, ev'⟩ := slice_of s1; subst ev'; have h6 := HG6.out w4 ((s2.block r (by rw [World.size_alloc]; have := lt_of H.out.blk; omega) (fun e => by have := H.out.tw r e.symm; rw [H.out.tr] at this; omega)).trans (Below.heap_alloc _ _ r (lt_of H.out.blk))); have c6' := h6.1; have f6' := h6.2; clear h6; have HB3 := keepH (H.out.noted s1 s2 s4 (Nat.le_trans hB HCT.out.size) (by omega)); have HS2 := keepH s2; have HS4 := keepH s4; have HS1 := keepH s1; clear s1 s2 s3 s4)
            have HC4 : Hid (Chg (fun _ => False) X (w4.setCell ⟨r, 6, none⟩ (.slice gp (ws.length + 1) gcp))) := by
              have c4 : Chg (fun k => (Value.slice pw ws.length cw).ownBlock = some k) w3 w4 := ((Chg.refl (fun k => (Value.slice pw ws.length cw).ownBlock = some k) w3).alloc _).grown HS2.out (fun k e _ => e)
              have c5 : Chg (fun _ => False) X w4 := HCT.out.trans c4 (fun _ _ x => x) (fun k hk e => by
                have e6 := H.out.tw k e
                rcases HKT.out k (by rw [e6]; decide) with q | q
                · have := H.out.tR k q; omega
                · omega)
              refine c5.setCell (p := ⟨r, 6, none⟩) (fun q => ?_) _
              have q2 : r < X.heap.size := q
              rcases HKT.out r (by rw [H.out.tr]; decide) with z | z
              · have := H.out.tR r z; have := H.out.tr; omega
              · omega
            go_roundw
            case rel =>
              refine ⟨ws.length + 1, by omega, by first | rfl | go_num, _, _, ws ++ [-1], by simp, HB3.out, fun k e => ?_, HC4.out⟩
              by_cases q : k < w3.heap.size
              · simp only [if_pos q] at e
                exact HKT.out k e
              · exact .inr (Nat.le_trans HCT.out.size (by omega))
            case measure => simp [intOf]; omega
          · have z3 : ¬ (ws.length : Int) < (t.length : Int) := by omega
            go_wp2_with fail
            go_ret2
            exact ⟨_, by simp, fun k => (R k ∨ X.heap.size ≤ k) ∧ k < w3.heap.size, ⟨_, _, _, _, _, _, _, _, _, _, _, _, _, H.out, fun k e => ⟨HKT.out k e, (H.out.lo k e).2⟩⟩, fun k e => by rw [← hsz]; exact e, HCT.out⟩
end Go.Proofs.Ytkfmpebhibnniaa
/- Runs of plans' procs: Run over a list of picks. -/
namespace Go.Proofs.Ytkfmpebhibnniaa
open Go.RowKit Go.Shelf
set_option linter.unusedVariables false

def IReads (W : World) (p : Option Addr) (xs : List Int) : Prop :=
  xs = [] ∨ ∃ bk off, p = some ⟨bk, off, none⟩ ∧ bk < W.heap.size ∧ ∀ i x, xs[i]? = some x → W.cell? ⟨bk, off + i, none⟩ = some (.int .i64 x)
theorem IReads.get {W : World} {p : Option Addr} {xs : List Int} (h : IReads W p xs) (i : Nat) (x : Int) (hx : xs[i]? = some x) : ∃ bk off, p = some ⟨bk, off, none⟩ ∧ bk < W.heap.size ∧ W.cell? ⟨bk, off + i, none⟩ = some (.int .i64 x) := by
  rcases h with rfl | ⟨bk, off, rfl, hb, h⟩
  · simp at hx
  · exact ⟨bk, off, rfl, hb, h i x hx⟩
theorem IReads.chg {W X : World} {p : Option Addr} {xs : List Int} (h : IReads W p xs) (hc : Chg (fun _ => False) W X) : IReads X p xs := by
  rcases h with rfl | ⟨bk, off, rfl, hb, h⟩
  · exact .inl rfl
  · exact .inr ⟨bk, off, rfl, Nat.lt_of_lt_of_le hb hc.size, fun i x hx => cell_chg hc (h i x hx) (fun h => h)⟩
section
variable {P : Type} {Lo : Nat} {W0 : World} {κ : KindL P Lo W0} {most m b T : Nat} {cl : Nat → Nat} {vb : Nat → Nat} {pv : Nat → Nat → Value} {c : Cfg P} {W Z X : World} {S : Nat → Prop} {r : Nat}
theorem Cfg.run_more (κ : KindL P Lo W0) (most T : Nat) (cl : Nat → Nat) (c : Cfg P) (picks : List Int) (k : Nat) (th : Int) (h : picks[k]? = some th) : c.run κ most T cl (picks.take (k + 1)) = (c.run κ most T cl (picks.take k)).pick κ most T cl th := by
  unfold Cfg.run
  rw [List.take_add_one, h]
  simp [List.foldl_append]
theorem pick_st (κ : KindL P Lo W0) (most T : Nat) (cl : Nat → Nat) (c : Cfg P) (th : Int) : (c.pick κ most T cl th).st = c.st + 1 := by
  unfold Cfg.pick
  split <;> rfl
theorem run_st (κ : KindL P Lo W0) (most T : Nat) (cl : Nat → Nat) : ∀ (picks : List Int) (c : Cfg P), (c.run κ most T cl picks).st = c.st + picks.length
  | [], c => rfl
  | th :: l, c => by
    have := run_st κ most T cl l (c.pick κ most T cl th)
    rw [pick_st] at this
    show ((c.pick κ most T cl th).run κ most T cl l).st = _
    rw [this, List.length_cons]
    omega
theorem run_append (κ : KindL P Lo W0) (most T : Nat) (cl : Nat → Nat) (c : Cfg P) (a b : List Int) : c.run κ most T cl (a ++ b) = (c.run κ most T cl a).run κ most T cl b := by
  unfold Cfg.run
  rw [List.foldl_append]
theorem GR.chgW (h : GR κ most m b T cl vb pv c W Z X S r) : Chg (fun _ => False) W X := by
  obtain ⟨G, K, vw, tv, ev, av, ths, h⟩ := h
  exact h.chg
set_option maxRecDepth 100000 in
set_option maxHeartbeats 2000000 in
theorem gr_run (p : Option Addr) (c8 : Nat) (l : List Int) (h : GR κ most m b T cl vb pv c W Z X S r) (hpW : IReads W p l) (hn : c.st + l.length ≤ 16777216) :
    Calls Try.prog 20 #[.pointer (some ⟨r, 0, none⟩), .slice p l.length c8] X fun e X' => e = .returned (.tuple #[]) ∧ GR κ most m b T cl vb pv (c.run κ most T cl l) W Z X' S r := by
  have H := keepH h
  have HP := keepH hpW
  clear h hpW
  go_enter Try.func20, Try.ntmps20
  go_wp2_with fail
  go_loopw [8] (fun s wr => ∃ k : Nat, k ≤ l.length ∧ s = .int .i64 (k : Int) ∧ Hid (GR κ most m b T cl vb pv (c.run κ most T cl (l.take k)) W Z wr S r)) (fun s _ => l.length - (intOf s).toNat)
  case atStart => exact ⟨0, by omega, rfl, H⟩
  case round =>
    obtain ⟨k, hk, rfl, HK⟩ := hrel
    by_cases hlt : k < l.length
    · have t1 : (k : Int) < (l.length : Int) := by omega
      obtain ⟨x, hx⟩ : ∃ x, l[k]? = some x := ⟨l[k], List.getElem?_eq_getElem hlt⟩
      obtain ⟨bk, off, rfl, _, cx⟩ := (HP.out.chg HK.out.chgW).get k x hx
      have HX := keepH (Cfg.run_more κ most T cl c l k x hx)
      have hst : (c.run κ most T cl (l.take k)).st ≤ 16777216 := by rw [run_st, List.length_take]; omega
      have HST := keepH hst
      clear hx hst
      go_wp2_with fail
      refine (gr_pick HK.out x HST.out).mono ?_
      rintro e w' ⟨rfl, A'⟩
      have HA := keepH A'
      clear A'
      go_wp2_with fail
      go_roundw
      case rel => exact ⟨k + 1, by omega, by first | rfl | go_num, by rw [HX.out]; exact HA⟩
      case measure => simp [intOf]; omega
    · have t1 : ¬ (k : Int) < (l.length : Int) := by omega
      go_wp2_with fail
      go_end0
      obtain rfl : k = l.length := by omega
      refine ⟨rfl, ?_⟩
      have := HK.out
      rw [List.take_of_length_le (Nat.le_refl _)] at this
      exact this
end
end Go.Proofs.Ytkfmpebhibnniaa
/- Events that are the same; nobody is under way. -/
namespace Go.Proofs.Ytkfmpebhibnniaa
open Go.RowKit Go.Shelf
set_option linter.unusedVariables false

set_option maxRecDepth 100000 in
set_option maxHeartbeats 4000000 in
theorem s_sameE (p q : Option Addr) (c d n : Nat) (l : List Ev) (W : World) (ha : W.ownsRow 0 112 4 (.slice p n c) n (evRow l)) (hb : W.ownsRow 0 112 4 (.slice q n d) n (evRow l)) (hl : l.length = n) (hn : n ≤ 1099511627776) :
    Calls Try.prog 21 #[.slice p n c, .slice q n d] W fun e W' => e = .returned (.bool true) ∧ ∃ k, W' = W.drewN k := by
  have HA := keepH ha
  have HB := keepH hb
  have HL := keepH hl
  clear ha hb hl
  go_enter Try.func21, Try.ntmps21
  go_wp2_with fail
  go_loopw [5] (fun s wr => ∃ k : Nat, k ≤ n ∧ s = .int .i64 (k : Int) ∧ Hid (∃ j, wr = W.drewN j)) (fun s _ => n - (intOf s).toNat)
  case atStart => exact ⟨0, by omega, rfl, keepH ⟨0, rfl⟩⟩
  case round =>
    obtain ⟨k, hk, rfl, HK⟩ := hrel
    by_cases hlt : k < n
    · have t1 : (k : Int) < (n : Int) := by omega
      obtain ⟨x, hx⟩ : ∃ x, l[k]? = some x := ⟨l[k]'(by have := HL.out; omega), List.getElem?_eq_getElem _⟩
      obtain ⟨g1, c1, e1⟩ := slice_pos HA.out (by omega)
      obtain ⟨g2, c2, e2⟩ := slice_pos HB.out (by omega)
      injection e1 with e1 _ e1c
      injection e2 with e2 _ e2c
      subst e1 e2 e1c e2c
      have A1 : ∀ f v, f < 4 → x.cells[f]? = some v → wr.cell? ⟨g1, k * 4 + f, none⟩ = some v := fun f v hf hv => by
        obtain ⟨j, e⟩ := HK.out
        rw [e]
        exact ev_cellY HA.out k f x hx hlt hf v hv
      have B1 : ∀ f v, f < 4 → x.cells[f]? = some v → wr.cell? ⟨g2, k * 4 + f, none⟩ = some v := fun f v hf hv => by
        obtain ⟨j, e⟩ := HK.out
        rw [e]
        exact ev_cellY HB.out k f x hx hlt hf v hv
      obtain ⟨a1, a2, a3, a4⟩ := x
      have x0 := A1 0 (.int .i64 a1) (by omega) rfl
      have x1 := A1 1 (.int .i64 a2) (by omega) rfl
      have x2 := A1 2 (.int .i64 a3) (by omega) rfl
      have x3 := A1 3 (.bool a4) (by omega) rfl
      have y0 := B1 0 (.int .i64 a1) (by omega) rfl
      have y1 := B1 1 (.int .i64 a2) (by omega) rfl
      have y2 := B1 2 (.int .i64 a3) (by omega) rfl
      have y3 := B1 3 (.bool a4) (by omega) rfl
      rw [Nat.add_zero] at x0 y0
      clear hx A1 B1
      go_wp2_with fail
      go_quiet (fail)
      go_wp2_with fail
      go_roundw
      case rel => exact ⟨k + 1, by omega, by first | rfl | go_num, keepH (by obtain ⟨j, e⟩ := HK.out; exact ⟨j + nq, by rw [e, drewN_addY]⟩)⟩
      case measure => simp [intOf]; omega
    · obtain rfl : k = n := by omega
      have t1 : ¬ (k : Int) < (k : Int) := by omega
      go_wp2_with fail
      go_ret
      exact ⟨by simp, HK.out⟩
section
variable {P : Type} {Lo : Nat} {W0 : World} {κ : KindL P Lo W0} {most m b T : Nat} {cl : Nat → Nat} {vb : Nat → Nat} {pv : Nat → Nat → Value} {c : Cfg P} {W Z X Y : World} {S : Nat → Prop} {r : Nat}
set_option maxRecDepth 100000 in
set_option maxHeartbeats 4000000 in
/-- Nobody is under way. -/
theorem gr_pending (h : GR κ most m b T cl vb pv c W Z X S r) (hb : ∀ i, i < T → c.bg i = false) : Calls Try.prog 28 #[.pointer (some ⟨r, 0, none⟩)] X fun e Y => e = .returned (.slice none 0 0) ∧ ∃ q, Y = X.drewN q := by
  obtain ⟨G, K, vw, tv, ev, av, ths, h⟩ := h
  have c0 : X.cell? ⟨r, 65, none⟩ = some tv := h.run.cellk 0
  have hl := h.len
  obtain ⟨p, c8, htv⟩ := slice_of h.run.tr
  have HB := keepH hb
  have H := keepH h
  rw [htv, hl] at c0
  have h64 := h.run.thl
  have HTV := keepH htv
  clear h hb htv
  go_enter Try.func28, Try.ntmps28
  go_wp2_with fail
  go_loopw [3, 12] (fun s3 s wr => ∃ k : Nat, k ≤ T ∧ s = .int .i64 (k : Int) ∧ s3 = .slice none 0 0 ∧ Hid (∃ j, wr = X.drewN j)) (fun _ s _ => T - (intOf s).toNat)
  case atStart => exact ⟨0, by omega, rfl, rfl, keepH ⟨0, rfl⟩⟩
  case round =>
    obtain ⟨k, hk, rfl, rfl, HK⟩ := hrel
    by_cases hlt : k < T
    · have t1 : (k : Int) < (T : Int) := by omega
      obtain ⟨x, hx⟩ : ∃ x, ths[k]? = some x := ⟨ths[k]'(by omega), List.getElem?_eq_getElem _⟩
      obtain ⟨g, cc, htv2⟩ := slice_pos H.out.run.tr (by omega)
      have hr := H.out.run
      rw [htv2] at hr
      have e3 := hr.thrCell k 2 (by omega) x hx
      have e4 : x.begun = false := by rw [(H.out.thr k x hx).2.2.2]; exact HB.out k hlt
      have e5 : X.cell? ⟨g, k * 3 + 2, none⟩ = some (.bool false) := by rw [e3, ← e4]; rfl
      have ep : p = some ⟨g, 0, none⟩ := by
        have z := HTV.out
        rw [htv2] at z
        injection z with z1 _ _
        exact z1.symm
      subst ep
      have d0 : wr.cell? ⟨r, 65, none⟩ = some (.slice (some ⟨g, 0, none⟩) T c8) := by obtain ⟨j, e⟩ := HK.out; rw [e]; exact c0
      have d1 : wr.cell? ⟨g, k * 3 + 2, none⟩ = some (.bool false) := by obtain ⟨j, e⟩ := HK.out; rw [e]; exact e5
      clear hx hr e3 e4 e5 htv2 c0
      go_wp2_with fail
      go_roundw
      case rel => exact ⟨k + 1, by omega, by first | rfl | go_num, rfl, HK⟩
      case measure => simp [intOf]; omega
    · obtain rfl : k = T := by omega
      have t1 : ¬ (k : Int) < (k : Int) := by omega
      go_wp2_with fail
      go_ret
      exact ⟨by simp, HK.out⟩
/-- The run beside what others do. -/
theorem GR.shift (h : GR κ most m b T cl vb pv c W Z X S r) {W' : World} (hW : W'.heap.size ≤ W.heap.size) (hlo : Lo ≤ W'.heap.size) (hc : Chg (fun _ => False) W' Y) (hs : X.heap.size ≤ Y.heap.size) (E : Nat → Prop) (hE : ∀ k, E k → S k) (hk : ∀ k, k < X.heap.size → ¬ E k → (k < Lo ∨ W.heap.size ≤ k) → Y.heap[k]? = X.heap[k]?) {S' : Nat → Prop} (hS : ∀ k, S' k → Lo ≤ k ∧ k < Y.heap.size ∧ (k < W.heap.size ∨ X.heap.size ≤ k ∨ S k)) : GR κ most m b T cl vb pv c W' Y Y S' r := by
  obtain ⟨G, K, vw, tv, ev, av, ths, h⟩ := h
  refine ⟨G, K, vw, tv, ev, av, ths, h.run.kept hs (fun k e => hk k (h.run.lt k e) (fun z => (h.keep k (hE k z)).2.2.1 e) (.inr (h.inW k (.inl e)))), h.ma.keep hs (fun k e => hk k (h.ma.ltK k e) (fun z => (h.keep k (hE k z)).2.2.2 e) ?_), h.apart, h.len, h.thr, h.vws, h.evl, fun j e => Nat.le_trans hW (h.inW j e), hlo, hc, fun j hj => ?_⟩
  · by_cases z : k < Lo
    · exact .inl z
    · exact .inr (h.inW k (.inr ⟨e, by omega⟩))
  · obtain ⟨s1, s2, s3⟩ := hS j hj
    refine ⟨s2, rfl, fun g => ?_, fun g => ?_⟩
    · rcases s3 with z | z | z
      · have := h.inW j (.inl g); omega
      · have := h.run.lt j g; omega
      · exact (h.keep j z).2.2.1 g
    · rcases s3 with z | z | z
      · have := h.inW j (.inr ⟨g, s1⟩); omega
      · have := h.ma.ltK j g; omega
      · exact (h.keep j z).2.2.2 g
theorem GR.kept (h : GR κ most m b T cl vb pv c W Z X S r) (k : Nat) (hk : S k) : X.heap[k]? = Z.heap[k]? ∧ k < X.heap.size := by
  obtain ⟨G, K, vw, tv, ev, av, ths, h⟩ := h
  exact ⟨(h.keep k hk).2.1, (h.keep k hk).1⟩
set_option maxRecDepth 100000 in
set_option maxHeartbeats 2000000 in
theorem gr_runS (p : Option Addr) (c8 : Nat) (l : List Int) (h : GR κ most m b T cl vb pv c W Z X S r) (hpW : ∀ c w, GR κ most m b T cl vb pv c W Z w S r → IReads w p l) (hn : c.st + l.length ≤ 16777216) :
    Calls Try.prog 20 #[.pointer (some ⟨r, 0, none⟩), .slice p l.length c8] X fun e X' => e = .returned (.tuple #[]) ∧ GR κ most m b T cl vb pv (c.run κ most T cl l) W Z X' S r := by
  have H := keepH h
  have HP := keepH hpW
  clear h hpW
  go_enter Try.func20, Try.ntmps20
  go_wp2_with fail
  go_loopw [8] (fun s wr => ∃ k : Nat, k ≤ l.length ∧ s = .int .i64 (k : Int) ∧ Hid (GR κ most m b T cl vb pv (c.run κ most T cl (l.take k)) W Z wr S r)) (fun s _ => l.length - (intOf s).toNat)
  case atStart => exact ⟨0, by omega, rfl, H⟩
  case round =>
    obtain ⟨k, hk, rfl, HK⟩ := hrel
    by_cases hlt : k < l.length
    · have t1 : (k : Int) < (l.length : Int) := by omega
      obtain ⟨x, hx⟩ : ∃ x, l[k]? = some x := ⟨l[k], List.getElem?_eq_getElem hlt⟩
      obtain ⟨bk, off, rfl, _, cx⟩ := (HP.out _ _ HK.out).get k x hx
      have HX := keepH (Cfg.run_more κ most T cl c l k x hx)
      have hst : (c.run κ most T cl (l.take k)).st ≤ 16777216 := by rw [run_st, List.length_take]; omega
      have HST := keepH hst
      clear hx hst
      go_wp2_with fail
      refine (gr_pick HK.out x HST.out).mono ?_
      rintro e w' ⟨rfl, A'⟩
      have HA := keepH A'
      clear A'
      go_wp2_with fail
      go_roundw
      case rel => exact ⟨k + 1, by omega, by first | rfl | go_num, by rw [HX.out]; exact HA⟩
      case measure => simp [intOf]; omega
    · have t1 : ¬ (k : Int) < (l.length : Int) := by omega
      go_wp2_with fail
      go_end0
      obtain rfl : k = l.length := by omega
      refine ⟨rfl, ?_⟩
      have := HK.out
      rw [List.take_of_length_le (Nat.le_refl _)] at this
      exact this
end
end Go.Proofs.Ytkfmpebhibnniaa
/- A new row of procs; the start. -/
namespace Go.Proofs.Ytkfmpebhibnniaa
open Go.RowKit Go.Shelf
set_option linter.unusedVariables false

theorem row_base {W : World} {B : Nat} {e : TypeId} {s : Nat} {v : Value} {n : Nat} {xs : List Value} (h : W.ownsRow B e s v n xs) : W.ownsRow 0 e s v n xs := by
  obtain ⟨h0, h1⟩ := h
  refine ⟨h0, ?_⟩
  rcases h1 with h1 | ⟨g, cap, cur, rfl, hB, hg, r⟩
  · exact .inl h1
  · exact .inr ⟨g, cap, cur, rfl, Nat.zero_le _, hg, r⟩
theorem ifL_one (l : List PlP) (pb : Nat → Nat) (i : Nat) : ∀ u ∈ ifL l pb i, u.oneCell' = true := by
  intro u hu
  obtain ⟨j, _, rfl⟩ := List.mem_map.1 hu
  unfold ifV
  split
  · split <;> rfl
  · rfl
set_option maxRecDepth 100000 in
theorem new_row_any {W : World} {v : Value} {n : Nat} {xs : List Value} (h : W.ownsRow 0 40 1 v n xs) (hn : n ≤ 1099511627776) (h1 : ∀ u ∈ xs, u.oneCell' = true) :
    Calls Try.prog 10 #[v] W fun e Y => (∃ rb, e = .returned (.pointer (some ⟨rb, 0, none⟩)) ∧ W.heap.size ≤ rb ∧ ∃ v', Y.heap[rb]? = some (.cells #[v', .int .i64 0] 97 (0, 0)) ∧ Y.ownsRow 0 40 1 v' n xs ∧ ∀ k, v'.ownBlock = some k → W.heap.size ≤ k) ∧ Chg (fun _ => False) W Y := by
  have HC := keepH (clone_p v n xs W h hn h1)
  clear h h1
  go_enter Try.func10, Try.ntmps10
  go_wp2_with fail
  refine HC.out.mono ?_
  rintro e w1 ⟨v', rfl, hr, hc, hb⟩
  obtain ⟨p', c', rfl⟩ := slice_of hr
  have HR := keepH hr
  have HCC := keepH hc
  have HB := keepH hb
  clear hr hc hb
  go_wp2_with fail
  go_ret
  exact ⟨⟨w1.heap.size, rfl, HCC.out.size, _, heap_alloc_new _ _, row_kept HR.out (fun k e => Below.heap_alloc _ _ k (row_lt HR.out k e)), HB.out⟩, HCC.out.alloc _⟩
theorem gF_start (m0 : Mu) (l : List PlP) (j : Nat) : gF 200 m0 l 0 0 j = [] := by
  unfold gF
  split
  · rfl
  · rw [if_neg (by omega)]
    split
    · rw [doL_zero]; rfl
    · rfl
/-- All lies ready. -/
theorem al_start {W Y : World} {B b v rb rp rc s1 : Nat} {l : List PlP} {p : Option Addr} {lp : Nat → Option Addr} {lc pb : Nat → Nat} {F : Nat → Prop} (hbk : Bank Y F b 200 1 [] []) (hv : IsView Y v b 3 0) (hF : ∀ k, F k → B ≤ k ∧ k < s1) (hrow : Y.heap[rb]? = some (.cells #[.slice (some ⟨rp, 0, none⟩) l.length rc, .int .i64 0] 97 (0, 0)))
    (hrp : Y.ownsRow 0 40 1 (.slice (some ⟨rp, 0, none⟩) l.length rc) l.length (ifL l pb l.length)) (hpr : ∀ (j : Nat) (q : PlP), l[j]? = some q → q.none = false → Y.heap[pb j]? = some (.cells #[.slice (lp j) q.L.length (lc j), .int .i64 0, .slice none 0 0] 58 (0, 0)) ∧ s1 ≤ pb j)
    (hinj : ∀ (j j' : Nat) (q q' : PlP), j < j' → l[j]? = some q → l[j']? = some q' → q.none = false → q'.none = false → pb j < pb j') (hP : PlansAt Y B p l lp lc) (hs : B ≤ s1) (hrb : s1 ≤ rb) (hrp2 : s1 ≤ rp) (hv2 : s1 ≤ v) (hBY : B ≤ Y.heap.size) : 
    ∃ K, AL B ⟨1, []⟩ l lp lc pb b v rb rp rc 0 0 Y 0 K ∧ (∀ k, K k → F k ∨ k = v ∨ k = rb ∨ k = rp ∨ ∃ (i : Nat) (q : PlP), l[i]? = some q ∧ q.none = false ∧ k = pb i) := by
  classical
  obtain ⟨cur, hcur, hci⟩ : ∃ cur : Array Value, Y.heap[rp]? = some (.cells cur 40 (0, 0)) ∧ ∀ (i : Nat) (q : PlP), l[i]? = some q → cur[i]? = some (if q.none = true then .nilIface else .iface 59 (.pointer (some ⟨pb i, 0, none⟩))) := by
    rcases hrp.2 with ⟨h, _⟩ | ⟨g, cap, cur, e, _, hg, _, _, _, ht⟩
    · cases h
    · injection e with e1 _ _
      injection e1 with e1
      injection e1 with e1
      subst e1
      refine ⟨cur, hg, fun i q hq => ?_⟩
      have hi := (List.getElem?_eq_some_iff.1 hq).1
      have e : (ifL l pb l.length)[i]? = some (ifV l pb i) := by simp [ifL, List.getElem?_range hi]
      rw [← ht, List.getElem?_take_of_lt (by omega)] at e
      have e2 : ifV l pb i = (if q.none = true then .nilIface else .iface 59 (.pointer (some ⟨pb i, 0, none⟩))) := by unfold ifV; simp [hq]
      rw [e2] at e
      simpa using e
  have vr : v ≠ rb := typ_ne hv hrow (by decide)
  have vp : v ≠ rp := typ_ne hv hcur (by decide)
  have rr : rb ≠ rp := typ_ne hrow hcur (by decide)
  have nF : ∀ k, s1 ≤ k → ¬ F k := fun k hk e => by have := (hF k e).2; omega
  have npb : ∀ (j : Nat) (q : PlP), l[j]? = some q → q.none = false → pb j ≠ v ∧ pb j ≠ rb ∧ pb j ≠ rp := fun j q hq hn => ⟨typ_ne (hpr j q hq hn).1 hv (by decide), typ_ne (hpr j q hq hn).1 hrow (by decide), typ_ne (hpr j q hq hn).1 hcur (by decide)⟩
  have uniq : ∀ (j j' : Nat) (q q' : PlP), l[j]? = some q → l[j']? = some q' → q.none = false → q'.none = false → pb j = pb j' → j = j' := fun j j' q q' hq hq' hn hn' e => by
    rcases Nat.lt_trichotomy j j' with h | h | h
    · have := hinj j j' q q' h hq hq' hn hn'; omega
    · exact h
    · have := hinj j' j q' q h hq' hq hn' hn; omega
  refine ⟨fun k => F k ∨ k = v ∨ k = rb ∨ k = rp ∨ ∃ (i : Nat) (q : PlP), l[i]? = some q ∧ q.none = false ∧ k = pb i, ⟨F, fun i k => k = pb i, fun k => if F k then (1, 0) else if k = v then (2, 0) else if k = rb then (3, 0) else if k = rp then (4, 0) else if h : ∃ (i : Nat) (q : PlP), l[i]? = some q ∧ q.none = false ∧ k = pb i then (5, h.choose) else (0, 0), ⟨⟨[], by rw [mS_zero]; exact hbk, by rw [tS_zero]; rfl⟩, hv, hrow, ⟨cur, hcur, hci⟩, fun i q hq hn => ?_, fun i q hq => (hP i q hq).2, fun k e => ⟨?_, (hF k e).1, hbk.ltF k e⟩, ⟨?_, by omega⟩, ⟨?_, by omega⟩, ⟨?_, by omega⟩, fun i q k hq hn e => ⟨?_, ?_, ?_⟩, by omega, hBY⟩, fun k e => .inl e, .inr (.inl rfl), .inr (.inr (.inl rfl)), .inr (.inr (.inr (.inl rfl))), fun i q k hq hn e => .inr (.inr (.inr (.inr ⟨i, q, hq, hn, e⟩))), fun k e => ?_⟩, fun k e => e⟩
  · have ea : atOf 0 0 i q = 0 := by unfold atOf; rw [if_neg (by omega)]; split <;> rfl
    rw [ea, gF_start]
    exact ⟨.slice none 0 0, (hpr i q hq hn).1, World.ownsRow_nil _ _ _ _, fun k => by simp [Value.ownBlock]⟩
  · simp only [if_pos e]
  · simp only [if_neg (nF v hv2), if_true]
  · simp only [if_neg (nF rb hrb), if_neg vr.symm, if_true]
  · simp only [if_neg (nF rp hrp2), if_neg vp.symm, if_neg rr.symm, if_true]
  · subst e
    have hx := hpr i q hq hn
    have n3 := npb i q hq hn
    have hex : ∃ (j : Nat) (r : PlP), l[j]? = some r ∧ r.none = false ∧ pb i = pb j := ⟨i, q, hq, hn, rfl⟩
    simp only [if_neg (nF _ hx.2), if_neg n3.1, if_neg n3.2.1, if_neg n3.2.2, dif_pos hex]
    obtain ⟨r, hr, hrn, he⟩ := hex.choose_spec
    rw [uniq _ _ r q hr hq hrn hn he.symm]
  · rw [e]; have := (hpr i q hq hn).2; omega
  · rw [e]; exact lt_of (hpr i q hq hn).1
  · rcases e with e | e | e | e | ⟨i, q, hq, hn, e⟩
    · exact hbk.ltF k e
    · rw [e]; exact hv.lt
    · rw [e]; exact lt_of hrow
    · rw [e]; exact lt_of hcur
    · rw [e]; exact lt_of (hpr i q hq hn).1
end Go.Proofs.Ytkfmpebhibnniaa
/- The start of a run of plans' procs. -/
namespace Go.Proofs.Ytkfmpebhibnniaa
open Go.RowKit Go.Shelf
set_option linter.unusedVariables false

def lOf (ll : List (List PlP)) (i : Nat) : List PlP := ll.getD i []
def qOf (ll : List (List PlP)) (i j : Nat) : PlP := (lOf ll i).getD j ⟨true, []⟩
def clOf (ll : List (List PlP)) (i : Nat) : Nat := (lOf ll i).length
def pvOf (ll : List (List PlP)) (pb : Nat → Nat → Nat) (i j : Nat) : Value := ifV (lOf ll i) (pb i) j
def s0Of (ll : List (List PlP)) (lp : Nat → Nat → Option Addr) (lc : Nat → Nat → Nat) (i j : Nat) : PS := ⟨qOf ll i j, lp i j, lc i j, 0, []⟩
def tlOfP (ll : List (List PlP)) (rv : Nat → Value) (pb : Nat → Nat → Nat) : List (Value × List Value) := (List.range ll.length).map fun i => (rv i, ifL (lOf ll i) (pb i) (lOf ll i).length)
/-- The law's own rows: the procs that it keeps, and those that it handed in. -/
def mineS (T : Nat) (sv : Value) (qv : Nat → Value) : Nat → Prop := fun k => sv.ownBlock = some k ∨ ∃ i, i < T ∧ (qv i).ownBlock = some k
theorem lOf_get {ll : List (List PlP)} {i : Nat} (h : i < ll.length) : ll[i]? = some (lOf ll i) := by unfold lOf; rw [List.getD_eq_getElem?_getD, List.getElem?_eq_getElem h]; rfl
theorem qOf_get {ll : List (List PlP)} {i j : Nat} (h : j < clOf ll i) : (lOf ll i)[j]? = some (qOf ll i j) := by unfold qOf; rw [List.getD_eq_getElem?_getD, List.getElem?_eq_getElem h]; rfl
/-- Its lists are the runner's. -/
theorem PM.lists {W X : World} {ll : List (List PlP)} {lp : Nat → Nat → Option Addr} {lc : Nat → Nat → Nat} {tv sv : Value} {rv qv : Nat → Value} {pb : Nat → Nat → Nat} (h : PM W X ll lp lc ll.length tv sv rv qv pb) : Lists X tv (tlOfP ll rv pb) := by
  refine ⟨?_, fun x hx => ?_, fun x hx u hu => ?_⟩
  · have e := row_base h.o1
    have e1 : (tlOfP ll rv pb).length = ll.length := by simp [tlOfP]
    have e2 : (tlOfP ll rv pb).map Prod.fst = (List.range ll.length).map rv := by simp [tlOfP, Function.comp_def]
    rw [e1, e2]
    exact e
  · obtain ⟨i, hi, rfl⟩ := List.mem_map.1 hx
    have hi' := List.mem_range.1 hi
    have e := row_base (h.r1 i (lOf ll i) hi' (lOf_get hi'))
    have e1 : (ifL (lOf ll i) (pb i) (lOf ll i).length).length = (lOf ll i).length := by simp [ifL]
    show X.ownsRow 0 40 1 (rv i) (ifL (lOf ll i) (pb i) (lOf ll i).length).length _
    rw [e1]
    exact e
  · obtain ⟨i, hi, rfl⟩ := List.mem_map.1 hx
    exact ifL_one _ _ _ u hu
theorem gr_start {W V W3 X Y : World} {F G S0 : Nat → Prop} {r m b next : Nat} {tv0 sv tv : Value} {rv qv : Nat → Value} {pb : Nat → Nat → Nat} {ths : List Thr} {vbs : List Nat} {cs : List Nat} {la : List Acc} {p : Option Addr} {ll : List (List PlP)} {ap : Nat → Option Addr} {ac : Nat → Nat} {lp : Nat → Nat → Option Addr} {lc : Nat → Nat → Nat}
    (hW : Chg (fun _ => False) W V) (hC : Chg (fun _ => False) V W3) (hm : IsMem W3 m b) (hb : Bank W3 F b 200 next cs la) (hla : la.length ≤ 16000000) (hF : ∀ k, F k → V.heap.size ≤ k) (hmW : V.heap.size ≤ m) (nm : ¬ F m) (B : PM W3 X ll lp lc ll.length tv0 sv rv qv pb) (M : Made X Y G r m b tv (tlOfP ll rv pb) ths vbs ll.length) (hl : ths.length = ll.length) (hP : ThsAt W W.heap.size p ll ap ac lp lc) (hL : ∀ l ∈ ll, ∀ q ∈ l, q.L.length ≤ 1048576) (hS0 : ∀ k, S0 k → k < W3.heap.size ∧ W.heap.size ≤ k ∧ ¬ F k ∧ k ≠ m) :
    GR (plK W.heap.size W) 200 m b ll.length (clOf ll) (fun j => vbs.getD j 0) (pvOf ll pb) ⟨next, cs, la.map Acc.bare, fun _ => 0, s0Of ll lp lc, 0, fun _ => false, [], []⟩ V Y Y (fun k => mineS ll.length sv qv k ∨ mineS ll.length tv0 rv k ∨ S0 k) r := by
  have s0 := hW.size
  have s1 := hC.size
  have s2 := B.chg.size
  have s3 := M.chg.size
  have cY := B.chg.trans M.chg (H := fun _ => False) (fun _ _ x => x) (fun _ _ x => x)
  have lm := hm.lt
  have lF : ∀ k, F k → k < W3.heap.size := hb.ltF
  have hv : ∀ j, j < ll.length → vbs[j]? = some (vbs.getD j 0) := fun j hj => by
    have : j < vbs.length := by rw [M.vl]; exact hj
    simp [List.getElem?_eq_getElem this]
  have vws := fun j (hj : j < ll.length) => M.views j _ (hv j hj)
  have pr : ∀ i j, i < ll.length → j < clOf ll i → (qOf ll i j).none = false → X.heap[pb i j]? = some (.cells #[.slice (lp i j) (qOf ll i j).L.length (lc i j), .int .i64 0, .slice none 0 0] 58 (0, 0)) ∧ W3.heap.size ≤ pb i j := fun i j hi hj hn => B.pr i (lOf ll i) j (qOf ll i j) hi (lOf_get hi) (qOf_get hj) hn
  have inj : ∀ i j i' j', i < ll.length → j < clOf ll i → (qOf ll i j).none = false → i' < ll.length → j' < clOf ll i' → (qOf ll i' j').none = false → pb i j = pb i' j' → i = i' ∧ j = j' := fun i j i' j' hi hj hn hi' hj' hn' e => by
    have key := fun a a' c c' ha hc hn ha' hc' hn' z => B.inj a a' (lOf ll a) (lOf ll a') c c' (qOf ll a c) (qOf ll a' c') ha ha' (lOf_get ha) (lOf_get ha') (qOf_get hc) (qOf_get hc') hn hn' z
    rcases Nat.lt_trichotomy i i' with h | h | h
    · have := key i i' j j' hi hj hn hi' hj' hn' (.inl h); omega
    · subst h
      rcases Nat.lt_trichotomy j j' with h | h | h
      · have := key i i j j' hi hj hn hi' hj' hn' (.inr ⟨rfl, h⟩); omega
      · exact ⟨rfl, h⟩
      · have := key i i j' j hi hj' hn' hi hj hn (.inr ⟨rfl, h⟩); omega
    · have := key i' i j' j hi' hj' hn' hi hj hn (.inl h); omega
  have hvi : ∀ i, i < ll.length → X.heap.size ≤ vbs.getD i 0 ∧ vbs.getD i 0 < Y.heap.size ∧ ¬ G (vbs.getD i 0) := fun i hi => ⟨(vws i hi).2.1, lt_of (vws i hi).1, (vws i hi).2.2⟩
  have hS : ∀ k, (mineS ll.length sv qv k ∨ mineS ll.length tv0 rv k ∨ S0 k) → k < X.heap.size ∧ W.heap.size ≤ k ∧ ¬ F k ∧ k ≠ m ∧ ∀ i j, i < ll.length → j < clOf ll i → (qOf ll i j).none = false → k ≠ pb i j := fun k e => by
    have row : ∀ {tp : TypeId} {cur : Array Value}, W3.heap.size ≤ k → X.heap[k]? = some (.cells cur tp (0, 0)) → tp ≠ 58 → k < X.heap.size ∧ W.heap.size ≤ k ∧ ¬ F k ∧ k ≠ m ∧ ∀ i j, i < ll.length → j < clOf ll i → (qOf ll i j).none = false → k ≠ pb i j := fun z1 z2 tn => ⟨lt_of z2, by omega, fun q => by have := lF k q; omega, fun q => by rw [q] at z1; exact absurd lm (by omega), fun a c ha hc hn q => typ_ne z2 (pr a c ha hc hn).1 tn q⟩
    rcases e with (e | ⟨i, hi, e⟩) | (e | ⟨i, hi, e⟩) | e
    · obtain ⟨z1, cur, z2⟩ := row_typ B.o2 e
      exact row z1 z2 (by decide)
    · obtain ⟨z1, cur, z2⟩ := row_typ (B.r2 i _ hi (lOf_get hi)) e
      exact row z1 z2 (by decide)
    · obtain ⟨z1, cur, z2⟩ := row_typ B.o1 e
      exact row z1 z2 (by decide)
    · obtain ⟨z1, cur, z2⟩ := row_typ (B.r1 i _ hi (lOf_get hi)) e
      exact row z1 z2 (by decide)
    · obtain ⟨z1, z2, z3, z4⟩ := hS0 k e
      exact ⟨by omega, z2, z3, z4, fun a c ha hc hn q => by have := (pr a c ha hc hn).2; omega⟩
  refine ⟨G, fun k => F k ∨ k = m ∨ (∃ i, i < ll.length ∧ k = vbs.getD i 0) ∨ (∃ i j, i < ll.length ∧ j < clOf ll i ∧ (qOf ll i j).none = false ∧ k = pb i j) ∨ k < W.heap.size, vwOf vbs, tv, _, _, ths, M.run, ⟨F, fun i j k => (qOf ll i j).none = false ∧ k = pb i j, fun _ => 0, fun k => open Classical in if k < W3.heap.size then (if F k then .mem else .main) else if k < X.heap.size then (if h : ∃ ij : Nat × Nat, ij.1 < ll.length ∧ ij.2 < clOf ll ij.1 ∧ (qOf ll ij.1 ij.2).none = false ∧ k = pb ij.1 ij.2 then .proc h.choose.1 h.choose.2 else .none) else if h : ∃ j, j < ll.length ∧ vbs.getD j 0 = k then .view h.choose else .none, ⟨⟨la, hb.chg cY (fun _ _ h => h), rfl⟩, hm.chg cY (fun h => h), fun i hi => ⟨(vws i hi).1, Nat.le_refl _⟩, fun i j hi hj => ?_, fun i j hi hj _ => ?_, fun k e => ⟨.inl e, ?_⟩, ⟨.inr (.inl rfl), ?_⟩, fun i hi => ⟨.inr (.inr (.inl ⟨i, hi, rfl⟩)), ?_⟩, fun i j k hi hj e => ⟨.inr (.inr (.inr (.inl ⟨i, j, hi, hj, e.1, e.2⟩))), ?_⟩, fun k e => ?_, by show (la.map Acc.bare).length ≤ 0 + 16000000; simpa using hla, by omega, fun k e => .inr (.inr (.inr (.inr e))), fun k e => ((hW.trans hC (H := fun _ => False) (fun _ _ x => x) (fun _ _ x => x)).trans cY (H := fun _ => False) (fun _ _ x => x) (fun _ _ x => x)).block k e (fun x => x), ⟨fun k e => by have := hF k e; omega, by omega, fun i hi => by have := (hvi i hi).1; omega⟩⟩⟩, fun j e hk => ?_, hl, fun j t ht => ?_, fun j hj => vwOf_get _ _ _ (hv j hj), by simp, fun j e => ?_, hW.size, hC.trans cY (fun _ _ x => x) (fun _ _ x => x), fun j e => ⟨by have := (hS j e).1; omega, rfl, fun g => by have := M.inG j g; have := (hS j e).1; omega, fun k => ?_⟩⟩
  · show psH W.heap.size Y _ (ifV (lOf ll i) (pb i) j) (s0Of ll lp lc i j)
    refine ⟨fun k e => by have := (pr i j hi hj e.1).2; rw [e.2]; omega, ?_⟩
    have ev : ifV (lOf ll i) (pb i) j = if (qOf ll i j).none = true then .nilIface else .iface 59 (.pointer (some ⟨pb i j, 0, none⟩)) := by unfold ifV; rw [qOf_get hj]
    rw [ev]
    show if (qOf ll i j).none = true then _ else _
    split
    · rename_i hn
      exact ⟨rfl, fun k e => by rw [hn] at e; exact absurd e.1 (by decide)⟩
    · rename_i hn
      have hn' : (qOf ll i j).none = false := by simpa using hn
      refine ⟨pb i j, rfl, ⟨.slice none 0 0, (M.chg.block _ (lt_of (pr i j hi hj hn').1) (fun x => x)).trans (pr i j hi hj hn').1, World.ownsRow_nil _ _ _ _, fun k => ?_⟩⟩
      simp [hn', Value.ownBlock]
  · have hd := ((hP i (lOf ll i) (lOf_get hi)).2 j (qOf ll i j) (qOf_get hj)).2
    exact ⟨hd, hL _ (List.mem_of_getElem? (lOf_get hi)) _ (List.mem_of_getElem? (qOf_get hj)), Nat.zero_le _⟩
  · simp only [if_pos (lF k e), if_pos e]
  · simp only [if_pos lm, if_neg nm]
  · obtain ⟨z1, z2, z3⟩ := hvi i hi
    simp only [if_neg (show ¬ vbs.getD i 0 < W3.heap.size by omega), if_neg (show ¬ vbs.getD i 0 < X.heap.size by omega)]
    have ex : ∃ j, j < ll.length ∧ vbs.getD j 0 = vbs.getD i 0 := ⟨i, hi, rfl⟩
    rw [dif_pos ex]
    congr 1
    obtain ⟨c1, c2⟩ := ex.choose_spec
    exact Decidable.byContradiction fun ne => M.apart _ _ _ _ ne (hv _ c1) (hv _ hi) c2
  · obtain ⟨e1, e2⟩ := e
    subst e2
    have z := pr i j hi hj e1
    simp only [if_neg (show ¬ pb i j < W3.heap.size by omega), if_pos (lt_of z.1)]
    have ex : ∃ ij : Nat × Nat, ij.1 < ll.length ∧ ij.2 < clOf ll ij.1 ∧ (qOf ll ij.1 ij.2).none = false ∧ pb i j = pb ij.1 ij.2 := ⟨(i, j), hi, hj, e1, rfl⟩
    rw [dif_pos ex]
    obtain ⟨c1, c2, c3, c4⟩ := ex.choose_spec
    obtain ⟨d1, d2⟩ := inj _ _ _ _ hi hj e1 c1 c2 c3 c4
    rw [← d1, ← d2]
  · rcases e with e | e | ⟨i, hi, e⟩ | ⟨i, j, hi, hj, hn, e⟩ | e
    · have := lF k e; omega
    · omega
    · have := (hvi i hi).2.1; omega
    · have := lt_of (pr i j hi hj hn).1; omega
    · omega
  · have g := M.inG j e
    rcases hk with z | z | ⟨i, hi, z⟩ | ⟨i, q, hi, hq, hn, z⟩ | z
    · have := lF j z; omega
    · omega
    · rw [z] at e; exact (hvi i hi).2.2 e
    · have := lt_of (pr i q hi hq hn).1; omega
    · omega
  · obtain ⟨x, hx, h1, h2, h3⟩ := M.thr j t ht
    have hj : j < ll.length := by
      have := (List.getElem?_eq_some_iff.1 hx).1
      simpa [tlOfP] using this
    simp [tlOfP, hj] at hx
    subst hx
    rw [h1]
    refine ⟨by simp [ifL, clOf], fun q hq => ?_, by rw [h2], by rw [h3]⟩
    have hq' : q < (lOf ll j).length := hq
    simp [ifL, hq', pvOf]
  · rcases e with e | ⟨e, q⟩
    · have := M.inG j e; omega
    · rcases e with e | e | ⟨i, hi, e⟩ | ⟨i, c, hi, hc, hn, e⟩ | e
      · exact hF j e
      · omega
      · have := (hvi i hi).1; omega
      · have := (pr i c hi hc hn).2; omega
      · omega
  · obtain ⟨y1, y2, y3, y4, y5⟩ := hS j e
    rcases k with z | z | ⟨i, hi, z⟩ | ⟨i, q, hi, hq, hn, z⟩ | z
    · exact y3 z
    · exact y4 z
    · have := (hvi i hi).1; omega
    · exact y5 i q hi hq hn z
    · omega
section
variable {P : Type} {Lo : Nat} {W0 : World} {κ : KindL P Lo W0} {most m b T : Nat} {cl : Nat → Nat} {vb : Nat → Nat} {pv : Nat → Nat → Value} {c : Cfg P} {W Z X Y : World} {S S' : Nat → Prop} {r : Nat}
/-- What is new beside a run is kept by it from now on. -/
theorem GR.rebase (h : GR κ most m b T cl vb pv c W Z X S r) (q : Chg (fun _ => False) X Y) (hS : ∀ k, S' k → S k ∨ (X.heap.size ≤ k ∧ k < Y.heap.size)) : GR κ most m b T cl vb pv c W Y Y S' r := by
  obtain ⟨G, K, vw, tv, ev, av, ths, h⟩ := h
  exact ⟨G, K, vw, tv, ev, av, ths, h.run.kept q.size (fun k e => q.block k (h.run.lt k e) (fun x => x)), h.ma.keep q.size (fun k e => q.block k (h.ma.ltK k e) (fun x => x)), h.apart, h.len, h.thr, h.vws, h.evl, h.inW, h.lo, h.chg.trans q (fun _ _ x => x) (fun _ _ x => x), fun j hj => by
    rcases hS j hj with e | e
    · exact ⟨Nat.lt_of_lt_of_le (h.keep j e).1 q.size, rfl, (h.keep j e).2.2⟩
    · exact ⟨e.2, rfl, fun g => by have := h.run.lt j g; omega, fun g => by have := h.ma.ltK j g; omega⟩⟩
/-- What a run keeps may be changed by others. -/
theorem GR.drop (h : GR κ most m b T cl vb pv c W Z X S r) {H : Nat → Prop} (q : Chg H X Y) (hH : ∀ k, H k → S k ∧ W.heap.size ≤ k) (hS : ∀ k, S' k → S k ∧ ¬ H k) : GR κ most m b T cl vb pv c W Z Y S' r := by
  obtain ⟨G, K, vw, tv, ev, av, ths, h⟩ := h
  refine ⟨G, K, vw, tv, ev, av, ths, h.run.kept q.size (fun k e => q.block k (h.run.lt k e) (fun z => (h.keep k (hH k z).1).2.2.1 e)), h.ma.keep q.size (fun k e => q.block k (h.ma.ltK k e) (fun z => (h.keep k (hH k z).1).2.2.2 e)), h.apart, h.len, h.thr, h.vws, h.evl, h.inW, h.lo, h.chg.trans q (fun _ _ x => x) (fun k hk z => by have := (hH k z).2; omega), fun j hj => ?_⟩
  obtain ⟨s1, s2⟩ := hS j hj
  exact ⟨Nat.lt_of_lt_of_le (h.keep j s1).1 q.size, (q.block j (h.keep j s1).1 s2).trans (h.keep j s1).2.1, (h.keep j s1).2.2⟩
end
end Go.Proofs.Ytkfmpebhibnniaa
/- The document's runner: too many threads, or calls. -/
namespace Go.Proofs.Ytkfmpebhibnniaa
open Go.RowKit Go.Shelf
set_option linter.unusedVariables false

set_option maxRecDepth 100000 in
set_option maxHeartbeats 4000000 in
theorem d4_long {X : World} {B nm c8 : Nat} {p : Option Addr} {ll : List (List PlP)} {ap : Nat → Option Addr} {ac : Nat → Nat} {lp : Nat → Nat → Option Addr} {lc : Nat → Nat → Nat} (hP : ThsAt X B p ll ap ac lp lc) (hB : B ≤ X.heap.size) (hll : ll.length ≤ 1048576) (hls : ∀ l ∈ ll, l.length ≤ 1048576) (hb : tooL ll = true) :
    Calls Try.prog 44 #[.pointer (some ⟨nm, 0, none⟩), .slice p ll.length c8] X fun e Y => e = .returned (.tuple #[.pointer none, .int .i64 6]) ∧ Chg (fun _ => False) X Y := by
  have HP := keepH hP
  have HLS := keepH hls
  clear hP hls
  by_cases hT : 64 < ll.length
  · have z0 : (64 : Int) < (ll.length : Int) := by omega
    go_enter Try.func44, Try.ntmps44
    go_wp2_with fail
    go_ret2
    exact ⟨by simp, Chg.refl _ _⟩
  · have z0 : ¬ (64 : Int) < (ll.length : Int) := by omega
    have HL : Hid (∃ l ∈ ll, 4096 < l.length) := by
      unfold tooL at hb
      simp [hT] at hb
      exact hb
    clear hb
    go_enter Try.func44, Try.ntmps44
    go_wp2_with fail
    go_loopw [6] (fun s wx => ∃ i : Nat, i ≤ ll.length ∧ s = .int .i64 (i : Int) ∧ Hid ((∀ (j : Nat) (l : List PlP), j < i → ll[j]? = some l → l.length ≤ 4096) ∧ Chg (fun _ => False) X wx)) (fun s _ => ll.length - (intOf s).toNat)
    case atStart => exact ⟨0, Nat.zero_le _, rfl, fun j l hj => by omega, Chg.refl _ _⟩
    case round =>
      obtain ⟨i, hil, rfl, HC⟩ := hrel
      obtain ⟨w1, hw1⟩ : ∃ w1, w1 = wr := ⟨_, rfl⟩
      subst hw1
      by_cases hi : i < ll.length
      · have z1 : (i : Int) < (ll.length : Int) := by omega
        obtain ⟨l, hl⟩ : ∃ l, ll[i]? = some l := ⟨ll[i], List.getElem?_eq_getElem hi⟩
        obtain ⟨⟨bk, off, rfl, _, d0⟩, _⟩ := (HP.out.chg hB HC.out.2) i l hl
        have hl4 := HLS.out l (List.mem_of_getElem? hl)
        have HLL := keepH hl
        clear hl
        by_cases h4 : 4096 < l.length
        · have z2 : (4096 : Int) < (l.length : Int) := by omega
          go_wp2_with fail
          go_ret2
          exact ⟨by simp, HC.out.2⟩
        · have z2 : ¬ (4096 : Int) < (l.length : Int) := by omega
          go_wp2_with fail
          go_roundw
          case rel =>
            refine ⟨i + 1, by omega, by first | rfl | go_num, fun j l' hj hl' => ?_, HC.out.2⟩
            by_cases e : j = i
            · subst e; rw [HLL.out] at hl'; injection hl' with hl'; subst hl'; omega
            · exact HC.out.1 j l' (by omega) hl'
          case measure => simp [intOf]; omega
      · exfalso
        obtain ⟨l, hm, h4⟩ := HL.out
        obtain ⟨j, hj⟩ := List.mem_iff_getElem?.1 hm
        have hjl := (List.getElem?_eq_some_iff.1 hj).1
        have := HC.out.1 j l (by omega) hj
        omega
end Go.Proofs.Ytkfmpebhibnniaa
/- Both: a program's runner, and the document's. -/
namespace Go.Proofs.Ytkfmpebhibnniaa
open Go.RowKit Go.Shelf
set_option linter.unusedVariables false

theorem tooL_B {ll : List (List PlP)} {rv : Nat → Value} {pb : Nat → Nat → Nat} : tooLongB (tlOfP ll rv pb) = tooL ll := by
  have e1 : (tlOfP ll rv pb).length = ll.length := by simp [tlOfP]
  unfold tooLongB tooL
  rw [e1]
  congr 1
  rw [Bool.eq_iff_iff, List.any_eq_true, List.any_eq_true]
  constructor
  · rintro ⟨x, hx, h⟩
    obtain ⟨i, hi, rfl⟩ := List.mem_map.1 hx
    exact ⟨lOf ll i, List.mem_of_getElem? (lOf_get (List.mem_range.1 hi)), by simpa [ifL] using h⟩
  · rintro ⟨l, hl, h⟩
    obtain ⟨i, hi⟩ := List.mem_iff_getElem?.1 hl
    have hil := (List.getElem?_eq_some_iff.1 hi).1
    have e : lOf ll i = l := by have := lOf_get hil; rw [hi] at this; injection this with this; exact this.symm
    exact ⟨_, List.mem_map.2 ⟨i, List.mem_range.2 hil, rfl⟩, by simpa [ifL, e] using h⟩
/-- The lists that were handed in, some of them wiped. -/
structure Wp (w8 X : World) (ll : List (List PlP)) (gt ct : Nat) (rv : Nat → Value) (i : Nat) : Prop where
  tb : ∃ cur : Array Value, X.heap[gt]? = some (.cells cur 38 (0, 0)) ∧ ll.length ≤ cur.size ∧ ∀ j, i ≤ j → j < ll.length → cur[j]? = some (rv j)
  rb : ∀ j g, j < ll.length → (rv j).ownBlock = some g → ∃ cur : Array Value, X.heap[g]? = some (.cells cur 40 (0, 0)) ∧ clOf ll j ≤ cur.size
  sh : ∀ j, j < ll.length → ∃ p c, rv j = .slice p (clOf ll j) c ∧ (0 < clOf ll j → ∃ g, p = some ⟨g, 0, none⟩)
  chg : Chg (mineS ll.length (.slice (some ⟨gt, 0, none⟩) ll.length ct) rv) w8 X
theorem Wp.cell {w8 X : World} {ll : List (List PlP)} {gt ct : Nat} {rv : Nat → Value} {i g k : Nat} (h : Wp w8 X ll gt ct rv i) (j : Nat) (hj : j < ll.length) (hg : (rv j).ownBlock = some g) (u : Value) : Wp w8 (X.setCell ⟨g, k, none⟩ u) ll gt ct rv i := by
  obtain ⟨cu, b1, b2⟩ := h.rb j g hj hg
  obtain ⟨cur, a1, a2, a3⟩ := h.tb
  refine ⟨⟨cur, (Below.heap_setCell _ _ _ gt (fun e => typ_ne a1 b1 (by decide) e)).trans a1, a2, a3⟩, fun j' g' hj' hg' => ?_, h.sh, h.chg.setCell (p := ⟨g, k, none⟩) (fun _ => .inr ⟨j, hj, hg⟩) u⟩
  by_cases e : g' = g
  · subst e
    obtain ⟨cu', d1, d2⟩ := h.rb j' g' hj' hg'
    exact ⟨_, set_of d1 k u, by simpa using d2⟩
  · obtain ⟨cu', d1, d2⟩ := h.rb j' g' hj' hg'
    exact ⟨cu', (Below.heap_setCell _ _ _ g' (fun q => e q)).trans d1, d2⟩
theorem Wp.row {w8 X : World} {ll : List (List PlP)} {gt ct : Nat} {rv : Nat → Value} {i : Nat} (h : Wp w8 X ll gt ct rv i) (u : Value) : Wp w8 (X.setCell ⟨gt, i, none⟩ u) ll gt ct rv (i + 1) := by
  obtain ⟨cur, a1, a2, a3⟩ := h.tb
  refine ⟨⟨_, set_of a1 i u, by simpa using a2, fun j h1 h2 => ?_⟩, fun j g hj hg => ?_, h.sh, h.chg.setCell (p := ⟨gt, i, none⟩) (fun _ => .inl rfl) u⟩
  · rw [Array.getElem?_setIfInBounds_ne (by omega)]
    exact a3 j (by omega) h2
  · obtain ⟨cu, d1, d2⟩ := h.rb j g hj hg
    exact ⟨cu, (Below.heap_setCell _ _ _ g (fun q => typ_ne d1 a1 (by decide) q)).trans d1, d2⟩
/-- The memories, with one access made ahead. -/
structure Mid9 (V X : World) (F R : Nat → Prop) (b : Nat) : Prop where
  mem : IsMem X (b + 1) b
  bank : ∃ vs, Bank X F b 200 1 (stN 200 [] 50 3) [⟨9, 2, 50, 3, 0, vs, [], 0, false⟩]
  rm : RM X R (b + 3) 200 1 (stN 200 [] 50 3) [⟨9, 2, 50, 3, 0, .slice none 0 0, [], 0, false⟩]
  lo : (∀ k, F k → V.heap.size ≤ k) ∧ (∀ k, R k → V.heap.size ≤ k) ∧ V.heap.size ≤ b
  ap : (∀ k, R k → ¬ F k) ∧ ¬ F (b + 1) ∧ ¬ R (b + 1)
  chg : Chg (fun _ => False) V X
theorem mid9 {V w1 w2 w4 w5 : World} {b v : Nat} {F R : Nat → Prop} {vs : Value} {o : Obj} (eb : V.heap.size = b) (m1 : IsMem w1 (b + 1) b) (c1 : Chg (fun _ => False) V w1) (z1 : w1.heap.size = b + 2) (c2 : Chg (fun _ => False) w1 w2) (z2 : w2.heap.size = b + 4) (hv : v = b + 4) (b4 : Bank w4 F b 200 1 (stN 200 [] 50 3) [⟨9, 2, 50, 3, 0, vs, [], 0, false⟩]) (g4 : GoesV (w2.alloc o) w4 (fun k => k = b) F v)
    (r5 : RMem w5 R (b + 3) 200 1 (stN 200 [] 50 3) [⟨9, 2, 50, 3, 0, .slice none 0 0, [], 0, false⟩]) (g5 : Goes w4 w5 (fun k => k = b + 2 ∨ k = b + 3) R) : Mid9 V w5 F R b := by
  have z3 : (w2.alloc o).heap.size = b + 5 := by simp [z2]
  have s4 := g4.chg.size
  have c3 : Chg (fun _ => False) V (w2.alloc o) := (c1.trans c2 (H := fun _ => False) (fun _ _ x => x) (fun _ _ x => x)).alloc o
  have c4 : Chg (fun _ => False) V w4 := c3.trans g4.chg (fun _ _ x => x) (fun k hk e => by rcases e with e | e <;> omega)
  have c5 : Chg (fun _ => False) V w5 := c4.trans g5.chg (fun _ _ x => x) (fun k hk e => by rcases e with e | e <;> omega)
  have lF : ∀ k, F k → k = b ∨ b + 5 ≤ k := fun k e => (g4.new k e).imp id (fun q => by omega)
  have lR : ∀ k, R k → (k = b + 2 ∨ k = b + 3) ∨ w4.heap.size ≤ k := fun k e => g5.new k e
  have hmem2 : IsMem (w2.alloc o) (b + 1) b := (Below.heap_alloc _ _ _ (by omega)).trans ((c2.block _ (by omega) (fun x => x)).trans m1)
  have hmem4 : IsMem w4 (b + 1) b := (g4.chg.block _ (by omega) (fun e => by rcases e with e | e <;> omega)).trans hmem2
  refine ⟨(g5.chg.block _ (by omega) (fun e => by rcases e with e | e <;> omega)).trans hmem4, ⟨vs, b4.chg g5.chg (fun k e q => ?_)⟩, ⟨_, r5, rfl⟩, ⟨fun k e => ?_, fun k e => ?_, by omega⟩, ⟨fun k e q => ?_, fun q => ?_, fun q => ?_⟩, c5⟩
  · rcases lF k e with z | z <;> rcases q with q | q <;> omega
  · rcases lF k e with z | z <;> omega
  · rcases lR k e with (z | z) | z <;> omega
  · have hlt := b4.ltF k q
    rcases lR k e with (z | z) | z
    · rcases lF k q with y | y <;> omega
    · rcases lF k q with y | y <;> omega
    · omega
  · rcases lF _ q with z | z <;> omega
  · rcases lR _ q with (z | z) | z <;> omega
end Go.Proofs.Ytkfmpebhibnniaa
/- Both, walked: threads that are not too long. -/
namespace Go.Proofs.Ytkfmpebhibnniaa
open Go.RowKit Go.Shelf
set_option linter.unusedVariables false

def c0Of (ll : List (List PlP)) (lp : Nat → Nat → Option Addr) (lc : Nat → Nat → Nat) : Cfg PS := ⟨1, stN 200 [] 50 3, [⟨9, 2, 50, 3, 0, .slice none 0 0, [], 0, false⟩], fun _ => 0, s0Of ll lp lc, 0, fun _ => false, [], []⟩
set_option maxRecDepth 100000 in
set_option maxHeartbeats 16000000 in
theorem both_ok {W V : World} {p : Option Addr} {c8 : Nat} {ll : List (List PlP)} {ap : Nat → Option Addr} {ac : Nat → Nat} {lp : Nat → Nat → Option Addr} {lc : Nat → Nat → Nat} (hW : Chg (fun _ => False) W V) (hP : ThsAt W W.heap.size p ll ap ac lp lc) (hll : ll.length ≤ 1048576) (hls : ∀ l ∈ ll, l.length ≤ 1048576) (hL : ∀ l ∈ ll, ∀ q ∈ l, q.L.length ≤ 1048576) (hb : tooL ll = false) :
    Calls Try.prog 19 #[.slice p ll.length c8] V fun e Y => ∃ wb q, e = .returned (.tuple #[.pointer (some ⟨wb, 0, none⟩), .pointer (some ⟨q, 0, none⟩), .bool true]) ∧ ∃ m r b nm sv qv vb pb K, Y.heap[wb]? = some (.cells #[.pointer (some ⟨m, 0, none⟩), .pointer (some ⟨r, 0, none⟩), sv] 73 (0, 0)) ∧ V.heap.size ≤ wb ∧ GR (plK W.heap.size W) 200 m b ll.length (clOf ll) vb (pvOf ll pb) (c0Of ll lp lc) V Y Y (fun k => mineS ll.length sv qv k ∨ K k ∨ k = wb) r ∧ D4 Y W.heap.size q nm ll.length 0 p c8 (fun _ => 0) (fun _ => 0) K ∧ ∀ k, K k → V.heap.size ≤ k ∧ k < wb := by
  have HW := keepH hW
  have HP := keepH hP
  have HLS := keepH hls
  have HL := keepH hL
  have HB := keepH hb
  clear hW hP hls hL hb
  go_enter Try.func19, Try.ntmps19
  go_wp2_with fail
  refine (m_new 200 V (by omega)).mono ?_
  rintro e w1 ⟨rfl, m1, b1, c1, z1⟩
  obtain ⟨b, eb⟩ : ∃ b, V.heap.size = b := ⟨_, rfl⟩
  rw [eb] at m1 b1 z1 ⊢
  have HM1 := keepH m1
  have HB1 := keepH b1
  have HC1 := keepH c1
  have HEB := keepH eb
  clear m1 b1 c1 eb
  go_wp2_with fail
  refine (r_new 200 w1 (by omega)).mono ?_
  rintro e w2 ⟨rfl, m2, c2, z2⟩
  rw [z1] at m2 z2 ⊢
  have HM2 : Hid (RMem w2 (fun k => k = b + 2 ∨ k = b + 3) (b + 3) 200 1 [] []) := m2
  have HC2 := keepH c2
  have HZ1 := keepH z1
  have HZ2 : Hid (w2.heap.size = b + 4) := z2
  clear m2 c2 z1 z2
  simp only [show b + 2 + 1 = b + 3 from rfl]
  have HMM : Hid (IsMem w2 (b + 1) b) := (HC2.out.block _ (by have := HZ1.out; omega) (fun x => x)).trans HM1.out
  have HBB : Hid (Bank w2 (fun k => k = b) b 200 1 [] []) := HB1.out.chg HC2.out (fun _ _ x => x)
  go_wp2_with fail
  refine (m_view (b + 1) b 9 _ HMM.out).mono ?_
  rintro e w3 ⟨rfl, hw3⟩
  rw [HZ2.out]
  have HV3 : Hid (IsView w3 (b + 4) b 9 0) := by rw [hw3, ← HZ2.out]; exact heap_alloc_new _ _
  have HB3 : Hid (Bank w3 (fun k => k = b) b 200 1 [] []) := by rw [hw3]; exact HBB.out.chg ((Chg.refl (fun _ => False) w2).alloc _) (fun _ _ x => x)
  have HW3 := keepH hw3
  clear hw3
  go_wp2_with fail
  refine (v_store (b + 4) b 200 1 0 9 50 3 (fun k => k = b) [] [] w3 HV3.out HB3.out (by omega) (by omega) (by simp) (by omega) (by omega)).mono ?_
  rintro e w4 ⟨rfl, F, vs, b4, v4, g4⟩
  have HB4 := keepH b4
  have HG4 := keepH g4
  have HR4 : Hid (RMem w4 (fun k => k = b + 2 ∨ k = b + 3) (b + 3) 200 1 [] []) := (HM2.out.chg (G := fun _ => False) (by rw [HW3.out]; exact (Chg.refl _ _).alloc _) (fun _ _ x => x)).chg g4.chg (fun k e q => by rcases e with e | e <;> rcases q with q | q <;> omega)
  clear b4 v4 g4
  go_wp2_with fail
  refine (r_store (b + 3) 200 1 50 3 9 _ [] [] w4 HR4.out (by simp) (by omega) (by omega)).mono ?_
  rintro e w5 ⟨rfl, R, r5, g5⟩
  have HMid : Hid (Mid9 V w5 F R b) := mid9 (o := .cells #[.iface 93 (.pointer (some ⟨b, 0, none⟩)), .int .i64 9, .int .i64 0] 99) HEB.out HM1.out HC1.out HZ1.out HC2.out HZ2.out rfl HB4.out (by rw [← HW3.out]; exact HG4.out) r5 g5
  have HT5 : Hid (ThsAt w5 W.heap.size p ll ap ac lp lc) := HP.out.chg (Nat.le_refl _) (HW.out.trans HMid.out.chg (fun _ _ x => x) (fun _ _ x => x))
  have hsW : W.heap.size ≤ V.heap.size := HW.out.size
  clear r5 g5 HM1 HB1 HC1 HM2 HC2 HZ1 HZ2 HMM HBB HV3 HB3 HW3 HB4 HG4 HR4
  go_wp2_with fail
  refine (pr_many HT5.out (Nat.le_trans hsW HMid.out.chg.size) hll HLS.out).mono ?_
  rintro e w6 ⟨tv0, sv, rfl, rv, qv, pb, hM⟩
  have HPM := keepH hM
  obtain ⟨pt, ct, et⟩ := slice_row hM.o1
  obtain ⟨ps, cs, es⟩ := slice_row hM.o2
  subst et es
  have HM6 : Hid (IsMem w6 (b + 1) b) := HMid.out.mem.chg hM.chg (fun x => x)
  have HTB : Hid (tooLongB (tlOfP ll rv pb) = false) := tooL_B.trans HB.out
  clear hM
  go_wp2_with fail
  refine (s_new (b + 1) b _ (tlOfP ll rv pb) w6 HM6.out HPM.out.lists HTB.out).mono ?_
  rintro e w7 ⟨r, G, tv, ths, vbs, rfl, hMd, hths⟩
  have etl : (tlOfP ll rv pb).length = ll.length := by simp [tlOfP]
  rw [etl] at hMd hths
  have HGR : Hid (GR (plK W.heap.size W) 200 (b + 1) b ll.length (clOf ll) (fun j => vbs.getD j 0) (pvOf ll pb) (c0Of ll lp lc) V w7 w7 (fun k => mineS ll.length (.slice ps ll.length cs) qv k ∨ mineS ll.length (.slice pt ll.length ct) rv k ∨ R k) r) := by
    obtain ⟨vs', hbk⟩ := HMid.out.bank
    obtain ⟨a1, a2, a3⟩ := HMid.out.lo
    obtain ⟨d1, d2, d3⟩ := HMid.out.ap
    exact gr_start HW.out HMid.out.chg HMid.out.mem hbk (by simp) a1 (by omega) d2 HPM.out hMd hths HP.out HL.out (fun k e => ⟨HMid.out.rm.lt k e, by have := a2 k e; omega, d1 k e, fun q => d3 (q ▸ e)⟩)
  have HC67 : Hid (Chg (fun _ => False) w6 w7) := hMd.chg
  clear hMd hths etl HTB HM6
  go_wp2_with fail
  have HT7 : Hid (ThsAt w7 W.heap.size p ll ap ac lp lc) := HP.out.chg (Nat.le_refl _) (((HW.out.trans HMid.out.chg (H := fun _ => False) (fun _ _ x => x) (fun _ _ x => x)).trans HPM.out.chg (H := fun _ => False) (fun _ _ x => x) (fun _ _ x => x)).trans HC67.out (fun _ _ x => x) (fun _ _ x => x))
  have HR7 : Hid (RM w7 R (b + 3) 200 1 (stN 200 [] 50 3) [⟨9, 2, 50, 3, 0, .slice none 0 0, [], 0, false⟩]) := (HMid.out.rm.chg HPM.out.chg (fun _ _ x => x)).chg HC67.out (fun _ _ x => x)
  have HS7 : Hid (W.heap.size ≤ w7.heap.size) := Nat.le_trans hsW (Nat.le_trans HMid.out.chg.size (Nat.le_trans HPM.out.chg.size HC67.out.size))
  refine (d4_new (m := ⟨1, stN 200 [] 50 3⟩) HT7.out HS7.out hll HLS.out HR7.out (fun k e => by have := HMid.out.lo.2.1 k e; omega) (by decide) (by simp) HB.out).mono ?_
  rintro e w8 ⟨q, rfl, K, hD4, hK, c78⟩
  have HD8 := keepH hD4
  have HK8 := keepH hK
  have HC78 := keepH c78
  have HG8 : Hid (GR (plK W.heap.size W) 200 (b + 1) b ll.length (clOf ll) (fun j => vbs.getD j 0) (pvOf ll pb) (c0Of ll lp lc) V w8 w8 (fun k => mineS ll.length (.slice ps ll.length cs) qv k ∨ mineS ll.length (.slice pt ll.length ct) rv k ∨ K k) r) := HGR.out.rebase c78 (fun k e => by
    rcases e with e | e | e
    · exact .inl (.inl e)
    · exact .inl (.inr (.inl e))
    · rcases hK k e with ⟨z | z, y⟩
      · exact .inl (.inr (.inr z))
      · exact .inr ⟨z, y⟩)
  have HKV : Hid (∀ k, K k → V.heap.size ≤ k) := fun k e => by
    rcases (hK k e).1 with z | z
    · exact HMid.out.lo.2.1 k z
    · have := HMid.out.chg.size; have := HPM.out.chg.size; have := HC67.out.size; omega
  have HMS : Hid (∀ k, mineS ll.length (.slice pt ll.length ct) rv k → V.heap.size ≤ k ∧ ∃ tp cur, (tp = 38 ∨ tp = 40) ∧ w6.heap[k]? = some (.cells cur tp (0, 0))) := fun k e => by
    have := HMid.out.chg.size
    rcases e with e | ⟨i, hi, e⟩
    · obtain ⟨z1, cur, z2⟩ := row_typ HPM.out.o1 e
      exact ⟨by omega, _, cur, .inl rfl, z2⟩
    · obtain ⟨z1, cur, z2⟩ := row_typ (HPM.out.r1 i _ hi (lOf_get hi)) e
      exact ⟨by omega, _, cur, .inr rfl, z2⟩
  have HNK : Hid (∀ k, K k → ¬ mineS ll.length (.slice pt ll.length ct) rv k) := fun k e q => by
    have hlt : w5.heap.size ≤ k ∧ k < w6.heap.size := by
      rcases q with q | ⟨i, hi, q⟩
      · obtain ⟨z1, cur, z2⟩ := row_typ HPM.out.o1 q
        exact ⟨z1, lt_of z2⟩
      · obtain ⟨z1, cur, z2⟩ := row_typ (HPM.out.r1 i _ hi (lOf_get hi)) q
        exact ⟨z1, lt_of z2⟩
    rcases (hK k e).1 with z | z
    · have := HMid.out.rm.lt k z; omega
    · have := HC67.out.size; omega
  have HNM : Hid (∀ k, mineS ll.length (.slice ps ll.length cs) qv k → ¬ mineS ll.length (.slice pt ll.length ct) rv k) := fun k e q => by
    obtain ⟨_, tp, cur, htp, z2⟩ := HMS.out k q
    rcases e with e | ⟨i, hi, e⟩
    · obtain ⟨_, cur', z2'⟩ := row_typ HPM.out.o2 e
      rcases htp with rfl | rfl
      · exact typ_ne z2' z2 (by decide) rfl
      · exact typ_ne z2' z2 (by decide) rfl
    · obtain ⟨_, cur', z2'⟩ := row_typ (HPM.out.r2 i _ hi (lOf_get hi)) e
      rcases htp with rfl | rfl
      · exact typ_ne z2' z2 (by decide) rfl
      · exact typ_ne z2' z2 (by decide) rfl
  have HW0 : Hid (∀ gt, pt = some ⟨gt, 0, none⟩ → Wp w8 w8 ll gt ct rv 0) := fun gt eg => by
    have k68 : ∀ {k : Nat} {o : Obj}, w6.heap[k]? = some o → w8.heap[k]? = some o := fun hk => by
      have a1 := (HC67.out.block _ (lt_of hk) (fun x => x)).trans hk
      exact (c78.block _ (lt_of a1) (fun x => x)).trans a1
    have o1 := HPM.out.o1
    rw [eg] at o1
    refine ⟨?_, fun j g hj hg => ?_, fun j hj => ?_, Chg.refl _ _⟩
    · rcases o1.2 with ⟨e, _⟩ | ⟨g', cap, cur, e, _, hg', _, _, _, ht⟩
      · cases e
      · injection e with e1 _ _
        injection e1 with e1
        injection e1 with e1
        subst e1
        have e2 := congrArg List.length ht
        simp at e2
        refine ⟨cur, k68 hg', by omega, fun j _ hj => ?_⟩
        have e3 : ((List.range ll.length).map rv)[j]? = some (rv j) := by simp [hj]
        rw [← ht, List.getElem?_take_of_lt (by omega)] at e3
        simpa using e3
    · have hr := HPM.out.r1 j _ hj (lOf_get hj)
      rcases hr.2 with ⟨e, _⟩ | ⟨g', cap, cur, e, _, hg', _, _, _, ht⟩
      · rw [e] at hg; simp [Value.ownBlock] at hg
      · rw [e] at hg
        obtain rfl : g' = g := by simpa [Value.ownBlock] using hg
        refine ⟨cur, k68 hg', ?_⟩
        have e2 := congrArg List.length ht
        simp [ifL] at e2
        unfold clOf
        omega
    · have hr := HPM.out.r1 j _ hj (lOf_get hj)
      rcases hr.2 with ⟨e, h0⟩ | ⟨g', cap, cur, e, _⟩
      · exact ⟨none, 0, by rw [e]; unfold clOf; rw [h0], fun x => by unfold clOf at x; omega⟩
      · exact ⟨_, cap, e, fun _ => ⟨g', rfl⟩⟩
  have HTP : Hid (0 < ll.length → ∃ gt, pt = some ⟨gt, 0, none⟩) := fun h0 => by
    obtain ⟨gt, c', e⟩ := slice_pos (row_base HPM.out.o1) h0
    injection e with e _ _
    exact ⟨gt, e⟩
  have HCl : Hid (∀ j, clOf ll j ≤ 1048576) := fun j => by
    unfold clOf lOf
    rw [List.getD_eq_getElem?_getD]
    cases hz : ll[j]? with
    | none => simp
    | some l => exact HLS.out l (List.mem_of_getElem? hz)
  clear hD4 hK c78 HGR HT7 HR7 HS7
  go_wp2_with fail
  go_loopw [14] (fun s wx => ∃ i : Nat, i ≤ ll.length ∧ s = .int .i64 (i : Int) ∧ Hid ((∀ gt, pt = some ⟨gt, 0, none⟩ → Wp w8 wx ll gt ct rv i) ∧ Chg (mineS ll.length (.slice pt ll.length ct) rv) w8 wx)) (fun s _ => ll.length - (intOf s).toNat)
  case atStart => exact ⟨0, Nat.zero_le _, rfl, HW0.out, Chg.refl _ _⟩
  case round =>
    obtain ⟨i, hil, rfl, HX⟩ := hrel
    obtain ⟨w9, hw9⟩ : ∃ w9, w9 = wr := ⟨_, rfl⟩
    subst hw9
    by_cases hi : i < ll.length
    · have z1 : (i : Int) < (ll.length : Int) := by omega
      obtain ⟨gt, egt⟩ := HTP.out (by omega)
      subst egt
      have HWp := keepH (HX.out.1 gt rfl)
      obtain ⟨pi, ci, eri, hgi⟩ := HWp.out.sh i hi
      obtain ⟨n, hn⟩ : ∃ n, n = clOf ll i := ⟨_, rfl⟩
      have hn20 : n ≤ 1048576 := by rw [hn]; exact HCl.out i
      rw [← hn] at eri hgi
      have HN := keepH hn
      have HRI := keepH eri
      have HGI := keepH hgi
      clear HX hn eri hgi
      go_wp2_with fail
      go_loopw [15] (fun s wx => ∃ k : Nat, k ≤ n ∧ s = .int .i64 (k : Int) ∧ Hid (Wp w8 wx ll gt ct rv i)) (fun s _ => n - (intOf s).toNat)
      case atStart => exact ⟨0, Nat.zero_le _, rfl, HWp.out⟩
      case round =>
        obtain ⟨k, hkn, rfl, HY⟩ := hrel
        obtain ⟨w10, hw10⟩ : ∃ w10, w10 = wr := ⟨_, rfl⟩
        subst hw10
        have y0 : w10.cell? ⟨gt, i, none⟩ = some (.slice pi n ci) := by
          obtain ⟨cur, a1, a2, a3⟩ := HY.out.tb
          rw [cell_of a1 i, a3 i (Nat.le_refl _) hi, HRI.out]
        have yf : w10.frozen? ⟨gt, i, none⟩ = false := by
          obtain ⟨cur, a1, _⟩ := HY.out.tb
          exact free_of a1 i
        by_cases hk : k < n
        · have z2 : (k : Int) < (n : Int) := by omega
          obtain ⟨g, rfl⟩ := HGI.out (by omega)
          have hro : (rv i).ownBlock = some g := by rw [HRI.out]; rfl
          obtain ⟨cu, b1, b2⟩ := HY.out.rb i g hi hro
          obtain ⟨u, hu⟩ : ∃ u, w10.cell? ⟨g, k, none⟩ = some u := ⟨cu[k]'(by have := HN.out; omega), by rw [cell_of b1 k]; simp [show k < cu.size by have := HN.out; omega]⟩
          have hfr := free_of b1 k
          have HRO := keepH hro
          clear b1 b2 hro
          go_wp2_with fail
          go_roundw
          case rel => exact ⟨k + 1, by omega, by first | rfl | go_num, HY.out.cell i hi HRO.out _⟩
          case measure => simp [intOf]; omega
        · have z2 : ¬ (k : Int) < (n : Int) := by omega
          go_wp2_with fail
          go_roundw
          case rel => exact ⟨i + 1, by omega, by first | rfl | go_num, fun gt' e => by injection e with e; injection e with e; subst e; exact HY.out.row _, (HY.out.row _).chg⟩
          case measure => simp [intOf]; omega
    · have z1 : ¬ (i : Int) < (ll.length : Int) := by omega
      have HG9 : Hid (GR (plK W.heap.size W) 200 (b + 1) b ll.length (clOf ll) (fun j => vbs.getD j 0) (pvOf ll pb) (c0Of ll lp lc) V w8 w9 (fun k => mineS ll.length (.slice ps ll.length cs) qv k ∨ K k) r) := HG8.out.drop HX.out.2 (fun k e => ⟨.inr (.inl e), (HMS.out k e).1⟩) (fun k e => by
        rcases e with e | e
        · exact ⟨.inl e, HNM.out k e⟩
        · exact ⟨.inr (.inr e), HNK.out k e⟩)
      have HD9 : Hid (D4 w9 W.heap.size q (b + 3) ll.length 0 p c8 (fun _ => 0) (fun _ => 0) K) := HD8.out.keep HX.out.2.size (fun k e => HX.out.2.block k (HK8.out k e).2 (HNK.out k e))
      have HS9 : Hid (V.heap.size ≤ w9.heap.size) := by
        have a1 := HMid.out.chg.size; have a2 := HPM.out.chg.size; have a3 := HC67.out.size; have a4 := HC78.out.size; have a5 := HX.out.2.size
        show _ ≤ _
        omega
      have HSZ89 : Hid (w8.heap.size ≤ w9.heap.size) := HX.out.2.size
      clear HX
      go_wp2_with fail
      go_ret3
      refine ⟨w9.heap.size, q, by simp, b + 1, r, b, b + 3, .slice ps ll.length cs, heap_alloc_new _ _, HS9.out, qv, fun j => vbs.getD j 0, pb, K, HG9.out.rebase ((Chg.refl (fun _ => False) w9).alloc _) (fun k e => ?_), HD9.out.keep (by simp) (fun k e => Below.heap_alloc _ _ k ?_), fun k e => ⟨HKV.out k e, Nat.lt_of_lt_of_le (HK8.out k e).2 HSZ89.out⟩⟩
      · rcases e with e | e | e
        · exact .inl (.inl e)
        · exact .inl (.inr e)
        · exact .inr (by rw [e]; simp)
      · obtain ⟨tg, gc, ga, gg, ev, wv, es', ws, gv, gl, R', m', t', h', hK'⟩ := HD9.out
        have a1 := (HK8.out k e).2
        have a2 : Hid (w8.heap.size ≤ w9.heap.size) := HSZ89
        exact Nat.lt_of_lt_of_le a1 a2.out
end Go.Proofs.Ytkfmpebhibnniaa
/- Both, walked: threads that are too long. -/
namespace Go.Proofs.Ytkfmpebhibnniaa
open Go.RowKit Go.Shelf
set_option linter.unusedVariables false

set_option maxRecDepth 100000 in
set_option maxHeartbeats 16000000 in
theorem both_long {W V : World} {p : Option Addr} {c8 : Nat} {ll : List (List PlP)} {ap : Nat → Option Addr} {ac : Nat → Nat} {lp : Nat → Nat → Option Addr} {lc : Nat → Nat → Nat} (hW : Chg (fun _ => False) W V) (hP : ThsAt W W.heap.size p ll ap ac lp lc) (hll : ll.length ≤ 1048576) (hls : ∀ l ∈ ll, l.length ≤ 1048576) (hL : ∀ l ∈ ll, ∀ q ∈ l, q.L.length ≤ 1048576) (hb : tooL ll = true) :
    Calls Try.prog 19 #[.slice p ll.length c8] V fun e Y => ∃ wb, e = .returned (.tuple #[.pointer (some ⟨wb, 0, none⟩), .pointer none, .bool true]) ∧ Chg (fun _ => False) V Y := by
  have HW := keepH hW
  have HP := keepH hP
  have HLS := keepH hls
  have HL := keepH hL
  have HB := keepH hb
  clear hW hP hls hL hb
  go_enter Try.func19, Try.ntmps19
  go_wp2_with fail
  refine (m_new 200 V (by omega)).mono ?_
  rintro e w1 ⟨rfl, m1, b1, c1, z1⟩
  obtain ⟨b, eb⟩ : ∃ b, V.heap.size = b := ⟨_, rfl⟩
  rw [eb] at m1 b1 z1 ⊢
  have HM1 := keepH m1
  have HB1 := keepH b1
  have HC1 := keepH c1
  have HEB := keepH eb
  clear m1 b1 c1 eb
  go_wp2_with fail
  refine (r_new 200 w1 (by omega)).mono ?_
  rintro e w2 ⟨rfl, m2, c2, z2⟩
  rw [z1] at m2 z2 ⊢
  have HM2 : Hid (RMem w2 (fun k => k = b + 2 ∨ k = b + 3) (b + 3) 200 1 [] []) := m2
  have HC2 := keepH c2
  have HZ1 := keepH z1
  have HZ2 : Hid (w2.heap.size = b + 4) := z2
  clear m2 c2 z1 z2
  simp only [show b + 2 + 1 = b + 3 from rfl]
  have HMM : Hid (IsMem w2 (b + 1) b) := (HC2.out.block _ (by have := HZ1.out; omega) (fun x => x)).trans HM1.out
  have HBB : Hid (Bank w2 (fun k => k = b) b 200 1 [] []) := HB1.out.chg HC2.out (fun _ _ x => x)
  go_wp2_with fail
  refine (m_view (b + 1) b 9 _ HMM.out).mono ?_
  rintro e w3 ⟨rfl, hw3⟩
  rw [HZ2.out]
  have HV3 : Hid (IsView w3 (b + 4) b 9 0) := by rw [hw3, ← HZ2.out]; exact heap_alloc_new _ _
  have HB3 : Hid (Bank w3 (fun k => k = b) b 200 1 [] []) := by rw [hw3]; exact HBB.out.chg ((Chg.refl (fun _ => False) w2).alloc _) (fun _ _ x => x)
  have HW3 := keepH hw3
  clear hw3
  go_wp2_with fail
  refine (v_store (b + 4) b 200 1 0 9 50 3 (fun k => k = b) [] [] w3 HV3.out HB3.out (by omega) (by omega) (by simp) (by omega) (by omega)).mono ?_
  rintro e w4 ⟨rfl, F, vs, b4, v4, g4⟩
  have HB4 := keepH b4
  have HG4 := keepH g4
  have HR4 : Hid (RMem w4 (fun k => k = b + 2 ∨ k = b + 3) (b + 3) 200 1 [] []) := (HM2.out.chg (G := fun _ => False) (by rw [HW3.out]; exact (Chg.refl _ _).alloc _) (fun _ _ x => x)).chg g4.chg (fun k e q => by rcases e with e | e <;> rcases q with q | q <;> omega)
  clear b4 v4 g4
  go_wp2_with fail
  refine (r_store (b + 3) 200 1 50 3 9 _ [] [] w4 HR4.out (by simp) (by omega) (by omega)).mono ?_
  rintro e w5 ⟨rfl, R, r5, g5⟩
  have HMid : Hid (Mid9 V w5 F R b) := mid9 (o := .cells #[.iface 93 (.pointer (some ⟨b, 0, none⟩)), .int .i64 9, .int .i64 0] 99) HEB.out HM1.out HC1.out HZ1.out HC2.out HZ2.out rfl HB4.out (by rw [← HW3.out]; exact HG4.out) r5 g5
  have HT5 : Hid (ThsAt w5 W.heap.size p ll ap ac lp lc) := HP.out.chg (Nat.le_refl _) (HW.out.trans HMid.out.chg (fun _ _ x => x) (fun _ _ x => x))
  have hsW : W.heap.size ≤ V.heap.size := HW.out.size
  clear r5 g5 HM1 HB1 HC1 HM2 HC2 HZ1 HZ2 HMM HBB HV3 HB3 HW3 HB4 HG4 HR4
  go_wp2_with fail
  refine (pr_many HT5.out (Nat.le_trans hsW HMid.out.chg.size) hll HLS.out).mono ?_
  rintro e w6 ⟨tv0, sv, rfl, rv, qv, pb, hM⟩
  have HPM := keepH hM
  obtain ⟨pt, ct, et⟩ := slice_row hM.o1
  obtain ⟨ps, cs, es⟩ := slice_row hM.o2
  subst et es
  have HM6 : Hid (IsMem w6 (b + 1) b) := HMid.out.mem.chg hM.chg (fun x => x)
  have HTB : Hid (tooLongB (tlOfP ll rv pb) = true) := tooL_B.trans HB.out
  clear hM
  go_wp2_with fail
  refine (s_new_long (b + 1) _ (tlOfP ll rv pb) w6 HPM.out.lists (by simp [tlOfP]; omega) (fun x hx => by
    obtain ⟨i, hi, rfl⟩ := List.mem_map.1 hx
    have := HLS.out _ (List.mem_of_getElem? (lOf_get (List.mem_range.1 hi)))
    simp [ifL]
    omega) HTB.out).mono ?_
  rintro e w7 ⟨rfl, hw7⟩
  subst hw7
  have HT7 : Hid (ThsAt w7 W.heap.size p ll ap ac lp lc) := HP.out.chg (Nat.le_refl _) ((HW.out.trans HMid.out.chg (H := fun _ => False) (fun _ _ x => x) (fun _ _ x => x)).trans HPM.out.chg (fun _ _ x => x) (fun _ _ x => x))
  have HS7 : Hid (W.heap.size ≤ w7.heap.size) := Nat.le_trans hsW (Nat.le_trans HMid.out.chg.size HPM.out.chg.size)
  clear HTB HM6
  go_wp2_with fail
  refine (d4_long HT7.out HS7.out hll HLS.out HB.out).mono ?_
  rintro e w8 ⟨rfl, c78⟩
  have HC78 := keepH c78
  have HMS : Hid (∀ k, mineS ll.length (.slice pt ll.length ct) rv k → V.heap.size ≤ k ∧ ∃ tp cur, (tp = 38 ∨ tp = 40) ∧ w7.heap[k]? = some (.cells cur tp (0, 0))) := fun k e => by
    have := HMid.out.chg.size
    rcases e with e | ⟨i, hi, e⟩
    · obtain ⟨z1, cur, z2⟩ := row_typ HPM.out.o1 e
      exact ⟨by omega, _, cur, .inl rfl, z2⟩
    · obtain ⟨z1, cur, z2⟩ := row_typ (HPM.out.r1 i _ hi (lOf_get hi)) e
      exact ⟨by omega, _, cur, .inr rfl, z2⟩
  have HW0 : Hid (∀ gt, pt = some ⟨gt, 0, none⟩ → Wp w8 w8 ll gt ct rv 0) := fun gt eg => by
    have k68 : ∀ {k : Nat} {o : Obj}, w7.heap[k]? = some o → w8.heap[k]? = some o := fun hk => (c78.block _ (lt_of hk) (fun x => x)).trans hk
    have o1 := HPM.out.o1
    rw [eg] at o1
    refine ⟨?_, fun j g hj hg => ?_, fun j hj => ?_, Chg.refl _ _⟩
    · rcases o1.2 with ⟨e, _⟩ | ⟨g', cap, cur, e, _, hg', _, _, _, ht⟩
      · cases e
      · injection e with e1 _ _
        injection e1 with e1
        injection e1 with e1
        subst e1
        have e2 := congrArg List.length ht
        simp at e2
        refine ⟨cur, k68 hg', by omega, fun j _ hj => ?_⟩
        have e3 : ((List.range ll.length).map rv)[j]? = some (rv j) := by simp [hj]
        rw [← ht, List.getElem?_take_of_lt (by omega)] at e3
        simpa using e3
    · have hr := HPM.out.r1 j _ hj (lOf_get hj)
      rcases hr.2 with ⟨e, _⟩ | ⟨g', cap, cur, e, _, hg', _, _, _, ht⟩
      · rw [e] at hg; simp [Value.ownBlock] at hg
      · rw [e] at hg
        obtain rfl : g' = g := by simpa [Value.ownBlock] using hg
        refine ⟨cur, k68 hg', ?_⟩
        have e2 := congrArg List.length ht
        simp [ifL] at e2
        unfold clOf
        omega
    · have hr := HPM.out.r1 j _ hj (lOf_get hj)
      rcases hr.2 with ⟨e, h0⟩ | ⟨g', cap, cur, e, _⟩
      · exact ⟨none, 0, by rw [e]; unfold clOf; rw [h0], fun x => by unfold clOf at x; omega⟩
      · exact ⟨_, cap, e, fun _ => ⟨g', rfl⟩⟩
  have HTP : Hid (0 < ll.length → ∃ gt, pt = some ⟨gt, 0, none⟩) := fun h0 => by
    obtain ⟨gt, c', e⟩ := slice_pos (row_base HPM.out.o1) h0
    injection e with e _ _
    exact ⟨gt, e⟩
  have HCl : Hid (∀ j, clOf ll j ≤ 1048576) := fun j => by
    unfold clOf lOf
    rw [List.getD_eq_getElem?_getD]
    cases hz : ll[j]? with
    | none => simp
    | some l => exact HLS.out l (List.mem_of_getElem? hz)
  clear c78 HT7 HS7
  go_wp2_with fail
  go_loopw [14] (fun s wx => ∃ i : Nat, i ≤ ll.length ∧ s = .int .i64 (i : Int) ∧ Hid ((∀ gt, pt = some ⟨gt, 0, none⟩ → Wp w8 wx ll gt ct rv i) ∧ Chg (mineS ll.length (.slice pt ll.length ct) rv) w8 wx)) (fun s _ => ll.length - (intOf s).toNat)
  case atStart => exact ⟨0, Nat.zero_le _, rfl, HW0.out, Chg.refl _ _⟩
  case round =>
    obtain ⟨i, hil, rfl, HX⟩ := hrel
    obtain ⟨w9, hw9⟩ : ∃ w9, w9 = wr := ⟨_, rfl⟩
    subst hw9
    by_cases hi : i < ll.length
    · have z1 : (i : Int) < (ll.length : Int) := by omega
      obtain ⟨gt, egt⟩ := HTP.out (by omega)
      subst egt
      have HWp := keepH (HX.out.1 gt rfl)
      obtain ⟨pi, ci, eri, hgi⟩ := HWp.out.sh i hi
      obtain ⟨n, hn⟩ : ∃ n, n = clOf ll i := ⟨_, rfl⟩
      have hn20 : n ≤ 1048576 := by rw [hn]; exact HCl.out i
      rw [← hn] at eri hgi
      have HN := keepH hn
      have HRI := keepH eri
      have HGI := keepH hgi
      clear HX hn eri hgi
      go_wp2_with fail
      go_loopw [15] (fun s wx => ∃ k : Nat, k ≤ n ∧ s = .int .i64 (k : Int) ∧ Hid (Wp w8 wx ll gt ct rv i)) (fun s _ => n - (intOf s).toNat)
      case atStart => exact ⟨0, Nat.zero_le _, rfl, HWp.out⟩
      case round =>
        obtain ⟨k, hkn, rfl, HY⟩ := hrel
        obtain ⟨w10, hw10⟩ : ∃ w10, w10 = wr := ⟨_, rfl⟩
        subst hw10
        have y0 : w10.cell? ⟨gt, i, none⟩ = some (.slice pi n ci) := by
          obtain ⟨cur, a1, a2, a3⟩ := HY.out.tb
          rw [cell_of a1 i, a3 i (Nat.le_refl _) hi, HRI.out]
        have yf : w10.frozen? ⟨gt, i, none⟩ = false := by
          obtain ⟨cur, a1, _⟩ := HY.out.tb
          exact free_of a1 i
        by_cases hk : k < n
        · have z2 : (k : Int) < (n : Int) := by omega
          obtain ⟨g, rfl⟩ := HGI.out (by omega)
          have hro : (rv i).ownBlock = some g := by rw [HRI.out]; rfl
          obtain ⟨cu, b1, b2⟩ := HY.out.rb i g hi hro
          obtain ⟨u, hu⟩ : ∃ u, w10.cell? ⟨g, k, none⟩ = some u := ⟨cu[k]'(by have := HN.out; omega), by rw [cell_of b1 k]; simp [show k < cu.size by have := HN.out; omega]⟩
          have hfr := free_of b1 k
          have HRO := keepH hro
          clear b1 b2 hro
          go_wp2_with fail
          go_roundw
          case rel => exact ⟨k + 1, by omega, by first | rfl | go_num, HY.out.cell i hi HRO.out _⟩
          case measure => simp [intOf]; omega
        · have z2 : ¬ (k : Int) < (n : Int) := by omega
          go_wp2_with fail
          go_roundw
          case rel => exact ⟨i + 1, by omega, by first | rfl | go_num, fun gt' e => by injection e with e; injection e with e; subst e; exact HY.out.row _, (HY.out.row _).chg⟩
          case measure => simp [intOf]; omega
    · have z1 : ¬ (i : Int) < (ll.length : Int) := by omega
      have HCE : Hid (Chg (fun _ => False) V w9) := ((HMid.out.chg.trans HPM.out.chg (H := fun _ => False) (fun _ _ x => x) (fun _ _ x => x)).trans HC78.out (H := fun _ => False) (fun _ _ x => x) (fun _ _ x => x)).trans HX.out.2 (fun _ _ x => x) (fun k hk e => by have := (HMS.out k e).1; omega)
      clear HX
      go_wp2_with fail
      go_ret3
      exact ⟨⟨_, by simp; rfl⟩, HCE.out.alloc _⟩
end Go.Proofs.Ytkfmpebhibnniaa
/- The document's runner beside the pure run; what lies in memory between the parts of StepHistory. -/
namespace Go.Proofs.Ytkfmpebhibnniaa
open Go.RowKit Go.Shelf
set_option linter.unusedVariables false

/-- The document's calls and steps are the pure run's. -/
structure DRel (T : Nat) (cl : Nat → Nat) (d : Cfg PS) (call at_ : Nat → Nat) : Prop where
  ix : ∀ i, i < T → call i = d.ix i
  at_ : ∀ i, i < T → d.ix i < cl i → at_ i = (d.σ i (d.ix i)).at_
  nx : ∀ i j, i < T → j < cl i → d.ix i < j → (d.σ i j).at_ = 0
section
variable {Lo : Nat} {W0 : World} {most T : Nat} {cl : Nat → Nat} {pl : Nat → Nat → PlP} {c : Cfg PS}
theorem ps_done {s : PS} (h : s.at_ < nst s.pl) (th : Int) (next : Nat) (cs : List Nat) : (psS th most next cs s).done = decide (nst s.pl ≤ s.at_ + 1) ∧ ((psS th most next cs s).done = false → (psS th most next cs s).s.at_ = s.at_ + 1) := by
  rw [nst_done]
  unfold psS
  by_cases hn : s.pl.none = true
  · simp [hn]
  · simp only [if_neg hn]
    refine ⟨by simp [hn], fun z => ?_⟩
    have z' := of_decide_eq_false z
    rw [List.getElem?_eq_getElem (show s.at_ < s.pl.L.length by omega)]
    rfl
theorem DRel.pick {call at_ : Nat → Nat} (h : DRel T cl c call at_) (hP : PInv T cl pl c) (i : Nat) (hi : i < T) (hj : c.ix i < cl i) : DRel T cl (c.go (plK Lo W0) most i).tick (fun j => if j = i then (if nst (pl i (c.ix i)) ≤ at_ i + 1 then call i + 1 else call i) else call j) (fun j => if j = i then (if nst (pl i (c.ix i)) ≤ at_ i + 1 then 0 else at_ i + 1) else at_ j) := by
  have hpl := hP.pl i _ hi hj
  have hat := hP.at_ i _ hi hj (Nat.le_refl _)
  have ha := h.at_ i hi hj
  obtain ⟨d1, d2⟩ := ps_done (most := most) hat (i : Int) c.next c.cs
  rw [hpl, ← ha] at d1
  obtain ⟨d, hd⟩ : ∃ d, d = (psS (i : Int) most c.next c.cs (c.σ i (c.ix i))).done := ⟨_, rfl⟩
  obtain ⟨s', hs'⟩ : ∃ s', s' = (psS (i : Int) most c.next c.cs (c.σ i (c.ix i))).s := ⟨_, rfl⟩
  rw [← hd] at d1 d2
  rw [← hs'] at d2
  have hix : ∀ t, (c.go (plK Lo W0) most i).tick.ix t = if t = i then (if d = true then c.ix i + 1 else c.ix i) else c.ix t := fun t => by
    show updN c.ix i _ t = _
    unfold updN
    rw [hd]
    rfl
  have hsg : ∀ t q, (c.go (plK Lo W0) most i).tick.σ t q = if t = i then (if q = c.ix i then s' else c.σ i q) else c.σ t q := fun t q => by
    show updN c.σ i _ t q = _
    unfold updN
    rw [hs']
    split <;> rfl
  refine ⟨fun t ht => ?_, fun t ht hlt => ?_, fun t q ht hq hlt => ?_⟩
  · rw [hix]
    by_cases e : t = i
    · subst e
      rw [if_pos rfl, if_pos rfl, h.ix t ht, d1]
      by_cases z : nst (pl t (c.ix t)) ≤ at_ t + 1
      · rw [if_pos z, if_pos (decide_eq_true z)]
      · rw [if_neg z, if_neg (by simpa using z)]
    · rw [if_neg e, if_neg e]; exact h.ix t ht
  · rw [hix] at hlt ⊢
    rw [hsg]
    by_cases e : t = i
    · subst e
      rw [if_pos rfl] at hlt
      rw [if_pos rfl, if_pos rfl, if_pos rfl]
      by_cases z : nst (pl t (c.ix t)) ≤ at_ t + 1
      · have dt : d = true := by rw [d1]; exact decide_eq_true z
        rw [if_pos z]
        rw [if_pos dt] at hlt ⊢
        rw [if_neg (by omega)]
        exact (h.nx t _ ht hlt (by omega)).symm
      · have df : d = false := by rw [d1]; exact decide_eq_false z
        rw [if_neg z, df]
        simp only [Bool.false_eq_true, if_false, if_true]
        rw [d2 df, ← ha]
    · rw [if_neg e] at hlt
      rw [if_neg e, if_neg e, if_neg e]
      exact h.at_ t ht hlt
  · rw [hix] at hlt
    rw [hsg]
    by_cases e : t = i
    · subst e
      rw [if_pos rfl] at hlt
      rw [if_pos rfl]
      have : c.ix t < q := by split at hlt <;> omega
      rw [if_neg (by omega)]
      exact h.nx t q ht hq this
    · rw [if_neg e] at hlt
      rw [if_neg e]
      exact h.nx t q ht hq hlt
theorem DRel.tick {call at_ : Nat → Nat} (h : DRel T cl c call at_) : DRel T cl c.tick call at_ := ⟨h.ix, h.at_, h.nx⟩
end
theorem pinv_start (ll : List (List PlP)) (lp : Nat → Nat → Option Addr) (lc : Nat → Nat → Nat) : PInv ll.length (clOf ll) (qOf ll) (c0Of ll lp lc) := ⟨fun i j _ _ => rfl, fun i j _ _ _ => nst_pos _, fun i _ h => by cases h⟩
theorem drel_start (ll : List (List PlP)) (lp : Nat → Nat → Option Addr) (lc : Nat → Nat → Nat) : DRel ll.length (clOf ll) (c0Of ll lp lc) (fun _ => 0) (fun _ => 0) := ⟨fun _ _ => rfl, fun _ _ _ => rfl, fun _ _ _ _ _ => rfl⟩
theorem lt_kept {X Y : World} {k : Nat} (h : k < X.heap.size) (e : Y.heap[k]? = X.heap[k]?) : k < Y.heap.size := by
  rw [Array.getElem?_eq_getElem h] at e
  exact (Array.getElem?_eq_some_iff.1 e).1
theorem D4.keep2 {X Y : World} {B r nm T st : Nat} {p : Option Addr} {c8 : Nat} {call at_ : Nat → Nat} {K : Nat → Prop} (h : D4 X B r nm T st p c8 call at_ K) (hk : ∀ k, K k → Y.heap[k]? = X.heap[k]?) : D4 Y B r nm T st p c8 call at_ K := by
  obtain ⟨tg, gc, ga, gg, ev, wv, es, ws, gv, gl, R, m, t, h, hK⟩ := h
  have kk : ∀ k, tg k ≠ 0 → Y.heap[k]? = X.heap[k]? := fun k e => hk k (hK k e)
  obtain ⟨l, ⟨nc, av, os, g⟩, hl2⟩ := h.rm
  have kR : ∀ k, R k → Y.heap[k]? = X.heap[k]? := fun k e => kk k (by rw [h.tR k e]; decide)
  have g2 : RMemAt Y R nm nc av 200 m.next os m.cs l := ⟨(kR nm g.inn).trans g.blk, (kR nc g.inc).trans g.own, g.os, row_kept g.acc fun k e => kR k (g.ina k e), fun x hx => row_kept (g.vals x hx) fun k e => kR k (g.inv x hx k e), g.inn, g.inc, g.ina, g.inv, g.ne, fun k e => lt_kept (g.lt k e) (kR k e), g.nn, g.small⟩
  exact ⟨tg, gc, ga, gg, ev, wv, es, ws, gv, gl, R, m, t, ⟨(kk r (by rw [h.tr]; decide)).trans h.blk, (kk gc (by rw [h.tc]; decide)).trans h.cb, (kk ga (by rw [h.ta]; decide)).trans h.ab, (kk gg (by rw [h.tG]; decide)).trans h.gb, row_kept h.er (fun k e => kk k (by rw [h.te k e]; decide)), row_kept h.wr (fun k e => kk k (by rw [h.tw k e]; decide)), fun i hi => row_kept (h.gr i hi) (fun k e => kk k (by rw [h.tg_ i k hi e]; omega)), ⟨l, ⟨nc, av, os, g2⟩, hl2⟩, h.tr, h.tc, h.ta, h.tG, h.te, h.tw, h.tR, h.tg_, fun k e => ⟨(h.lo k e).1, lt_kept (h.lo k e).2 (kk k e)⟩, h.bd⟩, hK⟩
/-- The program's run and the document's runner, with the block that holds them. -/
def HW (W V0 X : World) (ll : List (List PlP)) (p : Option Addr) (c8 : Nat) (c : Cfg PS) (wb q nm m r b : Nat) (sv : Value) (vb : Nat → Nat) (pb : Nat → Nat → Nat) (st : Nat) (call at_ : Nat → Nat) (E : Nat → Prop) : Prop :=
  ∃ K, GR (plK W.heap.size W) 200 m b ll.length (clOf ll) vb (pvOf ll pb) c V0 X X (fun k => K k ∨ k = wb ∨ E k) r ∧ D4 X W.heap.size q nm ll.length st p c8 call at_ K ∧ X.heap[wb]? = some (.cells #[.pointer (some ⟨m, 0, none⟩), .pointer (some ⟨r, 0, none⟩), sv] 73 (0, 0)) ∧ V0.heap.size ≤ wb ∧ (∀ k, K k → V0.heap.size ≤ k ∧ ¬ E k ∧ k ≠ wb) ∧ ¬ E wb
section
variable {W V0 X Y : World} {ll : List (List PlP)} {p : Option Addr} {c8 : Nat} {c : Cfg PS} {wb q nm m r b : Nat} {sv : Value} {vb : Nat → Nat} {pb : Nat → Nat → Nat} {st : Nat} {call at_ : Nat → Nat} {E E' : Nat → Prop}
theorem HW.quiet (h : HW W V0 X ll p c8 c wb q nm m r b sv vb pb st call at_ E) (g : Chg (fun _ => False) X Y) : HW W V0 Y ll p c8 c wb q nm m r b sv vb pb st call at_ E := by
  obtain ⟨K, h1, h2, h3, h4, h5, h6⟩ := h
  refine ⟨K, h1.rebase g (fun k e => .inl e), h2.keep2 (fun k e => g.block k (h1.kept k (.inl e)).2 (fun x => x)), (g.block wb (lt_of h3) (fun x => x)).trans h3, h4, h5, h6⟩
theorem HW.chg (h : HW W V0 X ll p c8 c wb q nm m r b sv vb pb st call at_ E) : Chg (fun _ => False) V0 X := by
  obtain ⟨K, h1, _⟩ := h
  exact h1.chgW
theorem HW.cell (h : HW W V0 X ll p c8 c wb q nm m r b sv vb pb st call at_ E) : X.cell? ⟨wb, 1, none⟩ = some (.pointer (some ⟨r, 0, none⟩)) ∧ X.cell? ⟨wb, 0, none⟩ = some (.pointer (some ⟨m, 0, none⟩)) := by
  obtain ⟨K, h1, h2, h3, _⟩ := h
  exact ⟨cell_of h3 1, cell_of h3 0⟩
/-- What the run itself did. -/
theorem HW.on (h : HW W V0 X ll p c8 c wb q nm m r b sv vb pb st call at_ E) : ∃ S, GR (plK W.heap.size W) 200 m b ll.length (clOf ll) vb (pvOf ll pb) c V0 X X S r ∧ (∀ k, E k → S k) ∧ ∀ c' Y, GR (plK W.heap.size W) 200 m b ll.length (clOf ll) vb (pvOf ll pb) c' V0 X Y S r → HW W V0 Y ll p c8 c' wb q nm m r b sv vb pb st call at_ E := by
  obtain ⟨K, h1, h2, h3, h4, h5, h6⟩ := h
  refine ⟨_, h1, fun k e => .inr (.inr e), fun c' Y g => ?_⟩
  have kp := fun k e => (g.kept k e).1
  exact ⟨K, g.rebase (Chg.refl _ _) (fun k e => .inl e), h2.keep2 (fun k e => kp k (.inl e)), (kp wb (.inr (.inl rfl))).trans h3, h4, h5, h6⟩
end
end Go.Proofs.Ytkfmpebhibnniaa
