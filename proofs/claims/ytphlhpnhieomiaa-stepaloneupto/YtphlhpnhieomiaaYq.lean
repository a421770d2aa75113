/- Plans that come in. -/
import Derived.Lib.SmallJoins
import Derived.Deep.Slices
import Derived.Carry
import Derived.OpenShut
import Derived.SizedLaws
import Derived.Test.YtphlhpnhieomiaaRows
import Derived.Test.YtphlhpnhieomiaaYj
namespace Go.Proofs.Ytphlhpnhieomiaa
open Go.RowKit Go.Shelf Go.Joins Go.ChangeShapes Go.WideShapes Go.Deep
set_option linter.unusedVariables false

theorem bulk_one {H : Type} (d : DataW H) : 1 ≤ Rows.uptoBulk d := by
  cases d with
  | lit l => cases l <;> simp [Rows.uptoBulk]
  | nil => simp [Rows.uptoBulk]
  | ptr d => simp [Rows.uptoBulk]
  | slice elems spare => simp [Rows.uptoBulk]
  | agg parts => simp [Rows.uptoBulk]
  | iface t d => simp [Rows.uptoBulk]
  | map entries => simp [Rows.uptoBulk]
  | held h => simp [Rows.uptoBulk]
theorem bulk_length {H : Type} (l : List (DataW H)) : l.length ≤ Rows.uptoBulkAll l := by
  induction l with
  | nil => simp [Rows.uptoBulkAll]
  | cons x r ih => have := bulk_one x; simp only [Rows.uptoBulkAll, List.length_cons]; omega
theorem bulk_mem {H : Type} {d : DataW H} {l : List (DataW H)} (h : d ∈ l) : Rows.uptoBulk d ≤ Rows.uptoBulkAll l := by
  induction l with
  | nil => simp at h
  | cons x r ih =>
    simp only [Rows.uptoBulkAll]
    rcases List.mem_cons.1 h with rfl | h
    · omega
    · have := ih h
      omega
theorem cells_each {w : World} {a : Addr} {n : Nat} {cs : List Value} (h : w.cells? 0 a n = some cs) : ∀ j u, cs[j]? = some u → w.cell? (a.add j) = some u := by
  obtain ⟨_, hl, hc⟩ := World.cells?_some h
  intro j u hj
  have hlt : j < n := by
    have := (List.getElem?_eq_some_iff.1 hj).1
    omega
  rw [hc j hlt, hj]
theorem choose_list {α : Type} {P : Nat → α → Prop} (n : Nat) (h : ∀ i, i < n → ∃ a, P i a) : ∃ l : List α, l.length = n ∧ ∀ (i : Nat) (a : α), l[i]? = some a → P i a := by
  induction n with
  | zero => exact ⟨[], rfl, fun i a e => by simp at e⟩
  | succ n ih =>
    obtain ⟨l, hl, hp⟩ := ih (fun i hi => h i (by omega))
    obtain ⟨a, ha⟩ := h n (by omega)
    refine ⟨l ++ [a], by simp [hl], fun i b e => ?_⟩
    by_cases c : i < n
    · rw [List.getElem?_append_left (by omega)] at e
      exact hp i b e
    · have hi : i = n := by
        have := (List.getElem?_eq_some_iff.1 e).1
        simp [hl] at this
        omega
      subst hi
      rw [← hl] at e
      simp at e
      subst e
      exact ha
theorem slice_rowsM {H : Type} {enc : TypeId × Value → H} {W : World} {sp : Nat → Bool} {held : Bool} {fuel : Nat} {cs : List Value} {x : DataW H × List MemPlace} {T E : TypeId} {s : Nat} {Q : List Value → Prop} {M : Nat} (hM : Rows.uptoBulk x.1 ≤ M) (hT : Try.prog.underlying T = some (.slice E)) (hs : Try.prog.cellsOf E = s) (hs0 : 0 < s)
    (hQ : ∀ fuel cs y, DataW.trod enc Try.prog W 0 sp held fuel E cs = some y → Rows.uptoBulk y.1 ≤ M → Q cs ∧ cs.length = s) (hf : DataW.trod enc Try.prog W 0 sp held fuel T cs = some x) :
    ∃ p n c, cs = [.slice p n c] ∧ n ≤ Rows.uptoBulk x.1 ∧ (n = 0 ∨ ∃ bk off, p = some ⟨bk, off, none⟩ ∧ bk < W.heap.size ∧ ∀ i, i < n → ∃ cs' : List Value, Q cs' ∧ ∀ (j : Nat) (u : Value), cs'[j]? = some u → W.cell? ⟨bk, off + (i * s + j), none⟩ = some u) := by
  rcases open_slice hT hf with ⟨hcs, _⟩ | ⟨a, len, cap, m, k, D, Pl, hcs, _, hl, hm, hme, hx, hi⟩
  · exact ⟨none, 0, 0, hcs, Nat.zero_le _, .inl rfl⟩
  · have hmn : len ≤ m := by rw [hme]; split <;> omega
    have hb : len ≤ Rows.uptoBulk x.1 := by
      rw [hx]
      have := bulk_length ((List.range len).map D)
      simp only [Rows.uptoBulk]
      simp at this
      omega
    have hbD : ∀ i, i < len → Rows.uptoBulk (D i) ≤ M := fun i hi2 => by
      refine Nat.le_trans ?_ hM
      rw [hx]
      have := bulk_mem (d := D i) (l := (List.range len).map D) (List.mem_map.2 ⟨i, List.mem_range.2 hi2, rfl⟩)
      simp only [Rows.uptoBulk]
      omega
    refine ⟨some a, len, cap, hcs, hb, ?_⟩
    rcases Nat.eq_zero_or_pos len with h0 | h0
    · exact .inl h0
    · obtain ⟨bk, off, spot⟩ := a
      have hrow : ∀ i, i < len → ∃ cs' : List Value, (Q cs' ∧ cs'.length = s) ∧ ∀ (j : Nat) (u : Value), cs'[j]? = some u → W.cell? ((⟨bk, off, spot⟩ : Addr).add (i * s + j)) = some u := fun i hin => by
        obtain ⟨cs', hc, ht⟩ := hi i (by omega)
        refine ⟨cs', hQ _ _ _ ht (hbD i hin), fun j u hj => ?_⟩
        rw [hs] at hc
        have e2 := cells_each hc j u hj
        have e3 : ((⟨bk, off, spot⟩ : Addr).add (i * s)).add j = (⟨bk, off, spot⟩ : Addr).add (i * s + j) := by
          unfold Addr.add
          split <;> split <;> simp_all <;> omega
        rw [← e3]
        exact e2
      have h00 : ∃ u, W.cell? ((⟨bk, off, spot⟩ : Addr).add 0) = some u := by
        obtain ⟨cs', ⟨_, hl'⟩, ho⟩ := hrow 0 h0
        obtain ⟨u, hu⟩ : ∃ u, cs'[0]? = some u := ⟨cs'[0]'(by omega), List.getElem?_eq_getElem _⟩
        exact ⟨u, by simpa using ho 0 u hu⟩
      obtain ⟨u, hu⟩ := h00
      have hspot : spot = none := by simpa [Addr.add] using World.cell?_spot hu
      subst hspot
      have hbk : bk < W.heap.size := World.block_lt_of_cell? W _ hu
      refine .inr ⟨bk, off, rfl, hbk, fun i hin => ?_⟩
      obtain ⟨cs', ⟨hq, _⟩, ho⟩ := hrow i hin
      refine ⟨cs', hq, fun j u hj => ?_⟩
      have e := ho j u hj
      unfold Addr.add at e
      split at e
      · rename_i z
        have z0 : i * s + j = 0 := by simpa using z
        rw [z0]
        exact e
      · exact e
theorem coU : Try.prog.cellsOf 51 = 1 := by kernel_rfl
theorem coUs : Try.prog.cellsOf 49 = 1 := by kernel_rfl
theorem coK : Try.prog.cellsOf 50 = 1 := by kernel_rfl
theorem coB : Try.prog.cellsOf 4 = 1 := by kernel_rfl
theorem coDo : Try.prog.cellsOf 53 = 5 := by kernel_rfl
theorem coDos : Try.prog.cellsOf 41 = 1 := by kernel_rfl
theorem coPl : Try.prog.cellsOf 43 = 2 := by kernel_rfl
theorem nat_u64 {n : Int} (h : (Lit.int .u64 n).wf = true) : ∃ m : Nat, n = (m : Int) ∧ m < 18446744073709551616 := by
  have b := bounds_u64 h
  exact ⟨n.toNat, by omega, by omega⟩
theorem list5 {α : Type} {cs : List α} (h : cs.length = 5) : ∃ a b c d e, cs = [a, b, c, d, e] := by
  match cs, h with
  | [a, b, c, d, e], _ => exact ⟨a, b, c, d, e, rfl⟩
theorem list2 {α : Type} {cs : List α} (h : cs.length = 2) : ∃ c0 c1, cs = [c0, c1] := by
  match cs, h with
  | [c0, c1], _ => exact ⟨c0, c1, rfl⟩
theorem add_plainY (bk off i : Nat) : (⟨bk, off, none⟩ : Addr).add i = ⟨bk, off + i, none⟩ := by
  unfold Addr.add
  split <;> simp
theorem vals_open {H : Type} {enc : TypeId × Value → H} {W : World} {sp : Nat → Bool} {held : Bool} {fuel : Nat} {cs : List Value} {x : DataW H × List MemPlace} (hM : Rows.uptoBulk x.1 ≤ 1048576) (hf : DataW.trod enc Try.prog W 0 sp held fuel 49 cs = some x) :
    ∃ (p : Option Addr) (c : Nat) (l : List Nat), cs = [.slice p l.length c] ∧ Reads W p l ∧ (∀ ad, p = some ad → l ≠ [] → ad.block < W.heap.size) ∧ (∀ y ∈ l, y < 18446744073709551616) ∧ l.length ≤ 1048576 := by
  obtain ⟨p, n, c, hcs, hb, hr⟩ := slice_rowsM (s := 1) (M := 1048576) hM (Q := fun cs => ∃ k : Nat, k < 18446744073709551616 ∧ cs = [.int .u64 (k : Int)]) Try.underlying49 coU (by decide) (fun fuel cs y hy _ => by
    obtain ⟨z, e, _, w⟩ := DataW.trod_int Try.underlying51 hy
    obtain ⟨k, rfl, hk⟩ := nat_u64 w
    exact ⟨⟨k, hk, e⟩, by rw [e]; rfl⟩) hf
  rcases hr with rfl | ⟨bk, off, rfl, hbk, hr⟩
  · exact ⟨p, c, [], hcs, .inl rfl, fun _ _ h => absurd rfl h, fun y hy => by simp at hy, by simp⟩
  · obtain ⟨l, hl, hp⟩ := choose_list (P := fun i (k : Nat) => k < 18446744073709551616 ∧ W.cell? ⟨bk, off + i, none⟩ = some (.int .u64 (k : Int))) n (fun i hi => by
      obtain ⟨cs', ⟨k, hk, rfl⟩, hc⟩ := hr i hi
      have := hc 0 _ rfl
      simp at this
      exact ⟨k, hk, this⟩)
    subst hl
    refine ⟨_, c, l, hcs, .inr ⟨⟨bk, off, none⟩, rfl, fun j u hj => ?_⟩, fun ad e _ => by injection e with e; rw [← e]; exact hbk, fun y hy => ?_, by omega⟩
    · rw [List.getElem?_map] at hj
      cases hx : l[j]? with
      | none => rw [hx] at hj; simp at hj
      | some y => rw [hx] at hj; simp at hj; rw [← hj, add_plainY]; exact (hp j y hx).2
    · obtain ⟨i, hi⟩ := List.mem_iff_getElem?.1 hy
      exact (hp i y hi).1
theorem do_open {H : Type} {enc : TypeId × Value → H} {W : World} {sp : Nat → Bool} {held : Bool} {fuel : Nat} {cs : List Value} {y : DataW H × List MemPlace} (hf : DataW.trod enc Try.prog W 0 sp held fuel 53 cs = some y) (hM : Rows.uptoBulk y.1 ≤ 1048576) :
    (∃ (d : DoP) (vp : Option Addr) (vc : Nat), cs = [.int .u8 d.kd, .int .u64 (d.ad : Int), .int .u64 (d.a : Int), .int .u64 (d.b : Int), .slice vp d.vals.length vc] ∧ d.Ok ∧ Reads W vp d.vals ∧ ∀ ad, vp = some ad → d.vals ≠ [] → ad.block < W.heap.size) ∧ cs.length = 5 := by
  obtain ⟨xs, n, hn, hx, hl, hlen, hh⟩ := DataW.trod_struct Try.underlying53 hf
  subst hn
  rw [coDo] at hl
  refine ⟨?_, hl⟩
  obtain ⟨c0, c1, c2, c3, c4, rfl⟩ := list5 hl
  obtain ⟨y0, y1, y2, y3, y4, rfl⟩ := list5 (show xs.length = 5 from hlen)
  have h0 : DataW.trod enc Try.prog W 0 sp held n 50 [c0] = some y0 := by have := hh 0 _ rfl; simpa [coK] using this
  have h1 : DataW.trod enc Try.prog W 0 sp held n 51 [c1] = some y1 := by have := hh 1 _ rfl; simpa [coK, coU] using this
  have h2 : DataW.trod enc Try.prog W 0 sp held n 51 [c2] = some y2 := by have := hh 2 _ rfl; simpa [coK, coU] using this
  have h3 : DataW.trod enc Try.prog W 0 sp held n 51 [c3] = some y3 := by have := hh 3 _ rfl; simpa [coK, coU] using this
  have h4 : DataW.trod enc Try.prog W 0 sp held n 49 [c4] = some y4 := by have := hh 4 _ rfl; simpa [coK, coU, coUs] using this
  obtain ⟨z0, e0, _, w0⟩ := DataW.trod_int Try.underlying50 h0
  obtain ⟨z1, e1, _, w1⟩ := DataW.trod_int Try.underlying51 h1
  obtain ⟨z2, e2, _, w2⟩ := DataW.trod_int Try.underlying51 h2
  obtain ⟨z3, e3, _, w3⟩ := DataW.trod_int Try.underlying51 h3
  obtain ⟨m1, rfl, b1⟩ := nat_u64 w1
  obtain ⟨m2, rfl, b2⟩ := nat_u64 w2
  obtain ⟨m3, rfl, b3⟩ := nat_u64 w3
  have q := bulk_mem (d := y4.1) (l := [y0.1, y1.1, y2.1, y3.1, y4.1]) (by simp)
  have hM4 : Rows.uptoBulk y4.1 ≤ 1048576 := by
    rw [hx] at hM
    simp only [Rows.uptoBulk] at hM
    simp at q hM
    omega
  obtain ⟨vp, vc, l, hc, hR, hB, hS, hL⟩ := vals_open hM4 h4
  simp at e0 e1 e2 e3 hc
  subst e0 e1 e2 e3 hc
  have b0 : 0 ≤ z0 ∧ z0 < 256 := by
    simp [Lit.wf, IntKind.min, IntKind.max, IntKind.signed, IntKind.bits] at w0
    omega
  exact ⟨⟨z0, m1, m2, m3, l⟩, vp, vc, rfl, ⟨b0, b1, b2, b3, hS, by simp only; omega⟩, hR, hB⟩
theorem dos_open {H : Type} {enc : TypeId × Value → H} {W : World} {sp : Nat → Bool} {held : Bool} {fuel : Nat} {cs : List Value} {x : DataW H × List MemPlace} (hM : Rows.uptoBulk x.1 ≤ 1048576) (hf : DataW.trod enc Try.prog W 0 sp held fuel 41 cs = some x) :
    ∃ (p : Option Addr) (c : Nat) (L : List DoP), cs = [.slice p L.length c] ∧ DosAt W W.heap.size p L ∧ L.length ≤ 1048576 := by
  obtain ⟨p, n, c, hcs, hb, hr⟩ := slice_rowsM (s := 5) (M := 1048576) hM (Q := fun cs => ∃ (d : DoP) (vp : Option Addr) (vc : Nat), cs = [.int .u8 d.kd, .int .u64 (d.ad : Int), .int .u64 (d.a : Int), .int .u64 (d.b : Int), .slice vp d.vals.length vc] ∧ d.Ok ∧ Reads W vp d.vals ∧ ∀ ad, vp = some ad → d.vals ≠ [] → ad.block < W.heap.size) Try.underlying41 coDo (by decide) (fun fuel cs y hy hyM => do_open hy hyM) hf
  rcases hr with rfl | ⟨bk, off, rfl, hbk, hr⟩
  · exact ⟨p, c, [], hcs, fun i d hd => by simp at hd, by simp⟩
  · obtain ⟨L, hl, hp⟩ := choose_list (P := fun i (d : DoP) => d.Ok ∧ ∃ vp vc, W.cell? ⟨bk, off + i * 5, none⟩ = some (.int .u8 d.kd) ∧ W.cell? ⟨bk, off + i * 5 + 1, none⟩ = some (.int .u64 (d.ad : Int)) ∧ W.cell? ⟨bk, off + i * 5 + 2, none⟩ = some (.int .u64 (d.a : Int)) ∧ W.cell? ⟨bk, off + i * 5 + 3, none⟩ = some (.int .u64 (d.b : Int)) ∧ W.cell? ⟨bk, off + i * 5 + 4, none⟩ = some (.slice vp d.vals.length vc) ∧ Reads W vp d.vals ∧ ∀ ad, vp = some ad → d.vals ≠ [] → ad.block < W.heap.size) n (fun i hi => by
      obtain ⟨cs', ⟨d, vp, vc, rfl, ho, hR, hB⟩, hc⟩ := hr i hi
      exact ⟨d, ho, vp, vc, by have := hc 0 _ rfl; simpa using this, by have := hc 1 _ rfl; simpa [Nat.add_assoc] using this, by have := hc 2 _ rfl; simpa [Nat.add_assoc] using this, by have := hc 3 _ rfl; simpa [Nat.add_assoc] using this, by have := hc 4 _ rfl; simpa [Nat.add_assoc] using this, hR, hB⟩)
    subst hl
    exact ⟨_, c, L, hcs, fun i d hd => by
      obtain ⟨ho, vp, vc, r⟩ := hp i d hd
      exact ⟨ho, bk, off, vp, vc, rfl, hbk, r⟩, by omega⟩
theorem plan_open {H : Type} {enc : TypeId × Value → H} {W : World} {sp : Nat → Bool} {held : Bool} {fuel : Nat} {cs : List Value} {y : DataW H × List MemPlace} (hf : DataW.trod enc Try.prog W 0 sp held fuel 43 cs = some y) (hM : Rows.uptoBulk y.1 ≤ 1048576) :
    (∃ (q : PlP) (lp : Option Addr) (lc : Nat), cs = [.bool q.none, .slice lp q.L.length lc] ∧ DosAt W W.heap.size lp q.L ∧ q.L.length ≤ 1048576) ∧ cs.length = 2 := by
  obtain ⟨xs, n, hn, hx, hl, hlen, hh⟩ := DataW.trod_struct Try.underlying43 hf
  subst hn
  rw [coPl] at hl
  refine ⟨?_, hl⟩
  obtain ⟨c0, c1, rfl⟩ := list2 hl
  obtain ⟨y0, y1, rfl⟩ := list2 (show xs.length = 2 from hlen)
  have h0 : DataW.trod enc Try.prog W 0 sp held n 4 [c0] = some y0 := by have := hh 0 _ rfl; simpa [coB] using this
  have h1 : DataW.trod enc Try.prog W 0 sp held n 41 [c1] = some y1 := by have := hh 1 _ rfl; simpa [coB, coDos] using this
  obtain ⟨z0, e0, _⟩ := DataW.trod_bool Try.underlying4 h0
  have q := bulk_mem (d := y1.1) (l := [y0.1, y1.1]) (by simp)
  have hM1 : Rows.uptoBulk y1.1 ≤ 1048576 := by
    rw [hx] at hM
    simp only [Rows.uptoBulk] at hM
    simp at q hM
    omega
  obtain ⟨lp, lc, L, hc, hD, hL⟩ := dos_open hM1 h1
  simp at e0 hc
  subst e0 hc
  exact ⟨⟨z0, L⟩, lp, lc, rfl, hD, hL⟩
theorem plans_open {H : Type} {enc : TypeId × Value → H} {W : World} {sp : Nat → Bool} {held : Bool} {p : Option Addr} {n c : Nat} {d : DataW H} {ps : List MemPlace} (h : DataW.Trod enc Try.prog W 0 sp held 22 (.slice p n c) d ps) (hM : Rows.uptoBulk d ≤ 1048576) :
    ∃ (l : List PlP) (lp : Nat → Option Addr) (lc : Nat → Nat), l.length = n ∧ PlansAt W W.heap.size p l lp lc ∧ l.length ≤ 1048576 ∧ ∀ q ∈ l, q.L.length ≤ 1048576 := by
  obtain ⟨fuel, hf⟩ := h
  obtain ⟨p', n', c', hcs, hb, hr⟩ := slice_rowsM (s := 2) (M := 1048576) hM (Q := fun cs => ∃ (q : PlP) (lp : Option Addr) (lc : Nat), cs = [.bool q.none, .slice lp q.L.length lc] ∧ DosAt W W.heap.size lp q.L ∧ q.L.length ≤ 1048576) Try.underlying22 coPl (by decide) (fun fuel cs y hy hyM => plan_open hy hyM) hf
  have e : p = p' ∧ n = n' ∧ c = c' := by simpa [Value.cells] using hcs
  obtain ⟨rfl, rfl, rfl⟩ := e
  rcases hr with rfl | ⟨bk, off, rfl, hbk, hr⟩
  · exact ⟨[], fun _ => none, fun _ => 0, rfl, fun i q hq => by simp at hq, by simp, fun q hq => by simp at hq⟩
  · obtain ⟨l, hl, hp⟩ := choose_list (P := fun i (z : PlP × Option Addr × Nat) => W.cell? ⟨bk, off + i * 2, none⟩ = some (.bool z.1.none) ∧ W.cell? ⟨bk, off + i * 2 + 1, none⟩ = some (.slice z.2.1 z.1.L.length z.2.2) ∧ DosAt W W.heap.size z.2.1 z.1.L ∧ z.1.L.length ≤ 1048576) n (fun i hi => by
      obtain ⟨cs', ⟨q, lp, lc, rfl, hD, hL⟩, hc⟩ := hr i hi
      exact ⟨⟨q, lp, lc⟩, by have := hc 0 _ rfl; simpa using this, by have := hc 1 _ rfl; simpa [Nat.add_assoc] using this, hD, hL⟩)
    subst hl
    refine ⟨l.map (·.1), fun i => match l[i]? with | some z => z.2.1 | none => none, fun i => match l[i]? with | some z => z.2.2 | none => 0, by simp, fun i q hq => ?_, by simp; have hb' : _ ≤ Rows.uptoBulk d := hb; omega, fun q hq => ?_⟩
    · rw [List.getElem?_map] at hq
      cases hz : l[i]? with
      | none => rw [hz] at hq; simp at hq
      | some z =>
        rw [hz] at hq
        simp at hq
        subst hq
        obtain ⟨a1, a2, a3, a4⟩ := hp i z hz
        simp only [hz]
        exact ⟨⟨bk, off, rfl, hbk, a1, a2⟩, a3⟩
    · obtain ⟨z, hz, rfl⟩ := List.mem_map.1 hq
      obtain ⟨i, hi⟩ := List.mem_iff_getElem?.1 hz
      exact (hp i z hi).2.2.2
end Go.Proofs.Ytphlhpnhieomiaa
