/- What comes in: a list of numbers; the store of them in both memories (VcasVersions). -/
import Derived.Lib.SmallJoins
import Derived.Deep.Slices
import Derived.Carry
import Derived.OpenShut
import Derived.Test.YtmhflmjhphhppaaRows
import Derived.Test.YtmhflmjhphhppaaVw
namespace Go.Proofs.Ytmhflmjhphhppaa
open Go.RowKit Go.Shelf Go.Joins Go.ChangeShapes Go.WideShapes Go.Deep
set_option linter.unusedVariables false

theorem bulk_one {H : Type} (d : DataW H) : 1 ≤ Rows.uptoBulk d := by
  cases d with
  | lit l => cases l <;> simp [Rows.uptoBulk]
  | nil => simp [Rows.uptoBulk]
  | ptr d => simp [Rows.uptoBulk]
  | slice elems spare => simp [Rows.uptoBulk]
  | agg parts => simp [Rows.uptoBulk]
  | iface t d => simp [Rows.uptoBulk]
  | map entries => simp [Rows.uptoBulk]
  | held h => simp [Rows.uptoBulk]
theorem bulk_length {H : Type} (l : List (DataW H)) : l.length ≤ Rows.uptoBulkAll l := by
  induction l with
  | nil => simp [Rows.uptoBulkAll]
  | cons x r ih => have := bulk_one x; simp only [Rows.uptoBulkAll, List.length_cons]; omega
theorem bulk_mem {H : Type} {d : DataW H} {l : List (DataW H)} (h : d ∈ l) : Rows.uptoBulk d ≤ Rows.uptoBulkAll l := by
  induction l with
  | nil => simp at h
  | cons x r ih =>
    simp only [Rows.uptoBulkAll]
    rcases List.mem_cons.1 h with rfl | h
    · omega
    · have := ih h
      omega
theorem cells_each {w : World} {a : Addr} {n : Nat} {cs : List Value} (h : w.cells? 0 a n = some cs) : ∀ j u, cs[j]? = some u → w.cell? (a.add j) = some u := by
  obtain ⟨_, hl, hc⟩ := World.cells?_some h
  intro j u hj
  have hlt : j < n := by
    have := (List.getElem?_eq_some_iff.1 hj).1
    omega
  rw [hc j hlt, hj]
def isI64 (x : Int) : Prop := -9223372036854775808 ≤ x ∧ x < 9223372036854775808
theorem choose_list {α : Type} {P : Nat → α → Prop} (n : Nat) (h : ∀ i, i < n → ∃ a, P i a) : ∃ l : List α, l.length = n ∧ ∀ (i : Nat) (a : α), l[i]? = some a → P i a := by
  induction n with
  | zero => exact ⟨[], rfl, fun i a e => by simp at e⟩
  | succ n ih =>
    obtain ⟨l, hl, hp⟩ := ih (fun i hi => h i (by omega))
    obtain ⟨a, ha⟩ := h n (by omega)
    refine ⟨l ++ [a], by simp [hl], fun i b e => ?_⟩
    by_cases c : i < n
    · rw [List.getElem?_append_left (by omega)] at e
      exact hp i b e
    · have hi : i = n := by
        have := (List.getElem?_eq_some_iff.1 e).1
        simp [hl] at this
        omega
      subst hi
      rw [← hl] at e
      simp at e
      subst e
      exact ha

/-- A list that came in: its elements' cells. -/
theorem slice_rows {H : Type} {enc : TypeId × Value → H} {W : World} {sp : Nat → Bool} {held : Bool} {fuel : Nat} {cs : List Value} {x : DataW H × List MemPlace} {T E : TypeId} {s : Nat} {Q : List Value → Prop} (hT : Try.prog.underlying T = some (.slice E)) (hs : Try.prog.cellsOf E = s) (hs0 : 0 < s)
    (hQ : ∀ fuel cs y, DataW.trod enc Try.prog W 0 sp held fuel E cs = some y → Q cs ∧ cs.length = s) (hf : DataW.trod enc Try.prog W 0 sp held fuel T cs = some x) :
    ∃ p n c, cs = [.slice p n c] ∧ n ≤ Rows.uptoBulk x.1 ∧ (n = 0 ∨ ∃ bk off, p = some ⟨bk, off, none⟩ ∧ bk < W.heap.size ∧ ∀ i, i < n → ∃ cs' : List Value, Q cs' ∧ ∀ (j : Nat) (u : Value), cs'[j]? = some u → W.cell? ⟨bk, off + (i * s + j), none⟩ = some u) := by
  rcases open_slice hT hf with ⟨hcs, _⟩ | ⟨a, len, cap, m, k, D, Pl, hcs, _, hl, hm, hme, hx, hi⟩
  · exact ⟨none, 0, 0, hcs, Nat.zero_le _, .inl rfl⟩
  · have hmn : len ≤ m := by rw [hme]; split <;> omega
    have hb : len ≤ Rows.uptoBulk x.1 := by
      rw [hx]
      have := bulk_length ((List.range len).map D)
      simp only [Rows.uptoBulk]
      simp at this
      omega
    refine ⟨some a, len, cap, hcs, hb, ?_⟩
    rcases Nat.eq_zero_or_pos len with h0 | h0
    · exact .inl h0
    · obtain ⟨bk, off, spot⟩ := a
      have hrow : ∀ i, i < len → ∃ cs' : List Value, (Q cs' ∧ cs'.length = s) ∧ ∀ (j : Nat) (u : Value), cs'[j]? = some u → W.cell? ((⟨bk, off, spot⟩ : Addr).add (i * s + j)) = some u := fun i hin => by
        obtain ⟨cs', hc, ht⟩ := hi i (by omega)
        refine ⟨cs', hQ _ _ _ ht, fun j u hj => ?_⟩
        rw [hs] at hc
        have e2 := cells_each hc j u hj
        have e3 : ((⟨bk, off, spot⟩ : Addr).add (i * s)).add j = (⟨bk, off, spot⟩ : Addr).add (i * s + j) := by
          unfold Addr.add
          split <;> split <;> simp_all <;> omega
        rw [← e3]
        exact e2
      have h00 : ∃ u, W.cell? ((⟨bk, off, spot⟩ : Addr).add 0) = some u := by
        obtain ⟨cs', ⟨_, hl'⟩, ho⟩ := hrow 0 h0
        obtain ⟨u, hu⟩ : ∃ u, cs'[0]? = some u := ⟨cs'[0]'(by omega), List.getElem?_eq_getElem _⟩
        exact ⟨u, by simpa using ho 0 u hu⟩
      obtain ⟨u, hu⟩ := h00
      have hspot : spot = none := by simpa [Addr.add] using World.cell?_spot hu
      subst hspot
      have hbk : bk < W.heap.size := World.block_lt_of_cell? W _ hu
      refine .inr ⟨bk, off, rfl, hbk, fun i hin => ?_⟩
      obtain ⟨cs', ⟨hq, _⟩, ho⟩ := hrow i hin
      refine ⟨cs', hq, fun j u hj => ?_⟩
      have e := ho j u hj
      unfold Addr.add at e
      split at e
      · rename_i z
        have z0 : i * s + j = 0 := by simpa using z
        rw [z0]
        exact e
      · exact e

theorem coI : Try.prog.cellsOf 3 = 1 := by kernel_rfl
theorem coU : Try.prog.cellsOf 23 = 1 := by kernel_rfl
theorem list2 {α : Type} {cs : List α} (h : cs.length = 2) : ∃ c0 c1, cs = [c0, c1] := by
  match cs, h with
  | [c0, c1], _ => exact ⟨c0, c1, rfl⟩
theorem nat_u64 {n : Int} (h : (Lit.int .u64 n).wf = true) : ∃ m : Nat, n = (m : Int) ∧ m < 18446744073709551616 := by
  have b := bounds_u64 h
  exact ⟨n.toNat, by omega, by omega⟩
def U64At (W : World) (p : Option Addr) (l : List Nat) : Prop := l = [] ∨ ∃ bk off, p = some ⟨bk, off, none⟩ ∧ bk < W.heap.size ∧ ∀ (i x : Nat), l[i]? = some x → x < 18446744073709551616 ∧ W.cell? ⟨bk, off + i, none⟩ = some (.int .u64 (x : Int))
theorem u64s_at {H : Type} {enc : TypeId × Value → H} {W : World} {sp : Nat → Bool} {held : Bool} {p : Option Addr} {n c : Nat} {d : DataW H} {ps : List MemPlace} (h : DataW.Trod enc Try.prog W 0 sp held 22 (.slice p n c) d ps) : ∃ l : List Nat, l.length = n ∧ U64At W p l := by
  obtain ⟨fuel, hf⟩ := h
  obtain ⟨p', n', c', hcs, hb, h⟩ := slice_rows (Q := fun cs => ∃ k, cs = [.int .u64 ((k : Nat) : Int)] ∧ k < 18446744073709551616) Try.underlying22 coU (by decide) (fun fuel cs y hy => by
    obtain ⟨z, e, _, w⟩ := DataW.trod_int Try.underlying23 hy
    obtain ⟨k, rfl, hk⟩ := nat_u64 w
    exact ⟨⟨k, e, hk⟩, by rw [e]; rfl⟩) hf
  have e : p = p' ∧ n = n' ∧ c = c' := by simpa [Value.cells] using hcs
  obtain ⟨rfl, rfl, rfl⟩ := e
  rcases h with rfl | ⟨bk, off, rfl, hbk, h⟩
  · exact ⟨[], rfl, .inl rfl⟩
  · obtain ⟨l, hl, hp⟩ := choose_list (P := fun i (x : Nat) => x < 18446744073709551616 ∧ W.cell? ⟨bk, off + i, none⟩ = some (.int .u64 (x : Int))) n (fun i hi => by
      obtain ⟨cs', ⟨k, rfl, hk⟩, ho⟩ := h i hi
      exact ⟨k, hk, by simpa using ho 0 _ rfl⟩)
    exact ⟨l, hl, .inr ⟨bk, off, rfl, hbk, hp⟩⟩

theorem SR.store {W : World} {m b v : Nat} {th : Int} {most : Nat} {w : World} {next made : Nat} {cs : List Nat} {n : Nat} {D : Nat → Prop} (h : SR W m b v th most w next made cs n D) (a x : Nat) (ha : a < 18446744073709551616) (hx : x < 18446744073709551616) (h1 : made < 1099511627776) (h2 : n < 1099511627776) :
    Calls Try.prog 11 #[.pointer (some ⟨v, 0, none⟩), .int .u64 (a : Int), .int .u64 (x : Int)] w fun e w' => e = .returned (.tuple #[]) ∧ SR W m b v th most w' next (made + 1) (stN most cs a x) (n + 1) D ∧ (∀ k, D k → w'.heap[k]? = w.heap[k]?) ∧ w.heap.size ≤ w'.heap.size := by
  obtain ⟨F, l, S, L, A⟩ := h
  refine (v_store v b most next made th a x F cs l w S.view S.bank S.nv h1 (by omega) ha hx).mono ?_
  rintro e w' ⟨rfl, F', vs, B, V, G⟩
  have z := SR.goes (n := n + 1) S A G B V (by simp [L])
  exact ⟨rfl, z.1, z.2, G.chg.size⟩
theorem SR.grow {W : World} {m b v : Nat} {th : Int} {most : Nat} {w w' : World} {next made : Nat} {cs : List Nat} {n : Nat} {D E : Nat → Prop} (h : SR W m b v th most w next made cs n D) (c : Chg D w w') (hE : ∀ k, E k → D k ∨ w.heap.size ≤ k) (hl : ∀ k, E k → k < w'.heap.size) : SR W m b v th most w' next made cs n E := by
  obtain ⟨F, l, S, L, A⟩ := h
  have z1 := S.view.lt
  have z2 := S.mem.lt
  have z3 := S.chg.size
  refine ⟨F, l, S.chgG c (fun k hk e => (A k e).1 hk) (fun e => (A _ e).2.1 rfl) (fun e => (A _ e).2.2.1 rfl) (fun k hk e => by have := (A k e).2.2.2.1; omega), L, fun k e => ?_⟩
  rcases hE k e with e1 | e1
  · exact ⟨(A k e1).1, (A k e1).2.1, (A k e1).2.2.1, (A k e1).2.2.2.1, hl k e⟩
  · exact ⟨fun x => by have := S.bank.lt' _ x; omega, by omega, by omega, by omega, hl k e⟩
def VB (w : World) (m b v nm : Nat) (k : Nat) (x : World) : Prop := ∃ cs R l, SR w m b v 0 256 x 1 k cs k R ∧ RMem x R nm 256 1 cs l ∧ l.length = k
theorem RMem.kept' {W W' : World} {R : Nat → Prop} {nm n next : Nat} {cs : List Nat} {l : List Acc} (h : RMem W R nm n next cs l) (hs : W.heap.size ≤ W'.heap.size) (hk : ∀ k, R k → W'.heap[k]? = W.heap[k]?) : RMem W' R nm n next cs l := by
  obtain ⟨nc, av, os, h⟩ := h
  exact ⟨nc, av, os, h.kept hs hk⟩
theorem VB.quiet {w : World} {m b v nm k : Nat} {x y : World} (h : VB w m b v nm k x) (c : Chg (fun _ => False) x y) : VB w m b v nm k y := by
  obtain ⟨cs, R, l, S, M, L⟩ := h
  exact ⟨cs, R, l, S.put c (fun k e => e.elim), M.chg c (fun _ _ x => x), L⟩
set_option maxRecDepth 100000 in
theorem nil_isv (W : World) : Calls Try.prog 34 #[.pointer none, .int .u64 0] W fun e W' => e = .returned (.bool false) ∧ W' = W := by
  go_enter Try.func34, Try.ntmps34
  go_wp2_with fail
  refine (nil_mcells _).mono ?_
  rintro e w ⟨rfl, rfl⟩
  go_wp2_with fail
  go_ret
  exact ⟨by simp, rfl⟩
set_option maxRecDepth 100000 in
theorem nil_versions (obj : Nat) (W : World) : Calls Try.prog 13 #[.pointer none, .int .u64 (obj : Int)] W fun e W' => e = .returned (.slice none 0 0) ∧ W' = W := by
  go_enter Try.func13, Try.ntmps13
  go_wp2_with fail
  refine (nil_mpeek _ _).mono ?_
  rintro e w ⟨rfl, rfl⟩
  go_wp2_with fail
  go_loopw [5, 6] (fun s5 s6 wr => s5 = .slice none 0 0 ∧ s6 = .int .u64 0 ∧ wr = w) (fun _ _ _ => 0)
  case atStart => exact ⟨rfl, rfl, rfl⟩
  case round =>
    obtain ⟨rfl, rfl, rfl⟩ := hrel
    go_wp2_with fail
    refine (nil_isv _).mono ?_
    rintro e w2 ⟨rfl, rfl⟩
    go_wp2_with fail
    go_ret
    exact ⟨by simp, rfl⟩
end Go.Proofs.Ytmhflmjhphhppaa
