/- Threads of calls that come in. -/
import Derived.Test.YtbjebnkfecjpnaaKoG
import Derived.Test.YtbjebnkfecjpnaaGq
namespace Go.Proofs.Ytbjebnkfecjpnaa
open Go.RowKit Go.Shelf Go.Joins Go.ChangeShapes Go.WideShapes Go.Deep
set_option linter.unusedVariables false

theorem slice_rowsM {H : Type} {enc : TypeId × Value → H} {W : World} {sp : Nat → Bool} {held : Bool} {fuel : Nat} {cs : List Value} {x : DataW H × List MemPlace} {T E : TypeId} {s : Nat} {Q : List Value → Prop} {M : Nat} (hM : Rows.uptoBulk x.1 ≤ M) (hT : Try.prog.underlying T = some (.slice E)) (hs : Try.prog.cellsOf E = s) (hs0 : 0 < s)
    (hQ : ∀ fuel cs y, DataW.trod enc Try.prog W 0 sp held fuel E cs = some y → Rows.uptoBulk y.1 ≤ M → Q cs ∧ cs.length = s) (hf : DataW.trod enc Try.prog W 0 sp held fuel T cs = some x) :
    ∃ p n c, cs = [.slice p n c] ∧ n ≤ Rows.uptoBulk x.1 ∧ (n = 0 ∨ ∃ bk off, p = some ⟨bk, off, none⟩ ∧ bk < W.heap.size ∧ ∀ i, i < n → ∃ cs' : List Value, Q cs' ∧ ∀ (j : Nat) (u : Value), cs'[j]? = some u → W.cell? ⟨bk, off + (i * s + j), none⟩ = some u) := by
  rcases open_slice hT hf with ⟨hcs, _⟩ | ⟨a, len, cap, m, k, D, Pl, hcs, _, hl, hm, hme, hx, hi⟩
  · exact ⟨none, 0, 0, hcs, Nat.zero_le _, .inl rfl⟩
  · have hmn : len ≤ m := by rw [hme]; split <;> omega
    have hb : len ≤ Rows.uptoBulk x.1 := by
      rw [hx]
      have := bulk_length ((List.range len).map D)
      simp only [Rows.uptoBulk]
      simp at this
      omega
    have hbD : ∀ i, i < len → Rows.uptoBulk (D i) ≤ M := fun i hi2 => by
      refine Nat.le_trans ?_ hM
      rw [hx]
      have := bulk_mem (d := D i) (l := (List.range len).map D) (List.mem_map.2 ⟨i, List.mem_range.2 hi2, rfl⟩)
      simp only [Rows.uptoBulk]
      omega
    refine ⟨some a, len, cap, hcs, hb, ?_⟩
    rcases Nat.eq_zero_or_pos len with h0 | h0
    · exact .inl h0
    · obtain ⟨bk, off, spot⟩ := a
      have hrow : ∀ i, i < len → ∃ cs' : List Value, (Q cs' ∧ cs'.length = s) ∧ ∀ (j : Nat) (u : Value), cs'[j]? = some u → W.cell? ((⟨bk, off, spot⟩ : Addr).add (i * s + j)) = some u := fun i hin => by
        obtain ⟨cs', hc, ht⟩ := hi i (by omega)
        refine ⟨cs', hQ _ _ _ ht (hbD i hin), fun j u hj => ?_⟩
        rw [hs] at hc
        have e2 := cells_each hc j u hj
        have e3 : ((⟨bk, off, spot⟩ : Addr).add (i * s)).add j = (⟨bk, off, spot⟩ : Addr).add (i * s + j) := by
          unfold Addr.add
          split <;> split <;> simp_all <;> omega
        rw [← e3]
        exact e2
      have h00 : ∃ u, W.cell? ((⟨bk, off, spot⟩ : Addr).add 0) = some u := by
        obtain ⟨cs', ⟨_, hl'⟩, ho⟩ := hrow 0 h0
        obtain ⟨u, hu⟩ : ∃ u, cs'[0]? = some u := ⟨cs'[0]'(by omega), List.getElem?_eq_getElem _⟩
        exact ⟨u, by simpa using ho 0 u hu⟩
      obtain ⟨u, hu⟩ := h00
      have hspot : spot = none := by simpa [Addr.add] using World.cell?_spot hu
      subst hspot
      have hbk : bk < W.heap.size := World.block_lt_of_cell? W _ hu
      refine .inr ⟨bk, off, rfl, hbk, fun i hin => ?_⟩
      obtain ⟨cs', ⟨hq, _⟩, ho⟩ := hrow i hin
      refine ⟨cs', hq, fun j u hj => ?_⟩
      have e := ho j u hj
      unfold Addr.add at e
      split at e
      · rename_i z
        have z0 : i * s + j = 0 := by simpa using z
        rw [z0]
        exact e
      · exact e


theorem coInt' : Try.prog.cellsOf 3 = 1 := by kernel_rfl
theorem coC : Try.prog.cellsOf 72 = 6 := by kernel_rfl
theorem coCs : Try.prog.cellsOf 67 = 1 := by kernel_rfl
theorem list5 {α : Type} {cs : List α} (h : cs.length = 5) : ∃ a b c d e, cs = [a, b, c, d, e] := by
  match cs, h with
  | [a, b, c, d, e], _ => exact ⟨a, b, c, d, e, rfl⟩
theorem list6 {α : Type} {cs : List α} (h : cs.length = 6) : ∃ a b c d e f, cs = [a, b, c, d, e, f] := by
  match cs, h with
  | [a, b, c, d, e, f], _ => exact ⟨a, b, c, d, e, f, rfl⟩
theorem call_open {H : Type} {enc : TypeId × Value → H} {W : World} {sp : Nat → Bool} {held : Bool} {fuel : Nat} {cs : List Value} {y : DataW H × List MemPlace} (hf : DataW.trod enc Try.prog W 0 sp held fuel 72 cs = some y) (hM : Rows.uptoBulk y.1 ≤ 1048576) :
    (∃ k : CallA, cs = k.cells ∧ k.ok ∧ U64At W k.q k.l) ∧ cs.length = 6 := by
  obtain ⟨xs, n, hn, hx, hl, hlen, hh⟩ := DataW.trod_struct Try.underlying72 hf
  subst hn
  rw [coC] at hl
  refine ⟨?_, hl⟩
  obtain ⟨c0, c1, c2, c3, c4, c5, rfl⟩ := list6 hl
  obtain ⟨y0, y1, y2, y3, y4, rfl⟩ := list5 (show xs.length = 5 from hlen)
  have h0 : DataW.trod enc Try.prog W 0 sp held n 3 [c0] = some y0 := by have := hh 0 _ rfl; simpa [coInt'] using this
  have h1 : DataW.trod enc Try.prog W 0 sp held n 22 [c1] = some y1 := by have := hh 1 _ rfl; simpa [coInt', coU] using this
  have h2 : DataW.trod enc Try.prog W 0 sp held n 22 [c2] = some y2 := by have := hh 2 _ rfl; simpa [coInt', coU] using this
  have h3 : DataW.trod enc Try.prog W 0 sp held n 22 [c3] = some y3 := by have := hh 3 _ rfl; simpa [coInt', coU] using this
  have h4 : DataW.trod enc Try.prog W 0 sp held n 25 [c4, c5] = some y4 := by have := hh 4 _ rfl; simpa [coInt', coU, coN] using this
  obtain ⟨z0, e0, _, w0⟩ := DataW.trod_int Try.underlying3 h0
  obtain ⟨z1, e1, _, w1⟩ := DataW.trod_int Try.underlying22 h1
  obtain ⟨z2, e2, _, w2⟩ := DataW.trod_int Try.underlying22 h2
  obtain ⟨z3, e3, _, w3⟩ := DataW.trod_int Try.underlying22 h3
  obtain ⟨m1, rfl, b1⟩ := nat_u64 w1
  obtain ⟨m2, rfl, b2⟩ := nat_u64 w2
  obtain ⟨m3, rfl, b3⟩ := nat_u64 w3
  have hT : DataW.Trod enc Try.prog W 0 sp held 25 (.agg #[c4, c5]) y4.1 y4.2 := ⟨n, by simpa [Value.cells] using h4⟩
  obtain ⟨F, p, c, l, hc, hF, hU, hb, _⟩ := need_open hT
  simp at e0 e1 e2 e3 hc
  obtain ⟨rfl, rfl⟩ := hc
  subst e0 e1 e2 e3
  have q := bulk_mem (d := y4.1) (l := [y0.1, y1.1, y2.1, y3.1, y4.1]) (by simp)
  have hl2 : l.length ≤ 1048576 := by
    rw [hx] at hM
    simp only [Rows.uptoBulk] at hM
    simp at q hM
    omega
  exact ⟨⟨z0, m1, m2, m3, F, p, c, l⟩, rfl, ⟨b1, b2, b3, hl2, hU.small⟩, hU⟩

structure ThrA where
  p : Option Addr
  c : Nat
  ks : List CallA
def ThrA.v (t : ThrA) : Value := .slice t.p t.ks.length t.c
def KsAt (W : World) (t : ThrA) : Prop := t.ks = [] ∨ ∃ bk off, t.p = some ⟨bk, off, none⟩ ∧ bk < W.heap.size ∧ ∀ i k, t.ks[i]? = some k → ∀ (j : Nat) (u : Value), k.cells[j]? = some u → W.cell? ⟨bk, off + (i * 6 + j), none⟩ = some u
structure ThsAt (W : World) (p : Option Addr) (L : List ThrA) : Prop where
  row : L = [] ∨ ∃ bk off, p = some ⟨bk, off, none⟩ ∧ bk < W.heap.size ∧ ∀ i t, L[i]? = some t → W.cell? ⟨bk, off + i, none⟩ = some t.v
  ks : ∀ t ∈ L, KsAt W t
  len : ∀ t ∈ L, t.ks.length ≤ 1048576
  ok : ∀ t ∈ L, ∀ k ∈ t.ks, k.ok
  st : ∀ t ∈ L, ∀ k ∈ t.ks, U64At W k.q k.l
theorem ThsAt.chg {W X : World} {p : Option Addr} {L : List ThrA} (h : ThsAt W p L) (c : Chg (fun _ => False) W X) : ThsAt X p L := by
  refine ⟨?_, fun t ht => ?_, h.len, h.ok, fun t ht k hk => (h.st t ht k hk).chg c (fun _ _ _ _ e => e)⟩
  · rcases h.row with e | ⟨bk, off, rfl, hb, hc⟩
    · exact .inl e
    · exact .inr ⟨bk, off, rfl, Nat.lt_of_lt_of_le hb c.size, fun i t ht => cell_chg c (hc i t ht) (fun h => h)⟩
  · rcases h.ks t ht with e | ⟨bk, off, e, hb, hc⟩
    · exact .inl e
    · exact .inr ⟨bk, off, e, Nat.lt_of_lt_of_le hb c.size, fun i k hk j u hj => cell_chg c (hc i k hk j u hj) (fun h => h)⟩
theorem ths_open {H : Type} {enc : TypeId × Value → H} {W : World} {sp : Nat → Bool} {held : Bool} {p : Option Addr} {n c : Nat} {d : DataW H} {ps : List MemPlace} (h : DataW.Trod enc Try.prog W 0 sp held 62 (.slice p n c) d ps) (hM : Rows.uptoBulk d ≤ 1048576) :
    ∃ L : List ThrA, L.length = n ∧ ThsAt W p L ∧ n ≤ Rows.uptoBulk d := by
  obtain ⟨fuel, hf⟩ := h
  obtain ⟨p', n', c', hcs, hb, h⟩ := slice_rowsM (M := 1048576) hM (Q := fun cs => ∃ t : ThrA, cs = [t.v] ∧ KsAt W t ∧ t.ks.length ≤ 1048576 ∧ (∀ k ∈ t.ks, k.ok) ∧ ∀ k ∈ t.ks, U64At W k.q k.l) Try.underlying62 coCs (by decide) (fun fuel cs y hy hyM => by
    obtain ⟨q, m, e, hcs2, hb2, h2⟩ := slice_rowsM (M := 1048576) hyM (Q := fun cs => ∃ k : CallA, cs = k.cells ∧ k.ok ∧ U64At W k.q k.l) Try.underlying67 coC (by decide) (fun fuel cs y hy hyM => call_open hy hyM) hy
    refine ⟨?_, by rw [hcs2]; rfl⟩
    rcases h2 with rfl | ⟨bk, off, rfl, hbk, h2⟩
    · exact ⟨⟨q, e, []⟩, hcs2, .inl rfl, by simp, fun k hk => by simp at hk, fun k hk => by simp at hk⟩
    · obtain ⟨l, hl, hp⟩ := choose_list (P := fun i (k : CallA) => (k.ok ∧ U64At W k.q k.l) ∧ ∀ (j : Nat) (u : Value), k.cells[j]? = some u → W.cell? ⟨bk, off + (i * 6 + j), none⟩ = some u) m (fun i hi => by
        obtain ⟨cs', ⟨k, rfl, hk, hu⟩, ho⟩ := h2 i hi
        exact ⟨k, ⟨hk, hu⟩, ho⟩)
      have mem : ∀ k ∈ l, k.ok ∧ U64At W k.q k.l := fun k hk => by
        obtain ⟨i, hi⟩ := List.mem_iff_getElem?.1 hk
        exact (hp i k hi).1
      refine ⟨⟨some ⟨bk, off, none⟩, e, l⟩, by rw [hcs2]; simp [ThrA.v, hl], .inr ⟨bk, off, rfl, hbk, fun i k hk => (hp i k hk).2⟩, by simp only [hl]; omega, fun k hk => (mem k hk).1, fun k hk => (mem k hk).2⟩) hf
  have e : p = p' ∧ n = n' ∧ c = c' := by simpa [Value.cells] using hcs
  obtain ⟨rfl, rfl, rfl⟩ := e
  rcases h with rfl | ⟨bk, off, rfl, hbk, h⟩
  · exact ⟨[], rfl, ⟨.inl rfl, fun t ht => by simp at ht, fun t ht => by simp at ht, fun t ht => by simp at ht, fun t ht => by simp at ht⟩, hb⟩
  · obtain ⟨l, hl, hp⟩ := choose_list (P := fun i (t : ThrA) => (KsAt W t ∧ t.ks.length ≤ 1048576 ∧ (∀ k ∈ t.ks, k.ok) ∧ ∀ k ∈ t.ks, U64At W k.q k.l) ∧ W.cell? ⟨bk, off + i, none⟩ = some t.v) n (fun i hi => by
      obtain ⟨cs', ⟨t, rfl, ht⟩, ho⟩ := h i hi
      exact ⟨t, ht, by simpa using ho 0 _ rfl⟩)
    have mem : ∀ t ∈ l, KsAt W t ∧ t.ks.length ≤ 1048576 ∧ (∀ k ∈ t.ks, k.ok) ∧ ∀ k ∈ t.ks, U64At W k.q k.l := fun t ht => by
      obtain ⟨i, hi⟩ := List.mem_iff_getElem?.1 ht
      exact (hp i t hi).1
    exact ⟨l, hl, ⟨.inr ⟨bk, off, rfl, hbk, fun i t ht => (hp i t ht).2⟩, fun t ht => (mem t ht).1, fun t ht => (mem t ht).2.1, fun t ht => (mem t ht).2.2.1, fun t ht => (mem t ht).2.2.2⟩, hb⟩

set_option maxRecDepth 100000 in
set_option maxHeartbeats 1000000 in
theorem l_long (p : Option Addr) (c : Nat) (L : List ThrA) (W : World) (h : ThsAt W p L) (hl : L.length ≤ 1048576) :
    Calls Try.prog 30 #[.slice p L.length c] W fun e W' => e = .returned (.bool (L.any fun t => decide (4096 < t.ks.length))) ∧ W' = W := by
  have H := keepH h
  clear h
  go_enter Try.func30, Try.ntmps30
  go_wp2_with fail
  go_loopw [3] (fun s wr => ∃ k : Nat, k ≤ L.length ∧ s = .int .i64 (k : Int) ∧ wr = W ∧ Hid (∀ j x, j < k → L[j]? = some x → ¬ 4096 < x.ks.length)) (fun s _ => L.length - (intOf s).toNat)
  case atStart => exact ⟨0, by omega, rfl, rfl, fun j x hj => absurd hj (Nat.not_lt_zero _)⟩
  case round =>
    obtain ⟨k, hk, rfl, rfl, HK⟩ := hrel
    by_cases hlt : k < L.length
    · have t2 : (k : Int) < (L.length : Int) := by omega
      obtain ⟨x, hx⟩ : ∃ x, L[k]? = some x := ⟨L[k], List.getElem?_eq_getElem hlt⟩
      obtain ⟨bk, off, hp, hb, hc0⟩ := H.out.row.resolve_left (fun e => by rw [e] at hlt; simp at hlt)
      subst hp
      have hc := hc0 k x hx
      unfold ThrA.v at hc
      clear hc0
      by_cases h2 : 4096 < x.ks.length
      · have t3 : (4096 : Int) < (x.ks.length : Int) := by omega
        go_wp2_with fail
        go_ret
        refine ⟨?_, rfl⟩
        have e : (L.any fun t => decide (4096 < t.ks.length)) = true := List.any_eq_true.2 ⟨x, List.mem_of_getElem? hx, by simpa using h2⟩
        simp [e]
      · have t3 : ¬ (4096 : Int) < (x.ks.length : Int) := by omega
        go_wp2_with fail
        go_roundw
        case rel => exact ⟨k + 1, by omega, by go_num, by first | trivial | rfl, fun j y hj hy => by
            by_cases e : j = k
            · subst e
              rw [hx] at hy
              simp at hy
              subst hy
              exact h2
            · exact HK.out j y (by omega) hy⟩
        case measure => simp [intOf]; omega
    · obtain rfl : k = L.length := by omega
      go_wp2_with fail
      go_ret
      refine ⟨?_, rfl⟩
      have e : (L.any fun t => decide (4096 < t.ks.length)) = false := by
        rw [List.any_eq_false]
        intro x hx
        obtain ⟨j, hj⟩ := List.getElem?_of_mem hx
        have := HK.out j x (List.getElem?_eq_some_iff.1 hj).1 hj
        simpa using this
      simp [e]
end Go.Proofs.Ytbjebnkfecjpnaa
