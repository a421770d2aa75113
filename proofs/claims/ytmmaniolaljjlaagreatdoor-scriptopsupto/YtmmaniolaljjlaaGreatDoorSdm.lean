/- What comes in: an operation, an answer. (mkSdm.py) -/
import Derived.Lib.SmallJoins
import Derived.Deep.Slices
import Derived.Carry
import Derived.OpenShut
import Derived.SizedLaws
import Derived.Test.YtmmaniolaljjlaaGreatDoorRows
import Derived.Test.YtmmaniolaljjlaaGreatDoorSdf
import Derived.Test.YtmmaniolaljjlaaGreatDoorScp
namespace Go.Proofs.YtmmaniolaljjlaaGreatDoor
open Go.RowKit Go.Joins Go.ChangeShapes Go.WideShapes Go.Deep
set_option linter.unusedVariables false

theorem bulk_one {H : Type} (d : DataW H) : 1 ≤ Rows.uptoBulk d := by
  cases d with
  | lit l => cases l <;> simp [Rows.uptoBulk]
  | nil => simp [Rows.uptoBulk]
  | ptr d => simp [Rows.uptoBulk]
  | slice elems spare => simp [Rows.uptoBulk]
  | agg parts => simp [Rows.uptoBulk]
  | iface t d => simp [Rows.uptoBulk]
  | map entries => simp [Rows.uptoBulk]
  | held h => simp [Rows.uptoBulk]
theorem bulk_length {H : Type} (l : List (DataW H)) : l.length ≤ Rows.uptoBulkAll l := by
  induction l with
  | nil => simp [Rows.uptoBulkAll]
  | cons x r ih => have := bulk_one x; simp only [Rows.uptoBulkAll, List.length_cons]; omega
theorem cells_each {w : World} {a : Addr} {n : Nat} {cs : List Value} (h : w.cells? 0 a n = some cs) : ∀ j u, cs[j]? = some u → w.cell? (a.add j) = some u := by
  obtain ⟨_, hl, hc⟩ := World.cells?_some h
  intro j u hj
  have hlt : j < n := by
    have := (List.getElem?_eq_some_iff.1 hj).1
    omega
  rw [hc j hlt, hj]
theorem choose_list {α : Type} {P : Nat → α → Prop} (n : Nat) (h : ∀ i, i < n → ∃ a, P i a) : ∃ l : List α, l.length = n ∧ ∀ (i : Nat) (a : α), l[i]? = some a → P i a := by
  induction n with
  | zero => exact ⟨[], rfl, fun i a e => by simp at e⟩
  | succ n ih =>
    obtain ⟨l, hl, hp⟩ := ih (fun i hi => h i (by omega))
    obtain ⟨a, ha⟩ := h n (by omega)
    refine ⟨l ++ [a], by simp [hl], fun i b e => ?_⟩
    by_cases c : i < n
    · rw [List.getElem?_append_left (by omega)] at e
      exact hp i b e
    · have hi : i = n := by
        have := (List.getElem?_eq_some_iff.1 e).1
        simp [hl] at this
        omega
      subst hi
      rw [← hl] at e
      simp at e
      subst e
      exact ha
/-- A list that came in: its elements' cells, each with its bulk. -/
theorem slice_rowsS {H : Type} {enc : TypeId × Value → H} {W : World} {sp : Nat → Bool} {held : Bool} {fuel : Nat} {cs : List Value} {x : DataW H × List MemPlace} {T E : TypeId} {s : Nat} {Q : Nat → List Value → Prop} (hT : Tryz.prog.underlying T = some (.slice E)) (hs : Tryz.prog.cellsOf E = s) (hs0 : 0 < s)
    (hQ : ∀ fuel cs y, DataW.trod enc Tryz.prog W 0 sp held fuel E cs = some y → Q (Rows.uptoBulk y.1) cs ∧ cs.length = s) (hf : DataW.trod enc Tryz.prog W 0 sp held fuel T cs = some x) :
    ∃ p n c, cs = [.slice p n c] ∧ ∃ bu : List Nat, bu.length = n ∧ bu.sum + 1 ≤ Rows.uptoBulk x.1 ∧ (n = 0 ∨ ∃ bk off, p = some ⟨bk, off, none⟩ ∧ bk < W.heap.size ∧ ∀ i, i < n → ∃ cs' : List Value, (∃ w, bu[i]? = some w ∧ Q w cs') ∧ ∀ (j : Nat) (u : Value), cs'[j]? = some u → W.cell? ⟨bk, off + (i * s + j), none⟩ = some u) := by
  rcases open_slice hT hf with ⟨hcs, hx0⟩ | ⟨a, len, cap, m, k, D, Pl, hcs, _, hl, hm, hme, hx, hi⟩
  · exact ⟨none, 0, 0, hcs, [], rfl, by simpa using bulk_one x.1, .inl rfl⟩
  · have hmn : len ≤ m := by rw [hme]; split <;> omega
    have hsum : ∀ (l : List (DataW H)), (l.map Rows.uptoBulk).sum = Rows.uptoBulkAll l := by
      intro l
      induction l with
      | nil => rfl
      | cons d r ih => simp [Rows.uptoBulkAll, ih]
    refine ⟨some a, len, cap, hcs, ((List.range len).map D).map Rows.uptoBulk, by simp, ?_, ?_⟩
    · rw [hsum, hx]
      simp only [Rows.uptoBulk]
      omega
    rcases Nat.eq_zero_or_pos len with h0 | h0
    · exact .inl h0
    · obtain ⟨bk, off, spot⟩ := a
      have hrow : ∀ i, i < len → ∃ cs' : List Value, ((∃ w, (((List.range len).map D).map Rows.uptoBulk)[i]? = some w ∧ Q w cs') ∧ cs'.length = s) ∧ ∀ (j : Nat) (u : Value), cs'[j]? = some u → W.cell? ((⟨bk, off, spot⟩ : Addr).add (i * s + j)) = some u := fun i hin => by
        obtain ⟨cs', hc, ht⟩ := hi i (by omega)
        obtain ⟨q1, q2⟩ := hQ _ _ _ ht
        refine ⟨cs', ⟨⟨_, by simp [hin], q1⟩, q2⟩, fun j u hj => ?_⟩
        rw [hs] at hc
        have e2 := cells_each hc j u hj
        have e3 : ((⟨bk, off, spot⟩ : Addr).add (i * s)).add j = (⟨bk, off, spot⟩ : Addr).add (i * s + j) := by
          unfold Addr.add
          split <;> split <;> simp_all <;> omega
        rw [← e3]
        exact e2
      have h00 : ∃ u, W.cell? ((⟨bk, off, spot⟩ : Addr).add 0) = some u := by
        obtain ⟨cs', ⟨_, hl'⟩, ho⟩ := hrow 0 h0
        obtain ⟨u, hu⟩ : ∃ u, cs'[0]? = some u := ⟨cs'[0]'(by omega), List.getElem?_eq_getElem _⟩
        exact ⟨u, by simpa using ho 0 u hu⟩
      obtain ⟨u, hu⟩ := h00
      have hspot : spot = none := by simpa [Addr.add] using World.cell?_spot hu
      subst hspot
      have hbk : bk < W.heap.size := World.block_lt_of_cell? W _ hu
      refine .inr ⟨bk, off, rfl, hbk, fun i hin => ?_⟩
      obtain ⟨cs', ⟨hq, _⟩, ho⟩ := hrow i hin
      refine ⟨cs', hq, fun j u hj => ?_⟩
      have e := ho j u hj
      unfold Addr.add at e
      split at e
      · rename_i z
        have z0 : i * s + j = 0 := by simpa using z
        rw [z0]
        exact e
      · exact e
theorem cut_next {cs f : List Value} {o s : Nat} (h : (cs.drop o).take s = f) : cs.drop o = f ++ cs.drop (o + s) := by
  rw [← h, ← List.drop_drop, List.take_append_drop]
theorem nat_u64 {n : Int} (h : (Lit.int .u64 n).wf = true) : ∃ m : Nat, n = (m : Int) ∧ m < 18446744073709551616 := by
  have b := bounds_u64 h
  exact ⟨n.toNat, by omega, by omega⟩
theorem nat_u8 {n : Int} (h : (Lit.int .u8 n).wf = true) : ∃ m : Nat, n = (m : Int) ∧ m < 256 := by
  have b := bounds_u8 h
  exact ⟨n.toNat, by omega, by omega⟩
theorem co_u : Tryz.prog.cellsOf 23 = 1 := by kernel_rfl
theorem co_us : Tryz.prog.cellsOf 26 = 1 := by kernel_rfl
theorem co_i : Tryz.prog.cellsOf 3 = 1 := by kernel_rfl
theorem co_b : Tryz.prog.cellsOf 4 = 1 := by kernel_rfl
theorem vals_open {H : Type} {enc : TypeId × Value → H} {W : World} {sp : Nat → Bool} {held : Bool} {fuel : Nat} {cs : List Value} {x : DataW H × List MemPlace} (h : DataW.trod enc Tryz.prog W 0 sp held fuel 26 cs = some x) :
    ∃ (p : Option Addr) (c : Nat) (l : List Nat), cs = [.slice p l.length c] ∧ KRd W p l ∧ (∀ u ∈ l, isU u) ∧ l.length + 1 ≤ Rows.uptoBulk x.1 := by
  obtain ⟨p, n, c, hcs, bu, hbl, hbs, hr⟩ := slice_rowsS (s := 1) (Q := fun w cs => 1 ≤ w ∧ ∃ k : Nat, k < 18446744073709551616 ∧ cs = [.int .u64 (k : Int)]) Tryz.underlying26 co_u (by decide) (fun fuel cs y hy => by
    obtain ⟨z, e, _, w⟩ := DataW.trod_int Tryz.underlying23 hy
    obtain ⟨k, rfl, hk⟩ := nat_u64 w
    exact ⟨⟨bulk_one _, k, hk, e⟩, by rw [e]; rfl⟩) h
  rcases hr with rfl | ⟨bk, off, rfl, hbk, hr⟩
  · exact ⟨p, c, [], hcs, .inl rfl, fun u hu => by simp at hu, by simpa using bulk_one x.1⟩
  · obtain ⟨l, hl, hp⟩ := choose_list (P := fun i (k : Nat) => (1 ≤ bu.getD i 0) ∧ k < 18446744073709551616 ∧ W.cell? ⟨bk, off + i, none⟩ = some (.int .u64 (k : Int))) n (fun i hi => by
      obtain ⟨cs', ⟨w, hw, h1, k, hk, rfl⟩, hc⟩ := hr i hi
      refine ⟨k, by simp [List.getD, hw]; exact h1, hk, ?_⟩
      have := hc 0 _ rfl
      simpa using this)
    have hsum : ∀ (b : List Nat), (∀ i, i < b.length → 1 ≤ b.getD i 0) → b.length ≤ b.sum := by
      intro b
      induction b with
      | nil => intro _; simp
      | cons z r ih =>
        intro hb
        have h0 := hb 0 (by simp)
        have h1 := ih (fun i hi => by have := hb (i + 1) (by simp; omega); simpa using this)
        simp only [List.length_cons, List.sum_cons]
        simp at h0
        omega
    subst hl
    refine ⟨_, c, l, hcs, .inr ⟨bk, off, rfl, hbk, fun i u hu => (hp i u hu).2.2⟩, fun u hu => ?_, ?_⟩
    · obtain ⟨i, hi, rfl⟩ := List.getElem_of_mem hu
      exact (hp i _ (List.getElem?_eq_getElem hi)).2.1
    · have := hsum bu (fun i hi => by
        rw [hbl] at hi
        exact (hp i l[i] (List.getElem?_eq_getElem hi)).1)
      omega
theorem list2 {α : Type} {cs : List α} (h : cs.length = 2) : ∃ c0 c1, cs = [c0, c1] := by
  match cs, h with
  | [c0, c1], _ => exact ⟨c0, c1, rfl⟩
theorem list3 {α : Type} {cs : List α} (h : cs.length = 3) : ∃ c0 c1 c2, cs = [c0, c1, c2] := by
  match cs, h with
  | [c0, c1, c2], _ => exact ⟨c0, c1, c2, rfl⟩
theorem list7 {α : Type} {cs : List α} (h : cs.length = 7) : ∃ c0 c1 c2 c3 c4 c5 c6, cs = [c0, c1, c2, c3, c4, c5, c6] := by
  match cs, h with
  | [c0, c1, c2, c3, c4, c5, c6], _ => exact ⟨c0, c1, c2, c3, c4, c5, c6, rfl⟩
theorem list9 {α : Type} {cs : List α} (h : cs.length = 9) : ∃ c0 c1 c2 c3 c4 c5 c6 c7 c8, cs = [c0, c1, c2, c3, c4, c5, c6, c7, c8] := by
  match cs, h with
  | [c0, c1, c2, c3, c4, c5, c6, c7, c8], _ => exact ⟨c0, c1, c2, c3, c4, c5, c6, c7, c8, rfl⟩
theorem list11 {α : Type} {cs : List α} (h : cs.length = 11) : ∃ c0 c1 c2 c3 c4 c5 c6 c7 c8 c9 c10, cs = [c0, c1, c2, c3, c4, c5, c6, c7, c8, c9, c10] := by
  match cs, h with
  | [c0, c1, c2, c3, c4, c5, c6, c7, c8, c9, c10], _ => exact ⟨c0, c1, c2, c3, c4, c5, c6, c7, c8, c9, c10, rfl⟩
theorem co_o : Tryz.prog.cellsOf 22 = 1 := by kernel_rfl
theorem co_e : Tryz.prog.cellsOf 29 = 1 := by kernel_rfl
theorem co_ps : Tryz.prog.cellsOf 30 = 1 := by kernel_rfl
theorem co_r : Tryz.prog.cellsOf 25 = 3 := by kernel_rfl
theorem co_op : Tryz.prog.cellsOf 28 = 11 := by kernel_rfl
theorem co_an : Tryz.prog.cellsOf 32 = 7 := by kernel_rfl
theorem co_pr : Tryz.prog.cellsOf 74 = 2 := by kernel_rfl
theorem pair_open {H : Type} {enc : TypeId × Value → H} {W : World} {sp : Nat → Bool} {held : Bool} {fuel : Nat} {cs : List Value} {x : DataW H × List MemPlace} (h : DataW.trod enc Tryz.prog W 0 sp held fuel 74 cs = some x) : ∃ a b : Nat, cs = [.int .u64 (a : Int), .int .u64 (b : Int)] ∧ isU a ∧ isU b := by
  obtain ⟨xs, n, hn, hx, hl, hlen, hh⟩ := DataW.trod_struct Tryz.underlying74 h
  rw [co_pr] at hl
  obtain ⟨c0, c1, rfl⟩ := list2 hl
  obtain ⟨y0, y1, rfl⟩ := list2 (show xs.length = 2 from hlen)
  have h0 : DataW.trod enc Tryz.prog W 0 sp held n 23 [c0] = some y0 := by have := hh 0 _ rfl; simpa [co_u] using this
  have h1 : DataW.trod enc Tryz.prog W 0 sp held n 23 [c1] = some y1 := by have := hh 1 _ rfl; simpa [co_u] using this
  obtain ⟨z0, e0, _, w0⟩ := DataW.trod_int Tryz.underlying23 h0
  obtain ⟨z1, e1, _, w1⟩ := DataW.trod_int Tryz.underlying23 h1
  obtain ⟨a, rfl, ha⟩ := nat_u64 w0
  obtain ⟨b, rfl, hb⟩ := nat_u64 w1
  simp at e0 e1
  subst e0 e1
  exact ⟨a, b, rfl, ha, hb⟩
theorem pairs_open {H : Type} {enc : TypeId × Value → H} {W : World} {sp : Nat → Bool} {held : Bool} {fuel : Nat} {cs : List Value} {x : DataW H × List MemPlace} (h : DataW.trod enc Tryz.prog W 0 sp held fuel 30 cs = some x) :
    ∃ (p : Option Addr) (c : Nat) (l : List (Nat × Nat)), cs = [.slice p l.length c] ∧ PRd W p l ∧ (∀ q ∈ l, isU q.1 ∧ isU q.2) ∧ l.length + 1 ≤ Rows.uptoBulk x.1 := by
  obtain ⟨p, n, c, hcs, bu, hbl, hbs, hr⟩ := slice_rowsS (s := 2) (Q := fun w cs => 1 ≤ w ∧ ∃ a b : Nat, (isU a ∧ isU b) ∧ cs = [.int .u64 (a : Int), .int .u64 (b : Int)]) Tryz.underlying30 co_pr (by decide) (fun fuel cs y hy => by
    obtain ⟨a, b, e, ha, hb⟩ := pair_open hy
    exact ⟨⟨bulk_one _, a, b, ⟨ha, hb⟩, e⟩, by rw [e]; rfl⟩) h
  rcases hr with rfl | ⟨bk, off, rfl, hbk, hr⟩
  · exact ⟨p, c, [], hcs, .inl rfl, fun u hu => by simp at hu, by simpa using bulk_one x.1⟩
  · obtain ⟨l, hl, hp⟩ := choose_list (P := fun i (k : Nat × Nat) => (1 ≤ bu.getD i 0) ∧ (isU k.1 ∧ isU k.2) ∧ W.cell? ⟨bk, off + i * 2, none⟩ = some (.int .u64 (k.1 : Int)) ∧ W.cell? ⟨bk, off + i * 2 + 1, none⟩ = some (.int .u64 (k.2 : Int))) n (fun i hi => by
      obtain ⟨cs', ⟨w, hw, h1, a, b, hk, rfl⟩, hc⟩ := hr i hi
      refine ⟨(a, b), by simp [List.getD, hw]; exact h1, hk, ?_, ?_⟩
      · have := hc 0 _ rfl
        simpa using this
      · have := hc 1 _ rfl
        rw [← Nat.add_assoc] at this
        exact this)
    have hsum : ∀ (b : List Nat), (∀ i, i < b.length → 1 ≤ b.getD i 0) → b.length ≤ b.sum := by
      intro b
      induction b with
      | nil => intro _; simp
      | cons z r ih =>
        intro hb
        have h0 := hb 0 (by simp)
        have h1 := ih (fun i hi => by have := hb (i + 1) (by simp; omega); simpa using this)
        simp only [List.length_cons, List.sum_cons]
        simp at h0
        omega
    subst hl
    refine ⟨_, c, l, hcs, .inr ⟨bk, off, rfl, hbk, fun i a b hu => (hp i (a, b) hu).2.2⟩, fun u hu => ?_, ?_⟩
    · obtain ⟨i, hi, rfl⟩ := List.getElem_of_mem hu
      exact (hp i _ (List.getElem?_eq_getElem hi)).2.1
    · have := hsum bu (fun i hi => by
        rw [hbl] at hi
        exact (hp i l[i] (List.getElem?_eq_getElem hi)).1)
      omega
theorem ref_open {H : Type} {enc : TypeId × Value → H} {W : World} {sp : Nat → Bool} {held : Bool} {fuel : Nat} {cs : List Value} {x : DataW H × List MemPlace} (h : DataW.trod enc Tryz.prog W 0 sp held fuel 25 cs = some x) : ∃ (s : Bool) (a b : Int), cs = [.bool s, .int .i64 a, .int .i64 b] ∧ isI a ∧ isI b := by
  obtain ⟨xs, n, hn, hx, hl, hlen, hh⟩ := DataW.trod_struct Tryz.underlying25 h
  rw [co_r] at hl
  obtain ⟨c0, c1, c2, rfl⟩ := list3 hl
  obtain ⟨y0, y1, y2, rfl⟩ := list3 (show xs.length = 3 from hlen)
  have h0 : DataW.trod enc Tryz.prog W 0 sp held n 4 [c0] = some y0 := by have := hh 0 _ rfl; simpa [co_b] using this
  have h1 : DataW.trod enc Tryz.prog W 0 sp held n 3 [c1] = some y1 := by have := hh 1 _ rfl; simpa [co_i] using this
  have h2 : DataW.trod enc Tryz.prog W 0 sp held n 3 [c2] = some y2 := by have := hh 2 _ rfl; simpa [co_i] using this
  obtain ⟨s, e0, _⟩ := DataW.trod_bool Tryz.underlying4 h0
  obtain ⟨a, e1, _, w1⟩ := DataW.trod_int Tryz.underlying3 h1
  obtain ⟨b, e2, _, w2⟩ := DataW.trod_int Tryz.underlying3 h2
  have b1 := bounds_i64 w1
  have b2 := bounds_i64 w2
  simp at e0 e1 e2
  subst e0 e1 e2
  exact ⟨s, a, b, rfl, ⟨b1.1, by have := b1.2; omega⟩, ⟨b2.1, by have := b2.2; omega⟩⟩
theorem op_open {H : Type} {enc : TypeId × Value → H} {W : World} {sp : Nat → Bool} {held : Bool} {fuel : Nat} {cs : List Value} {x : DataW H × List MemPlace} (h : DataW.trod enc Tryz.prog W 0 sp held fuel 28 cs = some x) : ∃ (o : Opx) (kp : Option Addr) (kc : Nat), cs = (opV o kp kc).toList ∧ o.Ok ∧ KRd W kp o.keys ∧ o.keys.length + 1 ≤ Rows.uptoBulk x.1 := by
  obtain ⟨xs, n, hn, hx, hl, hlen, hh⟩ := DataW.trod_struct Tryz.underlying28 h
  rw [co_op] at hl
  obtain ⟨c0, c1, c2, c3, c4, c5, c6, c7, c8, c9, c10, rfl⟩ := list11 hl
  obtain ⟨y0, y1, y2, y3, y4, y5, y6, y7, y8, rfl⟩ := list9 (show xs.length = 9 from hlen)
  have h0 : DataW.trod enc Tryz.prog W 0 sp held n 22 [c0] = some y0 := by have := hh 0 _ rfl; simpa [co_o] using this
  have h1 : DataW.trod enc Tryz.prog W 0 sp held n 23 [c1] = some y1 := by have := hh 1 _ rfl; simpa [co_u] using this
  have h2 : DataW.trod enc Tryz.prog W 0 sp held n 23 [c2] = some y2 := by have := hh 2 _ rfl; simpa [co_u] using this
  have h3 : DataW.trod enc Tryz.prog W 0 sp held n 23 [c3] = some y3 := by have := hh 3 _ rfl; simpa [co_u] using this
  have h4 : DataW.trod enc Tryz.prog W 0 sp held n 23 [c4] = some y4 := by have := hh 4 _ rfl; simpa [co_u] using this
  have h5 : DataW.trod enc Tryz.prog W 0 sp held n 25 [c5, c6, c7] = some y5 := by have := hh 5 _ rfl; simpa [co_r] using this
  have h6 : DataW.trod enc Tryz.prog W 0 sp held n 26 [c8] = some y6 := by have := hh 6 _ rfl; simpa [co_us] using this
  have h7 : DataW.trod enc Tryz.prog W 0 sp held n 23 [c9] = some y7 := by have := hh 7 _ rfl; simpa [co_u] using this
  have h8 : DataW.trod enc Tryz.prog W 0 sp held n 23 [c10] = some y8 := by have := hh 8 _ rfl; simpa [co_u] using this
  obtain ⟨z0, e0, _, w0⟩ := DataW.trod_int Tryz.underlying22 h0
  obtain ⟨z1, e1, _, w1⟩ := DataW.trod_int Tryz.underlying23 h1
  obtain ⟨z2, e2, _, w2⟩ := DataW.trod_int Tryz.underlying23 h2
  obtain ⟨z3, e3, _, w3⟩ := DataW.trod_int Tryz.underlying23 h3
  obtain ⟨z4, e4, _, w4⟩ := DataW.trod_int Tryz.underlying23 h4
  obtain ⟨s, a, b, e5, ha, hb⟩ := ref_open h5
  obtain ⟨kp, kc, keys, e6, hK, hks, hbl⟩ := vals_open h6
  obtain ⟨z7, e7, _, w7⟩ := DataW.trod_int Tryz.underlying23 h7
  obtain ⟨z8, e8, _, w8⟩ := DataW.trod_int Tryz.underlying23 h8
  obtain ⟨k, rfl, hk⟩ := nat_u8 w0
  obtain ⟨key, rfl, hkey⟩ := nat_u64 w1
  obtain ⟨val, rfl, hval⟩ := nat_u64 w2
  obtain ⟨old, rfl, hold⟩ := nat_u64 w3
  obtain ⟨hnd, rfl, hhnd⟩ := nat_u64 w4
  obtain ⟨lo, rfl, hlo⟩ := nat_u64 w7
  obtain ⟨hi, rfl, hhi⟩ := nat_u64 w8
  simp at e0 e1 e2 e3 e4 e5 e6 e7 e8
  obtain ⟨e5, e5', e5''⟩ := e5
  subst e0 e1 e2 e3 e4 e5 e5' e5'' e6 e7 e8
  refine ⟨⟨k, key, val, old, hnd, s, a, b, keys, lo, hi⟩, kp, kc, rfl, ⟨hk, hkey, hval, hold, hhnd, ha, hb, hks, hlo, hhi⟩, hK, ?_⟩
  have hx1 : x.1 = .agg [y0.1, y1.1, y2.1, y3.1, y4.1, y5.1, y6.1, y7.1, y8.1] := by rw [hx]; rfl
  rw [hx1]
  simp only [Rows.uptoBulk, Rows.uptoBulkAll]
  (try simp only at hbl ⊢)
  omega
theorem ans_open {H : Type} {enc : TypeId × Value → H} {W : World} {sp : Nat → Bool} {held : Bool} {fuel : Nat} {cs : List Value} {x : DataW H × List MemPlace} (h : DataW.trod enc Tryz.prog W 0 sp held fuel 32 cs = some x) : ∃ (e : Int) (f : Bool) (v : Nat) (dn : Bool) (hd : Nat) (p : Option Addr) (c : Nat) (l : List (Nat × Nat)) (ct : Nat), cs = (ansR e f v dn hd p l.length c ct).toList ∧ isI e ∧ isU v ∧ isU hd ∧ isU ct ∧ PRd W p l ∧ (∀ q ∈ l, isU q.1 ∧ isU q.2) ∧ l.length + 1 ≤ Rows.uptoBulk x.1 := by
  obtain ⟨xs, n, hn, hx, hl, hlen, hh⟩ := DataW.trod_struct Tryz.underlying32 h
  rw [co_an] at hl
  obtain ⟨c0, c1, c2, c3, c4, c5, c6, rfl⟩ := list7 hl
  obtain ⟨y0, y1, y2, y3, y4, y5, y6, rfl⟩ := list7 (show xs.length = 7 from hlen)
  have h0 : DataW.trod enc Tryz.prog W 0 sp held n 29 [c0] = some y0 := by have := hh 0 _ rfl; simpa [co_e] using this
  have h1 : DataW.trod enc Tryz.prog W 0 sp held n 4 [c1] = some y1 := by have := hh 1 _ rfl; simpa [co_b] using this
  have h2 : DataW.trod enc Tryz.prog W 0 sp held n 23 [c2] = some y2 := by have := hh 2 _ rfl; simpa [co_u] using this
  have h3 : DataW.trod enc Tryz.prog W 0 sp held n 4 [c3] = some y3 := by have := hh 3 _ rfl; simpa [co_b] using this
  have h4 : DataW.trod enc Tryz.prog W 0 sp held n 23 [c4] = some y4 := by have := hh 4 _ rfl; simpa [co_u] using this
  have h5 : DataW.trod enc Tryz.prog W 0 sp held n 30 [c5] = some y5 := by have := hh 5 _ rfl; simpa [co_ps] using this
  have h6 : DataW.trod enc Tryz.prog W 0 sp held n 23 [c6] = some y6 := by have := hh 6 _ rfl; simpa [co_u] using this
  obtain ⟨e, e0, _, w0⟩ := DataW.trod_int Tryz.underlying29 h0
  obtain ⟨f, e1, _⟩ := DataW.trod_bool Tryz.underlying4 h1
  obtain ⟨z2, e2, _, w2⟩ := DataW.trod_int Tryz.underlying23 h2
  obtain ⟨dn, e3, _⟩ := DataW.trod_bool Tryz.underlying4 h3
  obtain ⟨z4, e4, _, w4⟩ := DataW.trod_int Tryz.underlying23 h4
  obtain ⟨p, c, l, e5, hP, hu, hbl⟩ := pairs_open h5
  obtain ⟨z6, e6, _, w6⟩ := DataW.trod_int Tryz.underlying23 h6
  have b0 := bounds_i64 w0
  obtain ⟨v, rfl, hv⟩ := nat_u64 w2
  obtain ⟨hd, rfl, hhd⟩ := nat_u64 w4
  obtain ⟨ct, rfl, hct⟩ := nat_u64 w6
  simp at e0 e1 e2 e3 e4 e5 e6
  subst e0 e1 e2 e3 e4 e5 e6
  refine ⟨e, f, v, dn, hd, p, c, l, ct, rfl, ⟨b0.1, by have := b0.2; omega⟩, hv, hhd, hct, hP, hu, ?_⟩
  have hx1 : x.1 = .agg [y0.1, y1.1, y2.1, y3.1, y4.1, y5.1, y6.1] := by rw [hx]; rfl
  rw [hx1]
  simp only [Rows.uptoBulk, Rows.uptoBulkAll]
  (try simp only at hbl ⊢)
  omega
end Go.Proofs.YtmmaniolaljjlaaGreatDoor
