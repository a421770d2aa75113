/- What comes in: an operation, an answer. (mkSdm.py) -/
import Derived.Lib.SmallJoins
import Derived.Deep.Slices
import Derived.Carry
import Derived.OpenShut
import Derived.SizedLaws
import Derived.Test.YtmmaniolaljjlaaGreatDoorRows
import Derived.Test.YtmmaniolaljjlaaGreatDoorG24Sdf
import Derived.Test.YtmmaniolaljjlaaGreatDoorG19Scq
import Derived.ProofKit
import Derived.LaidMore
import Derived.Stop.Joined
import Derived.Stop.LaidErr
import Derived.Lib.LaidTab
import Derived.Test.YtmmaniolaljjlaaGreatDoorG14Seo
namespace Go.Proofs.YtmmaniolaljjlaaGreatDoor
open Go.RowKit Go.Joins Go.ChangeShapes Go.WideShapes Go.Deep
set_option linter.unusedVariables false

theorem bulk_one {H : Type} (d : DataW H) : 1 ≤ Rows.uptoBulk d := by
  cases d with
  | lit l => cases l <;> simp [Rows.uptoBulk]
  | nil => simp [Rows.uptoBulk]
  | ptr d => simp [Rows.uptoBulk]
  | slice elems spare => simp [Rows.uptoBulk]
  | agg parts => simp [Rows.uptoBulk]
  | iface t d => simp [Rows.uptoBulk]
  | map entries => simp [Rows.uptoBulk]
  | held h => simp [Rows.uptoBulk]
theorem bulk_length {H : Type} (l : List (DataW H)) : l.length ≤ Rows.uptoBulkAll l := by
  induction l with
  | nil => simp [Rows.uptoBulkAll]
  | cons x r ih => have := bulk_one x; simp only [Rows.uptoBulkAll, List.length_cons]; omega
theorem cells_each {w : World} {a : Addr} {n : Nat} {cs : List Value} (h : w.cells? 0 a n = some cs) : ∀ j u, cs[j]? = some u → w.cell? (a.add j) = some u := by
  obtain ⟨_, hl, hc⟩ := World.cells?_some h
  intro j u hj
  have hlt : j < n := by
    have := (List.getElem?_eq_some_iff.1 hj).1
    omega
  rw [hc j hlt, hj]
theorem choose_list {α : Type} {P : Nat → α → Prop} (n : Nat) (h : ∀ i, i < n → ∃ a, P i a) : ∃ l : List α, l.length = n ∧ ∀ (i : Nat) (a : α), l[i]? = some a → P i a := by
  induction n with
  | zero => exact ⟨[], rfl, fun i a e => by simp at e⟩
  | succ n ih =>
    obtain ⟨l, hl, hp⟩ := ih (fun i hi => h i (by omega))
    obtain ⟨a, ha⟩ := h n (by omega)
    refine ⟨l ++ [a], by simp [hl], fun i b e => ?_⟩
    by_cases c : i < n
    · rw [List.getElem?_append_left (by omega)] at e
      exact hp i b e
    · have hi : i = n := by
        have := (List.getElem?_eq_some_iff.1 e).1
        simp [hl] at this
        omega
      subst hi
      rw [← hl] at e
      simp at e
      subst e
      exact ha
/-- A list that came in: its elements' cells, each with its bulk. -/
theorem slice_rowsS {H : Type} {enc : TypeId × Value → H} {W : World} {sp : Nat → Bool} {held : Bool} {fuel : Nat} {cs : List Value} {x : DataW H × List MemPlace} {T E : TypeId} {s : Nat} {Q : Nat → List Value → Prop} (hT : Tryz.prog.underlying T = some (.slice E)) (hs : Tryz.prog.cellsOf E = s) (hs0 : 0 < s)
    (hQ : ∀ fuel cs y, DataW.trod enc Tryz.prog W 0 sp held fuel E cs = some y → Q (Rows.uptoBulk y.1) cs ∧ cs.length = s) (hf : DataW.trod enc Tryz.prog W 0 sp held fuel T cs = some x) :
    ∃ p n c, cs = [.slice p n c] ∧ ∃ bu : List Nat, bu.length = n ∧ bu.sum + 1 ≤ Rows.uptoBulk x.1 ∧ (n = 0 ∨ ∃ bk off, p = some ⟨bk, off, none⟩ ∧ bk < W.heap.size ∧ ∀ i, i < n → ∃ cs' : List Value, (∃ w, bu[i]? = some w ∧ Q w cs') ∧ ∀ (j : Nat) (u : Value), cs'[j]? = some u → W.cell? ⟨bk, off + (i * s + j), none⟩ = some u) := by
  rcases open_slice hT hf with ⟨hcs, hx0⟩ | ⟨a, len, cap, m, k, D, Pl, hcs, _, hl, hm, hme, hx, hi⟩
  · exact ⟨none, 0, 0, hcs, [], rfl, by simpa using bulk_one x.1, .inl rfl⟩
  · have hmn : len ≤ m := by rw [hme]; split <;> omega
    have hsum : ∀ (l : List (DataW H)), (l.map Rows.uptoBulk).sum = Rows.uptoBulkAll l := by
      intro l
      induction l with
      | nil => rfl
      | cons d r ih => simp [Rows.uptoBulkAll, ih]
    refine ⟨some a, len, cap, hcs, ((List.range len).map D).map Rows.uptoBulk, by simp, ?_, ?_⟩
    · rw [hsum, hx]
      simp only [Rows.uptoBulk]
      omega
    rcases Nat.eq_zero_or_pos len with h0 | h0
    · exact .inl h0
    · obtain ⟨bk, off, spot⟩ := a
      have hrow : ∀ i, i < len → ∃ cs' : List Value, ((∃ w, (((List.range len).map D).map Rows.uptoBulk)[i]? = some w ∧ Q w cs') ∧ cs'.length = s) ∧ ∀ (j : Nat) (u : Value), cs'[j]? = some u → W.cell? ((⟨bk, off, spot⟩ : Addr).add (i * s + j)) = some u := fun i hin => by
        obtain ⟨cs', hc, ht⟩ := hi i (by omega)
        obtain ⟨q1, q2⟩ := hQ _ _ _ ht
        refine ⟨cs', ⟨⟨_, by simp [hin], q1⟩, q2⟩, fun j u hj => ?_⟩
        rw [hs] at hc
        have e2 := cells_each hc j u hj
        have e3 : ((⟨bk, off, spot⟩ : Addr).add (i * s)).add j = (⟨bk, off, spot⟩ : Addr).add (i * s + j) := by
          unfold Addr.add
          split <;> split <;> simp_all <;> omega
        rw [← e3]
        exact e2
      have h00 : ∃ u, W.cell? ((⟨bk, off, spot⟩ : Addr).add 0) = some u := by
        obtain ⟨cs', ⟨_, hl'⟩, ho⟩ := hrow 0 h0
        obtain ⟨u, hu⟩ : ∃ u, cs'[0]? = some u := ⟨cs'[0]'(by omega), List.getElem?_eq_getElem _⟩
        exact ⟨u, by simpa using ho 0 u hu⟩
      obtain ⟨u, hu⟩ := h00
      have hspot : spot = none := by simpa [Addr.add] using World.cell?_spot hu
      subst hspot
      have hbk : bk < W.heap.size := World.block_lt_of_cell? W _ hu
      refine .inr ⟨bk, off, rfl, hbk, fun i hin => ?_⟩
      obtain ⟨cs', ⟨hq, _⟩, ho⟩ := hrow i hin
      refine ⟨cs', hq, fun j u hj => ?_⟩
      have e := ho j u hj
      unfold Addr.add at e
      split at e
      · rename_i z
        have z0 : i * s + j = 0 := by simpa using z
        rw [z0]
        exact e
      · exact e
theorem cut_next {cs f : List Value} {o s : Nat} (h : (cs.drop o).take s = f) : cs.drop o = f ++ cs.drop (o + s) := by
  rw [← h, ← List.drop_drop, List.take_append_drop]
theorem nat_u64 {n : Int} (h : (Lit.int .u64 n).wf = true) : ∃ m : Nat, n = (m : Int) ∧ m < 18446744073709551616 := by
  have b := bounds_u64 h
  exact ⟨n.toNat, by omega, by omega⟩
theorem nat_u8 {n : Int} (h : (Lit.int .u8 n).wf = true) : ∃ m : Nat, n = (m : Int) ∧ m < 256 := by
  have b := bounds_u8 h
  exact ⟨n.toNat, by omega, by omega⟩
theorem co_u : Tryz.prog.cellsOf 23 = 1 := by kernel_rfl
theorem co_us : Tryz.prog.cellsOf 26 = 1 := by kernel_rfl
theorem co_i : Tryz.prog.cellsOf 3 = 1 := by kernel_rfl
theorem co_b : Tryz.prog.cellsOf 4 = 1 := by kernel_rfl
theorem vals_open {H : Type} {enc : TypeId × Value → H} {W : World} {sp : Nat → Bool} {held : Bool} {fuel : Nat} {cs : List Value} {x : DataW H × List MemPlace} (h : DataW.trod enc Tryz.prog W 0 sp held fuel 26 cs = some x) :
    ∃ (p : Option Addr) (c : Nat) (l : List Nat), cs = [.slice p l.length c] ∧ KRd W p l ∧ (∀ u ∈ l, isU u) ∧ l.length + 1 ≤ Rows.uptoBulk x.1 := by
  obtain ⟨p, n, c, hcs, bu, hbl, hbs, hr⟩ := slice_rowsS (s := 1) (Q := fun w cs => 1 ≤ w ∧ ∃ k : Nat, k < 18446744073709551616 ∧ cs = [.int .u64 (k : Int)]) Tryz.underlying26 co_u (by decide) (fun fuel cs y hy => by
    obtain ⟨z, e, _, w⟩ := DataW.trod_int Tryz.underlying23 hy
    obtain ⟨k, rfl, hk⟩ := nat_u64 w
    exact ⟨⟨bulk_one _, k, hk, e⟩, by rw [e]; rfl⟩) h
  rcases hr with rfl | ⟨bk, off, rfl, hbk, hr⟩
  · exact ⟨p, c, [], hcs, .inl rfl, fun u hu => by simp at hu, by simpa using bulk_one x.1⟩
  · obtain ⟨l, hl, hp⟩ := choose_list (P := fun i (k : Nat) => (1 ≤ bu.getD i 0) ∧ k < 18446744073709551616 ∧ W.cell? ⟨bk, off + i, none⟩ = some (.int .u64 (k : Int))) n (fun i hi => by
      obtain ⟨cs', ⟨w, hw, h1, k, hk, rfl⟩, hc⟩ := hr i hi
      refine ⟨k, by simp [List.getD, hw]; exact h1, hk, ?_⟩
      have := hc 0 _ rfl
      simpa using this)
    have hsum : ∀ (b : List Nat), (∀ i, i < b.length → 1 ≤ b.getD i 0) → b.length ≤ b.sum := by
      intro b
      induction b with
      | nil => intro _; simp
      | cons z r ih =>
        intro hb
        have h0 := hb 0 (by simp)
        have h1 := ih (fun i hi => by have := hb (i + 1) (by simp; omega); simpa using this)
        simp only [List.length_cons, List.sum_cons]
        simp at h0
        omega
    subst hl
    refine ⟨_, c, l, hcs, .inr ⟨bk, off, rfl, hbk, fun i u hu => (hp i u hu).2.2⟩, fun u hu => ?_, ?_⟩
    · obtain ⟨i, hi, rfl⟩ := List.getElem_of_mem hu
      exact (hp i _ (List.getElem?_eq_getElem hi)).2.1
    · have := hsum bu (fun i hi => by
        rw [hbl] at hi
        exact (hp i l[i] (List.getElem?_eq_getElem hi)).1)
      omega
theorem list2 {α : Type} {cs : List α} (h : cs.length = 2) : ∃ c0 c1, cs = [c0, c1] := by
  match cs, h with
  | [c0, c1], _ => exact ⟨c0, c1, rfl⟩
theorem list3 {α : Type} {cs : List α} (h : cs.length = 3) : ∃ c0 c1 c2, cs = [c0, c1, c2] := by
  match cs, h with
  | [c0, c1, c2], _ => exact ⟨c0, c1, c2, rfl⟩
theorem list7 {α : Type} {cs : List α} (h : cs.length = 7) : ∃ c0 c1 c2 c3 c4 c5 c6, cs = [c0, c1, c2, c3, c4, c5, c6] := by
  match cs, h with
  | [c0, c1, c2, c3, c4, c5, c6], _ => exact ⟨c0, c1, c2, c3, c4, c5, c6, rfl⟩
theorem list9 {α : Type} {cs : List α} (h : cs.length = 9) : ∃ c0 c1 c2 c3 c4 c5 c6 c7 c8, cs = [c0, c1, c2, c3, c4, c5, c6, c7, c8] := by
  match cs, h with
  | [c0, c1, c2, c3, c4, c5, c6, c7, c8], _ => exact ⟨c0, c1, c2, c3, c4, c5, c6, c7, c8, rfl⟩
theorem list11 {α : Type} {cs : List α} (h : cs.length = 11) : ∃ c0 c1 c2 c3 c4 c5 c6 c7 c8 c9 c10, cs = [c0, c1, c2, c3, c4, c5, c6, c7, c8, c9, c10] := by
  match cs, h with
  | [c0, c1, c2, c3, c4, c5, c6, c7, c8, c9, c10], _ => exact ⟨c0, c1, c2, c3, c4, c5, c6, c7, c8, c9, c10, rfl⟩
theorem co_o : Tryz.prog.cellsOf 22 = 1 := by kernel_rfl
theorem co_e : Tryz.prog.cellsOf 29 = 1 := by kernel_rfl
theorem co_ps : Tryz.prog.cellsOf 30 = 1 := by kernel_rfl
theorem co_r : Tryz.prog.cellsOf 25 = 3 := by kernel_rfl
theorem co_op : Tryz.prog.cellsOf 28 = 11 := by kernel_rfl
theorem co_an : Tryz.prog.cellsOf 32 = 7 := by kernel_rfl
theorem co_pr : Tryz.prog.cellsOf 74 = 2 := by kernel_rfl
theorem pair_open {H : Type} {enc : TypeId × Value → H} {W : World} {sp : Nat → Bool} {held : Bool} {fuel : Nat} {cs : List Value} {x : DataW H × List MemPlace} (h : DataW.trod enc Tryz.prog W 0 sp held fuel 74 cs = some x) : ∃ a b : Nat, cs = [.int .u64 (a : Int), .int .u64 (b : Int)] ∧ isU a ∧ isU b := by
  obtain ⟨xs, n, hn, hx, hl, hlen, hh⟩ := DataW.trod_struct Tryz.underlying74 h
  rw [co_pr] at hl
  obtain ⟨c0, c1, rfl⟩ := list2 hl
  obtain ⟨y0, y1, rfl⟩ := list2 (show xs.length = 2 from hlen)
  have h0 : DataW.trod enc Tryz.prog W 0 sp held n 23 [c0] = some y0 := by have := hh 0 _ rfl; simpa [co_u] using this
  have h1 : DataW.trod enc Tryz.prog W 0 sp held n 23 [c1] = some y1 := by have := hh 1 _ rfl; simpa [co_u] using this
  obtain ⟨z0, e0, _, w0⟩ := DataW.trod_int Tryz.underlying23 h0
  obtain ⟨z1, e1, _, w1⟩ := DataW.trod_int Tryz.underlying23 h1
  obtain ⟨a, rfl, ha⟩ := nat_u64 w0
  obtain ⟨b, rfl, hb⟩ := nat_u64 w1
  simp at e0 e1
  subst e0 e1
  exact ⟨a, b, rfl, ha, hb⟩
theorem pairs_open {H : Type} {enc : TypeId × Value → H} {W : World} {sp : Nat → Bool} {held : Bool} {fuel : Nat} {cs : List Value} {x : DataW H × List MemPlace} (h : DataW.trod enc Tryz.prog W 0 sp held fuel 30 cs = some x) :
    ∃ (p : Option Addr) (c : Nat) (l : List (Nat × Nat)), cs = [.slice p l.length c] ∧ PRd W p l ∧ (∀ q ∈ l, isU q.1 ∧ isU q.2) ∧ l.length + 1 ≤ Rows.uptoBulk x.1 := by
  obtain ⟨p, n, c, hcs, bu, hbl, hbs, hr⟩ := slice_rowsS (s := 2) (Q := fun w cs => 1 ≤ w ∧ ∃ a b : Nat, (isU a ∧ isU b) ∧ cs = [.int .u64 (a : Int), .int .u64 (b : Int)]) Tryz.underlying30 co_pr (by decide) (fun fuel cs y hy => by
    obtain ⟨a, b, e, ha, hb⟩ := pair_open hy
    exact ⟨⟨bulk_one _, a, b, ⟨ha, hb⟩, e⟩, by rw [e]; rfl⟩) h
  rcases hr with rfl | ⟨bk, off, rfl, hbk, hr⟩
  · exact ⟨p, c, [], hcs, .inl rfl, fun u hu => by simp at hu, by simpa using bulk_one x.1⟩
  · obtain ⟨l, hl, hp⟩ := choose_list (P := fun i (k : Nat × Nat) => (1 ≤ bu.getD i 0) ∧ (isU k.1 ∧ isU k.2) ∧ W.cell? ⟨bk, off + i * 2, none⟩ = some (.int .u64 (k.1 : Int)) ∧ W.cell? ⟨bk, off + i * 2 + 1, none⟩ = some (.int .u64 (k.2 : Int))) n (fun i hi => by
      obtain ⟨cs', ⟨w, hw, h1, a, b, hk, rfl⟩, hc⟩ := hr i hi
      refine ⟨(a, b), by simp [List.getD, hw]; exact h1, hk, ?_, ?_⟩
      · have := hc 0 _ rfl
        simpa using this
      · have := hc 1 _ rfl
        rw [← Nat.add_assoc] at this
        exact this)
    have hsum : ∀ (b : List Nat), (∀ i, i < b.length → 1 ≤ b.getD i 0) → b.length ≤ b.sum := by
      intro b
      induction b with
      | nil => intro _; simp
      | cons z r ih =>
        intro hb
        have h0 := hb 0 (by simp)
        have h1 := ih (fun i hi => by have := hb (i + 1) (by simp; omega); simpa using this)
        simp only [List.length_cons, List.sum_cons]
        simp at h0
        omega
    subst hl
    refine ⟨_, c, l, hcs, .inr ⟨bk, off, rfl, hbk, fun i a b hu => (hp i (a, b) hu).2.2⟩, fun u hu => ?_, ?_⟩
    · obtain ⟨i, hi, rfl⟩ := List.getElem_of_mem hu
      exact (hp i _ (List.getElem?_eq_getElem hi)).2.1
    · have := hsum bu (fun i hi => by
        rw [hbl] at hi
        exact (hp i l[i] (List.getElem?_eq_getElem hi)).1)
      omega
theorem ref_open {H : Type} {enc : TypeId × Value → H} {W : World} {sp : Nat → Bool} {held : Bool} {fuel : Nat} {cs : List Value} {x : DataW H × List MemPlace} (h : DataW.trod enc Tryz.prog W 0 sp held fuel 25 cs = some x) : ∃ (s : Bool) (a b : Int), cs = [.bool s, .int .i64 a, .int .i64 b] ∧ isI a ∧ isI b := by
  obtain ⟨xs, n, hn, hx, hl, hlen, hh⟩ := DataW.trod_struct Tryz.underlying25 h
  rw [co_r] at hl
  obtain ⟨c0, c1, c2, rfl⟩ := list3 hl
  obtain ⟨y0, y1, y2, rfl⟩ := list3 (show xs.length = 3 from hlen)
  have h0 : DataW.trod enc Tryz.prog W 0 sp held n 4 [c0] = some y0 := by have := hh 0 _ rfl; simpa [co_b] using this
  have h1 : DataW.trod enc Tryz.prog W 0 sp held n 3 [c1] = some y1 := by have := hh 1 _ rfl; simpa [co_i] using this
  have h2 : DataW.trod enc Tryz.prog W 0 sp held n 3 [c2] = some y2 := by have := hh 2 _ rfl; simpa [co_i] using this
  obtain ⟨s, e0, _⟩ := DataW.trod_bool Tryz.underlying4 h0
  obtain ⟨a, e1, _, w1⟩ := DataW.trod_int Tryz.underlying3 h1
  obtain ⟨b, e2, _, w2⟩ := DataW.trod_int Tryz.underlying3 h2
  have b1 := bounds_i64 w1
  have b2 := bounds_i64 w2
  simp at e0 e1 e2
  subst e0 e1 e2
  exact ⟨s, a, b, rfl, ⟨b1.1, by have := b1.2; omega⟩, ⟨b2.1, by have := b2.2; omega⟩⟩
theorem op_open {H : Type} {enc : TypeId × Value → H} {W : World} {sp : Nat → Bool} {held : Bool} {fuel : Nat} {cs : List Value} {x : DataW H × List MemPlace} (h : DataW.trod enc Tryz.prog W 0 sp held fuel 28 cs = some x) : ∃ (o : Opx) (kp : Option Addr) (kc : Nat), cs = (opV o kp kc).toList ∧ o.Ok ∧ KRd W kp o.keys ∧ o.keys.length + 1 ≤ Rows.uptoBulk x.1 := by
  obtain ⟨xs, n, hn, hx, hl, hlen, hh⟩ := DataW.trod_struct Tryz.underlying28 h
  rw [co_op] at hl
  obtain ⟨c0, c1, c2, c3, c4, c5, c6, c7, c8, c9, c10, rfl⟩ := list11 hl
  obtain ⟨y0, y1, y2, y3, y4, y5, y6, y7, y8, rfl⟩ := list9 (show xs.length = 9 from hlen)
  have h0 : DataW.trod enc Tryz.prog W 0 sp held n 22 [c0] = some y0 := by have := hh 0 _ rfl; simpa [co_o] using this
  have h1 : DataW.trod enc Tryz.prog W 0 sp held n 23 [c1] = some y1 := by have := hh 1 _ rfl; simpa [co_u] using this
  have h2 : DataW.trod enc Tryz.prog W 0 sp held n 23 [c2] = some y2 := by have := hh 2 _ rfl; simpa [co_u] using this
  have h3 : DataW.trod enc Tryz.prog W 0 sp held n 23 [c3] = some y3 := by have := hh 3 _ rfl; simpa [co_u] using this
  have h4 : DataW.trod enc Tryz.prog W 0 sp held n 23 [c4] = some y4 := by have := hh 4 _ rfl; simpa [co_u] using this
  have h5 : DataW.trod enc Tryz.prog W 0 sp held n 25 [c5, c6, c7] = some y5 := by have := hh 5 _ rfl; simpa [co_r] using this
  have h6 : DataW.trod enc Tryz.prog W 0 sp held n 26 [c8] = some y6 := by have := hh 6 _ rfl; simpa [co_us] using this
  have h7 : DataW.trod enc Tryz.prog W 0 sp held n 23 [c9] = some y7 := by have := hh 7 _ rfl; simpa [co_u] using this
  have h8 : DataW.trod enc Tryz.prog W 0 sp held n 23 [c10] = some y8 := by have := hh 8 _ rfl; simpa [co_u] using this
  obtain ⟨z0, e0, _, w0⟩ := DataW.trod_int Tryz.underlying22 h0
  obtain ⟨z1, e1, _, w1⟩ := DataW.trod_int Tryz.underlying23 h1
  obtain ⟨z2, e2, _, w2⟩ := DataW.trod_int Tryz.underlying23 h2
  obtain ⟨z3, e3, _, w3⟩ := DataW.trod_int Tryz.underlying23 h3
  obtain ⟨z4, e4, _, w4⟩ := DataW.trod_int Tryz.underlying23 h4
  obtain ⟨s, a, b, e5, ha, hb⟩ := ref_open h5
  obtain ⟨kp, kc, keys, e6, hK, hks, hbl⟩ := vals_open h6
  obtain ⟨z7, e7, _, w7⟩ := DataW.trod_int Tryz.underlying23 h7
  obtain ⟨z8, e8, _, w8⟩ := DataW.trod_int Tryz.underlying23 h8
  obtain ⟨k, rfl, hk⟩ := nat_u8 w0
  obtain ⟨key, rfl, hkey⟩ := nat_u64 w1
  obtain ⟨val, rfl, hval⟩ := nat_u64 w2
  obtain ⟨old, rfl, hold⟩ := nat_u64 w3
  obtain ⟨hnd, rfl, hhnd⟩ := nat_u64 w4
  obtain ⟨lo, rfl, hlo⟩ := nat_u64 w7
  obtain ⟨hi, rfl, hhi⟩ := nat_u64 w8
  simp at e0 e1 e2 e3 e4 e5 e6 e7 e8
  obtain ⟨e5, e5', e5''⟩ := e5
  subst e0 e1 e2 e3 e4 e5 e5' e5'' e6 e7 e8
  refine ⟨⟨k, key, val, old, hnd, s, a, b, keys, lo, hi⟩, kp, kc, rfl, ⟨hk, hkey, hval, hold, hhnd, ha, hb, hks, hlo, hhi⟩, hK, ?_⟩
  have hx1 : x.1 = .agg [y0.1, y1.1, y2.1, y3.1, y4.1, y5.1, y6.1, y7.1, y8.1] := by rw [hx]; rfl
  rw [hx1]
  simp only [Rows.uptoBulk, Rows.uptoBulkAll]
  (try simp only at hbl ⊢)
  omega
theorem ans_open {H : Type} {enc : TypeId × Value → H} {W : World} {sp : Nat → Bool} {held : Bool} {fuel : Nat} {cs : List Value} {x : DataW H × List MemPlace} (h : DataW.trod enc Tryz.prog W 0 sp held fuel 32 cs = some x) : ∃ (e : Int) (f : Bool) (v : Nat) (dn : Bool) (hd : Nat) (p : Option Addr) (c : Nat) (l : List (Nat × Nat)) (ct : Nat), cs = (ansR e f v dn hd p l.length c ct).toList ∧ isI e ∧ isU v ∧ isU hd ∧ isU ct ∧ PRd W p l ∧ (∀ q ∈ l, isU q.1 ∧ isU q.2) ∧ l.length + 1 ≤ Rows.uptoBulk x.1 := by
  obtain ⟨xs, n, hn, hx, hl, hlen, hh⟩ := DataW.trod_struct Tryz.underlying32 h
  rw [co_an] at hl
  obtain ⟨c0, c1, c2, c3, c4, c5, c6, rfl⟩ := list7 hl
  obtain ⟨y0, y1, y2, y3, y4, y5, y6, rfl⟩ := list7 (show xs.length = 7 from hlen)
  have h0 : DataW.trod enc Tryz.prog W 0 sp held n 29 [c0] = some y0 := by have := hh 0 _ rfl; simpa [co_e] using this
  have h1 : DataW.trod enc Tryz.prog W 0 sp held n 4 [c1] = some y1 := by have := hh 1 _ rfl; simpa [co_b] using this
  have h2 : DataW.trod enc Tryz.prog W 0 sp held n 23 [c2] = some y2 := by have := hh 2 _ rfl; simpa [co_u] using this
  have h3 : DataW.trod enc Tryz.prog W 0 sp held n 4 [c3] = some y3 := by have := hh 3 _ rfl; simpa [co_b] using this
  have h4 : DataW.trod enc Tryz.prog W 0 sp held n 23 [c4] = some y4 := by have := hh 4 _ rfl; simpa [co_u] using this
  have h5 : DataW.trod enc Tryz.prog W 0 sp held n 30 [c5] = some y5 := by have := hh 5 _ rfl; simpa [co_ps] using this
  have h6 : DataW.trod enc Tryz.prog W 0 sp held n 23 [c6] = some y6 := by have := hh 6 _ rfl; simpa [co_u] using this
  obtain ⟨e, e0, _, w0⟩ := DataW.trod_int Tryz.underlying29 h0
  obtain ⟨f, e1, _⟩ := DataW.trod_bool Tryz.underlying4 h1
  obtain ⟨z2, e2, _, w2⟩ := DataW.trod_int Tryz.underlying23 h2
  obtain ⟨dn, e3, _⟩ := DataW.trod_bool Tryz.underlying4 h3
  obtain ⟨z4, e4, _, w4⟩ := DataW.trod_int Tryz.underlying23 h4
  obtain ⟨p, c, l, e5, hP, hu, hbl⟩ := pairs_open h5
  obtain ⟨z6, e6, _, w6⟩ := DataW.trod_int Tryz.underlying23 h6
  have b0 := bounds_i64 w0
  obtain ⟨v, rfl, hv⟩ := nat_u64 w2
  obtain ⟨hd, rfl, hhd⟩ := nat_u64 w4
  obtain ⟨ct, rfl, hct⟩ := nat_u64 w6
  simp at e0 e1 e2 e3 e4 e5 e6
  subst e0 e1 e2 e3 e4 e5 e6
  refine ⟨e, f, v, dn, hd, p, c, l, ct, rfl, ⟨b0.1, by have := b0.2; omega⟩, hv, hhd, hct, hP, hu, ?_⟩
  have hx1 : x.1 = .agg [y0.1, y1.1, y2.1, y3.1, y4.1, y5.1, y6.1] := by rw [hx]; rfl
  rw [hx1]
  simp only [Rows.uptoBulk, Rows.uptoBulkAll]
  (try simp only at hbl ⊢)
  omega
end Go.Proofs.YtmmaniolaljjlaaGreatDoor
/- From what the rows list of package-level variables to the tables that the walks read. -/
namespace Go.Proofs.YtmmaniolaljjlaaGreatDoor
open Go.ChangeShapes Go.WideShapes Go.ChangeAt Go.WideMaps Go.WideElems Go.RowKit Go.Joins Go.Deep
set_option linter.unusedVariables false

theorem own : ownKnob Tryz.prog.godebug = none := by kernel_rfl
theorem laidOut : laidOutB Tryz.prog = true := by kernel_rfl
theorem gES : Tryz.prog.globalNamed "strconv.ErrSyntax" = some 3 := by kernel_rfl
theorem tES : (Tryz.prog.globals[3]?).map (·.type) = some 81 := by kernel_rfl
theorem gER : Tryz.prog.globalNamed "strconv.ErrRange" = some 4 := by kernel_rfl
theorem tER : (Tryz.prog.globals[4]?).map (·.type) = some 81 := by kernel_rfl
theorem gP10 : Tryz.prog.globalNamed "internal/strconv.uint64pow10" = some 2 := by kernel_rfl
theorem tP10 : (Tryz.prog.globals[2]?).map (·.type) = some 213 := by kernel_rfl
theorem tWd : (Tryz.prog.globals[0]?).map (·.type) = some 119 := by kernel_rfl
theorem cells9 : Tryz.prog.cellsOf 9 = 1 := by kernel_rfl
theorem cellsU : Tryz.prog.cellsOf 23 = 1 := by kernel_rfl
theorem cellsA : Tryz.prog.cellsOf 213 = 20 := by kernel_rfl
theorem cellsW : Tryz.prog.cellsOf 119 = 11 := by kernel_rfl
theorem cellsE : Tryz.prog.cellsOf 244 = 1 := by kernel_rfl
theorem star : "*" ++ "errors.errorString" = "*errors.errorString" := by decide
theorem rowErr (u : TypeId) (h : Tryz.prog.typeName? 3 u = some "*errors.errorString") : u = 242 :=
  typeName_ptr_named (nm := "errors.errorString") (by rw [star]; kernel_rfl) (by kernel_rfl) (by decide) u (by rw [star]; exact h)
/-- an array of texts that reads as the table holds the table's texts -/
theorem cells_of_strs {H : Type} {enc : TypeId × Value → H} {P : Program} {w : World} {base : Nat} {sp : Nat → Bool} {held : Bool} {fuel : Nat} {t e : TypeId} {n : Nat} {cs : List Value} {zs : List (List UInt8)} {p : List MemPlace}
    (ht : P.underlying t = some (.array n e)) (he : P.underlying e = some .string) (hce : P.cellsOf e = 1) (hct : P.cellsOf t = n)
    (h : DataW.trod enc P w base sp held fuel t cs = some (.agg (zs.map fun z => .lit (.string z)), p)) : cs = zs.map fun z => Value.string (mkS z) := by
  cases fuel with
  | zero => simp [DataW.trod] at h
  | succ fuel =>
    simp only [DataW.trod, ht, hce, hct, Nat.mul_one] at h
    split at h
    · rename_i hl
      obtain ⟨xs, hm, hx⟩ := Option.map_eq_some_iff.1 h
      have hxs : xs.map (·.1) = zs.map fun z => (DataW.lit (.string z) : DataW H) := by
        have := congrArg Prod.fst hx
        simpa using this
      have hxl : xs.length = n := by simpa using Lib.mapM_length hm
      have hzl : zs.length = n := by
        have := congrArg List.length hxs
        simp at this
        omega
      apply List.ext_getElem?
      intro i
      by_cases hi : i < n
      · obtain ⟨b, hb, hf⟩ := Lib.mapM_at hm i i (by simp [hi])
        obtain ⟨s, hc, rfl, _⟩ := DataW.trod_string he hf
        have h1 : cs[i]? = some (.string s) := by
          have := congrArg (·[0]?) hc
          simpa [List.getElem?_take, List.getElem?_drop] using this
        have h2 : (xs.map (·.1))[i]? = some (DataW.lit (.string s.data.toList) : DataW H) := by simp [hb]
        rw [hxs] at h2
        simp only [List.getElem?_map, Option.map_eq_some_iff, DataW.lit.injEq, Lit.string.injEq] at h2
        obtain ⟨z', hz', e2⟩ := h2
        rw [h1, List.getElem?_map, hz', e2]
        simp [mkS_data]
      · rw [List.getElem?_eq_none (by omega), List.getElem?_eq_none (by simp; omega)]
    · cases h
theorem strsIs_of_head {P : Program} {W : World} {name : String} {zs : List (List UInt8)} {rest : List (String × DataW Unit)} {g : Nat} {t e : TypeId} {n : Nat}
    (hg : P.globalNamed name = some g) (hty : (P.globals[g]?).map (·.type) = some t) (ht : P.underlying t = some (.array n e)) (he : P.underlying e = some .string) (hce : P.cellsOf e = 1) (hct : P.cellsOf t = n)
    (h : laidMet P ((name, .agg (zs.map fun z => .lit (.string z))) :: rest) W) : W.var? P name = some (zs.map fun z => Value.string (mkS z)).toArray := by
  obtain ⟨ps, ⟨g', t', cs, fuel, p, q, hg', ht', hvar, hd, _, _⟩, _⟩ := h
  obtain rfl := Option.some.inj (hg.symm.trans hg')
  obtain rfl := Option.some.inj (hty.symm.trans ht')
  rw [hvar, ← cells_of_strs ht he hce hct hd]
theorem tb_of_laid {W : World} (h : laidMetH Tryz.prog Rows.scriptOpsUptoRow.laid W) (hsh : W.ShapedOpen Tryz.prog) : Tb W ∧ Wd W := by
  rw [MakeChecks.laidMetH_plain _ _ _ (by kernel_rfl)] at h
  have h3 : laidMet Tryz.prog (("internal/strconv.uint64pow10", Lib.tabData .u64 Lib.pow10Tab) :: _) W := h.tail.tail
  have hT := Lib.tabIs_of_head gP10 tP10 Tryz.underlying213 Tryz.underlying23 cellsU cellsA h3
  obtain ⟨a1, s1, hER, -, -, -⟩ := laid_sentinel h.tail.tail.tail.tail gER tER Tryz.underlying81 rowErr Tryz.underlying242 Tryz.underlying244 rfl rfl Tryz.underlying9 cellsE cells9
  obtain ⟨a0, s0, hES, -, -, -⟩ := laid_sentinel h.tail.tail.tail.tail.tail gES tES Tryz.underlying81 rowErr Tryz.underlying242 Tryz.underlying244 rfl rfl Tryz.underlying9 cellsE cells9
  have h6 : laidMet Tryz.prog (("shutter/script.words", .agg (opWs.map fun z => .lit (.string z))) :: _) W := h.tail.tail.tail.tail.tail.tail
  exact ⟨⟨hT, ⟨_, _, hES⟩, ⟨_, _, hER⟩, Tryz.lays146.s1_3 W hsh⟩, strsIs_of_head gWd tWd Tryz.underlying119 Tryz.underlying9 cells9 cellsW h6⟩
end Go.Proofs.YtmmaniolaljjlaaGreatDoor
/- What comes in: a script. -/
namespace Go.Proofs.YtmmaniolaljjlaaGreatDoor
open Go.RowKit Go.Joins Go.ChangeShapes Go.WideShapes Go.Deep
set_option linter.unusedVariables false

theorem list4 {α : Type} {cs : List α} (h : cs.length = 4) : ∃ c0 c1 c2 c3, cs = [c0, c1, c2, c3] := by
  match cs, h with
  | [c0, c1, c2, c3], _ => exact ⟨c0, c1, c2, c3, rfl⟩
theorem list6 {α : Type} {cs : List α} (h : cs.length = 6) : ∃ c0 c1 c2 c3 c4 c5, cs = [c0, c1, c2, c3, c4, c5] := by
  match cs, h with
  | [c0, c1, c2, c3, c4, c5], _ => exact ⟨c0, c1, c2, c3, c4, c5, rfl⟩
theorem ones : ∀ (k : List Int), (k.map (fun _ => 1)).sum = k.length
  | [] => rfl
  | a :: r => by simp only [List.map_cons, List.sum_cons, List.length_cons, ones r]; omega
theorem co_t : Tryz.prog.cellsOf 75 = 1 := by kernel_rfl
theorem co_sc : Tryz.prog.cellsOf 46 = 6 := by kernel_rfl
theorem co_cf : Tryz.prog.cellsOf 42 = 4 := by kernel_rfl
theorem co_th : Tryz.prog.cellsOf 43 = 1 := by kernel_rfl
theorem co_is : Tryz.prog.cellsOf 44 = 1 := by kernel_rfl
def wtO (l : List Opx) : Nat := (l.map (fun o => o.keys.length + 1)).sum
def wtT (ts : List (List Opx)) : Nat := (ts.map (fun l => wtO l + 1)).sum
theorem sum_le : ∀ {α : Type} (l : List α) (f : α → Nat) (bu : List Nat), bu.length = l.length → (∀ (i : Nat) (y : α), l[i]? = some y → f y ≤ bu.getD i 0) → (l.map f).sum ≤ bu.sum
  | α, [], f, bu, _, _ => by simp
  | α, y :: l, f, [], h, _ => by simp at h
  | α, y :: l, f, b :: bu, h, hp => by
    have h0 := hp 0 y rfl
    have ih := sum_le l f bu (by simpa using h) (fun i z hz => by have := hp (i + 1) z (by simpa using hz); simpa using this)
    simp only [List.map_cons, List.sum_cons]
    simp at h0
    omega
theorem wt_len (l : List Opx) : l.length ≤ wtO l := by
  induction l with
  | nil => simp [wtO]
  | cons a r ih => simp only [wtO, List.map_cons, List.sum_cons, List.length_cons] at ih ⊢; omega
theorem wt_mem {l : List Opx} {o : Opx} (h : o ∈ l) : o.keys.length ≤ wtO l := by
  induction l with
  | nil => simp at h
  | cons a r ih =>
    simp only [wtO, List.map_cons, List.sum_cons] at ih ⊢
    rcases List.mem_cons.1 h with rfl | h
    · omega
    · have := ih h; omega
theorem wtT_len (ts : List (List Opx)) : ts.length ≤ wtT ts := by
  induction ts with
  | nil => simp [wtT]
  | cons a r ih => simp only [wtT, List.map_cons, List.sum_cons, List.length_cons] at ih ⊢; omega
theorem wtT_mem {ts : List (List Opx)} {l : List Opx} (h : l ∈ ts) : wtO l ≤ wtT ts := by
  induction ts with
  | nil => simp at h
  | cons a r ih =>
    simp only [wtT, List.map_cons, List.sum_cons] at ih ⊢
    rcases List.mem_cons.1 h with rfl | h
    · omega
    · have := ih h; omega
theorem ops_open {H : Type} {enc : TypeId × Value → H} {W : World} {sp : Nat → Bool} {held : Bool} {fuel : Nat} {cs : List Value} {x : DataW H × List MemPlace} (h : DataW.trod enc Tryz.prog W 0 sp held fuel 75 cs = some x) :
    ∃ (p : Option Addr) (c : Nat) (l : List Opx), cs = [.slice p l.length c] ∧ ORd W p l ∧ (∀ o ∈ l, o.Ok) ∧ wtO l + 1 ≤ Rows.uptoBulk x.1 := by
  obtain ⟨p, n, c, hcs, bu, hbl, hbs, hr⟩ := slice_rowsS (s := 11) (Q := fun w cs => ∃ (o : Opx) (kp : Option Addr) (kc : Nat), cs = (opV o kp kc).toList ∧ o.Ok ∧ KRd W kp o.keys ∧ o.keys.length + 1 ≤ w) Tryz.underlying75 co_op (by decide) (fun fuel cs y hy => by
    have h1 := op_open hy
    refine ⟨h1, ?_⟩
    obtain ⟨o, kp, kc, e, _⟩ := h1
    rw [e]; rfl) h
  rcases hr with rfl | ⟨bk, off, rfl, hbk, hr⟩
  · exact ⟨p, c, [], hcs, .inl rfl, fun u hu => by simp at hu, by simpa [wtO] using bulk_one x.1⟩
  · obtain ⟨l, hl, hp⟩ := choose_list (P := fun i (o : Opx) => o.Ok ∧ o.keys.length + 1 ≤ bu.getD i 0 ∧ ∃ kp kc, KRd W kp o.keys ∧ ∀ (j : Nat) u, (opV o kp kc)[j]? = some u → W.cell? ⟨bk, off + i * 11 + j, none⟩ = some u) n (fun i hi => by
      obtain ⟨cs', ⟨w, hw, o, kp, kc, rfl, ho, hK, hwt⟩, hc⟩ := hr i hi
      refine ⟨o, ho, by simp only [List.getD, hw]; exact hwt, kp, kc, hK, fun j u hj => ?_⟩
      have := hc j u (by simpa using hj)
      rw [Nat.add_assoc]
      exact this)
    subst hl
    refine ⟨_, c, l, hcs, .inr ⟨bk, off, rfl, hbk, fun i o ho => ?_⟩, fun o ho => ?_, ?_⟩
    · obtain ⟨kp, kc, hK, hc⟩ := (hp i o ho).2.2
      exact ⟨kp, kc, hK, hc 0 _ rfl, hc 1 _ rfl, hc 2 _ rfl, hc 3 _ rfl, hc 4 _ rfl, hc 5 _ rfl, hc 6 _ rfl, hc 7 _ rfl, hc 8 _ rfl, hc 9 _ rfl, hc 10 _ rfl⟩
    · obtain ⟨i, hi, rfl⟩ := List.getElem_of_mem ho
      exact (hp i _ (List.getElem?_eq_getElem hi)).1
    · have := sum_le l (fun o => o.keys.length + 1) bu hbl (fun i y hy => (hp i y hy).2.1)
      unfold wtO
      omega
theorem ths_open {H : Type} {enc : TypeId × Value → H} {W : World} {sp : Nat → Bool} {held : Bool} {fuel : Nat} {cs : List Value} {x : DataW H × List MemPlace} (h : DataW.trod enc Tryz.prog W 0 sp held fuel 43 cs = some x) :
    ∃ (p : Option Addr) (c : Nat) (ts : List (List Opx)), cs = [.slice p ts.length c] ∧ TRd W p ts ∧ (∀ l ∈ ts, ∀ o ∈ l, o.Ok) ∧ wtT ts + 1 ≤ Rows.uptoBulk x.1 := by
  obtain ⟨p, n, c, hcs, bu, hbl, hbs, hr⟩ := slice_rowsS (s := 1) (Q := fun w cs => ∃ (p : Option Addr) (c : Nat) (l : List Opx), cs = [.slice p l.length c] ∧ ORd W p l ∧ (∀ o ∈ l, o.Ok) ∧ wtO l + 1 ≤ w) Tryz.underlying43 co_t (by decide) (fun fuel cs y hy => by
    have h1 := ops_open hy
    refine ⟨h1, ?_⟩
    obtain ⟨p, c, l, e, _⟩ := h1
    rw [e]; rfl) h
  rcases hr with rfl | ⟨bk, off, rfl, hbk, hr⟩
  · exact ⟨p, c, [], hcs, .inl rfl, fun u hu => by simp at hu, by simpa [wtT] using bulk_one x.1⟩
  · obtain ⟨ts, hl, hp⟩ := choose_list (P := fun i (l : List Opx) => (∀ o ∈ l, o.Ok) ∧ wtO l + 1 ≤ bu.getD i 0 ∧ ∃ lp lc, ORd W lp l ∧ W.cell? ⟨bk, off + i, none⟩ = some (.slice lp l.length lc)) n (fun i hi => by
      obtain ⟨cs', ⟨w, hw, lp, lc, l, rfl, hO, ho, hwt⟩, hc⟩ := hr i hi
      refine ⟨l, ho, by simp only [List.getD, hw]; exact hwt, lp, lc, hO, ?_⟩
      have := hc 0 _ rfl
      simpa using this)
    subst hl
    refine ⟨_, c, ts, hcs, .inr ⟨bk, off, rfl, hbk, fun i l hl => (hp i l hl).2.2⟩, fun l hl => ?_, ?_⟩
    · obtain ⟨i, hi, rfl⟩ := List.getElem_of_mem hl
      exact (hp i _ (List.getElem?_eq_getElem hi)).1
    · have := sum_le ts (fun l => wtO l + 1) bu hbl (fun i y hy => (hp i y hy).2.1)
      unfold wtT
      omega
theorem ints_open {H : Type} {enc : TypeId × Value → H} {W : World} {sp : Nat → Bool} {held : Bool} {fuel : Nat} {cs : List Value} {x : DataW H × List MemPlace} (h : DataW.trod enc Tryz.prog W 0 sp held fuel 44 cs = some x) :
    ∃ (p : Option Addr) (c : Nat) (l : List Int), cs = [.slice p l.length c] ∧ IRd W p l ∧ (∀ z ∈ l, isI z) ∧ l.length + 1 ≤ Rows.uptoBulk x.1 ∧ l.length ≤ c := by
  have hcap : ∀ p n c, cs = [.slice p n c] → n ≤ c := fun p n c e => by
    rcases open_slice Tryz.underlying44 h with ⟨hcs, _⟩ | ⟨a, len, cap, m, k, D, Pl, hcs, _, hl, _⟩
    · rw [e] at hcs; simp at hcs; omega
    · rw [e] at hcs; simp at hcs; omega
  obtain ⟨p, n, c, hcs, bu, hbl, hbs, hr⟩ := slice_rowsS (s := 1) (Q := fun w cs => 1 ≤ w ∧ ∃ z : Int, isI z ∧ cs = [.int .i64 z]) Tryz.underlying44 co_i (by decide) (fun fuel cs y hy => by
    obtain ⟨z, e, _, w⟩ := DataW.trod_int Tryz.underlying3 hy
    have b := bounds_i64 w
    exact ⟨⟨bulk_one _, z, ⟨b.1, by have := b.2; omega⟩, e⟩, by rw [e]; rfl⟩) h
  have hnc := hcap p n c hcs
  rcases hr with rfl | ⟨bk, off, rfl, hbk, hr⟩
  · exact ⟨p, c, [], hcs, .inl rfl, fun u hu => by simp at hu, by simpa using bulk_one x.1, by simp⟩
  · obtain ⟨l, hl, hp⟩ := choose_list (P := fun i (z : Int) => (1 ≤ bu.getD i 0) ∧ isI z ∧ W.cell? ⟨bk, off + i, none⟩ = some (.int .i64 z)) n (fun i hi => by
      obtain ⟨cs', ⟨w, hw, h1, z, hz, rfl⟩, hc⟩ := hr i hi
      refine ⟨z, by simp [List.getD, hw]; exact h1, hz, ?_⟩
      have := hc 0 _ rfl
      simpa using this)
    subst hl
    refine ⟨_, c, l, hcs, .inr ⟨bk, off, rfl, hbk, fun i z hz => (hp i z hz).2.2⟩, fun z hz => ?_, ?_, hnc⟩
    · obtain ⟨i, hi, rfl⟩ := List.getElem_of_mem hz
      exact (hp i _ (List.getElem?_eq_getElem hi)).2.1
    · have := sum_le l (fun _ => 1) bu hbl (fun i y hy => (hp i y hy).1)
      rw [ones] at this
      omega
theorem cfg_open {H : Type} {enc : TypeId × Value → H} {W : World} {sp : Nat → Bool} {held : Bool} {fuel : Nat} {cs : List Value} {x : DataW H × List MemPlace} (h : DataW.trod enc Tryz.prog W 0 sp held fuel 42 cs = some x) : ∃ (ce sl : Int) (stp : Nat) (mu : Int), cs = [.int .i64 ce, .int .i64 sl, .int .u64 (stp : Int), .int .i64 mu] ∧ isI ce ∧ isI sl ∧ isU stp ∧ isI mu := by
  obtain ⟨xs, n, hn, hx, hl, hlen, hh⟩ := DataW.trod_struct Tryz.underlying42 h
  rw [co_cf] at hl
  obtain ⟨c0, c1, c2, c3, rfl⟩ := list4 hl
  obtain ⟨y0, y1, y2, y3, rfl⟩ := list4 (show xs.length = 4 from hlen)
  have h0 : DataW.trod enc Tryz.prog W 0 sp held n 3 [c0] = some y0 := by have := hh 0 _ rfl; simpa [co_i] using this
  have h1 : DataW.trod enc Tryz.prog W 0 sp held n 3 [c1] = some y1 := by have := hh 1 _ rfl; simpa [co_i] using this
  have h2 : DataW.trod enc Tryz.prog W 0 sp held n 23 [c2] = some y2 := by have := hh 2 _ rfl; simpa [co_u] using this
  have h3 : DataW.trod enc Tryz.prog W 0 sp held n 3 [c3] = some y3 := by have := hh 3 _ rfl; simpa [co_i] using this
  obtain ⟨z0, e0, _, w0⟩ := DataW.trod_int Tryz.underlying3 h0
  obtain ⟨z1, e1, _, w1⟩ := DataW.trod_int Tryz.underlying3 h1
  obtain ⟨z2, e2, _, w2⟩ := DataW.trod_int Tryz.underlying23 h2
  obtain ⟨z3, e3, _, w3⟩ := DataW.trod_int Tryz.underlying3 h3
  have b0 := bounds_i64 w0
  have b1 := bounds_i64 w1
  have b3 := bounds_i64 w3
  obtain ⟨s, rfl, hs⟩ := nat_u64 w2
  simp at e0 e1 e2 e3
  subst e0 e1 e2 e3
  exact ⟨z0, z1, s, z3, rfl, ⟨b0.1, by have := b0.2; omega⟩, ⟨b1.1, by have := b1.2; omega⟩, hs, ⟨b3.1, by have := b3.2; omega⟩⟩
theorem script_open {H : Type} {enc : TypeId × Value → H} {W : World} {sp : Nat → Bool} {held : Bool} {fuel : Nat} {cs : List Value} {x : DataW H × List MemPlace} (h : DataW.trod enc Tryz.prog W 0 sp held fuel 46 cs = some x) :
    ∃ (ce sl : Int) (stp : Nat) (mu : Int) (tp : Option Addr) (tc : Nat) (ts : List (List Opx)) (pp : Option Addr) (pc : Nat) (ps : List Int), cs = (scR ce sl stp mu (.slice tp ts.length tc) (.slice pp ps.length pc)).toList ∧ (isI ce ∧ isI sl ∧ isU stp ∧ isI mu) ∧ TRd W tp ts ∧ IRd W pp ps ∧ ps.length ≤ pc ∧ (∀ l ∈ ts, ∀ o ∈ l, o.Ok) ∧ (∀ z ∈ ps, isI z) ∧ wtT ts + ps.length ≤ Rows.uptoBulk x.1 := by
  obtain ⟨xs, n, hn, hx, hl, hlen, hh⟩ := DataW.trod_struct Tryz.underlying46 h
  rw [co_sc] at hl
  obtain ⟨c0, c1, c2, c3, c4, c5, rfl⟩ := list6 hl
  obtain ⟨y0, y1, y2, rfl⟩ := list3 (show xs.length = 3 from hlen)
  have h0 : DataW.trod enc Tryz.prog W 0 sp held n 42 [c0, c1, c2, c3] = some y0 := by have := hh 0 _ rfl; simpa [co_cf] using this
  have h1 : DataW.trod enc Tryz.prog W 0 sp held n 43 [c4] = some y1 := by have := hh 1 _ rfl; simpa [co_th] using this
  have h2 : DataW.trod enc Tryz.prog W 0 sp held n 44 [c5] = some y2 := by have := hh 2 _ rfl; simpa [co_is] using this
  obtain ⟨ce, sl, stp, mu, e0, q1, q2, q3, q4⟩ := cfg_open h0
  obtain ⟨tp, tc, ts, e1, hT, hto, hwt⟩ := ths_open h1
  obtain ⟨pp, pc, ps, e2, hP, hpi, hpb, hpc⟩ := ints_open h2
  simp at e0 e1 e2
  obtain ⟨a0, a1, a2, a3⟩ := e0
  subst a0 a1 a2 a3 e1 e2
  refine ⟨ce, sl, stp, mu, tp, tc, ts, pp, pc, ps, rfl, ⟨q1, q2, q3, q4⟩, hT, hP, hpc, hto, hpi, ?_⟩
  have hx1 : x.1 = .agg [y0.1, y1.1, y2.1] := by rw [hx]; rfl
  rw [hx1]
  simp only [Rows.uptoBulk, Rows.uptoBulkAll]
  (try simp only at hwt hpb ⊢)
  omega
theorem script_ok {ts : List (List Opx)} {ps : List Int} (h1 : ∀ l ∈ ts, ∀ o ∈ l, o.Ok) (h2 : ∀ z ∈ ps, isI z) (hb : wtT ts + ps.length ≤ 1048576) : SOk ts ps := by
  refine ⟨by have := wtT_len ts; omega, by omega, fun l hl => ?_, fun l hl o ho => ⟨h1 l hl o ho, ?_⟩, h2⟩
  · have := wt_len l; have := wtT_mem hl; omega
  · have := wt_mem ho; have := wtT_mem hl; omega
theorem textO_len {o : Opx} (h : o.Ok) : (textO o).length ≤ 101 * (6 + o.keys.length) := by
  have hf : ∀ f ∈ partO o, f.length ≤ 100 := fun f hf => by
    unfold partO partsO at hf
    simp only [List.mem_append, List.mem_map, List.mem_singleton] at hf
    rcases hf with ((rfl | hf) | ⟨i, _, rfl⟩) | hf
    · unfold opW
      by_cases hk : o.k < 11
      · have : o.k = 0 ∨ o.k = 1 ∨ o.k = 2 ∨ o.k = 3 ∨ o.k = 4 ∨ o.k = 5 ∨ o.k = 6 ∨ o.k = 7 ∨ o.k = 8 ∨ o.k = 9 ∨ o.k = 10 := by omega
        rcases this with e | e | e | e | e | e | e | e | e | e | e <;> rw [e] <;> decide
      · rw [List.getD, List.getElem?_eq_none (by show 11 ≤ o.k; omega)]
        simp
    · split at hf
      · simp at hf
        subst hf
        unfold hText
        have a := itoa_len h.rt
        have b := itoa_len h.ri
        have c := dec_len h.hnd
        split
        · simp; omega
        · omega
      · simp at hf
    · have := dec_len (numAt_u h.key h.val h.old h.lo h.hi i)
      omega
    · split at hf
      · obtain ⟨u, hu, rfl⟩ := List.mem_map.1 hf
        have := dec_len (h.keys u hu)
        omega
      · simp at hf
  have hc : (partO o).length ≤ 6 + o.keys.length := by
    unfold partO partsO
    simp only [List.length_append, List.length_map, List.length_cons, List.length_nil]
    have n3 : (numK o.k).length ≤ 3 := by unfold numK; split <;> simp
    split <;> split <;> simp <;> omega
  have := join_len (partO o) hf
  show (Lib.join (partO o) [32]).length ≤ _
  omega
theorem opsT_len {l : List Opx} (h : ∀ o ∈ l, o.Ok) : (opsT l).length ≤ 707 * wtO l := by
  induction l with
  | nil => simp [opsT]
  | cons a r ih =>
    have h1 := ih (fun o ho => h o (by simp [ho]))
    have h2 := textO_len (h a (by simp))
    rw [opsT_cons]
    simp only [wtO, List.map_cons, List.sum_cons, List.length_append, List.length_cons, List.length_nil] at h1 ⊢
    omega
theorem thsT_len {ts : List (List Opx)} (h : ∀ l ∈ ts, ∀ o ∈ l, o.Ok) : (thsT ts).length ≤ 707 * wtT ts := by
  induction ts with
  | nil => simp [thsT]
  | cons a r ih =>
    have h1 := ih (fun l hl => h l (by simp [hl]))
    have h2 := opsT_len (h a (by simp))
    rw [thsT_cons]
    simp only [wtT, List.map_cons, List.sum_cons, List.length_append, thT, thW, List.length_cons, List.length_nil] at h1 ⊢
    omega
theorem pksT_len : ∀ (n : Nat) (l : List Int), l.length ≤ n → (∀ z ∈ l, isI z) → (pksT l).length ≤ 2222 * l.length
  | 0, l, hn, _ => by
    have : l = [] := List.eq_nil_of_length_eq_zero (by omega)
    subst this
    rw [pksT_nil]
    simp
  | n + 1, l, hn, h => by
    by_cases e : l = []
    · subst e; rw [pksT_nil]; simp
    · have hl : 0 < l.length := List.length_pos_iff.2 e
      have ih := pksT_len n (l.drop 20) (by rw [List.length_drop]; omega) (fun z hz => h z (List.mem_of_mem_drop hz))
      have hp := pkT_len (l.take 20) (fun z hz => h z (List.mem_of_mem_take hz))
      rw [List.length_drop] at ih
      rw [List.length_take] at hp
      rw [pksT_step e]
      simp only [List.length_append, List.length_cons, List.length_nil]
      omega
theorem texS_len {ce sl : Int} {stp : Nat} {mu : Int} {ts : List (List Opx)} {ps : List Int} (h1 : isI ce) (h2 : isI sl) (h3 : isU stp) (h4 : isI mu) (h5 : ∀ l ∈ ts, ∀ o ∈ l, o.Ok) (h6 : ∀ z ∈ ps, isI z) (hb : wtT ts + ps.length ≤ 1048576) : (texS ce sl stp mu ts ps).length ≤ 100000000000 := by
  have a := cfT_len h1 h2 h3 h4
  have b := thsT_len h5
  have c := pksT_len ps.length ps (Nat.le_refl _) h6
  unfold texS
  simp only [List.length_append, List.length_cons, List.length_nil]
  omega
end Go.Proofs.YtmmaniolaljjlaaGreatDoor
