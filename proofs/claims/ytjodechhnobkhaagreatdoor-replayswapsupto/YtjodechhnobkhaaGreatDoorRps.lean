/- What comes in: accesses, with their bulk. (mkRps.py) -/
import Derived.Lib.SmallJoins
import Derived.Deep.Slices
import Derived.Carry
import Derived.OpenShut
import Derived.SizedLaws
import Derived.Test.YtjodechhnobkhaaGreatDoorRows
import Derived.Test.YtjodechhnobkhaaGreatDoorRpr
namespace Go.Proofs.YtjodechhnobkhaaGreatDoor
open Go.RowKit Go.Joins Go.ChangeShapes Go.WideShapes Go.Deep
set_option linter.unusedVariables false

theorem bulk_one {H : Type} (d : DataW H) : 1 ≤ Rows.uptoBulk d := by
  cases d with
  | lit l => cases l <;> simp [Rows.uptoBulk]
  | nil => simp [Rows.uptoBulk]
  | ptr d => simp [Rows.uptoBulk]
  | slice elems spare => simp [Rows.uptoBulk]
  | agg parts => simp [Rows.uptoBulk]
  | iface t d => simp [Rows.uptoBulk]
  | map entries => simp [Rows.uptoBulk]
  | held h => simp [Rows.uptoBulk]
theorem bulk_length {H : Type} (l : List (DataW H)) : l.length ≤ Rows.uptoBulkAll l := by
  induction l with
  | nil => simp [Rows.uptoBulkAll]
  | cons x r ih => have := bulk_one x; simp only [Rows.uptoBulkAll, List.length_cons]; omega
theorem cells_each {w : World} {a : Addr} {n : Nat} {cs : List Value} (h : w.cells? 0 a n = some cs) : ∀ j u, cs[j]? = some u → w.cell? (a.add j) = some u := by
  obtain ⟨_, hl, hc⟩ := World.cells?_some h
  intro j u hj
  have hlt : j < n := by
    have := (List.getElem?_eq_some_iff.1 hj).1
    omega
  rw [hc j hlt, hj]
theorem choose_list {α : Type} {P : Nat → α → Prop} (n : Nat) (h : ∀ i, i < n → ∃ a, P i a) : ∃ l : List α, l.length = n ∧ ∀ (i : Nat) (a : α), l[i]? = some a → P i a := by
  induction n with
  | zero => exact ⟨[], rfl, fun i a e => by simp at e⟩
  | succ n ih =>
    obtain ⟨l, hl, hp⟩ := ih (fun i hi => h i (by omega))
    obtain ⟨a, ha⟩ := h n (by omega)
    refine ⟨l ++ [a], by simp [hl], fun i b e => ?_⟩
    by_cases c : i < n
    · rw [List.getElem?_append_left (by omega)] at e
      exact hp i b e
    · have hi : i = n := by
        have := (List.getElem?_eq_some_iff.1 e).1
        simp [hl] at this
        omega
      subst hi
      rw [← hl] at e
      simp at e
      subst e
      exact ha
/-- A list that came in: its elements' cells, each with its bulk. -/
theorem slice_rowsS {H : Type} {enc : TypeId × Value → H} {W : World} {sp : Nat → Bool} {held : Bool} {fuel : Nat} {cs : List Value} {x : DataW H × List MemPlace} {T E : TypeId} {s : Nat} {Q : Nat → List Value → Prop} (hT : Tryz.prog.underlying T = some (.slice E)) (hs : Tryz.prog.cellsOf E = s) (hs0 : 0 < s)
    (hQ : ∀ fuel cs y, DataW.trod enc Tryz.prog W 0 sp held fuel E cs = some y → Q (Rows.uptoBulk y.1) cs ∧ cs.length = s) (hf : DataW.trod enc Tryz.prog W 0 sp held fuel T cs = some x) :
    ∃ p n c, cs = [.slice p n c] ∧ ∃ bu : List Nat, bu.length = n ∧ bu.sum + 1 ≤ Rows.uptoBulk x.1 ∧ (n = 0 ∨ ∃ bk off, p = some ⟨bk, off, none⟩ ∧ bk < W.heap.size ∧ ∀ i, i < n → ∃ cs' : List Value, (∃ w, bu[i]? = some w ∧ Q w cs') ∧ ∀ (j : Nat) (u : Value), cs'[j]? = some u → W.cell? ⟨bk, off + (i * s + j), none⟩ = some u) := by
  rcases open_slice hT hf with ⟨hcs, hx0⟩ | ⟨a, len, cap, m, k, D, Pl, hcs, _, hl, hm, hme, hx, hi⟩
  · exact ⟨none, 0, 0, hcs, [], rfl, by simpa using bulk_one x.1, .inl rfl⟩
  · have hmn : len ≤ m := by rw [hme]; split <;> omega
    have hsum : ∀ (l : List (DataW H)), (l.map Rows.uptoBulk).sum = Rows.uptoBulkAll l := by
      intro l
      induction l with
      | nil => rfl
      | cons d r ih => simp [Rows.uptoBulkAll, ih]
    refine ⟨some a, len, cap, hcs, ((List.range len).map D).map Rows.uptoBulk, by simp, ?_, ?_⟩
    · rw [hsum, hx]
      simp only [Rows.uptoBulk]
      omega
    rcases Nat.eq_zero_or_pos len with h0 | h0
    · exact .inl h0
    · obtain ⟨bk, off, spot⟩ := a
      have hrow : ∀ i, i < len → ∃ cs' : List Value, ((∃ w, (((List.range len).map D).map Rows.uptoBulk)[i]? = some w ∧ Q w cs') ∧ cs'.length = s) ∧ ∀ (j : Nat) (u : Value), cs'[j]? = some u → W.cell? ((⟨bk, off, spot⟩ : Addr).add (i * s + j)) = some u := fun i hin => by
        obtain ⟨cs', hc, ht⟩ := hi i (by omega)
        obtain ⟨q1, q2⟩ := hQ _ _ _ ht
        refine ⟨cs', ⟨⟨_, by simp [hin], q1⟩, q2⟩, fun j u hj => ?_⟩
        rw [hs] at hc
        have e2 := cells_each hc j u hj
        have e3 : ((⟨bk, off, spot⟩ : Addr).add (i * s)).add j = (⟨bk, off, spot⟩ : Addr).add (i * s + j) := by
          unfold Addr.add
          split <;> split <;> simp_all <;> omega
        rw [← e3]
        exact e2
      have h00 : ∃ u, W.cell? ((⟨bk, off, spot⟩ : Addr).add 0) = some u := by
        obtain ⟨cs', ⟨_, hl'⟩, ho⟩ := hrow 0 h0
        obtain ⟨u, hu⟩ : ∃ u, cs'[0]? = some u := ⟨cs'[0]'(by omega), List.getElem?_eq_getElem _⟩
        exact ⟨u, by simpa using ho 0 u hu⟩
      obtain ⟨u, hu⟩ := h00
      have hspot : spot = none := by simpa [Addr.add] using World.cell?_spot hu
      subst hspot
      have hbk : bk < W.heap.size := World.block_lt_of_cell? W _ hu
      refine .inr ⟨bk, off, rfl, hbk, fun i hin => ?_⟩
      obtain ⟨cs', ⟨hq, _⟩, ho⟩ := hrow i hin
      refine ⟨cs', hq, fun j u hj => ?_⟩
      have e := ho j u hj
      unfold Addr.add at e
      split at e
      · rename_i z
        have z0 : i * s + j = 0 := by simpa using z
        rw [z0]
        exact e
      · exact e
theorem cut_next {cs f : List Value} {o s : Nat} (h : (cs.drop o).take s = f) : cs.drop o = f ++ cs.drop (o + s) := by
  rw [← h, ← List.drop_drop, List.take_append_drop]
theorem nat_u64 {n : Int} (h : (Lit.int .u64 n).wf = true) : ∃ m : Nat, n = (m : Int) ∧ m < 18446744073709551616 := by
  have b := bounds_u64 h
  exact ⟨n.toNat, by omega, by omega⟩
theorem nat_u8 {n : Int} (h : (Lit.int .u8 n).wf = true) : ∃ m : Nat, n = (m : Int) ∧ m < 256 := by
  have b := bounds_u8 h
  exact ⟨n.toNat, by omega, by omega⟩
theorem co_u : Tryz.prog.cellsOf 42 = 1 := by kernel_rfl
theorem co_us : Tryz.prog.cellsOf 27 = 1 := by kernel_rfl
theorem co_i : Tryz.prog.cellsOf 3 = 1 := by kernel_rfl
theorem co_b : Tryz.prog.cellsOf 4 = 1 := by kernel_rfl
theorem co_k : Tryz.prog.cellsOf 41 = 1 := by kernel_rfl
theorem co_a : Tryz.prog.cellsOf 44 = 8 := by kernel_rfl
theorem vals_open {H : Type} {enc : TypeId × Value → H} {W : World} {sp : Nat → Bool} {held : Bool} {fuel : Nat} {cs : List Value} {x : DataW H × List MemPlace} (h : DataW.trod enc Tryz.prog W 0 sp held fuel 27 cs = some x) :
    ∃ (p : Option Addr) (c : Nat) (l : List Nat), cs = [.slice p l.length c] ∧ URd W p l ∧ (∀ u ∈ l, isU u) ∧ l.length + 1 ≤ Rows.uptoBulk x.1 := by
  obtain ⟨p, n, c, hcs, bu, hbl, hbs, hr⟩ := slice_rowsS (s := 1) (Q := fun w cs => 1 ≤ w ∧ ∃ k : Nat, k < 18446744073709551616 ∧ cs = [.int .u64 (k : Int)]) Tryz.underlying27 co_u (by decide) (fun fuel cs y hy => by
    obtain ⟨z, e, _, w⟩ := DataW.trod_int Tryz.underlying42 hy
    obtain ⟨k, rfl, hk⟩ := nat_u64 w
    exact ⟨⟨bulk_one _, k, hk, e⟩, by rw [e]; rfl⟩) h
  rcases hr with rfl | ⟨bk, off, rfl, hbk, hr⟩
  · exact ⟨p, c, [], hcs, .inl rfl, fun u hu => by simp at hu, by simpa using bulk_one x.1⟩
  · obtain ⟨l, hl, hp⟩ := choose_list (P := fun i (k : Nat) => (1 ≤ bu.getD i 0) ∧ k < 18446744073709551616 ∧ W.cell? ⟨bk, off + i, none⟩ = some (.int .u64 (k : Int))) n (fun i hi => by
      obtain ⟨cs', ⟨w, hw, h1, k, hk, rfl⟩, hc⟩ := hr i hi
      refine ⟨k, by simp [List.getD, hw]; exact h1, hk, ?_⟩
      have := hc 0 _ rfl
      simpa using this)
    have hsum : ∀ (b : List Nat), (∀ i, i < b.length → 1 ≤ b.getD i 0) → b.length ≤ b.sum := by
      intro b
      induction b with
      | nil => intro _; simp
      | cons z r ih =>
        intro hb
        have h0 := hb 0 (by simp)
        have h1 := ih (fun i hi => by have := hb (i + 1) (by simp; omega); simpa using this)
        simp only [List.length_cons, List.sum_cons]
        simp at h0
        omega
    subst hl
    refine ⟨_, c, l, hcs, .inr ⟨bk, off, rfl, hbk, fun i u hu => (hp i u hu).2.2⟩, fun u hu => ?_, ?_⟩
    · obtain ⟨i, hi, rfl⟩ := List.getElem_of_mem hu
      exact (hp i _ (List.getElem?_eq_getElem hi)).2.1
    · have := hsum bu (fun i hi => by
        rw [hbl] at hi
        exact (hp i l[i] (List.getElem?_eq_getElem hi)).1)
      omega
theorem bulk8 {H : Type} (xs : List (DataW H × List MemPlace)) (hl : xs.length = 8) (v : Nat) (h5 : ∀ h : 5 < xs.length, v + 1 ≤ Rows.uptoBulk (xs[5]'h).1) : 6 + v ≤ Rows.uptoBulk (.agg (xs.map Prod.fst)) := by
  match xs, hl with
  | [x0, x1, x2, x3, x4, x5, x6, x7], _ =>
    have hub := h5 (by simp)
    simp only [List.map_cons, List.map_nil, Rows.uptoBulk, Rows.uptoBulkAll]
    simp at hub
    have := bulk_one x0.1
    have := bulk_one x1.1
    have := bulk_one x2.1
    have := bulk_one x3.1
    have := bulk_one x4.1
    have := bulk_one x6.1
    omega
theorem acc_open {H : Type} {enc : TypeId × Value → H} {W : World} {sp : Nat → Bool} {held : Bool} {fuel : Nat} {cs : List Value} {x : DataW H × List MemPlace} (hf : DataW.trod enc Tryz.prog W 0 sp held fuel 44 cs = some x) : ∃ (y : Ax) (vp : Option Addr) (vc : Nat), cs = (bxA y (.slice vp y.vals.length vc)).toList ∧ y.Ok ∧ URd W vp y.vals ∧ 6 + y.vals.length ≤ Rows.uptoBulk x.1 := by
  obtain ⟨xs, n, hn, hx, hl, hlen, hh⟩ := DataW.trod_struct Tryz.underlying44 hf
  rw [co_a] at hl
  have h0 := (hh 0 _ rfl).trans (List.getElem?_eq_getElem (show 0 < xs.length by rw [hlen]; decide))
  obtain ⟨th, e0, _, w_th⟩ := DataW.trod_int Tryz.underlying3 h0
  have r0 : (cs.drop 0).take (Tryz.prog.cellsOf 3) = _ := e0
  rw [co_i] at r0
  have s0 : cs.drop 0 = _ ++ cs.drop 1 := cut_next r0
  have h1 := (hh 1 _ rfl).trans (List.getElem?_eq_getElem (show 1 < xs.length by rw [hlen]; decide))
  obtain ⟨kd, e1, _, w_kd⟩ := DataW.trod_int Tryz.underlying41 h1
  have r1 : (cs.drop 1).take (Tryz.prog.cellsOf 41) = _ := e1
  rw [co_k] at r1
  have s1 : cs.drop 1 = _ ++ cs.drop 2 := cut_next r1
  have h2 := (hh 2 _ rfl).trans (List.getElem?_eq_getElem (show 2 < xs.length by rw [hlen]; decide))
  obtain ⟨ad, e2, _, w_ad⟩ := DataW.trod_int Tryz.underlying42 h2
  have r2 : (cs.drop 2).take (Tryz.prog.cellsOf 42) = _ := e2
  rw [co_u] at r2
  have s2 : cs.drop 2 = _ ++ cs.drop 3 := cut_next r2
  have h3 := (hh 3 _ rfl).trans (List.getElem?_eq_getElem (show 3 < xs.length by rw [hlen]; decide))
  obtain ⟨a, e3, _, w_a⟩ := DataW.trod_int Tryz.underlying42 h3
  have r3 : (cs.drop 3).take (Tryz.prog.cellsOf 42) = _ := e3
  rw [co_u] at r3
  have s3 : cs.drop 3 = _ ++ cs.drop 4 := cut_next r3
  have h4 := (hh 4 _ rfl).trans (List.getElem?_eq_getElem (show 4 < xs.length by rw [hlen]; decide))
  obtain ⟨b, e4, _, w_b⟩ := DataW.trod_int Tryz.underlying42 h4
  have r4 : (cs.drop 4).take (Tryz.prog.cellsOf 42) = _ := e4
  rw [co_u] at r4
  have s4 : cs.drop 4 = _ ++ cs.drop 5 := cut_next r4
  have h5 := (hh 5 _ rfl).trans (List.getElem?_eq_getElem (show 5 < xs.length by rw [hlen]; decide))
  obtain ⟨vp, vc, vl, e5, hur, huv, hub⟩ := vals_open h5
  have r5 : (cs.drop 5).take (Tryz.prog.cellsOf 27) = _ := e5
  rw [co_us] at r5
  have s5 : cs.drop 5 = _ ++ cs.drop 6 := cut_next r5
  have h6 := (hh 6 _ rfl).trans (List.getElem?_eq_getElem (show 6 < xs.length by rw [hlen]; decide))
  obtain ⟨go, e6, _, w_go⟩ := DataW.trod_int Tryz.underlying42 h6
  have r6 : (cs.drop 6).take (Tryz.prog.cellsOf 42) = _ := e6
  rw [co_u] at r6
  have s6 : cs.drop 6 = _ ++ cs.drop 7 := cut_next r6
  have h7 := (hh 7 _ rfl).trans (List.getElem?_eq_getElem (show 7 < xs.length by rw [hlen]; decide))
  obtain ⟨ok, e7, _⟩ := DataW.trod_bool Tryz.underlying4 h7
  have r7 : (cs.drop 7).take (Tryz.prog.cellsOf 4) = _ := e7
  rw [co_b] at r7
  have s7 : cs.drop 7 = _ ++ cs.drop 8 := cut_next r7
  have z : cs.drop 8 = [] := List.drop_eq_nil_of_le (by omega)
  rw [z] at s7
  rw [s7] at s6
  rw [s6] at s5
  rw [s5] at s4
  rw [s4] at s3
  rw [s3] at s2
  rw [s2] at s1
  rw [s1] at s0
  obtain ⟨kd, rfl, hkd⟩ := nat_u8 w_kd
  obtain ⟨ad, rfl, had⟩ := nat_u64 w_ad
  obtain ⟨a, rfl, ha⟩ := nat_u64 w_a
  obtain ⟨b, rfl, hb⟩ := nat_u64 w_b
  obtain ⟨go, rfl, hgo⟩ := nat_u64 w_go
  have bt := bounds_i64 w_th
  refine ⟨⟨th, kd, ad, a, b, vl, go, ok⟩, vp, vc, (List.drop_zero (l := cs)).symm.trans s0, ⟨bt.1, by have := bt.2; simp only; omega, hkd, had, ha, hb, hgo, huv⟩, hur, ?_⟩
  have hx1 : x.1 = .agg (xs.map Prod.fst) := by rw [hx]
  rw [hx1]
  have hl8 : xs.length = 8 := by rw [hlen]; rfl
  exact bulk8 xs hl8 _ (fun _ => hub)
theorem wt_sum : ∀ (l : List Ax) (bu : List Nat), bu.length = l.length → (∀ (i : Nat) (y : Ax), l[i]? = some y → 6 + y.vals.length ≤ bu.getD i 0) → wtA l ≤ bu.sum
  | [], bu, _, _ => by simp [wtA]
  | y :: l, [], h, _ => by simp at h
  | y :: l, b :: bu, h, hp => by
    have h0 := hp 0 y rfl
    have ih := wt_sum l bu (by simpa using h) (fun i z hz => by have := hp (i + 1) z (by simpa using hz); simpa using this)
    simp only [wtA, List.sum_cons]
    simp at h0
    omega
theorem accs_open {H : Type} {enc : TypeId × Value → H} {W : World} {sp : Nat → Bool} {held : Bool} {fuel : Nat} {cs : List Value} {x : DataW H × List MemPlace} (h : DataW.trod enc Tryz.prog W 0 sp held fuel 22 cs = some x) (hb : Rows.uptoBulk x.1 ≤ 1048576) :
    ∃ (p : Option Addr) (c : Nat) (l : List Ax), cs = [.slice p l.length c] ∧ In W p l := by
  obtain ⟨p, n, c, hcs, bu, hbl, hbs, hr⟩ := slice_rowsS (s := 8) (Q := fun w cs => ∃ (y : Ax) (vp : Option Addr) (vc : Nat), cs = (bxA y (.slice vp y.vals.length vc)).toList ∧ y.Ok ∧ URd W vp y.vals ∧ 6 + y.vals.length ≤ w) Tryz.underlying22 co_a (by decide) (fun fuel cs y hy => by
    have h1 := acc_open hy
    refine ⟨h1, ?_⟩
    obtain ⟨y, vp, vc, e, _⟩ := h1
    rw [e]; rfl) h
  rcases hr with rfl | ⟨bk, off, rfl, hbk, hr⟩
  · exact ⟨p, c, [], hcs, .inl rfl, fun u hu => by simp at hu, by simp [wtA]⟩
  · obtain ⟨l, hl, hp⟩ := choose_list (P := fun i (y : Ax) => y.Ok ∧ 6 + y.vals.length ≤ bu.getD i 0 ∧ ∃ vp vc, (∀ (j : Nat) u, (bxA y (.slice vp y.vals.length vc))[j]? = some u → W.cell? ⟨bk, off + i * 8 + j, none⟩ = some u) ∧ URd W vp y.vals) n (fun i hi => by
      obtain ⟨cs', ⟨w, hw, y, vp, vc, rfl, ho, hu, hwt⟩, hc⟩ := hr i hi
      refine ⟨y, ho, by simp only [List.getD, hw]; exact hwt, vp, vc, fun j u hj => ?_, hu⟩
      have := hc j u (by simpa using hj)
      rw [Nat.add_assoc]
      exact this)
    subst hl
    refine ⟨_, c, l, hcs, .inr ⟨bk, off, rfl, hbk, fun i y hy => (hp i y hy).2.2⟩, fun y hy => ?_, ?_⟩
    · obtain ⟨i, hi, rfl⟩ := List.getElem_of_mem hy
      exact (hp i _ (List.getElem?_eq_getElem hi)).1
    · have := wt_sum l bu hbl (fun i y hy => (hp i y hy).2.1)
      omega
end Go.Proofs.YtjodechhnobkhaaGreatDoor
