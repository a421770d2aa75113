/- Calls that come in, with their bounds. -/
import Derived.SizedLaws
import Derived.Test.YtimlaamhjbhkmaaGreatZj
namespace Go.Proofs.YtimlaamhjbhkmaaGreat
open Go.RowKit Go.Joins Go.ChangeShapes Go.WideShapes Go.Deep
set_option linter.unusedVariables false

def Wt {H : Type} (t : TypeId) (d : DataW H) : Prop := ∀ m ∈ DataW.weights Tryz.prog t d, m ≤ reachBytes
theorem all_mem {H : Type} {e : TypeId} {l : List (DataW H)} {d : DataW H} (h : d ∈ l) {m : Nat} (hm : m ∈ DataW.weights Tryz.prog e d) : m ∈ DataW.weightsAll Tryz.prog e l := by
  induction l with
  | nil => simp at h
  | cons x r ih =>
    simp only [DataW.weightsAll, List.mem_append]
    rcases List.mem_cons.1 h with rfl | h
    · exact .inl hm
    · exact .inr (ih h)
theorem wt_elem {H : Type} {T E : TypeId} (hT : Tryz.prog.underlying T = some (.slice E)) {el sp : List (DataW H)} (hw : Wt T (.slice el sp)) {d : DataW H} (hd : d ∈ el) : Wt E d := fun m hm => hw m (by
  simp only [DataW.weights, hT, List.mem_cons, List.mem_append]
  exact .inr (.inl (all_mem hd hm)))
theorem wt_len {H : Type} {T E : TypeId} (hT : Tryz.prog.underlying T = some (.slice E)) {el sp : List (DataW H)} (hw : Wt T (.slice el sp)) : (el.length + sp.length) * Tryz.prog.bytesOf E ≤ reachBytes := hw _ (by simp [DataW.weights, hT])
theorem cut_next {cs f : List Value} {o s : Nat} (h : (cs.drop o).take s = f) : cs.drop o = f ++ cs.drop (o + s) := by
  rw [← h, ← List.drop_drop, List.take_append_drop]
theorem slice_rowsW {H : Type} {enc : TypeId × Value → H} {W : World} {sp : Nat → Bool} {held : Bool} {fuel : Nat} {cs : List Value} {x : DataW H × List MemPlace} {T E : TypeId} {s : Nat} {Q : List Value → Prop} (hT : Tryz.prog.underlying T = some (.slice E)) (hs : Tryz.prog.cellsOf E = s) (hs0 : 0 < s)
    (hQ : ∀ fuel cs y, DataW.trod enc Tryz.prog W 0 sp held fuel E cs = some y → Wt E y.1 → Q cs ∧ cs.length = s) (hf : DataW.trod enc Tryz.prog W 0 sp held fuel T cs = some x) (hw : Wt T x.1) :
    ∃ p n c, cs = [.slice p n c] ∧ n * Tryz.prog.bytesOf E ≤ reachBytes ∧ (n = 0 ∨ ∃ bk off, p = some ⟨bk, off, none⟩ ∧ bk < W.heap.size ∧ ∀ i, i < n → ∃ cs' : List Value, Q cs' ∧ ∀ (j : Nat) (u : Value), cs'[j]? = some u → W.cell? ⟨bk, off + (i * s + j), none⟩ = some u) := by
  rcases open_slice hT hf with ⟨hcs, _⟩ | ⟨a, len, cap, m, k, D, Pl, hcs, _, hl, hm, hme, hx, hi⟩
  · exact ⟨none, 0, 0, hcs, by simp, .inl rfl⟩
  · have hmn : len ≤ m := by rw [hme]; split <;> omega
    have hb : len * Tryz.prog.bytesOf E ≤ reachBytes := by
      rw [hx] at hw
      have := wt_len hT hw
      refine Nat.le_trans (Nat.mul_le_mul_right _ ?_) this
      simp
    refine ⟨some a, len, cap, hcs, hb, ?_⟩
    rcases Nat.eq_zero_or_pos len with h0 | h0
    · exact .inl h0
    · obtain ⟨bk, off, spot⟩ := a
      have hrow : ∀ i, i < len → ∃ cs' : List Value, (Q cs' ∧ cs'.length = s) ∧ ∀ (j : Nat) (u : Value), cs'[j]? = some u → W.cell? ((⟨bk, off, spot⟩ : Addr).add (i * s + j)) = some u := fun i hin => by
        obtain ⟨cs', hc, ht⟩ := hi i (by omega)
        refine ⟨cs', hQ _ _ _ ht (by rw [hx] at hw; exact wt_elem hT hw (List.mem_map.2 ⟨i, List.mem_range.2 hin, rfl⟩)), fun j u hj => ?_⟩
        rw [hs] at hc
        have e2 := cells_each hc j u hj
        have e3 : ((⟨bk, off, spot⟩ : Addr).add (i * s)).add j = (⟨bk, off, spot⟩ : Addr).add (i * s + j) := by
          unfold Addr.add
          split <;> split <;> simp_all <;> omega
        rw [← e3]
        exact e2
      have h00 : ∃ u, W.cell? ((⟨bk, off, spot⟩ : Addr).add 0) = some u := by
        obtain ⟨cs', ⟨_, hl'⟩, ho⟩ := hrow 0 h0
        obtain ⟨u, hu⟩ : ∃ u, cs'[0]? = some u := ⟨cs'[0]'(by omega), List.getElem?_eq_getElem _⟩
        exact ⟨u, by simpa using ho 0 u hu⟩
      obtain ⟨u, hu⟩ := h00
      have hspot : spot = none := by simpa [Addr.add] using World.cell?_spot hu
      subst hspot
      have hbk : bk < W.heap.size := World.block_lt_of_cell? W _ hu
      refine .inr ⟨bk, off, rfl, hbk, fun i hin => ?_⟩
      obtain ⟨cs', ⟨hq, _⟩, ho⟩ := hrow i hin
      refine ⟨cs', hq, fun j u hj => ?_⟩
      have e := ho j u hj
      unfold Addr.add at e
      split at e
      · rename_i z
        have z0 : i * s + j = 0 := by simpa using z
        rw [z0]
        exact e
      · exact e
theorem by_u : Tryz.prog.bytesOf 31 = 8 := by kernel_rfl
theorem by_p : Tryz.prog.bytesOf 52 = 16 := by kernel_rfl
theorem by_c : Tryz.prog.bytesOf 42 = 192 := by kernel_rfl
theorem keys_cells {H : Type} {enc : TypeId × Value → H} {W : World} {sp : Nat → Bool} {held : Bool} {fuel : Nat} {cs : List Value} {x : DataW H × List MemPlace} (h : DataW.trod enc Tryz.prog W 0 sp held fuel 34 cs = some x) (hw : Wt 34 x.1) :
    ∃ (p : Option Addr) (c : Nat) (l : List Nat), cs = [.slice p l.length c] ∧ KeysAt W p l ∧ l.length ≤ 17592186043904 := by
  obtain ⟨p, n, c, hcs, hb, hr⟩ := slice_rowsW (s := 1) (Q := fun cs => ∃ k : Nat, k < 18446744073709551616 ∧ cs = [.int .u64 (k : Int)]) Tryz.underlying34 coU (by decide) (fun fuel cs y hy _ => by
    obtain ⟨z, e, _, w⟩ := DataW.trod_int Tryz.underlying31 hy
    obtain ⟨k, rfl, hk⟩ := nat_u64 w
    exact ⟨⟨k, hk, e⟩, by rw [e]; rfl⟩) h hw
  rw [by_u] at hb
  unfold reachBytes at hb
  rcases hr with rfl | ⟨bk, off, rfl, hbk, hr⟩
  · exact ⟨p, c, [], hcs, .inl rfl, by simp⟩
  · obtain ⟨l, hl, hp⟩ := choose_list (P := fun i (k : Nat) => k < 18446744073709551616 ∧ W.cell? ⟨bk, off + i, none⟩ = some (.int .u64 (k : Int))) n (fun i hi => by
      obtain ⟨cs', ⟨k, hk, rfl⟩, hc⟩ := hr i hi
      have := hc 0 _ rfl
      simp at this
      exact ⟨k, hk, this⟩)
    subst hl
    exact ⟨_, c, l, hcs, .inr ⟨bk, off, rfl, hbk, hp⟩, by omega⟩
theorem pairs_cellsL {H : Type} {enc : TypeId × Value → H} {W : World} {sp : Nat → Bool} {held : Bool} {fuel : Nat} {cs : List Value} {x : DataW H × List MemPlace} (h : DataW.trod enc Tryz.prog W 0 sp held fuel 38 cs = some x) (hw : Wt 38 x.1) :
    ∃ (p : Option Addr) (c : Nat) (l : List (Nat × Nat)), cs = [.slice p l.length c] ∧ PairsAt W p l ∧ l.length ≤ 8796093021952 := by
  obtain ⟨p, n, c, hcs, hb, _⟩ := slice_rowsW (s := 2) (Q := fun cs => True) Tryz.underlying38 coPair (by decide) (fun fuel cs y hy _ => by
    obtain ⟨xs, n, rfl, rfl, hl, hlen, hh⟩ := DataW.trod_struct Tryz.underlying52 hy
    rw [coPair] at hl
    exact ⟨trivial, hl⟩) h hw
  rw [by_p] at hb
  unfold reachBytes at hb
  subst hcs
  obtain ⟨l, hl2, hP⟩ := pairs_open (d := x.1) (ps := x.2) ⟨fuel, by simpa [Value.cells] using h⟩
  subst hl2
  exact ⟨p, c, l, rfl, hP, by omega⟩
theorem co_3 : Tryz.prog.cellsOf 3 = 1 := by kernel_rfl
theorem co_4 : Tryz.prog.cellsOf 4 = 1 := by kernel_rfl
theorem co_30 : Tryz.prog.cellsOf 30 = 1 := by kernel_rfl
theorem co_31 : Tryz.prog.cellsOf 31 = 1 := by kernel_rfl
theorem co_33 : Tryz.prog.cellsOf 33 = 3 := by kernel_rfl
theorem co_34 : Tryz.prog.cellsOf 34 = 1 := by kernel_rfl
theorem co_36 : Tryz.prog.cellsOf 36 = 11 := by kernel_rfl
theorem co_37 : Tryz.prog.cellsOf 37 = 1 := by kernel_rfl
theorem co_38 : Tryz.prog.cellsOf 38 = 1 := by kernel_rfl
theorem co_40 : Tryz.prog.cellsOf 40 = 7 := by kernel_rfl
theorem co_42 : Tryz.prog.cellsOf 42 = 20 := by kernel_rfl
theorem open_33 {H : Type} {enc : TypeId × Value → H} {W : World} {sp : Nat → Bool} {held : Bool} {fuel : Nat} {cs : List Value} {x : DataW H × List MemPlace} (hf : DataW.trod enc Tryz.prog W 0 sp held fuel 33 cs = some x) (hw : Wt 33 x.1) : ∃ (r5 : Bool) (r6 : Int) (r7 : Int), cs = [.bool r5, .int .i64 r6, .int .i64 r7] ∧ (Lit.int .i64 r6).wf = true ∧ (Lit.int .i64 r7).wf = true := by
  obtain ⟨xs, n, hn0, hx, hl, hlen, hh⟩ := DataW.trod_struct Tryz.underlying33 hf
  rw [co_33] at hl
  have hwe : ∀ (j : Nat) (ft : TypeId) (d : DataW H), ([4, 3, 3] : List TypeId)[j]? = some ft → (xs.map (·.1))[j]? = some d → Wt ft d := fun j ft d h1 h2 m hm => hw m (by
    rw [hx]
    simp only [DataW.weights, Tryz.underlying33]
    exact DataW.weights_mem_each (ts := [4, 3, 3]) h1 h2 m hm)
  have l0 : 0 < xs.length := by rw [hlen]; decide
  have h0 := (hh 0 _ rfl).trans (List.getElem?_eq_getElem l0)
  have g0 := hwe 0 _ _ rfl (by rw [List.getElem?_map, List.getElem?_eq_getElem l0]; rfl)
  obtain ⟨r5, e0, _⟩ := DataW.trod_bool Tryz.underlying4 h0
  have y0 : (cs.drop 0).take (Tryz.prog.cellsOf 4) = _ := e0
  rw [co_4] at y0
  have s0 : cs.drop 0 = _ ++ cs.drop 1 := cut_next y0
  have l1 : 1 < xs.length := by rw [hlen]; decide
  have h1 := (hh 1 _ rfl).trans (List.getElem?_eq_getElem l1)
  have g1 := hwe 1 _ _ rfl (by rw [List.getElem?_map, List.getElem?_eq_getElem l1]; rfl)
  obtain ⟨r6, e1, _, f_r6⟩ := DataW.trod_int Tryz.underlying3 h1
  have y1 : (cs.drop 1).take (Tryz.prog.cellsOf 3) = _ := e1
  rw [co_3] at y1
  have s1 : cs.drop 1 = _ ++ cs.drop 2 := cut_next y1
  have l2 : 2 < xs.length := by rw [hlen]; decide
  have h2 := (hh 2 _ rfl).trans (List.getElem?_eq_getElem l2)
  have g2 := hwe 2 _ _ rfl (by rw [List.getElem?_map, List.getElem?_eq_getElem l2]; rfl)
  obtain ⟨r7, e2, _, f_r7⟩ := DataW.trod_int Tryz.underlying3 h2
  have y2 : (cs.drop 2).take (Tryz.prog.cellsOf 3) = _ := e2
  rw [co_3] at y2
  have s2 : cs.drop 2 = _ ++ cs.drop 3 := cut_next y2
  have z : cs.drop 3 = [] := List.drop_eq_nil_of_le (by omega)
  rw [z] at s2
  rw [s2] at s1
  rw [s1] at s0
  exact ⟨r5, r6, r7, (List.drop_zero (l := cs)).symm.trans s0, f_r6, f_r7⟩
theorem open_36 {H : Type} {enc : TypeId × Value → H} {W : World} {sp : Nat → Bool} {held : Bool} {fuel : Nat} {cs : List Value} {x : DataW H × List MemPlace} (hf : DataW.trod enc Tryz.prog W 0 sp held fuel 36 cs = some x) (hw : Wt 36 x.1) : ∃ (kd : Int) (k : Nat) (v : Nat) (od : Nat) (hk : Nat) (r5 : Bool) (r6 : Int) (r7 : Int) (ksp : Option Addr) (ksc : Nat) (ks : List Nat) (lo : Nat) (hi : Nat), cs = [.int .u8 kd, .int .u64 (k : Int), .int .u64 (v : Int), .int .u64 (od : Int), .int .u64 (hk : Int), .bool r5, .int .i64 r6, .int .i64 r7, .slice ksp ks.length ksc, .int .u64 (lo : Int), .int .u64 (hi : Int)] ∧ (Lit.int .i64 r6).wf = true ∧ (Lit.int .i64 r7).wf = true ∧ (KeysAt W ksp ks ∧ ks.length ≤ 17592186043904) := by
  obtain ⟨xs, n, hn0, hx, hl, hlen, hh⟩ := DataW.trod_struct Tryz.underlying36 hf
  rw [co_36] at hl
  have hwe : ∀ (j : Nat) (ft : TypeId) (d : DataW H), ([30, 31, 31, 31, 31, 33, 34, 31, 31] : List TypeId)[j]? = some ft → (xs.map (·.1))[j]? = some d → Wt ft d := fun j ft d h1 h2 m hm => hw m (by
    rw [hx]
    simp only [DataW.weights, Tryz.underlying36]
    exact DataW.weights_mem_each (ts := [30, 31, 31, 31, 31, 33, 34, 31, 31]) h1 h2 m hm)
  have l0 : 0 < xs.length := by rw [hlen]; decide
  have h0 := (hh 0 _ rfl).trans (List.getElem?_eq_getElem l0)
  have g0 := hwe 0 _ _ rfl (by rw [List.getElem?_map, List.getElem?_eq_getElem l0]; rfl)
  obtain ⟨kd, e0, _, _⟩ := DataW.trod_int Tryz.underlying30 h0
  have y0 : (cs.drop 0).take (Tryz.prog.cellsOf 30) = _ := e0
  rw [co_30] at y0
  have s0 : cs.drop 0 = _ ++ cs.drop 1 := cut_next y0
  have l1 : 1 < xs.length := by rw [hlen]; decide
  have h1 := (hh 1 _ rfl).trans (List.getElem?_eq_getElem l1)
  have g1 := hwe 1 _ _ rfl (by rw [List.getElem?_map, List.getElem?_eq_getElem l1]; rfl)
  obtain ⟨z_k, e1, _, w_k⟩ := DataW.trod_int Tryz.underlying31 h1
  obtain ⟨k, rfl, _⟩ := nat_u64 w_k
  have y1 : (cs.drop 1).take (Tryz.prog.cellsOf 31) = _ := e1
  rw [co_31] at y1
  have s1 : cs.drop 1 = _ ++ cs.drop 2 := cut_next y1
  have l2 : 2 < xs.length := by rw [hlen]; decide
  have h2 := (hh 2 _ rfl).trans (List.getElem?_eq_getElem l2)
  have g2 := hwe 2 _ _ rfl (by rw [List.getElem?_map, List.getElem?_eq_getElem l2]; rfl)
  obtain ⟨z_v, e2, _, w_v⟩ := DataW.trod_int Tryz.underlying31 h2
  obtain ⟨v, rfl, _⟩ := nat_u64 w_v
  have y2 : (cs.drop 2).take (Tryz.prog.cellsOf 31) = _ := e2
  rw [co_31] at y2
  have s2 : cs.drop 2 = _ ++ cs.drop 3 := cut_next y2
  have l3 : 3 < xs.length := by rw [hlen]; decide
  have h3 := (hh 3 _ rfl).trans (List.getElem?_eq_getElem l3)
  have g3 := hwe 3 _ _ rfl (by rw [List.getElem?_map, List.getElem?_eq_getElem l3]; rfl)
  obtain ⟨z_od, e3, _, w_od⟩ := DataW.trod_int Tryz.underlying31 h3
  obtain ⟨od, rfl, _⟩ := nat_u64 w_od
  have y3 : (cs.drop 3).take (Tryz.prog.cellsOf 31) = _ := e3
  rw [co_31] at y3
  have s3 : cs.drop 3 = _ ++ cs.drop 4 := cut_next y3
  have l4 : 4 < xs.length := by rw [hlen]; decide
  have h4 := (hh 4 _ rfl).trans (List.getElem?_eq_getElem l4)
  have g4 := hwe 4 _ _ rfl (by rw [List.getElem?_map, List.getElem?_eq_getElem l4]; rfl)
  obtain ⟨z_hk, e4, _, w_hk⟩ := DataW.trod_int Tryz.underlying31 h4
  obtain ⟨hk, rfl, _⟩ := nat_u64 w_hk
  have y4 : (cs.drop 4).take (Tryz.prog.cellsOf 31) = _ := e4
  rw [co_31] at y4
  have s4 : cs.drop 4 = _ ++ cs.drop 5 := cut_next y4
  have l5 : 5 < xs.length := by rw [hlen]; decide
  have h5 := (hh 5 _ rfl).trans (List.getElem?_eq_getElem l5)
  have g5 := hwe 5 _ _ rfl (by rw [List.getElem?_map, List.getElem?_eq_getElem l5]; rfl)
  obtain ⟨r5, r6, r7, e5, f_r6, f_r7⟩ := open_33 h5 g5
  have y5 : (cs.drop 5).take (Tryz.prog.cellsOf 33) = _ := e5
  rw [co_33] at y5
  have s5 : cs.drop 5 = _ ++ cs.drop 8 := cut_next y5
  have l6 : 6 < xs.length := by rw [hlen]; decide
  have h6 := (hh 6 _ rfl).trans (List.getElem?_eq_getElem l6)
  have g6 := hwe 6 _ _ rfl (by rw [List.getElem?_map, List.getElem?_eq_getElem l6]; rfl)
  obtain ⟨ksp, ksc, ks, e6, f_ks⟩ := keys_cells h6 g6
  have y6 : (cs.drop 8).take (Tryz.prog.cellsOf 34) = _ := e6
  rw [co_34] at y6
  have s6 : cs.drop 8 = _ ++ cs.drop 9 := cut_next y6
  have l7 : 7 < xs.length := by rw [hlen]; decide
  have h7 := (hh 7 _ rfl).trans (List.getElem?_eq_getElem l7)
  have g7 := hwe 7 _ _ rfl (by rw [List.getElem?_map, List.getElem?_eq_getElem l7]; rfl)
  obtain ⟨z_lo, e7, _, w_lo⟩ := DataW.trod_int Tryz.underlying31 h7
  obtain ⟨lo, rfl, _⟩ := nat_u64 w_lo
  have y7 : (cs.drop 9).take (Tryz.prog.cellsOf 31) = _ := e7
  rw [co_31] at y7
  have s7 : cs.drop 9 = _ ++ cs.drop 10 := cut_next y7
  have l8 : 8 < xs.length := by rw [hlen]; decide
  have h8 := (hh 8 _ rfl).trans (List.getElem?_eq_getElem l8)
  have g8 := hwe 8 _ _ rfl (by rw [List.getElem?_map, List.getElem?_eq_getElem l8]; rfl)
  obtain ⟨z_hi, e8, _, w_hi⟩ := DataW.trod_int Tryz.underlying31 h8
  obtain ⟨hi, rfl, _⟩ := nat_u64 w_hi
  have y8 : (cs.drop 10).take (Tryz.prog.cellsOf 31) = _ := e8
  rw [co_31] at y8
  have s8 : cs.drop 10 = _ ++ cs.drop 11 := cut_next y8
  have z : cs.drop 11 = [] := List.drop_eq_nil_of_le (by omega)
  rw [z] at s8
  rw [s8] at s7
  rw [s7] at s6
  rw [s6] at s5
  rw [s5] at s4
  rw [s4] at s3
  rw [s3] at s2
  rw [s2] at s1
  rw [s1] at s0
  exact ⟨kd, k, v, od, hk, r5, r6, r7, ksp, ksc, ks, lo, hi, (List.drop_zero (l := cs)).symm.trans s0, f_r6, f_r7, f_ks⟩
theorem open_40 {H : Type} {enc : TypeId × Value → H} {W : World} {sp : Nat → Bool} {held : Bool} {fuel : Nat} {cs : List Value} {x : DataW H × List MemPlace} (hf : DataW.trod enc Tryz.prog W 0 sp held fuel 40 cs = some x) (hw : Wt 40 x.1) : ∃ (er : Int) (fo : Bool) (va : Nat) (dn : Bool) (ah : Nat) (lp : Option Addr) (lc : Nat) (l : List (Nat × Nat)) (co : Nat), cs = [.int .i64 er, .bool fo, .int .u64 (va : Int), .bool dn, .int .u64 (ah : Int), .slice lp l.length lc, .int .u64 (co : Int)] ∧ (PairsAt W lp l ∧ l.length ≤ 8796093021952) := by
  obtain ⟨xs, n, hn0, hx, hl, hlen, hh⟩ := DataW.trod_struct Tryz.underlying40 hf
  rw [co_40] at hl
  have hwe : ∀ (j : Nat) (ft : TypeId) (d : DataW H), ([37, 4, 31, 4, 31, 38, 31] : List TypeId)[j]? = some ft → (xs.map (·.1))[j]? = some d → Wt ft d := fun j ft d h1 h2 m hm => hw m (by
    rw [hx]
    simp only [DataW.weights, Tryz.underlying40]
    exact DataW.weights_mem_each (ts := [37, 4, 31, 4, 31, 38, 31]) h1 h2 m hm)
  have l0 : 0 < xs.length := by rw [hlen]; decide
  have h0 := (hh 0 _ rfl).trans (List.getElem?_eq_getElem l0)
  have g0 := hwe 0 _ _ rfl (by rw [List.getElem?_map, List.getElem?_eq_getElem l0]; rfl)
  obtain ⟨er, e0, _, _⟩ := DataW.trod_int Tryz.underlying37 h0
  have y0 : (cs.drop 0).take (Tryz.prog.cellsOf 37) = _ := e0
  rw [co_37] at y0
  have s0 : cs.drop 0 = _ ++ cs.drop 1 := cut_next y0
  have l1 : 1 < xs.length := by rw [hlen]; decide
  have h1 := (hh 1 _ rfl).trans (List.getElem?_eq_getElem l1)
  have g1 := hwe 1 _ _ rfl (by rw [List.getElem?_map, List.getElem?_eq_getElem l1]; rfl)
  obtain ⟨fo, e1, _⟩ := DataW.trod_bool Tryz.underlying4 h1
  have y1 : (cs.drop 1).take (Tryz.prog.cellsOf 4) = _ := e1
  rw [co_4] at y1
  have s1 : cs.drop 1 = _ ++ cs.drop 2 := cut_next y1
  have l2 : 2 < xs.length := by rw [hlen]; decide
  have h2 := (hh 2 _ rfl).trans (List.getElem?_eq_getElem l2)
  have g2 := hwe 2 _ _ rfl (by rw [List.getElem?_map, List.getElem?_eq_getElem l2]; rfl)
  obtain ⟨z_va, e2, _, w_va⟩ := DataW.trod_int Tryz.underlying31 h2
  obtain ⟨va, rfl, _⟩ := nat_u64 w_va
  have y2 : (cs.drop 2).take (Tryz.prog.cellsOf 31) = _ := e2
  rw [co_31] at y2
  have s2 : cs.drop 2 = _ ++ cs.drop 3 := cut_next y2
  have l3 : 3 < xs.length := by rw [hlen]; decide
  have h3 := (hh 3 _ rfl).trans (List.getElem?_eq_getElem l3)
  have g3 := hwe 3 _ _ rfl (by rw [List.getElem?_map, List.getElem?_eq_getElem l3]; rfl)
  obtain ⟨dn, e3, _⟩ := DataW.trod_bool Tryz.underlying4 h3
  have y3 : (cs.drop 3).take (Tryz.prog.cellsOf 4) = _ := e3
  rw [co_4] at y3
  have s3 : cs.drop 3 = _ ++ cs.drop 4 := cut_next y3
  have l4 : 4 < xs.length := by rw [hlen]; decide
  have h4 := (hh 4 _ rfl).trans (List.getElem?_eq_getElem l4)
  have g4 := hwe 4 _ _ rfl (by rw [List.getElem?_map, List.getElem?_eq_getElem l4]; rfl)
  obtain ⟨z_ah, e4, _, w_ah⟩ := DataW.trod_int Tryz.underlying31 h4
  obtain ⟨ah, rfl, _⟩ := nat_u64 w_ah
  have y4 : (cs.drop 4).take (Tryz.prog.cellsOf 31) = _ := e4
  rw [co_31] at y4
  have s4 : cs.drop 4 = _ ++ cs.drop 5 := cut_next y4
  have l5 : 5 < xs.length := by rw [hlen]; decide
  have h5 := (hh 5 _ rfl).trans (List.getElem?_eq_getElem l5)
  have g5 := hwe 5 _ _ rfl (by rw [List.getElem?_map, List.getElem?_eq_getElem l5]; rfl)
  obtain ⟨lp, lc, l, e5, f_l⟩ := pairs_cellsL h5 g5
  have y5 : (cs.drop 5).take (Tryz.prog.cellsOf 38) = _ := e5
  rw [co_38] at y5
  have s5 : cs.drop 5 = _ ++ cs.drop 6 := cut_next y5
  have l6 : 6 < xs.length := by rw [hlen]; decide
  have h6 := (hh 6 _ rfl).trans (List.getElem?_eq_getElem l6)
  have g6 := hwe 6 _ _ rfl (by rw [List.getElem?_map, List.getElem?_eq_getElem l6]; rfl)
  obtain ⟨z_co, e6, _, w_co⟩ := DataW.trod_int Tryz.underlying31 h6
  obtain ⟨co, rfl, _⟩ := nat_u64 w_co
  have y6 : (cs.drop 6).take (Tryz.prog.cellsOf 31) = _ := e6
  rw [co_31] at y6
  have s6 : cs.drop 6 = _ ++ cs.drop 7 := cut_next y6
  have z : cs.drop 7 = [] := List.drop_eq_nil_of_le (by omega)
  rw [z] at s6
  rw [s6] at s5
  rw [s5] at s4
  rw [s4] at s3
  rw [s3] at s2
  rw [s2] at s1
  rw [s1] at s0
  exact ⟨er, fo, va, dn, ah, lp, lc, l, co, (List.drop_zero (l := cs)).symm.trans s0, f_l⟩
theorem open_42 {H : Type} {enc : TypeId × Value → H} {W : World} {sp : Nat → Bool} {held : Bool} {fuel : Nat} {cs : List Value} {x : DataW H × List MemPlace} (hf : DataW.trod enc Tryz.prog W 0 sp held fuel 42 cs = some x) (hw : Wt 42 x.1) : ∃ (tk : Bool) (kd : Int) (k : Nat) (v : Nat) (od : Nat) (hk : Nat) (r5 : Bool) (r6 : Int) (r7 : Int) (ksp : Option Addr) (ksc : Nat) (ks : List Nat) (lo : Nat) (hi : Nat) (er : Int) (fo : Bool) (va : Nat) (dn : Bool) (ah : Nat) (lp : Option Addr) (lc : Nat) (l : List (Nat × Nat)) (co : Nat) (hn : Nat), cs = [.bool tk, .int .u8 kd, .int .u64 (k : Int), .int .u64 (v : Int), .int .u64 (od : Int), .int .u64 (hk : Int), .bool r5, .int .i64 r6, .int .i64 r7, .slice ksp ks.length ksc, .int .u64 (lo : Int), .int .u64 (hi : Int), .int .i64 er, .bool fo, .int .u64 (va : Int), .bool dn, .int .u64 (ah : Int), .slice lp l.length lc, .int .u64 (co : Int), .int .u64 (hn : Int)] ∧ (Lit.int .i64 r6).wf = true ∧ (Lit.int .i64 r7).wf = true ∧ (KeysAt W ksp ks ∧ ks.length ≤ 17592186043904) ∧ (PairsAt W lp l ∧ l.length ≤ 8796093021952) := by
  obtain ⟨xs, n, hn0, hx, hl, hlen, hh⟩ := DataW.trod_struct Tryz.underlying42 hf
  rw [co_42] at hl
  have hwe : ∀ (j : Nat) (ft : TypeId) (d : DataW H), ([4, 36, 40, 31] : List TypeId)[j]? = some ft → (xs.map (·.1))[j]? = some d → Wt ft d := fun j ft d h1 h2 m hm => hw m (by
    rw [hx]
    simp only [DataW.weights, Tryz.underlying42]
    exact DataW.weights_mem_each (ts := [4, 36, 40, 31]) h1 h2 m hm)
  have l0 : 0 < xs.length := by rw [hlen]; decide
  have h0 := (hh 0 _ rfl).trans (List.getElem?_eq_getElem l0)
  have g0 := hwe 0 _ _ rfl (by rw [List.getElem?_map, List.getElem?_eq_getElem l0]; rfl)
  obtain ⟨tk, e0, _⟩ := DataW.trod_bool Tryz.underlying4 h0
  have y0 : (cs.drop 0).take (Tryz.prog.cellsOf 4) = _ := e0
  rw [co_4] at y0
  have s0 : cs.drop 0 = _ ++ cs.drop 1 := cut_next y0
  have l1 : 1 < xs.length := by rw [hlen]; decide
  have h1 := (hh 1 _ rfl).trans (List.getElem?_eq_getElem l1)
  have g1 := hwe 1 _ _ rfl (by rw [List.getElem?_map, List.getElem?_eq_getElem l1]; rfl)
  obtain ⟨kd, k, v, od, hk, r5, r6, r7, ksp, ksc, ks, lo, hi, e1, f_r6, f_r7, f_ks⟩ := open_36 h1 g1
  have y1 : (cs.drop 1).take (Tryz.prog.cellsOf 36) = _ := e1
  rw [co_36] at y1
  have s1 : cs.drop 1 = _ ++ cs.drop 12 := cut_next y1
  have l2 : 2 < xs.length := by rw [hlen]; decide
  have h2 := (hh 2 _ rfl).trans (List.getElem?_eq_getElem l2)
  have g2 := hwe 2 _ _ rfl (by rw [List.getElem?_map, List.getElem?_eq_getElem l2]; rfl)
  obtain ⟨er, fo, va, dn, ah, lp, lc, l, co, e2, f_l⟩ := open_40 h2 g2
  have y2 : (cs.drop 12).take (Tryz.prog.cellsOf 40) = _ := e2
  rw [co_40] at y2
  have s2 : cs.drop 12 = _ ++ cs.drop 19 := cut_next y2
  have l3 : 3 < xs.length := by rw [hlen]; decide
  have h3 := (hh 3 _ rfl).trans (List.getElem?_eq_getElem l3)
  have g3 := hwe 3 _ _ rfl (by rw [List.getElem?_map, List.getElem?_eq_getElem l3]; rfl)
  obtain ⟨z_hn, e3, _, w_hn⟩ := DataW.trod_int Tryz.underlying31 h3
  obtain ⟨hn, rfl, _⟩ := nat_u64 w_hn
  have y3 : (cs.drop 19).take (Tryz.prog.cellsOf 31) = _ := e3
  rw [co_31] at y3
  have s3 : cs.drop 19 = _ ++ cs.drop 20 := cut_next y3
  have z : cs.drop 20 = [] := List.drop_eq_nil_of_le (by omega)
  rw [z] at s3
  rw [s3] at s2
  rw [s2] at s1
  rw [s1] at s0
  exact ⟨tk, kd, k, v, od, hk, r5, r6, r7, ksp, ksc, ks, lo, hi, er, fo, va, dn, ah, lp, lc, l, co, hn, (List.drop_zero (l := cs)).symm.trans s0, f_r6, f_r7, f_ks, f_l⟩
structure CallX where
  tk : Bool
  kd : Int
  k : Nat
  v : Nat
  od : Nat
  hk : Nat
  r5 : Bool
  r6 : Int
  r7 : Int
  ksp : Option Addr
  ksc : Nat
  ks : List Nat
  lo : Nat
  hi : Nat
  er : Int
  fo : Bool
  va : Nat
  dn : Bool
  ah : Nat
  lp : Option Addr
  lc : Nat
  l : List (Nat × Nat)
  co : Nat
  hn : Nat
def CallX.cs (x : CallX) : List Value := [.bool x.tk, .int .u8 x.kd, .int .u64 (x.k : Int), .int .u64 (x.v : Int), .int .u64 (x.od : Int), .int .u64 (x.hk : Int), .bool x.r5, .int .i64 x.r6, .int .i64 x.r7, .slice x.ksp x.ks.length x.ksc, .int .u64 (x.lo : Int), .int .u64 (x.hi : Int), .int .i64 x.er, .bool x.fo, .int .u64 (x.va : Int), .bool x.dn, .int .u64 (x.ah : Int), .slice x.lp x.l.length x.lc, .int .u64 (x.co : Int), .int .u64 (x.hn : Int)]
structure CallX.Ok (W : World) (x : CallX) : Prop where
  w6 : (Lit.int .i64 x.r6).wf = true
  w7 : (Lit.int .i64 x.r7).wf = true
  ks : KeysAt W x.ksp x.ks
  kl : x.ks.length ≤ 17592186043904
  ps : PairsAt W x.lp x.l
  pl : x.l.length ≤ 8796093021952
def CallsAtX (W : World) (p : Option Addr) (l : List CallX) : Prop := l = [] ∨ ∃ bk off, p = some ⟨bk, off, none⟩ ∧ bk < W.heap.size ∧ ∀ (i : Nat) (x : CallX), l[i]? = some x → x.Ok W ∧ ∀ (j : Nat) (u : Value), x.cs[j]? = some u → W.cell? ⟨bk, off + i * 20 + j, none⟩ = some u
theorem calls_atX {H : Type} {enc : TypeId × Value → H} {W : World} {sp : Nat → Bool} {held : Bool} {p : Option Addr} {n c : Nat} {d : DataW H} {ps : List MemPlace} (h : DataW.Trod enc Tryz.prog W 0 sp held 22 (.slice p n c) d ps) (hw : Wt 22 d) : ∃ l : List CallX, l.length = n ∧ CallsAtX W p l ∧ n * 192 ≤ reachBytes := by
  obtain ⟨fuel, hf⟩ := h
  obtain ⟨p', n', c', hcs, hb, hr⟩ := slice_rowsW (s := 20) (Q := fun cs => ∃ x : CallX, cs = x.cs ∧ x.Ok W) Tryz.underlying22 co_42 (by decide) (fun fuel cs y hy hwy => by
    obtain ⟨tk, kd, k, v, od, hk, r5, r6, r7, ksp, ksc, ks, lo, hi, er, fo, va, dn, ah, lp, lc, l, co, hn, e, f_r6, f_r7, f_ks, f_l⟩ := open_42 hy hwy
    exact ⟨⟨⟨tk, kd, k, v, od, hk, r5, r6, r7, ksp, ksc, ks, lo, hi, er, fo, va, dn, ah, lp, lc, l, co, hn⟩, e, ⟨f_r6, f_r7, f_ks.1, f_ks.2, f_l.1, f_l.2⟩⟩, by rw [e]; rfl⟩) hf hw
  rw [by_c] at hb
  simp [Value.cells] at hcs
  obtain ⟨rfl, rfl, rfl⟩ := hcs
  rcases hr with rfl | ⟨bk, off, rfl, hbk, hr⟩
  · exact ⟨[], rfl, .inl rfl, hb⟩
  · obtain ⟨l, hl, hp⟩ := choose_list (P := fun i x => CallX.Ok W x ∧ ∀ (j : Nat) (u : Value), x.cs[j]? = some u → W.cell? ⟨bk, off + i * 20 + j, none⟩ = some u) n (fun i hi => by
      obtain ⟨cs', ⟨x, rfl, hx⟩, hc⟩ := hr i hi
      exact ⟨x, hx, fun j v hj => by rw [Nat.add_assoc]; exact hc j v hj⟩)
    exact ⟨l, hl, .inr ⟨bk, off, rfl, hbk, hp⟩, hb⟩
end Go.Proofs.YtimlaamhjbhkmaaGreat
