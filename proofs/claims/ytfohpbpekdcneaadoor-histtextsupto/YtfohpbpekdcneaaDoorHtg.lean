/- spanOf, at every line. -/
import Derived.Test.YtfohpbpekdcneaaDoorHtf
import Derived.Deep.RegionHeld3
import Derived.Deep.Cut
namespace Go.Proofs.YtfohpbpekdcneaaDoor
open Go.RowKit Go.Shelf
set_option linter.unusedVariables false

theorem box4 {W w : World} {b : Nat} {T : TypeId} {y0 y1 y2 y3 : Value} (h : w.heap[b]? = some (.cells #[y0, y1, y2, y3] T (0, 0))) (c : Below W.heap.size W w) (hb : W.heap.size ≤ b) (x0 x1 x2 x3 : Value) :
    w.cell? ⟨b, 0, none⟩ = some y0 ∧ w.frozen? ⟨b, 0, none⟩ = false ∧ (w.setCell ⟨b, 0, none⟩ x0).cell? ⟨b, 1, none⟩ = some y1 ∧ (w.setCell ⟨b, 0, none⟩ x0).frozen? ⟨b, 1, none⟩ = false ∧
    ((w.setCell ⟨b, 0, none⟩ x0).setCell ⟨b, 1, none⟩ x1).cell? ⟨b, 2, none⟩ = some y2 ∧ ((w.setCell ⟨b, 0, none⟩ x0).setCell ⟨b, 1, none⟩ x1).frozen? ⟨b, 2, none⟩ = false ∧
    (((w.setCell ⟨b, 0, none⟩ x0).setCell ⟨b, 1, none⟩ x1).setCell ⟨b, 2, none⟩ x2).cell? ⟨b, 3, none⟩ = some y3 ∧ (((w.setCell ⟨b, 0, none⟩ x0).setCell ⟨b, 1, none⟩ x1).setCell ⟨b, 2, none⟩ x2).frozen? ⟨b, 3, none⟩ = false ∧
    ((((w.setCell ⟨b, 0, none⟩ x0).setCell ⟨b, 1, none⟩ x1).setCell ⟨b, 2, none⟩ x2).setCell ⟨b, 3, none⟩ x3).heap[b]? = some (.cells #[x0, x1, x2, x3] T (0, 0)) ∧
    Below W.heap.size W ((((w.setCell ⟨b, 0, none⟩ x0).setCell ⟨b, 1, none⟩ x1).setCell ⟨b, 2, none⟩ x2).setCell ⟨b, 3, none⟩ x3) := by
  have h1 : (w.setCell ⟨b, 0, none⟩ x0).heap[b]? = some (.cells #[x0, y1, y2, y3] T (0, 0)) := set_of h 0 x0
  have h2 : ((w.setCell ⟨b, 0, none⟩ x0).setCell ⟨b, 1, none⟩ x1).heap[b]? = some (.cells #[x0, x1, y2, y3] T (0, 0)) := set_of h1 1 x1
  have h3 : (((w.setCell ⟨b, 0, none⟩ x0).setCell ⟨b, 1, none⟩ x1).setCell ⟨b, 2, none⟩ x2).heap[b]? = some (.cells #[x0, x1, x2, y3] T (0, 0)) := set_of h2 2 x2
  have h4 : ((((w.setCell ⟨b, 0, none⟩ x0).setCell ⟨b, 1, none⟩ x1).setCell ⟨b, 2, none⟩ x2).setCell ⟨b, 3, none⟩ x3).heap[b]? = some (.cells #[x0, x1, x2, x3] T (0, 0)) := set_of h3 3 x3
  exact ⟨cell_of h 0, free_of h 0, cell_of h1 1, free_of h1 1, cell_of h2 2, free_of h2 2, cell_of h3 3, free_of h3 3, h4, (((c.setCell hb _).setCell hb _).setCell hb _).setCell hb _⟩
abbrev zero4 : Array Value := #[.int .i64 0, .int .i64 0, .int .i64 0, .int .i64 0]

theorem heap_set_other {W : World} {b b' i : Nat} {v : Value} (h : b ≠ b') : (W.setCell ⟨b, i, none⟩ v).heap[b']? = W.heap[b']? := Below.heap_setCell _ _ _ _ (by simpa using fun e => h e.symm)
/-- the numbers so far -/
def nums (N : Nat → Int) (i : Nat) : Array Value := #[.int .i64 (if 0 < i then N 0 else 0), .int .i64 (if 1 < i then N 1 else 0), .int .i64 (if 2 < i then N 2 else 0), .int .i64 (if 3 < i then N 3 else 0)]
theorem nums_at (N : Nat → Int) (i : Nat) (h : i < 4) : (nums N i)[i]? = some (.int .i64 0) := by
  have h' : i = 0 ∨ i = 1 ∨ i = 2 ∨ i = 3 := by omega
  rcases h' with rfl | rfl | rfl | rfl <;> rfl
theorem nums_set (N : Nat → Int) (i : Nat) (h : i < 4) : (nums N i).setIfInBounds i (.int .i64 (N i)) = nums N (i + 1) := by
  have h' : i = 0 ∨ i = 1 ∨ i = 2 ∨ i = 3 := by omega
  rcases h' with rfl | rfl | rfl | rfl <;> rfl
/-- what lies in memory while spanOf reads its four fields -/
structure SQ (w : World) (rb fb nb : Nat) (G : List (List UInt8)) (N : Nat → Int) (i : Nat) (wr : World) : Prop where
  bel : Below w.heap.size w wr
  res : wr.heap[rb]? = some (.cells zero4 38 (0, 0))
  fld : wr.heap[fb]? = some (.cells (G.map (fun f => Value.string (mkS f))).toArray 9 (0, 0))
  num : wr.heap[nb]? = some (.cells (nums N i) 73 (0, 0))
  okN : ∀ j, j < i → ∀ f, G[j]? = some f → Lib.atoiAll f = .ok (N j)
  l0 : w.heap.size ≤ rb
  l1 : rb < fb
  l2 : fb < nb
theorem SQ.on {w wr w' : World} {rb fb nb : Nat} {G : List (List UInt8)} {N : Nat → Int} {i : Nat} (h : SQ w rb fb nb G N i wr) (hb : Below wr.heap.size wr w') : SQ w rb fb nb G N i w' :=
  ⟨below_chain h.bel hb, heap_below h.res hb, heap_below h.fld hb, heap_below h.num hb, h.okN, h.l0, h.l1, h.l2⟩
theorem SQ.next {w wr : World} {rb fb nb : Nat} {G : List (List UInt8)} {N : Nat → Int} {i : Nat} (h : SQ w rb fb nb G N i wr) (hi : i < 4) (v : Int) (f : List UInt8) (hf : G[i]? = some f) (hv : Lib.atoiAll f = .ok v) :
    ∃ N', SQ w rb fb nb G N' (i + 1) (wr.setCell ⟨nb, i, none⟩ (.int .i64 v)) := by
  refine ⟨fun j => if j = i then v else N j, h.bel.setCell (by have := h.l0; have := h.l1; have := h.l2; simp; omega) _, by rw [heap_set_other (by have := h.l1; have := h.l2; omega)]; exact h.res, by rw [heap_set_other (by have := h.l2; omega)]; exact h.fld, ?_, ?_, h.l0, h.l1, h.l2⟩
  · have e := set_of h.num i (.int .i64 v)
    rw [e]
    congr 2
    have h' : i = 0 ∨ i = 1 ∨ i = 2 ∨ i = 3 := by omega
    rcases h' with rfl | rfl | rfl | rfl <;> simp [nums]
  · intro j hj f' hf'
    by_cases e : j = i
    · subst e
      rw [hf] at hf'
      injection hf' with hf'
      subst hf'
      simpa using hv
    · simp only [if_neg e]
      exact h.okN j (by omega) f' hf'

set_option maxRecDepth 100000 in
set_option maxHeartbeats 2000000 in
theorem span_few (t : List UInt8) (ht : t.length ≤ 200000000) (w : World) (T : Tb w) (h : (fieldsL t).length ≠ 4) :
    Calls Tryd.prog 34 #[.string (mkS t)] w fun e w' => e = .returned (.tuple #[.agg zero4, .bool false]) ∧ Below w.heap.size w w' := by
  obtain ⟨w0, hw0⟩ : ∃ w0, w0 = w.alloc (.cells zero4 38) := ⟨_, rfl⟩
  have B0 : Below w.heap.size w w0 := by rw [hw0]; exact below_alloc _ _
  have X0 : w0.heap[w.heap.size]? = some (.cells zero4 38 (0, 0)) := by rw [hw0]; exact heap_alloc_new _ _
  have htr := trim_any t ht
  have hsp := split_any (Lib.trimSuffix t [10]) (by have := trim_len t; omega) w0 (T.on B0)
  obtain ⟨n, hn⟩ : ∃ n, n = (fieldsL t).length := ⟨_, rfl⟩
  rw [show (Lib.split (Lib.trimSuffix t [10]) [32]).length = n from hn.symm] at hsp
  rw [← hn] at h
  have q1 : ((n : Int) == 4) = false := by simp; omega
  clear hn h
  go_enter Tryd.func34, Tryd.ntmps34
  go_upto_region 1 with fail
  rw [← hw0]
  clear hw0
  go_wp2_with fail
  refine (htr w0).mono ?_
  rintro e w1 ⟨rfl, hw1⟩
  rw [hw1]
  clear hw1 w1
  go_wp2_with fail
  refine hsp.mono ?_
  rintro e w1 ⟨rfl, hw1⟩
  have B1 := below_chain B0 (show Below w0.heap.size w0 w1 by rw [hw1]; exact below_alloc _ _)
  have X1 := heap_below X0 (show Below w0.heap.size w0 w1 by rw [hw1]; exact below_alloc _ _)
  clear hw1 hsp htr
  obtain ⟨q2, q3, q4, q5, q6, q7, q8, q9, q10, q11⟩ := box4 X1 B1 (Nat.le_refl _) (.int .i64 0) (.int .i64 0) (.int .i64 0) (.int .i64 0)
  obtain ⟨w2, hw2⟩ : ∃ w2, w2 = (((w1.setCell ⟨w.heap.size, 0, none⟩ (.int .i64 0)).setCell ⟨w.heap.size, 1, none⟩ (.int .i64 0)).setCell ⟨w.heap.size, 2, none⟩ (.int .i64 0)).setCell ⟨w.heap.size, 3, none⟩ (.int .i64 0) := ⟨_, rfl⟩
  go_wp2_with fail
  rw [← hw2] at q10 q11 ⊢
  have z0 := cell_of q10 0
  have z1 := cell_of q10 1
  have z2 := cell_of q10 2
  have z3 := cell_of q10 3
  clear hw2
  refine bodyPost_ret (v := .tuple #[.agg zero4, .bool false]) (by simp [results, Tryd.results34, go_sem, z0, z1, z2, z3, zero4]) rfl ⟨rfl, q11⟩
structure SP5 (w : World) (rb fb nb : Nat) (G : List (List UInt8)) (N : Nat → Int) (sb : Nat) (v0 v1 v2 v3 : Int) (w' : World) : Prop where
  sq : SQ w rb fb nb G N 4 w'
  sp : w'.heap[sb]? = some (.cells #[.int .i64 v0, .int .i64 v1, .int .i64 v2, .int .i64 v3] 38 (0, 0))
theorem SP5.on {w : World} {rb fb nb : Nat} {G : List (List UInt8)} {N : Nat → Int} {sb : Nat} {v0 v1 v2 v3 : Int} {w' w'' : World} (h : SP5 w rb fb nb G N sb v0 v1 v2 v3 w') (hb : Below w'.heap.size w' w'') : SP5 w rb fb nb G N sb v0 v1 v2 v3 w'' := ⟨h.1.on hb, heap_below h.2 hb⟩
def AF (b sb : Nat) (v0 v1 v2 v3 : Int) (w : World) : Prop :=
    ((((w.setCell ⟨b, 0, none⟩ (.int .i64 v0)).setCell ⟨b, 1, none⟩ (.int .i64 v1)).setCell ⟨b, 2, none⟩ (.int .i64 v2)).setCell ⟨b, 3, none⟩ (.int .i64 v3)).cell? ⟨sb, 0, none⟩ = some (.int .i64 v0) ∧
    ((((w.setCell ⟨b, 0, none⟩ (.int .i64 v0)).setCell ⟨b, 1, none⟩ (.int .i64 v1)).setCell ⟨b, 2, none⟩ (.int .i64 v2)).setCell ⟨b, 3, none⟩ (.int .i64 v3)).cell? ⟨sb, 1, none⟩ = some (.int .i64 v1) ∧
    ((((w.setCell ⟨b, 0, none⟩ (.int .i64 v0)).setCell ⟨b, 1, none⟩ (.int .i64 v1)).setCell ⟨b, 2, none⟩ (.int .i64 v2)).setCell ⟨b, 3, none⟩ (.int .i64 v3)).cell? ⟨sb, 2, none⟩ = some (.int .i64 v2) ∧
    ((((w.setCell ⟨b, 0, none⟩ (.int .i64 v0)).setCell ⟨b, 1, none⟩ (.int .i64 v1)).setCell ⟨b, 2, none⟩ (.int .i64 v2)).setCell ⟨b, 3, none⟩ (.int .i64 v3)).cell? ⟨sb, 3, none⟩ = some (.int .i64 v3)
theorem af_of {b sb : Nat} {v0 v1 v2 v3 : Int} {w : World} (hne : b ≠ sb) (h : w.heap[sb]? = some (.cells #[.int .i64 v0, .int .i64 v1, .int .i64 v2, .int .i64 v3] 38 (0, 0))) : AF b sb v0 v1 v2 v3 w := by
  have e : ((((w.setCell ⟨b, 0, none⟩ (.int .i64 v0)).setCell ⟨b, 1, none⟩ (.int .i64 v1)).setCell ⟨b, 2, none⟩ (.int .i64 v2)).setCell ⟨b, 3, none⟩ (.int .i64 v3)).heap[sb]? = some (.cells #[.int .i64 v0, .int .i64 v1, .int .i64 v2, .int .i64 v3] 38 (0, 0)) := by
    rw [heap_set_other hne, heap_set_other hne, heap_set_other hne, heap_set_other hne]; exact h
  exact ⟨cell_of e 0, cell_of e 1, cell_of e 2, cell_of e 3⟩
def BX (W : World) (b : Nat) (v0 v1 v2 v3 : Int) (w : World) : Prop :=
    w.cell? ⟨b, 0, none⟩ = some (.int .i64 0) ∧ w.frozen? ⟨b, 0, none⟩ = false ∧ (w.setCell ⟨b, 0, none⟩ (.int .i64 v0)).cell? ⟨b, 1, none⟩ = some (.int .i64 0) ∧ (w.setCell ⟨b, 0, none⟩ (.int .i64 v0)).frozen? ⟨b, 1, none⟩ = false ∧
    ((w.setCell ⟨b, 0, none⟩ (.int .i64 v0)).setCell ⟨b, 1, none⟩ (.int .i64 v1)).cell? ⟨b, 2, none⟩ = some (.int .i64 0) ∧ ((w.setCell ⟨b, 0, none⟩ (.int .i64 v0)).setCell ⟨b, 1, none⟩ (.int .i64 v1)).frozen? ⟨b, 2, none⟩ = false ∧
    (((w.setCell ⟨b, 0, none⟩ (.int .i64 v0)).setCell ⟨b, 1, none⟩ (.int .i64 v1)).setCell ⟨b, 2, none⟩ (.int .i64 v2)).cell? ⟨b, 3, none⟩ = some (.int .i64 0) ∧ (((w.setCell ⟨b, 0, none⟩ (.int .i64 v0)).setCell ⟨b, 1, none⟩ (.int .i64 v1)).setCell ⟨b, 2, none⟩ (.int .i64 v2)).frozen? ⟨b, 3, none⟩ = false ∧
    ((((w.setCell ⟨b, 0, none⟩ (.int .i64 v0)).setCell ⟨b, 1, none⟩ (.int .i64 v1)).setCell ⟨b, 2, none⟩ (.int .i64 v2)).setCell ⟨b, 3, none⟩ (.int .i64 v3)).heap[b]? = some (.cells #[.int .i64 v0, .int .i64 v1, .int .i64 v2, .int .i64 v3] 38 (0, 0)) ∧
    Below W.heap.size W ((((w.setCell ⟨b, 0, none⟩ (.int .i64 v0)).setCell ⟨b, 1, none⟩ (.int .i64 v1)).setCell ⟨b, 2, none⟩ (.int .i64 v2)).setCell ⟨b, 3, none⟩ (.int .i64 v3))

set_option maxRecDepth 100000 in
set_option maxHeartbeats 4000000 in
theorem span_dash (t : List UInt8) (ht : t.length ≤ 200000000) (w : World) (T : Tb w) (f0 f1 f2 f3 : List UInt8) (hf : fieldsL t = [f0, f1, f2, f3]) (hd : f3 = [45]) (hfl : ∀ f ∈ [f0, f1, f2, f3], f.length ≤ 200000000) :
    Calls Tryd.prog 34 #[.string (mkS t)] w fun e w' => (∃ (sp : Sp) (b : Bool), e = .returned (.tuple #[.agg #[.int .i64 sp.th, .int .i64 sp.ix, .int .i64 sp.fr, .int .i64 sp.to], .bool b]) ∧ SpR t sp b) ∧ Below w.heap.size w w' := by
  obtain ⟨w0, hw0⟩ : ∃ w0, w0 = w.alloc (.cells zero4 38) := ⟨_, rfl⟩
  have B0 : Below w.heap.size w w0 := by rw [hw0]; exact below_alloc _ _
  have X0 : w0.heap[w.heap.size]? = some (.cells zero4 38 (0, 0)) := by rw [hw0]; exact heap_alloc_new _ _
  have htr := trim_any t ht
  have hsp := split_any (Lib.trimSuffix t [10]) (by have := trim_len t; omega) w0 (T.on B0)
  rw [show Lib.split (Lib.trimSuffix t [10]) [32] = [f0, f1, f2, f3] from hf] at hsp
  simp only [List.length_cons, List.length_nil, List.map_cons, List.map_nil] at hsp
  obtain ⟨G, hG⟩ : ∃ G, G = [f0, f1, f2, dashL f3] := ⟨_, rfl⟩
  have HGE := keepH hG
  have HGL : Hid (G.length = 4) := keepH (by rw [hG]; rfl)
  have HGS : Hid (∀ f ∈ G, f.length ≤ 200000000) := keepH (by
    rw [hG]
    intro f hm
    simp only [List.mem_cons, List.not_mem_nil, or_false] at hm
    rcases hm with rfl | rfl | rfl | rfl
    · exact hfl _ (by simp)
    · exact hfl _ (by simp)
    · exact hfl _ (by simp)
    · unfold dashL
      by_cases q : f3 = [45]
      · rw [if_pos q]
        have := itoa_len (n := -1) (by unfold isI; decide); omega
      · rw [if_neg q]
        exact hfl f3 (by simp))
  have HF := keepH hf
  have HT := keepH T
  obtain ⟨s, hs⟩ : ∃ s, s = mkS t := ⟨_, rfl⟩
  have HS := keepH hs
  rw [← hs] at htr ⊢
  go_enter Tryd.func34, Tryd.ntmps34
  go_upto_region 1 with fail
  rw [← hw0]
  obtain ⟨rb, hrb⟩ : ∃ rb, rb = w.heap.size := ⟨_, rfl⟩
  have L0 : w.heap.size ≤ rb := by omega
  rw [show w.heap.size = rb from hrb.symm] at X0
  rw [← hrb]
  clear hw0 hs hf hfl hG T hrb
  go_wp2_with fail
  refine (htr w0).mono ?_
  rintro e w1 ⟨rfl, hw1⟩
  rw [hw1]
  clear hw1 w1
  go_wp2_with fail
  refine hsp.mono ?_
  rintro e w1 ⟨rfl, hw1⟩
  have C1 : Below w0.heap.size w0 w1 := by rw [hw1]; exact below_alloc _ _
  have B1 := below_chain B0 C1
  have X1 := heap_below X0 C1
  obtain ⟨fb, hfb⟩ : ∃ fb, fb = w0.heap.size := ⟨_, rfl⟩
  have L1 : rb < fb := by rw [hfb]; exact lt_of X0
  have F1 : w1.heap[fb]? = some (.cells #[.string (mkS f0), .string (mkS f1), .string (mkS f2), .string (mkS f3)] 9 (0, 0)) := by rw [hw1, hfb]; exact heap_alloc_new _ _
  rw [← hfb]
  clear hw1 hsp htr hfb C1 B0 X0
  obtain ⟨sf3, hsf3⟩ : ∃ x, x = mkS f3 := ⟨_, rfl⟩
  rw [← hsf3] at F1
  have g3 : w1.cell? ⟨fb, 3, none⟩ = some (.string sf3) := cell_of F1 3
  have cmp : (sf3.toList == [45]) = true := by rw [hsf3, mkS_toList, hd]; rfl
  have HSF := keepH hsf3
  clear hsf3
  have hit := itoa_any (-1) (by unfold isI; decide) w1 (HT.out.on B1)
  obtain ⟨sm, hsm⟩ : ∃ x, x = mkS (Lib.itoa (-1)) := ⟨_, rfl⟩
  rw [← hsm] at hit
  have HSM := keepH hsm
  clear hsm
  have HD := keepH hd
  clear hd
  go_wp2_with fail
  refine hit.mono ?_
  rintro e w2 ⟨rfl, C2⟩
  have B2 := below_chain B1 C2
  have X2 := heap_below X1 C2
  have F2 := heap_below F1 C2
  have g0 := cell_of F2 3
  have g1 := free_of F2 3
  have F3 := set_of F2 3 (.string sm)
  have X3 : (w2.setCell ⟨fb, 3, none⟩ (.string sm)).heap[rb]? = some (.cells zero4 38 (0, 0)) := by rw [heap_set_other (by omega)]; exact X2
  have B3 : Below w.heap.size w (w2.setCell ⟨fb, 3, none⟩ (.string sm)) := B2.setCell (by simp; omega) _
  obtain ⟨w3, hw3⟩ : ∃ w3, w3 = w2.setCell ⟨fb, 3, none⟩ (.string sm) := ⟨_, rfl⟩
  rw [← hw3] at F3 X3 B3
  replace F3 : w3.heap[fb]? = some (.cells (G.map (fun f => Value.string (mkS f))).toArray 9 (0, 0)) := by
    rw [F3, HGE.out, HSM.out]
    unfold dashL
    rw [if_pos HD.out]
    rfl
  clear B2 X2 F2 B1 X1 F1 C2 hit
  go_upto_region 6 with fail
  rw [← hw3]
  clear hw3 g0 g1 g3 cmp
  obtain ⟨w4, hw4⟩ : ∃ w4, w4 = w3.alloc (.cells zero4 73) := ⟨_, rfl⟩
  obtain ⟨nb, hnb⟩ : ∃ nb, nb = w3.heap.size := ⟨_, rfl⟩
  have H4 : Hid (∃ N, SQ w rb fb nb G N 0 w4) := keepH ⟨fun _ => 0, by
    rw [hw4, hnb]
    exact ⟨below_chain B3 (below_alloc _ _), heap_below X3 (below_alloc _ _), heap_below F3 (below_alloc _ _), heap_alloc_new _ _, (fun j hj => by omega), L0, L1, lt_of F3⟩⟩
  clear B3 X3 F3
  go_upto_region 7 with fail
  rw [← hnb]
  rw [← show w4 = w3.alloc (.cells #[.int .i64 0, .int .i64 0, .int .i64 0, .int .i64 0] 73) from hw4]
  clear hw4 hnb
  go_wp2_with fail
  go_loopw [27] (fun s27 wr => ∃ i : Nat, i ≤ 4 ∧ s27 = .int .i64 (i : Int) ∧ Hid (∃ N, SQ w rb fb nb G N i wr)) (fun s27 _ => 4 - (intOf s27).toNat)
  case atStart => exact ⟨0, by omega, rfl, H4⟩
  case round =>
    obtain ⟨i, hi, rfl, HI⟩ := hrel
    obtain ⟨N, hN⟩ := HI.out
    by_cases hi4 : i < 4
    · have i1 : (i : Int) < 4 := by omega
      have i0 : (0 : Int) ≤ (i : Int) := by omega
      have wi : IntKind.i64.wrap ((i : Int) + 1) = ((i + 1 : Nat) : Int) := by rw [IntKind.wrap_i64]; omega
      obtain ⟨f, hf⟩ : ∃ f, G[i]? = some f := ⟨G[i]'(by rw [HGL.out]; exact hi4), List.getElem?_eq_getElem _⟩
      have hfm : f ∈ G := List.mem_of_getElem? hf
      have cF : wr.cell? ⟨fb, i, none⟩ = some (.string (mkS f)) := by rw [cell_of hN.fld i]; simp [hf]
      obtain ⟨sf, hsf⟩ : ∃ sf, sf = mkS f := ⟨_, rfl⟩
      rw [← hsf] at cF
      have hfl := HGS.out f hfm
      by_cases hv : ∃ v, Lib.atoiAll f = .ok v
      · obtain ⟨v, hv⟩ := hv
        have hat := atoi_ok f hfl v hv
        rw [← hsf] at hat
        have HNX : Hid (∀ w', Below wr.heap.size wr w' → ∃ N', SQ w rb fb nb G N' (i + 1) (w'.setCell ⟨nb, i, none⟩ (.int .i64 v))) := keepH (fun w' hb => (hN.on hb).next hi4 v f hf hv)
        have HNN := keepH hN
        clear hN HI hsf hf hfm hv H4 hfl
        go_wp2_with fail
        refine (hat wr).mono ?_
        rintro e w5 ⟨rfl, C5⟩
        have N5 := HNN.out.on C5
        have n0 : w5.cell? ⟨nb, i, none⟩ = some (.int .i64 0) := by rw [cell_of N5.num i]; exact nums_at N i hi4
        have n1 := free_of N5.num i
        have HW : Hid (∃ N', SQ w rb fb nb G N' (i + 1) (w5.setCell ⟨nb, i, none⟩ (.int .i64 v))) := keepH (HNX.out w5 C5)
        obtain ⟨w6, hw6⟩ : ∃ w6, w6 = w5.setCell ⟨nb, i, none⟩ (.int .i64 v) := ⟨_, rfl⟩
        rw [← hw6] at HW
        have HW6 := keepH hw6
        clear N5 C5 hw6 cF hat
        go_wp2_with fail
        rw [← HW6.out]
        go_roundw
        case rel => exact ⟨i + 1, by omega, by first | rfl | go_num, HW⟩
        case measure => simp [intOf]; omega
      · have hv' : ∀ v, Lib.atoiAll f ≠ .ok v := fun v q => hv ⟨v, q⟩
        have hat := atoi_no f hfl hv' wr (HT.out.on hN.bel)
        rw [← hsf] at hat
        have HSR : Hid (SpR t sp0 false) := keepH (SpR.bad HF.out (HGE.out ▸ hfm) hv')
        have HNN := keepH hN
        clear hN HI hsf hf hfm hv hv' H4 hfl
        go_wp2_with fail
        refine hat.mono ?_
        rintro e w5 ⟨⟨x, ti, pi, rfl⟩, C5⟩
        have N5 := HNN.out.on C5
        obtain ⟨q2, q3, q4, q5, q6, q7, q8, q9, q10, q11⟩ := box4 N5.res N5.bel N5.l0 (.int .i64 0) (.int .i64 0) (.int .i64 0) (.int .i64 0)
        obtain ⟨w6, hw6⟩ : ∃ w6, w6 = (((w5.setCell ⟨rb, 0, none⟩ (.int .i64 0)).setCell ⟨rb, 1, none⟩ (.int .i64 0)).setCell ⟨rb, 2, none⟩ (.int .i64 0)).setCell ⟨rb, 3, none⟩ (.int .i64 0) := ⟨_, rfl⟩
        clear N5 C5 cF hat HNN
        go_wp2_with fail
        rw [← hw6] at q10 q11 ⊢
        have z0 := cell_of q10 0
        have z1 := cell_of q10 1
        have z2 := cell_of q10 2
        have z3 := cell_of q10 3
        clear hw6
        refine bodyPost_ret (v := .tuple #[.agg zero4, .bool false]) (by simp [results, Tryd.results34, go_sem, z0, z1, z2, z3, zero4]) rfl ⟨⟨sp0, false, rfl, HSR.out⟩, q11⟩
    · have i1 : ¬ (i : Int) < 4 := by omega
      obtain rfl : i = 4 := by omega
      have o0 := hN.okN 0 (by omega)
      have o1 := hN.okN 1 (by omega)
      have o2 := hN.okN 2 (by omega)
      have o3 := hN.okN 3 (by omega)
      rw [HGE.out] at o0 o1 o2 o3
      have b0 := cell_of hN.num 0
      have b1 := cell_of hN.num 1
      have b2 := cell_of hN.num 2
      have b3 := cell_of hN.num 3
      obtain ⟨v0, e0⟩ : ∃ v, v = N 0 := ⟨_, rfl⟩
      obtain ⟨v1, e1⟩ : ∃ v, v = N 1 := ⟨_, rfl⟩
      obtain ⟨v2, e2⟩ : ∃ v, v = N 2 := ⟨_, rfl⟩
      obtain ⟨v3, e3⟩ : ∃ v, v = N 3 := ⟨_, rfl⟩
      have b0' : wr.cell? ⟨nb, 0, none⟩ = some (.int .i64 v0) := by rw [b0, e0]; rfl
      have b1' : wr.cell? ⟨nb, 1, none⟩ = some (.int .i64 v1) := by rw [b1, e1]; rfl
      have b2' : wr.cell? ⟨nb, 2, none⟩ = some (.int .i64 v2) := by rw [b2, e2]; rfl
      have b3' : wr.cell? ⟨nb, 3, none⟩ = some (.int .i64 v3) := by rw [b3, e3]; rfl
      have hok : Sp.Ok ⟨v0, v1, v2, v3⟩ := by
        have k0 := Lib.atoiAll_bounds (o0 _ rfl)
        have k1 := Lib.atoiAll_bounds (o1 _ rfl)
        have k2 := Lib.atoiAll_bounds (o2 _ rfl)
        have k3 := Lib.atoiAll_bounds (o3 _ rfl)
        rw [← e0] at k0
        rw [← e1] at k1
        rw [← e2] at k2
        rw [← e3] at k3
        exact ⟨⟨by simp only; omega, by simp only; omega⟩, ⟨by simp only; omega, by simp only; omega⟩, ⟨by simp only; omega, by simp only; omega⟩, ⟨by simp only; omega, by simp only; omega⟩⟩
      have HSR : Hid (SpR t ⟨v0, v1, v2, v3⟩ (decide (lineL ⟨v0, v1, v2, v3⟩ = t))) := keepH (SpR.good HF.out (by rw [e0]; exact o0 _ rfl) (by rw [e1]; exact o1 _ rfl) (by rw [e2]; exact o2 _ rfl) (by rw [e3]; exact o3 _ rfl) hok)
      have HNN := keepH hN
      have HOK := keepH hok
      clear o0 o1 o2 o3 b0 b1 b2 b3 e0 e1 e2 e3 hN HI H4 hok
      obtain ⟨w5, hw5⟩ : ∃ w5, w5 = wr.alloc (.cells #[.int .i64 v0, .int .i64 v1, .int .i64 v2, .int .i64 v3] 38) := ⟨_, rfl⟩
      obtain ⟨sb, hsb⟩ : ∃ sb, sb = wr.heap.size := ⟨_, rfl⟩
      have C5 : Below wr.heap.size wr w5 := by rw [hw5]; exact below_alloc _ _
      have Y5 : w5.heap[sb]? = some (.cells #[.int .i64 v0, .int .i64 v1, .int .i64 v2, .int .i64 v3] 38 (0, 0)) := by rw [hw5, hsb]; exact heap_alloc_new _ _
      have L5 : rb < sb := by rw [hsb]; exact lt_of HNN.out.res
      have N5 := HNN.out.on C5
      have HN5 := keepH N5
      have HY5 := keepH Y5
      clear C5 N5 Y5
      go_upto_region 16 with fail
      rw [← hw5, ← hsb]
      clear hw5 hsb b0' b1' b2' b3'
      obtain ⟨sL, hsL⟩ : ∃ sL, sL = mkS (lineL ⟨v0, v1, v2, v3⟩) := ⟨_, rfl⟩
      obtain ⟨bb, hbb⟩ : ∃ bb, bb = decide (lineL ⟨v0, v1, v2, v3⟩ = t) := ⟨_, rfl⟩
      have hcmp : (sL.toList == s.toList) = bb := by rw [hsL, HS.out, beq_mkS, hbb]
      rw [← hbb] at HSR
      have HL : ∀ w', SP5 w rb fb nb G N sb v0 v1 v2 v3 w' → Hid (Calls Tryd.prog 15 #[.agg #[.int .i64 v0, .int .i64 v1, .int .i64 v2, .int .i64 v3]] w' fun e w'' => e = .returned (.string sL) ∧ SP5 w rb fb nb G N sb v0 v1 v2 v3 w'') := fun w' p => by
        rw [hsL]
        refine (line_any ⟨v0, v1, v2, v3⟩ HOK.out w' (HT.out.on p.1.bel)).mono ?_
        rintro e z ⟨rfl, hb⟩
        exact ⟨rfl, p.on hb⟩
      have P5 : SP5 w rb fb nb G N sb v0 v1 v2 v3 w5.drew := (SP5.mk HN5.out HY5.out).on (below_drewN (Below.refl _ _) 1)
      have hSS : ∀ w', SP5 w rb fb nb G N sb v0 v1 v2 v3 w' → w'.cell? ⟨sb, 0, none⟩ = some (.int .i64 v0) ∧ w'.cell? ⟨sb, 1, none⟩ = some (.int .i64 v1) ∧ w'.cell? ⟨sb, 2, none⟩ = some (.int .i64 v2) ∧ w'.cell? ⟨sb, 3, none⟩ = some (.int .i64 v3) := fun w' p => ⟨cell_of p.2 0, cell_of p.2 1, cell_of p.2 2, cell_of p.2 3⟩
      have hBX : ∀ w', SP5 w rb fb nb G N sb v0 v1 v2 v3 w' → Hid (BX w rb v0 v1 v2 v3 w') := fun w' p => keepH (box4 p.1.res p.1.bel p.1.l0 (.int .i64 v0) (.int .i64 v1) (.int .i64 v2) (.int .i64 v3))
      have hS2 : ∀ w', SP5 w rb fb nb G N sb v0 v1 v2 v3 w' → Hid (AF rb sb v0 v1 v2 v3 w') := fun w' p => keepH (af_of (by omega) p.2)
      have c0 := hSS _ P5
      clear hsL hbb L5
      go_region_held3 (fun w' => w'.cell? ⟨sb, 0, none⟩ = some (.int .i64 v0) ∧ w'.cell? ⟨sb, 1, none⟩ = some (.int .i64 v1) ∧ w'.cell? ⟨sb, 2, none⟩ = some (.int .i64 v2) ∧ w'.cell? ⟨sb, 3, none⟩ = some (.int .i64 v3)) (first | exact hSS _ (by assumption) | exact (hS2 _ (by assumption)).out)
        (first | (go_at_call 15; refine (HL _ (by assumption)).out.mono ?_; rintro e z1 ⟨rfl, hz1⟩; obtain ⟨q2, q3, q4, q5, q6, q7, q8, q9, q10, q11⟩ := (hBX z1 hz1).out))
      obtain ⟨w8, hw8⟩ : ∃ w8, w8 = (((z1.setCell ⟨rb, 0, none⟩ (.int .i64 v0)).setCell ⟨rb, 1, none⟩ (.int .i64 v1)).setCell ⟨rb, 2, none⟩ (.int .i64 v2)).setCell ⟨rb, 3, none⟩ (.int .i64 v3) := ⟨_, rfl⟩
      rw [← hw8] at q10 q11 ⊢
      have z0 := cell_of q10 0
      have z1' := cell_of q10 1
      have z2 := cell_of q10 2
      have z3 := cell_of q10 3
      clear hw8
      go_wp2_with fail
      refine bodyPost_ret (v := .tuple #[.agg #[.int .i64 v0, .int .i64 v1, .int .i64 v2, .int .i64 v3], .bool bb]) (by simp [results, Tryd.results34, go_sem, z0, z1', z2, z3]) rfl ⟨⟨⟨v0, v1, v2, v3⟩, bb, rfl, HSR.out⟩, q11⟩
set_option maxRecDepth 100000 in
set_option maxHeartbeats 4000000 in
theorem span_plain (t : List UInt8) (ht : t.length ≤ 200000000) (w : World) (T : Tb w) (f0 f1 f2 f3 : List UInt8) (hf : fieldsL t = [f0, f1, f2, f3]) (hd : ¬ f3 = [45]) (hfl : ∀ f ∈ [f0, f1, f2, f3], f.length ≤ 200000000) :
    Calls Tryd.prog 34 #[.string (mkS t)] w fun e w' => (∃ (sp : Sp) (b : Bool), e = .returned (.tuple #[.agg #[.int .i64 sp.th, .int .i64 sp.ix, .int .i64 sp.fr, .int .i64 sp.to], .bool b]) ∧ SpR t sp b) ∧ Below w.heap.size w w' := by
  obtain ⟨w0, hw0⟩ : ∃ w0, w0 = w.alloc (.cells zero4 38) := ⟨_, rfl⟩
  have B0 : Below w.heap.size w w0 := by rw [hw0]; exact below_alloc _ _
  have X0 : w0.heap[w.heap.size]? = some (.cells zero4 38 (0, 0)) := by rw [hw0]; exact heap_alloc_new _ _
  have htr := trim_any t ht
  have hsp := split_any (Lib.trimSuffix t [10]) (by have := trim_len t; omega) w0 (T.on B0)
  rw [show Lib.split (Lib.trimSuffix t [10]) [32] = [f0, f1, f2, f3] from hf] at hsp
  simp only [List.length_cons, List.length_nil, List.map_cons, List.map_nil] at hsp
  obtain ⟨G, hG⟩ : ∃ G, G = [f0, f1, f2, dashL f3] := ⟨_, rfl⟩
  have HGE := keepH hG
  have HGL : Hid (G.length = 4) := keepH (by rw [hG]; rfl)
  have HGS : Hid (∀ f ∈ G, f.length ≤ 200000000) := keepH (by
    rw [hG]
    intro f hm
    simp only [List.mem_cons, List.not_mem_nil, or_false] at hm
    rcases hm with rfl | rfl | rfl | rfl
    · exact hfl _ (by simp)
    · exact hfl _ (by simp)
    · exact hfl _ (by simp)
    · unfold dashL
      by_cases q : f3 = [45]
      · rw [if_pos q]
        have := itoa_len (n := -1) (by unfold isI; decide); omega
      · rw [if_neg q]
        exact hfl f3 (by simp))
  have HF := keepH hf
  have HT := keepH T
  obtain ⟨s, hs⟩ : ∃ s, s = mkS t := ⟨_, rfl⟩
  have HS := keepH hs
  rw [← hs] at htr ⊢
  go_enter Tryd.func34, Tryd.ntmps34
  go_upto_region 1 with fail
  rw [← hw0]
  obtain ⟨rb, hrb⟩ : ∃ rb, rb = w.heap.size := ⟨_, rfl⟩
  have L0 : w.heap.size ≤ rb := by omega
  rw [show w.heap.size = rb from hrb.symm] at X0
  rw [← hrb]
  clear hw0 hs hf hfl hG T hrb
  go_wp2_with fail
  refine (htr w0).mono ?_
  rintro e w1 ⟨rfl, hw1⟩
  rw [hw1]
  clear hw1 w1
  go_wp2_with fail
  refine hsp.mono ?_
  rintro e w1 ⟨rfl, hw1⟩
  have C1 : Below w0.heap.size w0 w1 := by rw [hw1]; exact below_alloc _ _
  have B1 := below_chain B0 C1
  have X1 := heap_below X0 C1
  obtain ⟨fb, hfb⟩ : ∃ fb, fb = w0.heap.size := ⟨_, rfl⟩
  have L1 : rb < fb := by rw [hfb]; exact lt_of X0
  have F1 : w1.heap[fb]? = some (.cells #[.string (mkS f0), .string (mkS f1), .string (mkS f2), .string (mkS f3)] 9 (0, 0)) := by rw [hw1, hfb]; exact heap_alloc_new _ _
  rw [← hfb]
  clear hw1 hsp htr hfb C1 B0 X0
  obtain ⟨sf3, hsf3⟩ : ∃ x, x = mkS f3 := ⟨_, rfl⟩
  rw [← hsf3] at F1
  have g3 : w1.cell? ⟨fb, 3, none⟩ = some (.string sf3) := cell_of F1 3
  have cmp : (sf3.toList == [45]) = false := by rw [hsf3, mkS_toList]; simpa using hd
  have F3 : w1.heap[fb]? = some (.cells (G.map (fun f => Value.string (mkS f))).toArray 9 (0, 0)) := by
    rw [F1, HGE.out, hsf3]
    unfold dashL
    rw [if_neg hd]
    rfl
  obtain ⟨w3, hw3⟩ : ∃ w3, w3 = w1 := ⟨_, rfl⟩
  subst hw3
  have B3 := B1
  have X3 := X1
  clear B1 X1 F1 hsf3 hd
  go_upto_region 6 with fail
  clear g3 cmp
  obtain ⟨w4, hw4⟩ : ∃ w4, w4 = w3.alloc (.cells zero4 73) := ⟨_, rfl⟩
  obtain ⟨nb, hnb⟩ : ∃ nb, nb = w3.heap.size := ⟨_, rfl⟩
  have H4 : Hid (∃ N, SQ w rb fb nb G N 0 w4) := keepH ⟨fun _ => 0, by
    rw [hw4, hnb]
    exact ⟨below_chain B3 (below_alloc _ _), heap_below X3 (below_alloc _ _), heap_below F3 (below_alloc _ _), heap_alloc_new _ _, (fun j hj => by omega), L0, L1, lt_of F3⟩⟩
  clear B3 X3 F3
  go_upto_region 7 with fail
  rw [← hnb]
  rw [← show w4 = w3.alloc (.cells #[.int .i64 0, .int .i64 0, .int .i64 0, .int .i64 0] 73) from hw4]
  clear hw4 hnb
  go_wp2_with fail
  go_loopw [27] (fun s27 wr => ∃ i : Nat, i ≤ 4 ∧ s27 = .int .i64 (i : Int) ∧ Hid (∃ N, SQ w rb fb nb G N i wr)) (fun s27 _ => 4 - (intOf s27).toNat)
  case atStart => exact ⟨0, by omega, rfl, H4⟩
  case round =>
    obtain ⟨i, hi, rfl, HI⟩ := hrel
    obtain ⟨N, hN⟩ := HI.out
    by_cases hi4 : i < 4
    · have i1 : (i : Int) < 4 := by omega
      have i0 : (0 : Int) ≤ (i : Int) := by omega
      have wi : IntKind.i64.wrap ((i : Int) + 1) = ((i + 1 : Nat) : Int) := by rw [IntKind.wrap_i64]; omega
      obtain ⟨f, hf⟩ : ∃ f, G[i]? = some f := ⟨G[i]'(by rw [HGL.out]; exact hi4), List.getElem?_eq_getElem _⟩
      have hfm : f ∈ G := List.mem_of_getElem? hf
      have cF : wr.cell? ⟨fb, i, none⟩ = some (.string (mkS f)) := by rw [cell_of hN.fld i]; simp [hf]
      obtain ⟨sf, hsf⟩ : ∃ sf, sf = mkS f := ⟨_, rfl⟩
      rw [← hsf] at cF
      have hfl := HGS.out f hfm
      by_cases hv : ∃ v, Lib.atoiAll f = .ok v
      · obtain ⟨v, hv⟩ := hv
        have hat := atoi_ok f hfl v hv
        rw [← hsf] at hat
        have HNX : Hid (∀ w', Below wr.heap.size wr w' → ∃ N', SQ w rb fb nb G N' (i + 1) (w'.setCell ⟨nb, i, none⟩ (.int .i64 v))) := keepH (fun w' hb => (hN.on hb).next hi4 v f hf hv)
        have HNN := keepH hN
        clear hN HI hsf hf hfm hv H4 hfl
        go_wp2_with fail
        refine (hat wr).mono ?_
        rintro e w5 ⟨rfl, C5⟩
        have N5 := HNN.out.on C5
        have n0 : w5.cell? ⟨nb, i, none⟩ = some (.int .i64 0) := by rw [cell_of N5.num i]; exact nums_at N i hi4
        have n1 := free_of N5.num i
        have HW : Hid (∃ N', SQ w rb fb nb G N' (i + 1) (w5.setCell ⟨nb, i, none⟩ (.int .i64 v))) := keepH (HNX.out w5 C5)
        obtain ⟨w6, hw6⟩ : ∃ w6, w6 = w5.setCell ⟨nb, i, none⟩ (.int .i64 v) := ⟨_, rfl⟩
        rw [← hw6] at HW
        have HW6 := keepH hw6
        clear N5 C5 hw6 cF hat
        go_wp2_with fail
        rw [← HW6.out]
        go_roundw
        case rel => exact ⟨i + 1, by omega, by first | rfl | go_num, HW⟩
        case measure => simp [intOf]; omega
      · have hv' : ∀ v, Lib.atoiAll f ≠ .ok v := fun v q => hv ⟨v, q⟩
        have hat := atoi_no f hfl hv' wr (HT.out.on hN.bel)
        rw [← hsf] at hat
        have HSR : Hid (SpR t sp0 false) := keepH (SpR.bad HF.out (HGE.out ▸ hfm) hv')
        have HNN := keepH hN
        clear hN HI hsf hf hfm hv hv' H4 hfl
        go_wp2_with fail
        refine hat.mono ?_
        rintro e w5 ⟨⟨x, ti, pi, rfl⟩, C5⟩
        have N5 := HNN.out.on C5
        obtain ⟨q2, q3, q4, q5, q6, q7, q8, q9, q10, q11⟩ := box4 N5.res N5.bel N5.l0 (.int .i64 0) (.int .i64 0) (.int .i64 0) (.int .i64 0)
        obtain ⟨w6, hw6⟩ : ∃ w6, w6 = (((w5.setCell ⟨rb, 0, none⟩ (.int .i64 0)).setCell ⟨rb, 1, none⟩ (.int .i64 0)).setCell ⟨rb, 2, none⟩ (.int .i64 0)).setCell ⟨rb, 3, none⟩ (.int .i64 0) := ⟨_, rfl⟩
        clear N5 C5 cF hat HNN
        go_wp2_with fail
        rw [← hw6] at q10 q11 ⊢
        have z0 := cell_of q10 0
        have z1 := cell_of q10 1
        have z2 := cell_of q10 2
        have z3 := cell_of q10 3
        clear hw6
        refine bodyPost_ret (v := .tuple #[.agg zero4, .bool false]) (by simp [results, Tryd.results34, go_sem, z0, z1, z2, z3, zero4]) rfl ⟨⟨sp0, false, rfl, HSR.out⟩, q11⟩
    · have i1 : ¬ (i : Int) < 4 := by omega
      obtain rfl : i = 4 := by omega
      have o0 := hN.okN 0 (by omega)
      have o1 := hN.okN 1 (by omega)
      have o2 := hN.okN 2 (by omega)
      have o3 := hN.okN 3 (by omega)
      rw [HGE.out] at o0 o1 o2 o3
      have b0 := cell_of hN.num 0
      have b1 := cell_of hN.num 1
      have b2 := cell_of hN.num 2
      have b3 := cell_of hN.num 3
      obtain ⟨v0, e0⟩ : ∃ v, v = N 0 := ⟨_, rfl⟩
      obtain ⟨v1, e1⟩ : ∃ v, v = N 1 := ⟨_, rfl⟩
      obtain ⟨v2, e2⟩ : ∃ v, v = N 2 := ⟨_, rfl⟩
      obtain ⟨v3, e3⟩ : ∃ v, v = N 3 := ⟨_, rfl⟩
      have b0' : wr.cell? ⟨nb, 0, none⟩ = some (.int .i64 v0) := by rw [b0, e0]; rfl
      have b1' : wr.cell? ⟨nb, 1, none⟩ = some (.int .i64 v1) := by rw [b1, e1]; rfl
      have b2' : wr.cell? ⟨nb, 2, none⟩ = some (.int .i64 v2) := by rw [b2, e2]; rfl
      have b3' : wr.cell? ⟨nb, 3, none⟩ = some (.int .i64 v3) := by rw [b3, e3]; rfl
      have hok : Sp.Ok ⟨v0, v1, v2, v3⟩ := by
        have k0 := Lib.atoiAll_bounds (o0 _ rfl)
        have k1 := Lib.atoiAll_bounds (o1 _ rfl)
        have k2 := Lib.atoiAll_bounds (o2 _ rfl)
        have k3 := Lib.atoiAll_bounds (o3 _ rfl)
        rw [← e0] at k0
        rw [← e1] at k1
        rw [← e2] at k2
        rw [← e3] at k3
        exact ⟨⟨by simp only; omega, by simp only; omega⟩, ⟨by simp only; omega, by simp only; omega⟩, ⟨by simp only; omega, by simp only; omega⟩, ⟨by simp only; omega, by simp only; omega⟩⟩
      have HSR : Hid (SpR t ⟨v0, v1, v2, v3⟩ (decide (lineL ⟨v0, v1, v2, v3⟩ = t))) := keepH (SpR.good HF.out (by rw [e0]; exact o0 _ rfl) (by rw [e1]; exact o1 _ rfl) (by rw [e2]; exact o2 _ rfl) (by rw [e3]; exact o3 _ rfl) hok)
      have HNN := keepH hN
      have HOK := keepH hok
      clear o0 o1 o2 o3 b0 b1 b2 b3 e0 e1 e2 e3 hN HI H4 hok
      obtain ⟨w5, hw5⟩ : ∃ w5, w5 = wr.alloc (.cells #[.int .i64 v0, .int .i64 v1, .int .i64 v2, .int .i64 v3] 38) := ⟨_, rfl⟩
      obtain ⟨sb, hsb⟩ : ∃ sb, sb = wr.heap.size := ⟨_, rfl⟩
      have C5 : Below wr.heap.size wr w5 := by rw [hw5]; exact below_alloc _ _
      have Y5 : w5.heap[sb]? = some (.cells #[.int .i64 v0, .int .i64 v1, .int .i64 v2, .int .i64 v3] 38 (0, 0)) := by rw [hw5, hsb]; exact heap_alloc_new _ _
      have L5 : rb < sb := by rw [hsb]; exact lt_of HNN.out.res
      have N5 := HNN.out.on C5
      have HN5 := keepH N5
      have HY5 := keepH Y5
      clear C5 N5 Y5
      go_upto_region 16 with fail
      rw [← hw5, ← hsb]
      clear hw5 hsb b0' b1' b2' b3'
      obtain ⟨sL, hsL⟩ : ∃ sL, sL = mkS (lineL ⟨v0, v1, v2, v3⟩) := ⟨_, rfl⟩
      obtain ⟨bb, hbb⟩ : ∃ bb, bb = decide (lineL ⟨v0, v1, v2, v3⟩ = t) := ⟨_, rfl⟩
      have hcmp : (sL.toList == s.toList) = bb := by rw [hsL, HS.out, beq_mkS, hbb]
      rw [← hbb] at HSR
      have HL : ∀ w', SP5 w rb fb nb G N sb v0 v1 v2 v3 w' → Hid (Calls Tryd.prog 15 #[.agg #[.int .i64 v0, .int .i64 v1, .int .i64 v2, .int .i64 v3]] w' fun e w'' => e = .returned (.string sL) ∧ SP5 w rb fb nb G N sb v0 v1 v2 v3 w'') := fun w' p => by
        rw [hsL]
        refine (line_any ⟨v0, v1, v2, v3⟩ HOK.out w' (HT.out.on p.1.bel)).mono ?_
        rintro e z ⟨rfl, hb⟩
        exact ⟨rfl, p.on hb⟩
      have P5 : SP5 w rb fb nb G N sb v0 v1 v2 v3 w5.drew := (SP5.mk HN5.out HY5.out).on (below_drewN (Below.refl _ _) 1)
      have hSS : ∀ w', SP5 w rb fb nb G N sb v0 v1 v2 v3 w' → w'.cell? ⟨sb, 0, none⟩ = some (.int .i64 v0) ∧ w'.cell? ⟨sb, 1, none⟩ = some (.int .i64 v1) ∧ w'.cell? ⟨sb, 2, none⟩ = some (.int .i64 v2) ∧ w'.cell? ⟨sb, 3, none⟩ = some (.int .i64 v3) := fun w' p => ⟨cell_of p.2 0, cell_of p.2 1, cell_of p.2 2, cell_of p.2 3⟩
      have hBX : ∀ w', SP5 w rb fb nb G N sb v0 v1 v2 v3 w' → Hid (BX w rb v0 v1 v2 v3 w') := fun w' p => keepH (box4 p.1.res p.1.bel p.1.l0 (.int .i64 v0) (.int .i64 v1) (.int .i64 v2) (.int .i64 v3))
      have hS2 : ∀ w', SP5 w rb fb nb G N sb v0 v1 v2 v3 w' → Hid (AF rb sb v0 v1 v2 v3 w') := fun w' p => keepH (af_of (by omega) p.2)
      have c0 := hSS _ P5
      clear hsL hbb L5
      go_region_held3 (fun w' => w'.cell? ⟨sb, 0, none⟩ = some (.int .i64 v0) ∧ w'.cell? ⟨sb, 1, none⟩ = some (.int .i64 v1) ∧ w'.cell? ⟨sb, 2, none⟩ = some (.int .i64 v2) ∧ w'.cell? ⟨sb, 3, none⟩ = some (.int .i64 v3)) (first | exact hSS _ (by assumption) | exact (hS2 _ (by assumption)).out)
        (first | (go_at_call 15; refine (HL _ (by assumption)).out.mono ?_; rintro e z1 ⟨rfl, hz1⟩; obtain ⟨q2, q3, q4, q5, q6, q7, q8, q9, q10, q11⟩ := (hBX z1 hz1).out))
      obtain ⟨w8, hw8⟩ : ∃ w8, w8 = (((z1.setCell ⟨rb, 0, none⟩ (.int .i64 v0)).setCell ⟨rb, 1, none⟩ (.int .i64 v1)).setCell ⟨rb, 2, none⟩ (.int .i64 v2)).setCell ⟨rb, 3, none⟩ (.int .i64 v3) := ⟨_, rfl⟩
      rw [← hw8] at q10 q11 ⊢
      have z0 := cell_of q10 0
      have z1' := cell_of q10 1
      have z2 := cell_of q10 2
      have z3 := cell_of q10 3
      clear hw8
      go_wp2_with fail
      refine bodyPost_ret (v := .tuple #[.agg #[.int .i64 v0, .int .i64 v1, .int .i64 v2, .int .i64 v3], .bool bb]) (by simp [results, Tryd.results34, go_sem, z0, z1', z2, z3]) rfl ⟨⟨⟨v0, v1, v2, v3⟩, bb, rfl, HSR.out⟩, q11⟩
end Go.Proofs.YtfohpbpekdcneaaDoor
