/- A run of calls of both: the loop over the picks. -/
import Derived.Test.YtinhcphhdehmhaaCamY
namespace Go.Proofs.Ytinhcphhdehmhaa
open Go.RowKit Go.Shelf
set_option linter.unusedVariables false

def CO (pcs : List PC) (cur : Nat → Option Nat) (vw : Nat → Option Nat) : Prop := (∀ (t j : Nat) (x : PC), cur t = some j → pcs[j]? = some x → x.pos < 2) ∧ (∀ t, vw t = none → cur t = none) ∧ ∀ x ∈ pcs, x.most < 18446744073709551616
def firstOf (cell first : Nat) : Nat := if cell < 128 then first else 0
theorem PJ.at15 {W : World} {cell p n q : Nat} {x : PC} (h : PJ W cell p n q x) : W.cell? ⟨p, 15, none⟩ = some (.int .i64 x.tz) := by
  have e := cell_of h.proc 15
  cases hN : x.isNow <;> simpa [hN, nowCells, takeCells] using e
theorem PJ.at14 {W : World} {cell p n q : Nat} {x : PC} (h : PJ W cell p n q x) : W.cell? ⟨p, 14, none⟩ = some (.int .i64 x.fr) := by
  have e := cell_of h.proc 14
  cases hN : x.isNow <;> simpa [hN, nowCells, takeCells] using e
theorem CO.mono {pcs : List PC} {cur vw vw' : Nat → Option Nat} (h : CO pcs cur vw) (e : ∀ t, vw' t = none → vw t = none) : CO pcs cur vw' := ⟨h.1, fun t x => h.2.1 t (e t x), h.2.2⟩
theorem CO.new {pcs : List PC} {cur vw : Nat → Option Nat} (h : CO pcs cur vw) (t : Nat) (hv : vw t ≠ none) (hk : ∀ s j, cur s = some j → j < pcs.length) (isNow : Bool) (most i : Nat) (hm : most < 18446744073709551616) : CO (pcs ++ [PC.fresh isNow most i]) (fun s => if s = t then some pcs.length else cur s) vw := by
  refine ⟨fun s j x e hx => ?_, fun s e => ?_, fun x hx => ?_⟩
  · by_cases e2 : s = t
    · simp [e2] at e
      subst e
      simp at hx
      subst hx
      simp [PC.fresh]
    · simp only [e2, if_false] at e
      rw [List.getElem?_append_left (hk s j e)] at hx
      exact h.1 s j x e hx
  · by_cases e2 : s = t
    · subst e2
      exact absurd e hv
    · simp only [e2, if_false]
      exact h.2.1 s e
  · rcases List.mem_append.1 hx with q | q
    · exact h.2.2 x q
    · obtain rfl := List.mem_singleton.1 q
      exact hm
theorem CO.step {pcs : List PC} {cur vw : Nat → Option Nat} (h : CO pcs cur vw) {j : Nat} {x y : PC} (hj : pcs[j]? = some x) (hy : y.pos < 2) (hm : y.most = x.most) : CO (pcs.set j y) cur vw := by
  have hjl := (List.getElem?_eq_some_iff.1 hj).1
  refine ⟨fun s j' x' e hx => ?_, h.2.1, fun z hz => ?_⟩
  · by_cases e2 : j = j'
    · subst e2
      rw [List.getElem?_set_self hjl] at hx
      cases hx
      exact hy
    · rw [List.getElem?_set_ne e2] at hx
      exact h.1 s j' x' e hx
  · rcases List.mem_or_eq_of_mem_set hz with q | rfl
    · exact h.2.2 z q
    · rw [hm]; exact h.2.2 x (List.mem_of_getElem? hj)
theorem CO.rest {pcs : List PC} {cur vw : Nat → Option Nat} (h : CO pcs cur vw) {t j : Nat} {x y : PC} (hj : pcs[j]? = some x) (hc : cur t = some j) (one : ∀ s s' j, cur s = some j → cur s' = some j → s = s') (hm : y.most = x.most) : CO (pcs.set j y) (fun s => if s = t then none else cur s) vw := by
  have hjl := (List.getElem?_eq_some_iff.1 hj).1
  refine ⟨fun s j' x' e hx => ?_, fun s e => ?_, fun z hz => ?_⟩
  · by_cases e2 : s = t
    · simp [e2] at e
    · simp only [e2, if_false] at e
      by_cases e3 : j = j'
      · subst e3
        exact absurd (one s t j e hc) e2
      · rw [List.getElem?_set_ne e3] at hx
        exact h.1 s j' x' e hx
  · by_cases e2 : s = t
    · simp [e2]
    · simp only [e2, if_false]
      exact h.2.1 s e
  · rcases List.mem_or_eq_of_mem_set hz with q | rfl
    · exact h.2.2 z q
    · rw [hm]; exact h.2.2 x (List.mem_of_getElem? hj)
theorem step_most (ok : Bool) (c : Nat) (x : PC) : (x.step ok c).most = x.most := by
  unfold PC.step PC.load
  split <;> (repeat' split) <;> rfl
theorem step_pos (ok : Bool) (c : Nat) (x : PC) (h : x.pos < 2) (hn : (x.step ok c).pos ≠ 2) : (x.step ok c).pos < 2 := by
  unfold PC.step PC.load at hn ⊢
  split <;> (repeat' split) <;> simp_all
theorem chg_undrew {F : Nat → Prop} {A B : World} (h : Chg F A.drew B) : Chg F A B := ⟨h.os, h.tape, h.output, h.size, h.block⟩
theorem RS.nowAt {w X : World} {cell nt m b nm nB aB vB : Nat} {F R : Nat → Prop} {cs : List Nat} {l : List Acc} {al : Value} {pcs : List PC} {pb nb tb : Nat → Nat} {cur : Nat → Option Nat} {ats : Nat → Nat} {vw : Nat → Option Nat} {tg : Nat → Nat × Nat} (h : RS w X cell nt m b nm nB aB vB F R cs l al pcs pb nb tb cur ats vw tg) {t j : Nat} (ht : t < nt) (hc : cur t = some j) : X.cell? ⟨nB, t, none⟩ = some (.pointer (some ⟨pb j, 0, none⟩)) := by
  have e := h.now.cell t ht
  rw [hc] at e
  exact e
theorem RS.vwAt {w X : World} {cell nt m b nm nB aB vB : Nat} {F R : Nat → Prop} {cs : List Nat} {l : List Acc} {al : Value} {pcs : List PC} {pb nb tb : Nat → Nat} {cur : Nat → Option Nat} {ats : Nat → Nat} {vw : Nat → Option Nat} {tg : Nat → Nat × Nat} (h : RS w X cell nt m b nm nB aB vB F R cs l al pcs pb nb tb cur ats vw tg) {t v : Nat} (ht : t < nt) (hv : vw t = some v) : X.cell? ⟨vB, t, none⟩ = some (.pointer (some ⟨v, 0, none⟩)) := by
  have e := h.vws.cell t ht
  rw [hv] at e
  exact e
theorem mark_done {y : PC} (h : y.pos = 2) (i : Nat) : y.mark i = { y with tz := (i : Int) } := by simp [PC.mark, h]
theorem mark_not {y : PC} (h : y.pos ≠ 2) (i : Nat) : y.mark i = y := by simp [PC.mark, h]
/-- The memories behind the first store. -/
theorem ran_start {W1 X : World} {cell first nt m b nm nB aB vB : Nat} {F R : Nat → Prop} {vs : Value}
    (hb : Bank X F b 128 1 (stN 128 [] cell first) ([] ++ [⟨-1, 2, cell, first, 0, vs, [], 0, false⟩])) (hm : IsMem X m b) (hr : RMem X R nm 128 1 (stN 128 [] cell first) ([] ++ [⟨-1, 2, cell, first, 0, .slice none 0 0, [], 0, false⟩]))
    (hn : IsRow X nB nt (fun _ => .pointer none) 44) (ha : IsRow X aB nt (fun _ => .int .i64 0) 3) (hv : IsRow X vB nt (fun _ => .pointer none) 50) (c : Chg (fun _ => False) W1 X)
    (hF : ∀ k, F k → W1.heap.size ≤ k ∧ k ≠ m ∧ ¬ R k ∧ k < nB) (hR : ∀ k, R k → W1.heap.size ≤ k ∧ k ≠ m ∧ k < nB) (hmm : W1.heap.size ≤ m ∧ m < nB) (h1 : nB < aB) (h2 : aB < vB) :
    ∃ tg, RS W1 X cell nt m b nm nB aB vB F R (stN 128 [] cell first) ([] ++ [⟨-1, 2, cell, first, 0, vs, [], 0, false⟩]) (.slice none 0 0) [] (fun _ => 0) (fun _ => 0) (fun _ => 0) (fun _ => none) (fun _ => 0) (fun _ => none) tg := by
  classical
  obtain ⟨tg, htg⟩ : ∃ tg : Nat → Nat × Nat, tg = fun k => if F k then (1, 0) else if R k then (3, 0) else if k = m then (2, 0) else if k = nB then (4, 0) else if k = aB then (5, 0) else if k = vB then (6, 0) else (0, 0) := ⟨_, rfl⟩
  have nF : ∀ k, nB ≤ k → ¬ F k := fun k hk e => by have := (hF k e).2.2.2; omega
  have nR : ∀ k, nB ≤ k → ¬ R k := fun k hk e => by have := (hR k e).2.2; omega
  refine ⟨tg, hb, hm, by simpa [Acc.bare] using hr, fun a ha => by simp at ha; rw [ha], hn, ha, hv, World.ownsRow_nil _ _ _ _, fun j x e => by simp at e, fun t v e => by simp at e, fun t j e => by simp at e, fun t t' j e => by simp at e, fun k e => by rw [htg]; simp [e], ?_, fun k e => ?_, ?_, ?_, ?_, fun k e => by simp [Value.ownBlock] at e, fun t v e => by simp at e, fun j hj => by simp at hj, fun k e => ?_, c⟩
  · have e1 : ¬ F m := fun e => (hF m e).2.1 rfl
    have e2 : ¬ R m := fun e => (hR m e).2.1 rfl
    rw [htg]; simp [e1, e2]
  · have e1 : ¬ F k := fun x => (hF k x).2.2.1 e
    rw [htg]; simp [e1, e]
  · have e3 : nB ≠ m := by omega
    rw [htg]; simp [nF nB (by omega), nR nB (by omega), e3]
  · have e3 : aB ≠ m := by omega
    have e4 : aB ≠ nB := by omega
    rw [htg]; simp [nF aB (by omega), nR aB (by omega), e3, e4]
  · have e3 : vB ≠ m := by omega
    have e4 : vB ≠ nB := by omega
    have e5 : vB ≠ aB := by omega
    rw [htg]; simp [nF vB (by omega), nR vB (by omega), e3, e4, e5]
  · have sz := c.size
    have ln := lt_of hn
    have lv := lt_of hv
    have lm := hm.lt
    have la := lt_of ha
    by_cases f : F k
    · exact ⟨(hF k f).1, hb.lt k f⟩
    · by_cases r : R k
      · exact ⟨(hR k r).1, hr.lt k r⟩
      · by_cases q1 : k = m
        · omega
        · by_cases q2 : k = nB
          · omega
          · by_cases q3 : k = aB
            · omega
            · by_cases q4 : k = vB
              · omega
              · rw [htg] at e
                simp [f, r, q1, q2, q3, q4] at e
theorem first_cell (cell first : Nat) : cellN (stN 128 [] cell first) cell = firstOf cell first := by
  rw [stN_cell]
  unfold firstOf
  by_cases h : cell < 128 <;> simp [h, cellN]

set_option maxRecDepth 100000 in
set_option maxHeartbeats 16000000 in
theorem c_ran (cell first : Nat) (pt : Option Addr) (ct : Nat) (ths : List ThR) (pp : Option Addr) (cp : Nat) (picks : List Int) (w : World) (hc : cell < 18446744073709551616) (hf : first < 18446744073709551616) (hT : ThsAt w pt ths) (hP : PicksAt w pp picks) (hnt : ths.length ≤ 1048576) (hnp : picks.length ≤ 1048576) :
    Calls Try.prog 9 #[.agg #[.int .u64 (cell : Int), .int .u64 (first : Int), .slice pt ths.length ct, .slice pp picks.length cp]] w fun e W' => ∃ al W1 m b nm nB aB vB F R cs l pcs pb nb tb cur ats vw tg, e = .returned (.tuple #[al, .pointer (some ⟨m, 0, none⟩), .bool true]) ∧ w.heap.size ≤ W1.heap.size ∧ RS W1 W' cell ths.length m b nm nB aB vB F R cs l al pcs pb nb tb cur ats vw tg ∧ CI (decide (cell < 128)) (firstOf cell first) (cellN cs cell) picks.length pcs ∧ pcs.length ≤ picks.length ∧ Chg (fun _ => False) w W' := by
  have HT := keepH hT
  have HPK := keepH hP
  obtain ⟨nt, hntv⟩ : ∃ nt, nt = ths.length := ⟨_, rfl⟩
  obtain ⟨np, hnpv⟩ : ∃ np, np = picks.length := ⟨_, rfl⟩
  rw [← hntv] at hnt ⊢
  rw [← hnpv] at hnp ⊢
  have HNT := keepH hntv
  have HNP := keepH hnpv
  clear hT hP hntv hnpv
  obtain ⟨W1, hW1⟩ : ∃ W1, W1 = w.alloc (.cells #[.int .u64 (cell : Int), .int .u64 (first : Int), .slice pt nt ct, .slice pp np cp] 26) := ⟨_, rfl⟩
  have C1 : Hid (Chg (fun _ => False) w W1) := by rw [hW1]; exact (Chg.refl _ _).alloc _
  have b1 : Hid (W1.heap[w.heap.size]? = some (.cells #[.int .u64 (cell : Int), .int .u64 (first : Int), .slice pt nt ct, .slice pp np cp] 26 (0, 0))) := by rw [hW1]; exact heap_alloc_new _ _
  go_enter Try.func9, Try.ntmps9
  go_upto_region 1 with fail
  rw [← hW1]
  obtain ⟨bx, hbx⟩ : ∃ bx, bx = w.heap.size := ⟨_, rfl⟩
  rw [← hbx] at b1 ⊢
  have LB : Hid (bx < W1.heap.size) := lt_of b1.out
  have HBX := keepH hbx
  clear hW1 hbx
  go_wp2_with fail
  refine (m_new 128 W1 (by omega)).mono ?_
  rintro e W2 ⟨rfl, M2, B2, C2, S2⟩
  obtain ⟨m, hm⟩ : ∃ m, m = W1.heap.size + 1 := ⟨_, rfl⟩
  obtain ⟨b, hb⟩ : ∃ b, b = W1.heap.size := ⟨_, rfl⟩
  rw [← hm] at M2 ⊢
  rw [← hb] at M2 B2
  have HM2 := keepH M2
  have HB2 := keepH B2
  have HC2 := keepH C2
  have HS2 := keepH S2
  have Hm := keepH hm
  have Hb := keepH hb
  clear M2 B2 C2 S2 hm hb
  go_wp2_with fail
  refine (r_new 128 W2 (by omega)).mono ?_
  rintro e W3 ⟨rfl, R3, C3, S3⟩
  obtain ⟨nm, hnm⟩ : ∃ nm, nm = W2.heap.size + 1 := ⟨_, rfl⟩
  rw [← hnm] at R3 ⊢
  have HR3 := keepH R3
  have HM3 := keepH (HM2.out.chg C3 (fun x => x))
  have HB3 := keepH (HB2.out.chg C3 (fun _ _ x => x))
  have HC3 := keepH (HC2.out.trans C3 (H := fun _ => False) (fun _ _ x => x) (fun _ _ x => x))
  have HS3 := keepH S3
  have Hnm := keepH hnm
  have b3 : Hid (W3.heap[bx]? = some (.cells #[.int .u64 (cell : Int), .int .u64 (first : Int), .slice pt nt ct, .slice pp np cp] 26 (0, 0))) := (HC3.out.block bx LB.out (fun x => x)).trans b1.out
  clear R3 C3 S3 hnm
  go_upto_region 5 with fail
  have k0 : W3.cell? ⟨bx, 0, none⟩ = some (.int .u64 (cell : Int)) := cell_of b3.out 0
  have k1 : W3.cell? ⟨bx, 1, none⟩ = some (.int .u64 (first : Int)) := cell_of b3.out 1
  have HM3d : Hid (IsMem W3.drew m b) := HM3.out.chg ((Chg.refl (fun _ => False) W3).drew) (fun x => x)
  obtain ⟨W4, hW4⟩ : ∃ W4, W4 = (W3.alloc (.cells #[.iface 84 (.pointer (some ⟨b, 0, none⟩)), .int .i64 (-1), .int .i64 0] 87)).drew := ⟨_, rfl⟩
  have C4 : Hid (Chg (fun _ => False) W3 W4) := by rw [hW4]; exact ((Chg.refl _ _).alloc _).drew
  have HV4 : Hid (IsView W4 W3.heap.size b (-1) 0) := by rw [hW4]; exact heap_alloc_new _ _
  have HB4 := keepH (HB3.out.chg C4.out (fun _ _ x => x))
  have HN4 : Hid (¬ W3.heap.size = b) := by have := HS3.out; have := HS2.out; have := Hb.out; show ¬ _; omega
  have KV : Hid (Calls Try.prog 22 #[.pointer (some ⟨W3.heap.size, 0, none⟩), .int .u64 (cell : Int), .int .u64 (first : Int)] ((W3.alloc (.cells #[.iface 84 (.pointer (some ⟨b, 0, none⟩)), .int .i64 (-1), .int .i64 0] 87)).drew) fun e W' => e = .returned (.tuple #[]) ∧ ∃ F' vs, Bank W' F' b 128 1 (stN 128 [] cell first) ([] ++ [⟨-1, 2, cell, first, 0, vs, [], 0, false⟩]) ∧ IsView W' W3.heap.size b (-1) (0 + 1) ∧ GoesV W4 W' (fun k => k = b) F' W3.heap.size) := by
    have := v_store W3.heap.size b 128 1 0 (-1) cell first (fun k => k = b) [] [] W4 HV4.out HB4.out HN4.out (by omega) (by simp) hc hf
    rw [← hW4]
    exact this
  have LX : Hid (∀ F' W', GoesV W4 W' (fun k => k = b) F' W3.heap.size → (W'.cell? ⟨bx, 0, none⟩ = some (.int .u64 (cell : Int)) ∧ W'.cell? ⟨bx, 1, none⟩ = some (.int .u64 (first : Int)))) := fun F' W' G => by
    have e := (G.chg.block bx (by have := C4.out.size; have := lt_of b3.out; omega) (fun x => by have := LB.out; have := Hb.out; have := HS2.out; have := HS3.out; omega)).trans ((C4.out.block bx (lt_of b3.out) (fun x => x)).trans b3.out)
    exact ⟨cell_of e 0, cell_of e 1⟩
  clear hW4
  go_region_held3 (fun w' => w'.cell? ⟨bx, 0, none⟩ = some (.int .u64 (cell : Int)) ∧ w'.cell? ⟨bx, 1, none⟩ = some (.int .u64 (first : Int))) (first | exact hS5 | (refine ⟨?_, ?_⟩ <;> (repeat (first | exact k0 | exact k1 | refine cell_dr ?_ | refine cell_al ?_ _))))
    (first | (go_at_call 16; refine (m_view m b (-1) _ HM3d.out).mono ?_; rintro e w4 ⟨rfl, rfl⟩) | (go_at_call 22; refine KV.out.mono ?_; rintro e W5 ⟨rfl, F5, vs5, B5, V5, G5⟩; have hS5 := LX.out F5 W5 G5; have HB5 := keepH B5; have HG5 := keepH G5; clear B5 V5 G5))
  have C5 : Hid (Chg (fun k => k = b ∨ k = W3.heap.size) W3 W5) := C4.out.trans HG5.out.chg (fun _ _ x => x.elim) (fun _ _ x => x)
  have HC5 : Hid (Chg (fun _ => False) W1 W5) := HC3.out.trans C5.out (fun _ _ x => x) (fun i hi x => by have := Hb.out; have := HS2.out; have := HS3.out; omega)
  have HM5 : Hid (IsMem W5 m b) := HM3.out.chg C5.out (fun x => by have := Hb.out; have := Hm.out; have := HS2.out; have := HS3.out; omega)
  have HR5 : Hid (RMem W5 (fun k => k = W2.heap.size ∨ k = nm) nm 128 1 [] []) := HR3.out.chg C5.out (fun k hk x => by have := Hb.out; have := HS2.out; have := HS3.out; have := Hnm.out; omega)
  have HF5 : Hid (∀ k, F5 k → k = b ∨ W3.heap.size < k) := fun k e => by
    rcases HG5.out.new k e with x | x
    · exact .inl x
    · exact .inr (by have := HV4.out.lt; omega)
  have LZ : Hid (W3.heap.size + 1 ≤ W5.heap.size) := by
    have h1 : W3.heap.size < W4.heap.size := HV4.out.lt
    have h2 := HG5.out.chg.size
    show _ ≤ _
    omega
  clear hS5 KV LX HN4 HB4 HV4 C4 HM3d k0 k1
  have b5 : Hid (W5.heap[bx]? = some (.cells #[.int .u64 (cell : Int), .int .u64 (first : Int), .slice pt nt ct, .slice pp np cp] 26 (0, 0))) := (HC5.out.block bx LB.out (fun x => x)).trans b1.out
  have k0 : W5.cell? ⟨bx, 0, none⟩ = some (.int .u64 (cell : Int)) := cell_of b5.out 0
  have k1 : W5.cell? ⟨bx, 1, none⟩ = some (.int .u64 (first : Int)) := cell_of b5.out 1
  go_wp2_with fail
  refine (r_store nm 128 1 cell first (-1) (fun k => k = W2.heap.size ∨ k = nm) [] [] _ HR5.out (by simp) hc hf).mono ?_
  rintro e W6 ⟨rfl, R6, M6, G6⟩
  have HR6 := keepH M6
  have HB6 : Hid (Bank W6 F5 b 128 1 (stN 128 [] cell first) ([] ++ [⟨-1, 2, cell, first, 0, vs5, [], 0, false⟩])) := HB5.out.chg G6.chg (fun k hk x => by have := HF5.out k hk; have := Hb.out; have := HS2.out; have := HS3.out; have := Hnm.out; omega)
  have HM6 : Hid (IsMem W6 m b) := HM5.out.chg G6.chg (fun x => by have := Hm.out; have := HS2.out; have := Hnm.out; omega)
  have HC6 : Hid (Chg (fun _ => False) W1 W6) := HC5.out.trans G6.chg (fun _ _ x => x) (fun i hi x => by have := HS2.out; have := Hnm.out; omega)
  have HR6n : Hid (∀ k, R6 k → (k = W2.heap.size ∨ k = nm) ∨ W5.heap.size ≤ k) := G6.new
  have LZ6 : Hid (W5.heap.size ≤ W6.heap.size) := G6.chg.size
  have HF6 : Hid (∀ k, F5 k → k < W5.heap.size) := fun k e => HB5.out.lt k e
  clear M6 G6 k0 k1 b5
  obtain ⟨W7, mk7, O7, C7, S7⟩ := make_row (z := .pointer none) rfl Try.underlying28 infoP nt hnt W6
  obtain ⟨W8, mk8, O8, C8, S8⟩ := make_row (z := .int .i64 0) rfl Try.underlying24 infoI nt hnt W7
  obtain ⟨W9, mk9, O9, C9, S9⟩ := make_row (z := .pointer none) rfl Try.underlying62 infoV nt hnt W8
  obtain ⟨nB, hnB⟩ : ∃ nB, nB = W6.heap.size := ⟨_, rfl⟩
  obtain ⟨aB, haB⟩ : ∃ aB, aB = W7.heap.size := ⟨_, rfl⟩
  obtain ⟨vB, hvB⟩ : ∃ vB, vB = W8.heap.size := ⟨_, rfl⟩
  rw [← hnB] at mk7 O7
  rw [← haB] at mk8 O8
  rw [← hvB] at mk9 O9
  have b6 : W6.heap[bx]? = some (.cells #[.int .u64 (cell : Int), .int .u64 (first : Int), .slice pt nt ct, .slice pp np cp] 26 (0, 0)) := (HC6.out.block bx LB.out (fun x => x)).trans b1.out
  have b7 := (C7.block bx (lt_of b6) (fun x => x)).trans b6
  have b8 := (C8.block bx (lt_of b7) (fun x => x)).trans b7
  have k2 : W6.cell? ⟨bx, 2, none⟩ = some (.slice pt nt ct) := cell_of b6 2
  have k3 : W7.cell? ⟨bx, 2, none⟩ = some (.slice pt nt ct) := cell_of b7 2
  have k4 : W8.cell? ⟨bx, 2, none⟩ = some (.slice pt nt ct) := cell_of b8 2
  have C79 : Chg (fun _ => False) W6 W9 := (C7.trans C8 (H := fun _ => False) (fun _ _ x => x) (fun _ _ x => x)).trans C9 (fun _ _ x => x) (fun _ _ x => x)
  have HRS : Hid (∃ tg, RS W1 W9 cell nt m b nm nB aB vB F5 R6 (stN 128 [] cell first) ([] ++ [⟨-1, 2, cell, first, 0, vs5, [], 0, false⟩]) (.slice none 0 0) [] (fun _ => 0) (fun _ => 0) (fun _ => 0) (fun _ => none) (fun _ => 0) (fun _ => none) tg) := by
    have q1 := Hb.out
    have q2 := Hm.out
    have q3 := HS2.out
    have q4 := HS3.out
    have q5 := LZ.out
    have q6 := LZ6.out
    have q7 := Hnm.out
    refine ran_start (HB6.out.chg C79 (fun _ _ x => x)) (HM6.out.chg C79 (fun x => x)) (HR6.out.chg C79 (fun _ _ x => x)) ((O7.chg C8 (fun x => x)).chg C9 (fun x => x)) (O8.chg C9 (fun x => x)) O9 (HC6.out.trans C79 (fun _ _ x => x) (fun _ _ x => x)) (fun k e => ?_) (fun k e => ?_) (by omega) (by omega) (by omega)
    · have a1 := HF5.out k e
      have a2 := HF6.out k e
      refine ⟨by omega, by omega, fun r => ?_, by omega⟩
      have a3 := HR6n.out k r
      omega
    · have a3 := HR6n.out k e
      have a4 := HR6.out.lt k e
      refine ⟨by omega, by omega, by omega⟩
  clear O7 O8 O9 C7 C8 C9 S7 S8 S9 b6 b7 b8 C79
  clear hnB haB hvB
  go_wp2_with fail
  clear mk7 mk8 mk9 k2 k3 k4
  go_loopw [12, 13] (fun al s wr => ∃ (i : Nat) (F R : Nat → Prop) (cs : List Nat) (l : List Acc) (pcs : List PC) (pb nb tb : Nat → Nat) (cur : Nat → Option Nat) (ats : Nat → Nat) (vw : Nat → Option Nat) (tg : Nat → Nat × Nat), i ≤ np ∧ s = .int .i64 (i : Int) ∧ Hid (RS W1 wr cell nt m b nm nB aB vB F R cs l al pcs pb nb tb cur ats vw tg ∧ CI (decide (cell < 128)) (firstOf cell first) (cellN cs cell) i pcs ∧ CO pcs cur vw ∧ l.length ≤ i + 1 ∧ pcs.length ≤ i ∧ ∀ t, ats t ≤ i)) (fun _ s _ => np - (intOf s).toNat)
  case atStart =>
    obtain ⟨tg, h⟩ := HRS.out
    refine ⟨0, _, _, _, _, _, _, _, _, _, _, _, _, by omega, rfl, keepH ⟨h, ?_, ⟨fun t j x e => by simp at e, fun t e => rfl, fun x hx => by simp at hx⟩, by simp, by simp, fun t => by omega⟩⟩
    rw [first_cell]
    exact CI.start _ _
  case round =>
    clear HRS
    obtain ⟨i, F, R, cs, l, pcs, pb, nb, tb, cur, ats, vw, tg, hi, rfl, HH⟩ := hrel
    have H : Hid (RS W1 wr cell nt m b nm nB aB vB F R cs l u12 pcs pb nb tb cur ats vw tg) := HH.out.1
    have HCI := keepH HH.out.2.1
    have HCO := keepH HH.out.2.2.1
    have HLL := keepH HH.out.2.2.2.1
    have HPL := keepH HH.out.2.2.2.2.1
    have HAT := keepH HH.out.2.2.2.2.2
    clear HH
    have bR : Hid (wr.heap[bx]? = some (.cells #[.int .u64 (cell : Int), .int .u64 (first : Int), .slice pt nt ct, .slice pp np cp] 26 (0, 0))) := (H.out.chg.block bx LB.out (fun x => x)).trans b1.out
    have q0 : wr.cell? ⟨bx, 0, none⟩ = some (.int .u64 (cell : Int)) := cell_of bR.out 0
    have q2 : wr.cell? ⟨bx, 2, none⟩ = some (.slice pt nt ct) := cell_of bR.out 2
    have q3 : wr.cell? ⟨bx, 3, none⟩ = some (.slice pp np cp) := cell_of bR.out 3
    have HWC : Hid (Chg (fun _ => False) w wr) := C1.out.trans H.out.chg (fun _ _ x => x) (fun _ _ x => x)
    by_cases hlt : i < np
    · have t1 : (i : Int) < (np : Int) := by omega
      obtain ⟨z, hz⟩ : ∃ z, picks[i]? = some z := ⟨picks[i]'(by have := HNP.out; omega), List.getElem?_eq_getElem _⟩
      obtain ⟨pbk, poff, rfl, hpb, hpc⟩ := HPK.out.resolve_left (fun e => by rw [e] at hz; simp at hz)
      obtain ⟨hpz, hzi⟩ := hpc i z hz
      have p0 : wr.cell? ⟨pbk, poff + i, none⟩ = some (.int .i64 z) := cell_chg HWC.out hpz (fun x => x)
      clear hpc hpz hz hpb
      by_cases hz0 : z < 0
      · have d1 : decide (z < 0) = true := decide_eq_true hz0
        clear q0
        go_wp2_with fail
        go_quiet (fail)
        go_wp2_with fail
        go_roundw
        case rel => exact ⟨i + 1, _, _, _, _, _, _, _, _, _, _, _, _, by omega, by first | rfl | go_num, keepH ⟨H.out.quiet (Goes.drewN wr (fun _ => False) _).chg, HCI.out.later, HCO.out, by have := HLL.out; omega, by have := HPL.out; omega, fun t => by have := HAT.out t; omega⟩⟩
        case measure => simp [intOf]; omega
      · have d1 : decide (z < 0) = false := decide_eq_false hz0
        by_cases hzn : (nt : Int) ≤ z
        · have d2 : decide ((nt : Int) ≤ z) = true := decide_eq_true hzn
          clear q0
          go_wp2_with fail
          go_quiet (fail)
          go_wp2_with fail
          go_roundw
          case rel => exact ⟨i + 1, _, _, _, _, _, _, _, _, _, _, _, _, by omega, by first | rfl | go_num, keepH ⟨H.out.quiet (Goes.drewN wr (fun _ => False) _).chg, HCI.out.later, HCO.out, by have := HLL.out; omega, by have := HPL.out; omega, fun t => by have := HAT.out t; omega⟩⟩
          case measure => simp [intOf]; omega
        · have d2 : decide ((nt : Int) ≤ z) = false := decide_eq_false hzn
          obtain ⟨t, rfl⟩ : ∃ t : Nat, z = (t : Int) := ⟨z.toNat, by omega⟩
          have t3 : (t : Int) < (nt : Int) := by omega
          have htn : t < nt := by omega
          have d2n : decide (nt ≤ t) = false := decide_eq_false (by omega)
          obtain ⟨th, hth⟩ : ∃ th, ths[t]? = some th := ⟨ths[t]'(by have := HNT.out; omega), List.getElem?_eq_getElem _⟩
          obtain ⟨tbk, toff, rfl, htb, htc⟩ := HT.out.resolve_left (fun e => by rw [e] at hth; simp at hth)
          obtain ⟨hts, hcl⟩ := htc t th hth
          obtain ⟨tp, tc, calls⟩ := th
          simp only at hts hcl
          have p1 : wr.cell? ⟨tbk, toff + t, none⟩ = some (.slice tp calls.length tc) := cell_chg HWC.out hts (fun x => x)
          obtain ⟨nc, hnc⟩ : ∃ nc, nc = calls.length := ⟨_, rfl⟩
          rw [← hnc] at p1
          rw [← hnc] at hts
          have HNC := keepH hnc
          have HCL := keepH hcl
          have HTS := keepH hts
          have HTB := keepH htb
          clear htc hts hth htb hcl hnc
          have n0 : wr.cell? ⟨nB, t, none⟩ = some (ptrO ((cur t).map pb)) := H.out.now.cell t htn
          have a0 : wr.cell? ⟨aB, t, none⟩ = some (.int .i64 (ats t : Int)) := H.out.at_.cell t htn
          have v0 : wr.cell? ⟨vB, t, none⟩ = some (ptrO (vw t)) := H.out.vws.cell t htn
          obtain ⟨at0, hat0⟩ : ∃ at0, at0 = ats t := ⟨_, rfl⟩
          rw [← hat0] at a0
          have HA0 := keepH hat0
          have hai : at0 ≤ i := by have := HAT.out t; omega
          clear hat0
          cases hcur : cur t with
          | none =>
            rw [hcur] at n0
            simp only [Option.map_none, ptrO] at n0
            have HCN : Hid (cur t = none) := hcur
            clear hcur
            by_cases hat : nc ≤ at0
            · have d3 : (nc : Int) ≤ (at0 : Int) := by omega
              have d4 : decide ((nc : Int) ≤ (at0 : Int)) = true := decide_eq_true d3
              have d4n : decide (nc ≤ at0) = true := decide_eq_true hat
              clear q0 v0
              go_wp2_with fail
              go_quiet (fail)
              go_wp2_with fail
              go_roundw
              case rel => exact ⟨i + 1, _, _, _, _, _, _, _, _, _, _, _, _, by omega, by first | rfl | go_num, keepH ⟨H.out.quiet (Goes.drewN wr (fun _ => False) _).chg, HCI.out.later, HCO.out, by have := HLL.out; omega, by have := HPL.out; omega, fun t => by have := HAT.out t; omega⟩⟩
              case measure => simp [intOf]; omega
            · have d3 : ¬ (nc : Int) ≤ (at0 : Int) := by omega
              have d4 : decide ((nc : Int) ≤ (at0 : Int)) = false := decide_eq_false d3
              have d4n : decide (nc ≤ at0) = false := decide_eq_false hat
              cases hvw : vw t with
              | none =>
                rw [hvw] at v0
                simp only [Option.map_none, ptrO] at v0
                have HVN : Hid (vw t = none) := hvw
                clear hvw
                go_wp2_with fail
                go_quiet (fail)
                obtain ⟨wq, hwq⟩ : ∃ wq, wq = wr.drewN nq := ⟨_, rfl⟩
                have CQ : Hid (Chg (fun _ => False) wr wq) := by rw [hwq]; exact (Goes.drewN wr (fun _ => False) nq).chg
                rw [← hwq]
                clear hwq
                have HQ := keepH (H.out.quiet CQ.out)
                have HWQ : Hid (Chg (fun _ => False) w wq) := HWC.out.trans CQ.out (fun _ _ x => x) (fun _ _ x => x)
                have v1 : wq.cell? ⟨vB, t, none⟩ = some (.pointer none) := cell_chg CQ.out v0 (fun x => x)
                clear v0 q0 q2 q3 p0 p1 n0 a0
                go_wp2_with fail
                refine (m_view m b (t : Int) _ HQ.out.mem).mono ?_
                rintro e w4 ⟨rfl, rfl⟩
                have x0 : (wq.alloc (.cells #[.iface 84 (.pointer (some ⟨b, 0, none⟩)), .int .i64 (t : Int), .int .i64 0] 87)).cell? ⟨vB, t, none⟩ = some (.pointer none) := cell_al v1 _
                have x1 : (wq.alloc (.cells #[.iface 84 (.pointer (some ⟨b, 0, none⟩)), .int .i64 (t : Int), .int .i64 0] 87)).frozen? ⟨vB, t, none⟩ = false := free_of (alloc_of HQ.out.vws _) t
                go_upto_region 18 with fail
                obtain ⟨wv, hwv⟩ : ∃ wv, wv = (wq.alloc (.cells #[.iface 84 (.pointer (some ⟨b, 0, none⟩)), .int .i64 (t : Int), .int .i64 0] 87)).setCell ⟨vB, t, none⟩ (.pointer (some ⟨wq.heap.size, 0, none⟩)) := ⟨_, rfl⟩
                have CV : Hid (Chg (fun k => k = vB) wq wv) := by rw [hwv]; exact Chg.setCell (F := fun k => k = vB) (p := ⟨vB, t, none⟩) ((Chg.refl _ _).alloc _) (fun _ => rfl) _
                have IV : Hid (IsView wv wq.heap.size b (t : Int) 0) := by
                  rw [hwv]
                  exact other_of (heap_alloc_new _ _) (by have := lt_of HQ.out.vws; omega) _
                have RV : Hid (IsRow wv vB nt (fun s => ptrO (if s = t then some wq.heap.size else vw s)) 50) := by
                  rw [hwv]
                  have r0 : IsRow (wq.alloc (.cells #[.iface 84 (.pointer (some ⟨b, 0, none⟩)), .int .i64 (t : Int), .int .i64 0] 87)) vB nt (fun s => ptrO (vw s)) 50 := HQ.out.vws.chg ((Chg.refl (fun _ => False) _).alloc _) (fun x => x)
                  refine (r0.set t (.pointer (some ⟨wq.heap.size, 0, none⟩))).congr (fun s hs => ?_)
                  by_cases e : s = t <;> simp [e, ptrO]
                rw [← hwv]
                clear hwv x0 x1 v1
                obtain ⟨v, hv⟩ : ∃ v, v = wq.heap.size := ⟨_, rfl⟩
                rw [← hv] at IV RV ⊢
                have HVX : Hid (wq.heap.size ≤ v) := by show _ ≤ _; omega
                clear hv
                obtain ⟨vw', hvw'⟩ : ∃ vw' : Nat → Option Nat, vw' = fun s => if s = t then some v else vw s := ⟨_, rfl⟩
                obtain ⟨tgv, htgv⟩ : ∃ tgv : Nat → Nat × Nat, tgv = fun k => if k = v then (8, t) else tg k := ⟨_, rfl⟩
                have HB0 : Hid (RS W1 wv cell nt m b nm nB aB vB F R cs l u12 pcs pb nb tb cur ats vw' tgv) := by
                  rw [hvw', htgv]
                  exact HQ.out.lookAt t v HVN.out HVX.out CV.out IV.out RV.out
                have HVT : Hid (vw' t = some v) := by rw [hvw']; show _ = _; simp
                have HCV : Hid (CO pcs cur vw') := HCO.out.mono (fun s e => by
                  rw [hvw'] at e
                  by_cases c : s = t
                  · subst c; exact HVN.out
                  · simpa [c] using e)
                have HWV : Hid (Chg (fun _ => False) w wv) := HWQ.out.trans CV.out (fun _ _ x => x) (fun k hk x => by have := (HQ.out.lt vB (by simp [HQ.out.gv])).1; have := C1.out.size; omega)
                have HCW : Hid (Chg (fun k => k = vB) wr wv) := CQ.out.trans CV.out (fun _ _ x => x.elim) (fun _ _ x => x)
                clear hvw' htgv CV IV RV HVX HQ CQ HWQ
                have bV : Hid (wv.heap[bx]? = some (.cells #[.int .u64 (cell : Int), .int .u64 (first : Int), .slice (some ⟨tbk, toff, none⟩) nt ct, .slice (some ⟨pbk, poff, none⟩) np cp] 26 (0, 0))) := (HB0.out.chg.block bx LB.out (fun x => x)).trans b1.out
                have n1 : wv.cell? ⟨nB, t, none⟩ = some (.pointer none) := by
                  have e := HB0.out.now.cell t htn
                  rw [HCN.out] at e
                  exact e
                have q0 : wv.cell? ⟨bx, 0, none⟩ = some (.int .u64 (cell : Int)) := cell_of bV.out 0
                have q2 : wv.cell? ⟨bx, 2, none⟩ = some (.slice (some ⟨tbk, toff, none⟩) nt ct) := cell_of bV.out 2
                have p1 : wv.cell? ⟨tbk, toff + t, none⟩ = some (.slice tp nc tc) := cell_chg HWV.out HTS.out (fun x => x)
                have a1 : wv.cell? ⟨aB, t, none⟩ = some (.int .i64 (at0 : Int)) := by
                  have e := HB0.out.at_.cell t htn
                  rw [← HA0.out] at e
                  exact e
                have hal : at0 < calls.length := by have := HNC.out; omega
                obtain ⟨⟨isNow, most⟩, hca⟩ : ∃ bm, calls[at0]? = some bm := ⟨calls[at0]'hal, List.getElem?_eq_getElem _⟩
                obtain ⟨cbk, coff, rfl, hcb, hcc⟩ := HCL.out.resolve_left (fun e => by rw [e] at hca; simp at hca)
                obtain ⟨hmo, hc0, hc1⟩ := hcc at0 isNow most hca
                have c0 : wv.cell? ⟨cbk, coff + at0 * 2, none⟩ = some (.bool isNow) := cell_chg HWV.out hc0 (fun x => x)
                have c1 : wv.cell? ⟨cbk, coff + at0 * 2 + 1, none⟩ = some (.int .u64 (most : Int)) := cell_chg HWV.out hc1 (fun x => x)
                have t4 : (at0 : Int) < (nc : Int) := by omega
                have BW : Hid (w.heap.size ≤ W1.heap.size) := C1.out.size
                have LN : Hid (W1.heap.size ≤ nB ∧ nB < wv.heap.size) := HB0.out.lt nB (by simp [HB0.out.gn])
                have LA : Hid (W1.heap.size ≤ aB ∧ aB < wv.heap.size) := HB0.out.lt aB (by simp [HB0.out.ga])
                have NA : Hid (nB ≠ aB) := tne HB0.out.gn HB0.out.ga (by simp)
                have hcbw : cbk < w.heap.size := hcb
                have htbw : tbk < w.heap.size := HTB.out
                have LCB : Hid (cbk ≠ nB ∧ tbk ≠ nB ∧ bx ≠ nB) := by have := LN.out; have := LB.out; have := BW.out; exact ⟨by omega, by omega, by omega⟩
                clear hcb hcc hc0 hc1 hca hcbw htbw
                go_upto_region 19 with fail
                have hS0 : wv.drew.cell? ⟨bx, 0, none⟩ = some (.int .u64 (cell : Int)) ∧ wv.drew.cell? ⟨bx, 2, none⟩ = some (.slice (some ⟨tbk, toff, none⟩) nt ct) ∧ wv.drew.cell? ⟨tbk, toff + t, none⟩ = some (.slice (some ⟨cbk, coff, none⟩) nc tc) ∧ wv.drew.cell? ⟨aB, t, none⟩ = some (.int .i64 (at0 : Int)) ∧ wv.drew.cell? ⟨cbk, coff + at0 * 2, none⟩ = some (.bool isNow) ∧ wv.drew.cell? ⟨cbk, coff + at0 * 2 + 1, none⟩ = some (.int .u64 (most : Int)) := ⟨q0, q2, p1, a1, c0, c1⟩
                have HS5 : Hid (∀ w5, Chg (fun _ => False) wv.drew w5 → (w5.cell? ⟨bx, 0, none⟩ = some (.int .u64 (cell : Int)) ∧ w5.cell? ⟨bx, 2, none⟩ = some (.slice (some ⟨tbk, toff, none⟩) nt ct) ∧ w5.cell? ⟨tbk, toff + t, none⟩ = some (.slice (some ⟨cbk, coff, none⟩) nc tc) ∧ w5.cell? ⟨aB, t, none⟩ = some (.int .i64 (at0 : Int)) ∧ w5.cell? ⟨cbk, coff + at0 * 2, none⟩ = some (.bool isNow) ∧ w5.cell? ⟨cbk, coff + at0 * 2 + 1, none⟩ = some (.int .u64 (most : Int)))) := fun w5 c => ⟨cell_chg c hS0.1 (fun x => x), cell_chg c hS0.2.1 (fun x => x), cell_chg c hS0.2.2.1 (fun x => x), cell_chg c hS0.2.2.2.1 (fun x => x), cell_chg c hS0.2.2.2.2.1 (fun x => x), cell_chg c hS0.2.2.2.2.2 (fun x => x)⟩
                have HS6 : Hid (∀ w5 u, Chg (fun _ => False) wv.drew w5 → ((w5.setCell ⟨nB, t, none⟩ u).cell? ⟨bx, 0, none⟩ = some (.int .u64 (cell : Int)) ∧ (w5.setCell ⟨nB, t, none⟩ u).cell? ⟨bx, 2, none⟩ = some (.slice (some ⟨tbk, toff, none⟩) nt ct) ∧ (w5.setCell ⟨nB, t, none⟩ u).cell? ⟨tbk, toff + t, none⟩ = some (.slice (some ⟨cbk, coff, none⟩) nc tc) ∧ (w5.setCell ⟨nB, t, none⟩ u).cell? ⟨aB, t, none⟩ = some (.int .i64 (at0 : Int)) ∧ (w5.setCell ⟨nB, t, none⟩ u).cell? ⟨cbk, coff + at0 * 2, none⟩ = some (.bool isNow) ∧ (w5.setCell ⟨nB, t, none⟩ u).cell? ⟨cbk, coff + at0 * 2 + 1, none⟩ = some (.int .u64 (most : Int)))) := fun w5 u c => by
                  obtain ⟨f1, f2, f3, f4, f5, f6⟩ := HS5.out w5 c
                  have l := LCB.out
                  exact ⟨cell_put f1 l.2.2 u, cell_put f2 l.2.2 u, cell_put f3 l.2.1 u, cell_put f4 (Ne.symm NA.out) u, cell_put f5 l.1 u, cell_put f6 l.1 u⟩
                have HN5 : Hid (∀ w5, Chg (fun _ => False) wv.drew w5 → IsRow w5 nB nt (fun s => ptrO ((cur s).map pb)) 44) := fun w5 c => (HB0.out.now.chg ((Chg.refl (fun _ => False) wv).drew) (fun x => x)).chg c (fun x => x)
                go_region_held3 (fun w' => w'.cell? ⟨bx, 0, none⟩ = some (.int .u64 (cell : Int)) ∧ w'.cell? ⟨bx, 2, none⟩ = some (.slice (some ⟨tbk, toff, none⟩) nt ct) ∧ w'.cell? ⟨tbk, toff + t, none⟩ = some (.slice (some ⟨cbk, coff, none⟩) nc tc) ∧ w'.cell? ⟨aB, t, none⟩ = some (.int .i64 (at0 : Int)) ∧ w'.cell? ⟨cbk, coff + at0 * 2, none⟩ = some (.bool isNow) ∧ w'.cell? ⟨cbk, coff + at0 * 2 + 1, none⟩ = some (.int .u64 (most : Int))) (first | exact hS5 | exact hS6 _ | exact hS0)
                  (first | (go_at_call 25; refine (c_begin cell most isNow _).mono ?_; rintro e w5 ⟨p, n, q, rfl, J5, hp5, hn5, hq5, hpn, hpq, hnq, C5⟩; have hS5 := HS5.out w5 C5; have hS6 := fun u => HS6.out w5 u C5; have HR5' := keepH (HN5.out w5 C5); have y0 : w5.cell? ⟨nB, t, none⟩ = some (.pointer none) := cell_chg C5 n1 (fun x => x); have y1 := rowI HR5'.out t; have HJ5 := keepH J5; have HC5' := keepH C5; clear J5 C5))
                obtain ⟨w6, hw6⟩ : ∃ w6, w6 = w5.setCell ⟨nB, t, none⟩ (.pointer (some ⟨p, 0, none⟩)) := ⟨_, rfl⟩
                have HN6 : Hid (IsRow w6 nB nt (fun s => ptrO (if s = t then some p else (cur s).map pb)) 44) := by
                  rw [hw6]
                  refine (HR5'.out.set t _).congr (fun s hs => ?_)
                  by_cases e : s = t <;> simp [e, ptrO]
                have C56 : Hid (Chg (fun k => k = nB) w5 w6) := by rw [hw6]; exact Chg.setCell (F := fun k => k = nB) (p := ⟨nB, t, none⟩) (Chg.refl _ _) (fun _ => rfl) _
                have C6 : Hid (Chg (fun k => k = nB) wv w6) := (chg_undrew HC5'.out).trans C56.out (fun _ _ x => x.elim) (fun _ _ x => x)
                rw [← hw6]
                clear hw6 hS5 hS6 y0 y1 hS0 q0 q2 p1 a1 c0 c1 n1 t4
                have LP : Hid (wv.heap.size ≤ p ∧ wv.heap.size ≤ n ∧ wv.heap.size ≤ q) := ⟨hp5, hn5, hq5⟩
                have NP : Hid (p ≠ nB ∧ n ≠ nB ∧ q ≠ nB ∧ p ≠ aB ∧ n ≠ aB ∧ q ≠ aB) := by have := LP.out; have := LN.out; have := LA.out; exact ⟨by omega, by omega, by omega, by omega, by omega, by omega⟩
                have HPN : Hid (p ≠ n ∧ p ≠ q ∧ n ≠ q) := ⟨hpn, hpq, hnq⟩
                clear hp5 hn5 hq5 hpn hpq hnq
                have HJ6 : Hid (PJ w6 cell p n q (PC.raw isNow most)) := HJ5.out.chg C56.out NP.out.1 NP.out.2.1 NP.out.2.2.1
                have g1 : w6.cell? ⟨nB, t, none⟩ = some (.pointer (some ⟨p, 0, none⟩)) := by
                  have e := HN6.out.cell t htn
                  simpa [ptrO] using e
                have g2 : w6.cell? ⟨p, 14, none⟩ = some (.int .i64 (-1)) := HJ6.out.at14
                have g3 : w6.frozen? ⟨p, 14, none⟩ = false := free_of HJ6.out.proc 14
                go_upto_region 21 with fail
                obtain ⟨w7, hw7⟩ : ∃ w7, w7 = w6.setCell ⟨p, 14, none⟩ (.int .i64 (i : Int)) := ⟨_, rfl⟩
                have C67 : Hid (Chg (fun k => k = p) w6 w7) := by rw [hw7]; exact Chg.setCell (F := fun k => k = p) (p := ⟨p, 14, none⟩) (Chg.refl _ _) (fun _ => rfl) _
                have HJ7 : Hid (PJ w7 cell p n q (PC.fresh isNow most i)) := by rw [hw7]; exact HJ6.out.put14 (Ne.symm HPN.out.1) (Ne.symm HPN.out.2.1) (i : Int)
                rw [← hw7]
                clear hw7 g1 g2 g3
                have HN7 := keepH (HN6.out.chg C67.out (fun e => NP.out.1 e.symm))
                have g4 : w7.cell? ⟨nB, t, none⟩ = some (.pointer (some ⟨p, 0, none⟩)) := by
                  have e := HN7.out.cell t htn
                  simpa [ptrO] using e
                go_wp2_with fail
                refine (c_same cell p n q (PC.fresh isNow most i) _ HJ7.out).mono ?_
                rintro e w8' ⟨rfl, qq, hq8⟩
                obtain ⟨w8, hw8⟩ : ∃ w8, w8 = w8' := ⟨_, rfl⟩
                have C78 : Hid (Chg (fun _ => False) w7 w8) := by rw [hw8, hq8]; exact (Goes.drewN w7 (fun _ => False) qq).chg
                rw [← hw8]
                clear hw8 hq8 g4
                have C8 : Hid (Chg (fun k => k = nB ∨ k = p) wv w8) := (C6.out.trans C67.out (H := fun k => k = nB ∨ k = p) (fun _ _ x => .inl x) (fun _ _ x => .inr x)).trans C78.out (fun _ _ x => x) (fun _ _ x => x.elim)
                have HA8 : Hid (IsRow w8 aB nt (fun s => .int .i64 (ats s : Int)) 3) := HB0.out.at_.chg C8.out (fun e => e.elim (fun e => NA.out e.symm) (fun e => NP.out.2.2.2.1 e.symm))
                have a8 : w8.cell? ⟨aB, t, none⟩ = some (.int .i64 (at0 : Int)) := by
                  have e := HA8.out.cell t htn
                  rw [← HA0.out] at e
                  exact e
                have f8 : w8.frozen? ⟨aB, t, none⟩ = false := rowI HA8.out t
                have wk : IntKind.i64.wrap ((at0 : Int) + 1) = (at0 : Int) + 1 := by rw [IntKind.wrap_i64]; omega
                go_upto_region 24 with fail
                obtain ⟨w9, hw9⟩ : ∃ w9, w9 = w8.setCell ⟨aB, t, none⟩ (.int .i64 ((at0 : Int) + 1)) := ⟨_, rfl⟩
                have C89 : Hid (Chg (fun k => k = aB) w8 w9) := by rw [hw9]; exact Chg.setCell (F := fun k => k = aB) (p := ⟨aB, t, none⟩) (Chg.refl _ _) (fun _ => rfl) _
                obtain ⟨ats2, hats2⟩ : ∃ ats2 : Nat → Nat, ats2 = fun s => if s = t then at0 + 1 else ats s := ⟨_, rfl⟩
                have HA9 : Hid (IsRow w9 aB nt (fun s => .int .i64 (ats2 s : Int)) 3) := by
                  rw [hw9]
                  refine (HA8.out.set t _).congr (fun s hs => ?_)
                  rw [hats2]
                  by_cases e : s = t <;> simp [e]
                rw [← hw9]
                clear hw9 a8 f8 wk
                have C79 : Hid (Chg (fun k => k = aB) w7 w9) := C78.out.trans C89.out (fun _ _ x => x.elim) (fun _ _ x => x)
                have C9 : Hid (Chg (fun k => k = nB ∨ k = aB ∨ k = p) wv w9) := C8.out.trans C89.out (fun _ _ x => x.elim .inl (fun e => .inr (.inr e))) (fun _ _ x => .inr (.inl x))
                have ALK : Hid (∀ k, u12.ownBlock = some k → k ≠ nB ∧ k ≠ aB ∧ k ≠ p ∧ k ≠ n ∧ k ≠ q) := fun k e => by
                  have g := HB0.out.gl k e
                  have l := (HB0.out.lt k (by simp [g])).2
                  have lp := LP.out
                  exact ⟨tne g HB0.out.gn (by simp), tne g HB0.out.ga (by simp), by omega, by omega, by omega⟩
                have HAL9 : Hid (w9.ownsRow 0 44 1 u12 pcs.length (rowF pcs.length fun j => ptrO (some (pb j)))) := row_kept HB0.out.all fun k e => C9.out.block k (row_lt HB0.out.all k e) (fun x => by have := ALK.out k e; omega)
                have g9 : w9.cell? ⟨nB, t, none⟩ = some (.pointer (some ⟨p, 0, none⟩)) := by
                  have e := (HN7.out.chg C79.out NA.out).cell t htn
                  simpa [ptrO] using e
                have pcb : pcs.length ≤ 1048576 := by have := HPL.out; omega
                obtain ⟨i0, hi0, hz0', hz1, hz2⟩ := info_parts infoP
                go_wp2_with (first | (at_builtin; refine wpList_append_own_at _ rfl (.tmp 153) (.tmp 158) 28 rfl 0 44 i0 (.pointer none) 1 8 Try.underlying28 hi0 hz0' hz1 hz2 rfl (by decide) u12 pcs.length (rowF pcs.length fun j => ptrO (some (pb j))) rfl (HAL9.out.alloc _) ⟨w9.heap.size, 0, none⟩ 1 1 [.pointer (some ⟨p, 0, none⟩)] rfl rfl (cells_new _ _ rfl _ _) (by intro u hu; simp at hu; subst hu; rfl) (by unfold maxLen; omega) (by omega) (Nat.zero_le _) ?_; intro al2 ww ho11 hg11 _ hw11; have HO11 := keepH ho11; have HG11 := keepH hg11; have HW11 := keepH hw11; clear ho11 hg11 hw11))
                have CX : Hid (Chg (fun k => u12.ownBlock = some k) w9 ww) := ((Chg.refl _ w9).alloc _).grown HG11.out (fun k e _ => e)
                have LW9 : Hid (wv.heap.size ≤ w9.heap.size ∧ p < w9.heap.size ∧ n < w9.heap.size ∧ q < w9.heap.size) := by
                  have s := C79.out.size
                  exact ⟨C9.out.size, Nat.lt_of_lt_of_le (lt_of HJ7.out.proc) s, Nat.lt_of_lt_of_le (lt_of HJ7.out.now) s, Nat.lt_of_lt_of_le (lt_of HJ7.out.take) s⟩
                obtain ⟨tg2, h2⟩ := HB0.out.begins (t := t) (p := p) (n := n) (q := q) (al' := al2) (x := PC.fresh isNow most i) (at' := ats2) (Y := ww) (HB0.out.free p LP.out.1) (HB0.out.free n LP.out.2.1) (HB0.out.free q LP.out.2.2) HPN.out.1 HPN.out.2.1 HPN.out.2.2 (Nat.le_trans HB0.out.chg.size LP.out.1) (Nat.le_trans HB0.out.chg.size LP.out.2.1) (Nat.le_trans HB0.out.chg.size LP.out.2.2)
                  (C9.out.trans CX.out (fun _ _ x => x.elim .inl (fun x => x.elim (fun e => .inr (.inl e)) (fun e => .inr (.inr (.inr e))))) (fun _ _ x => .inr (.inr (.inl x))))
                  ((HJ7.out.chg C79.out NP.out.2.2.2.1 NP.out.2.2.2.2.1 NP.out.2.2.2.2.2).chg CX.out (fun e => (ALK.out _ e).2.2.1 rfl) (fun e => (ALK.out _ e).2.2.2.1 rfl) (fun e => (ALK.out _ e).2.2.2.2 rfl))
                  ((HN7.out.chg C79.out NA.out).chg CX.out (fun e => (ALK.out _ e).1 rfl)) (HA9.out.chg CX.out (fun e => (ALK.out _ e).2.1 rfl)) HO11.out
                  (HW11.out.imp id (fun e => ⟨_, e, HB0.out.free _ (by have := LW9.out; simp; omega), by have := LW9.out; have := HB0.out.chg.size; simp; omega, by have := LW9.out; simp; omega, by have := LW9.out; simp; omega, by have := LW9.out; simp; omega⟩)) HCN.out
                obtain ⟨pb2, hpb2⟩ : ∃ f : Nat → Nat, f = fun j => if j = pcs.length then p else pb j := ⟨_, rfl⟩
                obtain ⟨nb2, hnb2⟩ : ∃ f : Nat → Nat, f = fun j => if j = pcs.length then n else nb j := ⟨_, rfl⟩
                obtain ⟨tb2, htb2⟩ : ∃ f : Nat → Nat, f = fun j => if j = pcs.length then q else tb j := ⟨_, rfl⟩
                obtain ⟨cur2, hcur2⟩ : ∃ f : Nat → Option Nat, f = fun s => if s = t then some pcs.length else cur s := ⟨_, rfl⟩
                obtain ⟨pcs2, hpcs2⟩ : ∃ f, f = pcs ++ [PC.fresh isNow most i] := ⟨_, rfl⟩
                obtain ⟨j, hj⟩ : ∃ j, j = pcs.length := ⟨_, rfl⟩
                obtain ⟨x, hx⟩ : ∃ x, x = PC.fresh isNow most i := ⟨_, rfl⟩
                rw [← hpb2, ← hnb2, ← htb2, ← hcur2, ← hpcs2] at h2
                have HS := keepH h2
                have HJC : Hid (cur2 t = some j) := by rw [hcur2, hj]; show _ = _; simp
                have HJX : Hid (pcs2[j]? = some x) := by rw [hpcs2, hj, hx]; show _ = _; simp
                have HCI2 : Hid (CI (decide (cell < 128)) (firstOf cell first) (cellN cs cell) (i + 1) pcs2) := by rw [hpcs2]; exact HCI.out.new isNow most
                have HCO2 : Hid (CO pcs2 cur2 vw') := by
                  rw [hpcs2, hcur2]
                  exact HCV.out.new t (by rw [HVT.out]; simp) (fun s j' e => HB0.out.cok s j' e) isNow most i hmo
                have HPL2 : Hid (pcs2.length ≤ i + 1) := by rw [hpcs2]; have := HPL.out; show _ ≤ _; simp; omega
                have HAT2 : Hid (∀ s, ats2 s ≤ i + 1) := fun s => by
                  rw [hats2]
                  by_cases e : s = t
                  · simp [e]; omega
                  · have := HAT.out s; simp [e]; omega
                clear h2 hpb2 hnb2 htb2 hcur2 hpcs2 hj hx hats2 g9 hi0 hz0' hz1 hz2 HB0 HJ5 HJ6 HJ7 HN6 HN7 HA8 HA9 HAL9 C6 C56 C67 C78 C8 C89 C79 C9 CX LW9 LP NP HPN ALK HO11 HG11 HW11 HR5' HC5' HS5 HS6 HN5 LCB LN LA NA bV BW
                have n2 := HS.out.nowAt htn HJC.out
                have v2 := HS.out.vwAt htn HVT.out
                obtain ⟨md, hmd, hIV⟩ := HS.out.view t v HVT.out
                have HIV := keepH hIV
                have hll : l.length < 1099511627776 := by have := HLL.out; omega
                have hmdb : md < 1099511627776 := by omega
                have HMD := keepH hmd
                have HSD := keepH (HS.out.quiet ((Chg.refl (fun _ => False) ww).drew))
                have hjl2 : j < pcs2.length := HS.out.cok t j HJC.out
                have hxm : x ∈ pcs2 := List.mem_of_getElem? HJX.out
                have hxp : x.pos < 2 := HCO2.out.1 t j x HJC.out HJX.out
                have HX0 := keepH (HCI2.out.zero x hxm hxp)
                have HX1 : Hid (x.pos = 0 ∨ x.pos = 1 ∧ x.isNow = false ∧ x.stamp + 1 < 18446744073709551616) := by
                  by_cases e : x.pos = 0
                  · exact .inl e
                  · refine .inr ⟨by omega, ?_, ?_⟩
                    · cases hn : x.isNow
                      · rfl
                      · have := (HCI2.out.now x hxm hn).2.2; omega
                    · have hn : x.isNow = false := by
                        cases hn : x.isNow
                        · rfl
                        · have := (HCI2.out.now x hxm hn).2.2; omega
                      have h1 := HCI2.out.one x hxm hn e HX0.out.1
                      have h2 := HCO2.out.2.2 x hxm
                      omega
                obtain ⟨y, hy⟩ : ∃ y, y = x.step (decide (cell < 128)) (cellN cs cell) := ⟨_, rfl⟩
                obtain ⟨dn, hdn⟩ : ∃ dn, dn = decide (y.pos = 2) := ⟨_, rfl⟩
                have K := c_step cell (pb2 j) (nb2 j) (tb2 j) v b nm md (t : Int) x F R cs l (l.map Acc.bare) ww.drew (HSD.out.pj j x HJX.out) HX1.out HX0.out (HIV.out.chg ((Chg.refl (fun _ => False) ww).drew) (fun x => x)) HSD.out.bank HSD.out.rm (HSD.out.apt HVT.out hjl2) hmdb hll (by simpa using hll) hc
                rw [← hy, ← hdn] at K
                have HK := keepH K
                have HXP := keepH hxp
                have HYS := keepH hy
                have HYM : Hid (y.most = x.most) := by rw [hy]; exact step_most _ _ x
                have HYP : Hid (y.pos ≠ 2 → y.pos < 2) := fun e => by rw [hy] at e ⊢; exact step_pos _ _ x HXP.out e
                have HDN := keepH hdn
                clear K hy hdn hIV hmd hxm hxp hjl2
                go_region_held3 (fun w' => w'.cell? ⟨nB, t, none⟩ = some (.pointer (some ⟨pb2 j, 0, none⟩)) ∧ w'.cell? ⟨vB, t, none⟩ = some (.pointer (some ⟨v, 0, none⟩))) (first | exact hS12 | exact ⟨n2, v2⟩)
                  (first | (go_at_call 27; refine HK.out.mono ?_; rintro e w12 ⟨rfl, J12, V12, F12, R12, cs12, a12, ha12, B12, M12, E12, G12⟩; obtain ⟨tg12, h12⟩ := HSD.out.step HVT.out HJX.out G12 B12 M12 ha12 HMD.out V12 J12; have hS12 := And.intro (h12.nowAt htn HJC.out) (h12.vwAt htn HVT.out); have HR12 := keepH h12; have HJ12 := keepH J12; have HE12 := keepH E12; clear h12 J12 V12 B12 M12 G12 ha12 E12))
                have n3 := hS12.1
                clear hS12 n2 v2 HK HSD HIV HMD
                by_cases hd : y.pos = 2
                · obtain rfl : dn = true := by rw [HDN.out]; exact decide_eq_true hd
                  have g15 : w12.cell? ⟨pb2 j, 15, none⟩ = some (.int .i64 y.tz) := HJ12.out.at15
                  have f15 : w12.frozen? ⟨pb2 j, 15, none⟩ = false := free_of HJ12.out.proc 15
                  have HYD := keepH hd
                  clear hd
                  go_upto_region 30 with fail
                  obtain ⟨w13, hw13⟩ : ∃ w13, w13 = w12.setCell ⟨pb2 j, 15, none⟩ (.int .i64 (i : Int)) := ⟨_, rfl⟩
                  have hjs : (pcs2.set j y)[j]? = some y := List.getElem?_set_self (List.getElem?_eq_some_iff.1 HJX.out).1
                  have HR13 : Hid (RS W1 w13 cell nt m b nm nB aB vB F12 R12 cs12 (l ++ [a12]) al2 (pcs2.set j (y.mark i)) pb2 nb2 tb2 cur2 ats2 vw' tg12) := by
                    rw [hw13, mark_done HYD.out]
                    have e := HR12.out.ends hjs (i : Int)
                    rw [List.set_set] at e
                    exact e
                  rw [← hw13]
                  clear hw13 g15 f15 n3 hjs
                  have hjm : (pcs2.set j (y.mark i))[j]? = some (y.mark i) := List.getElem?_set_self (List.getElem?_eq_some_iff.1 HJX.out).1
                  have HJ13 := keepH (HR13.out.pj j (y.mark i) hjm)
                  have HPM : Hid ((y.mark i).pos = 2) := by rw [mark_done HYD.out]; exact HYD.out
                  have n4 := HR13.out.nowAt htn HJC.out
                  have v4 := HR13.out.vwAt htn HVT.out
                  clear hjm
                  go_region_held3 (fun w' => w'.cell? ⟨nB, t, none⟩ = some (.pointer (some ⟨pb2 j, 0, none⟩)) ∧ w'.cell? ⟨vB, t, none⟩ = some (.pointer (some ⟨v, 0, none⟩))) (first | exact hS14 | exact ⟨n4, v4⟩)
                    (first | (go_at_call 27; refine (c_again cell (pb2 j) (nb2 j) (tb2 j) _ _ _ (y.mark i) w13.drew (HJ13.out.chg ((Chg.refl (fun _ => False) w13).drew) (fun x => x) (fun x => x) (fun x => x)) HPM.out).mono ?_; rintro e w14 ⟨rfl, qq, hq14⟩; have hS14 : w14.cell? ⟨nB, t, none⟩ = some (.pointer (some ⟨pb2 j, 0, none⟩)) ∧ w14.cell? ⟨vB, t, none⟩ = some (.pointer (some ⟨v, 0, none⟩)) := (by rw [hq14]; exact ⟨n4, v4⟩); have HQ14 := keepH hq14; clear hq14))
                  have C14 : Hid (Chg (fun _ => False) w13 w14) := by rw [HQ14.out]; exact ((Chg.refl (fun _ => False) w13).drew).trans (Goes.drewN w13.drew (fun _ => False) qq).chg (fun _ _ x => x) (fun _ _ x => x)
                  have HR14 := keepH (HR13.out.quiet C14.out)
                  have n5 := HR14.out.nowAt htn HJC.out
                  have f5 := rowI HR14.out.now t
                  clear n4 v4 HQ14 hS14
                  go_wp2_with fail
                  go_roundw
                  case rel =>
                    refine ⟨i + 1, F12, R12, cs12, l ++ [a12], pcs2.set j (y.mark i), pb2, nb2, tb2, (fun s => if s = t then none else cur2 s), ats2, vw', tg12, by omega, by first | rfl | go_num, keepH ⟨HR14.out.rests t, ?_, ?_, by have := HLL.out; simp; omega, by have := HPL2.out; simp; omega, HAT2.out⟩⟩
                    · rw [HE12.out, HYS.out]
                      exact HCI2.out.step HJX.out HXP.out
                    · exact HCO2.out.rest HJX.out HJC.out (fun s s' j' => HS.out.cone s s' j') (by rw [mark_done HYD.out]; exact HYM.out)
                  case measure => simp [intOf]; omega
                · obtain rfl : dn = false := by rw [HDN.out]; exact decide_eq_false hd
                  have HYD := keepH hd
                  clear hd
                  go_wp2_with fail
                  go_roundw
                  case rel =>
                    refine ⟨i + 1, F12, R12, cs12, l ++ [a12], pcs2.set j y, pb2, nb2, tb2, cur2, ats2, vw', tg12, by omega, by first | rfl | go_num, keepH ⟨HR12.out, ?_, ?_, by have := HLL.out; simp; omega, by have := HPL2.out; simp; omega, HAT2.out⟩⟩
                    · have e := HCI2.out.step HJX.out HXP.out
                      rw [← HYS.out, mark_not HYD.out] at e
                      rw [HE12.out]
                      exact e
                    · exact HCO2.out.step HJX.out (HYP.out HYD.out) HYM.out
                  case measure => simp [intOf]; omega
              | some v =>
                rw [hvw] at v0
                simp only [Option.map_some, ptrO] at v0
                have HVT : Hid (vw t = some v) := hvw
                clear hvw
                go_wp2_with fail
                go_quiet (fail)
                obtain ⟨wv, hwv⟩ : ∃ wv, wv = wr.drewN nq := ⟨_, rfl⟩
                have CQ : Hid (Chg (fun _ => False) wr wv) := by rw [hwv]; exact (Goes.drewN wr (fun _ => False) nq).chg
                rw [← hwv]
                clear hwv
                have HB0 := keepH (H.out.quiet CQ.out)
                have HWV : Hid (Chg (fun _ => False) w wv) := HWC.out.trans CQ.out (fun _ _ x => x) (fun _ _ x => x)
                have HCV : Hid (CO pcs cur vw) := HCO.out
                obtain ⟨vw', hvw'⟩ : ∃ vw', vw' = vw := ⟨_, rfl⟩
                rw [← hvw'] at HB0 HVT HCV
                clear hvw'
                have v1 : wv.cell? ⟨vB, t, none⟩ = some (.pointer (some ⟨v, 0, none⟩)) := cell_chg CQ.out v0 (fun x => x)
                clear v0 q0 q2 q3 p0 p1 n0 a0 CQ
                go_upto_region 18 with fail
                clear v1
                have bV : Hid (wv.heap[bx]? = some (.cells #[.int .u64 (cell : Int), .int .u64 (first : Int), .slice (some ⟨tbk, toff, none⟩) nt ct, .slice (some ⟨pbk, poff, none⟩) np cp] 26 (0, 0))) := (HB0.out.chg.block bx LB.out (fun x => x)).trans b1.out
                have n1 : wv.cell? ⟨nB, t, none⟩ = some (.pointer none) := by
                  have e := HB0.out.now.cell t htn
                  rw [HCN.out] at e
                  exact e
                have q0 : wv.cell? ⟨bx, 0, none⟩ = some (.int .u64 (cell : Int)) := cell_of bV.out 0
                have q2 : wv.cell? ⟨bx, 2, none⟩ = some (.slice (some ⟨tbk, toff, none⟩) nt ct) := cell_of bV.out 2
                have p1 : wv.cell? ⟨tbk, toff + t, none⟩ = some (.slice tp nc tc) := cell_chg HWV.out HTS.out (fun x => x)
                have a1 : wv.cell? ⟨aB, t, none⟩ = some (.int .i64 (at0 : Int)) := by
                  have e := HB0.out.at_.cell t htn
                  rw [← HA0.out] at e
                  exact e
                have hal : at0 < calls.length := by have := HNC.out; omega
                obtain ⟨⟨isNow, most⟩, hca⟩ : ∃ bm, calls[at0]? = some bm := ⟨calls[at0]'hal, List.getElem?_eq_getElem _⟩
                obtain ⟨cbk, coff, rfl, hcb, hcc⟩ := HCL.out.resolve_left (fun e => by rw [e] at hca; simp at hca)
                obtain ⟨hmo, hc0, hc1⟩ := hcc at0 isNow most hca
                have c0 : wv.cell? ⟨cbk, coff + at0 * 2, none⟩ = some (.bool isNow) := cell_chg HWV.out hc0 (fun x => x)
                have c1 : wv.cell? ⟨cbk, coff + at0 * 2 + 1, none⟩ = some (.int .u64 (most : Int)) := cell_chg HWV.out hc1 (fun x => x)
                have t4 : (at0 : Int) < (nc : Int) := by omega
                have BW : Hid (w.heap.size ≤ W1.heap.size) := C1.out.size
                have LN : Hid (W1.heap.size ≤ nB ∧ nB < wv.heap.size) := HB0.out.lt nB (by simp [HB0.out.gn])
                have LA : Hid (W1.heap.size ≤ aB ∧ aB < wv.heap.size) := HB0.out.lt aB (by simp [HB0.out.ga])
                have NA : Hid (nB ≠ aB) := tne HB0.out.gn HB0.out.ga (by simp)
                have hcbw : cbk < w.heap.size := hcb
                have htbw : tbk < w.heap.size := HTB.out
                have LCB : Hid (cbk ≠ nB ∧ tbk ≠ nB ∧ bx ≠ nB) := by have := LN.out; have := LB.out; have := BW.out; exact ⟨by omega, by omega, by omega⟩
                clear hcb hcc hc0 hc1 hca hcbw htbw
                go_upto_region 19 with fail
                have hS0 : wv.drew.cell? ⟨bx, 0, none⟩ = some (.int .u64 (cell : Int)) ∧ wv.drew.cell? ⟨bx, 2, none⟩ = some (.slice (some ⟨tbk, toff, none⟩) nt ct) ∧ wv.drew.cell? ⟨tbk, toff + t, none⟩ = some (.slice (some ⟨cbk, coff, none⟩) nc tc) ∧ wv.drew.cell? ⟨aB, t, none⟩ = some (.int .i64 (at0 : Int)) ∧ wv.drew.cell? ⟨cbk, coff + at0 * 2, none⟩ = some (.bool isNow) ∧ wv.drew.cell? ⟨cbk, coff + at0 * 2 + 1, none⟩ = some (.int .u64 (most : Int)) := ⟨q0, q2, p1, a1, c0, c1⟩
                have HS5 : Hid (∀ w5, Chg (fun _ => False) wv.drew w5 → (w5.cell? ⟨bx, 0, none⟩ = some (.int .u64 (cell : Int)) ∧ w5.cell? ⟨bx, 2, none⟩ = some (.slice (some ⟨tbk, toff, none⟩) nt ct) ∧ w5.cell? ⟨tbk, toff + t, none⟩ = some (.slice (some ⟨cbk, coff, none⟩) nc tc) ∧ w5.cell? ⟨aB, t, none⟩ = some (.int .i64 (at0 : Int)) ∧ w5.cell? ⟨cbk, coff + at0 * 2, none⟩ = some (.bool isNow) ∧ w5.cell? ⟨cbk, coff + at0 * 2 + 1, none⟩ = some (.int .u64 (most : Int)))) := fun w5 c => ⟨cell_chg c hS0.1 (fun x => x), cell_chg c hS0.2.1 (fun x => x), cell_chg c hS0.2.2.1 (fun x => x), cell_chg c hS0.2.2.2.1 (fun x => x), cell_chg c hS0.2.2.2.2.1 (fun x => x), cell_chg c hS0.2.2.2.2.2 (fun x => x)⟩
                have HS6 : Hid (∀ w5 u, Chg (fun _ => False) wv.drew w5 → ((w5.setCell ⟨nB, t, none⟩ u).cell? ⟨bx, 0, none⟩ = some (.int .u64 (cell : Int)) ∧ (w5.setCell ⟨nB, t, none⟩ u).cell? ⟨bx, 2, none⟩ = some (.slice (some ⟨tbk, toff, none⟩) nt ct) ∧ (w5.setCell ⟨nB, t, none⟩ u).cell? ⟨tbk, toff + t, none⟩ = some (.slice (some ⟨cbk, coff, none⟩) nc tc) ∧ (w5.setCell ⟨nB, t, none⟩ u).cell? ⟨aB, t, none⟩ = some (.int .i64 (at0 : Int)) ∧ (w5.setCell ⟨nB, t, none⟩ u).cell? ⟨cbk, coff + at0 * 2, none⟩ = some (.bool isNow) ∧ (w5.setCell ⟨nB, t, none⟩ u).cell? ⟨cbk, coff + at0 * 2 + 1, none⟩ = some (.int .u64 (most : Int)))) := fun w5 u c => by
                  obtain ⟨f1, f2, f3, f4, f5, f6⟩ := HS5.out w5 c
                  have l := LCB.out
                  exact ⟨cell_put f1 l.2.2 u, cell_put f2 l.2.2 u, cell_put f3 l.2.1 u, cell_put f4 (Ne.symm NA.out) u, cell_put f5 l.1 u, cell_put f6 l.1 u⟩
                have HN5 : Hid (∀ w5, Chg (fun _ => False) wv.drew w5 → IsRow w5 nB nt (fun s => ptrO ((cur s).map pb)) 44) := fun w5 c => (HB0.out.now.chg ((Chg.refl (fun _ => False) wv).drew) (fun x => x)).chg c (fun x => x)
                go_region_held3 (fun w' => w'.cell? ⟨bx, 0, none⟩ = some (.int .u64 (cell : Int)) ∧ w'.cell? ⟨bx, 2, none⟩ = some (.slice (some ⟨tbk, toff, none⟩) nt ct) ∧ w'.cell? ⟨tbk, toff + t, none⟩ = some (.slice (some ⟨cbk, coff, none⟩) nc tc) ∧ w'.cell? ⟨aB, t, none⟩ = some (.int .i64 (at0 : Int)) ∧ w'.cell? ⟨cbk, coff + at0 * 2, none⟩ = some (.bool isNow) ∧ w'.cell? ⟨cbk, coff + at0 * 2 + 1, none⟩ = some (.int .u64 (most : Int))) (first | exact hS5 | exact hS6 _ | exact hS0)
                  (first | (go_at_call 25; refine (c_begin cell most isNow _).mono ?_; rintro e w5 ⟨p, n, q, rfl, J5, hp5, hn5, hq5, hpn, hpq, hnq, C5⟩; have hS5 := HS5.out w5 C5; have hS6 := fun u => HS6.out w5 u C5; have HR5' := keepH (HN5.out w5 C5); have y0 : w5.cell? ⟨nB, t, none⟩ = some (.pointer none) := cell_chg C5 n1 (fun x => x); have y1 := rowI HR5'.out t; have HJ5 := keepH J5; have HC5' := keepH C5; clear J5 C5))
                obtain ⟨w6, hw6⟩ : ∃ w6, w6 = w5.setCell ⟨nB, t, none⟩ (.pointer (some ⟨p, 0, none⟩)) := ⟨_, rfl⟩
                have HN6 : Hid (IsRow w6 nB nt (fun s => ptrO (if s = t then some p else (cur s).map pb)) 44) := by
                  rw [hw6]
                  refine (HR5'.out.set t _).congr (fun s hs => ?_)
                  by_cases e : s = t <;> simp [e, ptrO]
                have C56 : Hid (Chg (fun k => k = nB) w5 w6) := by rw [hw6]; exact Chg.setCell (F := fun k => k = nB) (p := ⟨nB, t, none⟩) (Chg.refl _ _) (fun _ => rfl) _
                have C6 : Hid (Chg (fun k => k = nB) wv w6) := (chg_undrew HC5'.out).trans C56.out (fun _ _ x => x.elim) (fun _ _ x => x)
                rw [← hw6]
                clear hw6 hS5 hS6 y0 y1 hS0 q0 q2 p1 a1 c0 c1 n1 t4
                have LP : Hid (wv.heap.size ≤ p ∧ wv.heap.size ≤ n ∧ wv.heap.size ≤ q) := ⟨hp5, hn5, hq5⟩
                have NP : Hid (p ≠ nB ∧ n ≠ nB ∧ q ≠ nB ∧ p ≠ aB ∧ n ≠ aB ∧ q ≠ aB) := by have := LP.out; have := LN.out; have := LA.out; exact ⟨by omega, by omega, by omega, by omega, by omega, by omega⟩
                have HPN : Hid (p ≠ n ∧ p ≠ q ∧ n ≠ q) := ⟨hpn, hpq, hnq⟩
                clear hp5 hn5 hq5 hpn hpq hnq
                have HJ6 : Hid (PJ w6 cell p n q (PC.raw isNow most)) := HJ5.out.chg C56.out NP.out.1 NP.out.2.1 NP.out.2.2.1
                have g1 : w6.cell? ⟨nB, t, none⟩ = some (.pointer (some ⟨p, 0, none⟩)) := by
                  have e := HN6.out.cell t htn
                  simpa [ptrO] using e
                have g2 : w6.cell? ⟨p, 14, none⟩ = some (.int .i64 (-1)) := HJ6.out.at14
                have g3 : w6.frozen? ⟨p, 14, none⟩ = false := free_of HJ6.out.proc 14
                go_upto_region 21 with fail
                obtain ⟨w7, hw7⟩ : ∃ w7, w7 = w6.setCell ⟨p, 14, none⟩ (.int .i64 (i : Int)) := ⟨_, rfl⟩
                have C67 : Hid (Chg (fun k => k = p) w6 w7) := by rw [hw7]; exact Chg.setCell (F := fun k => k = p) (p := ⟨p, 14, none⟩) (Chg.refl _ _) (fun _ => rfl) _
                have HJ7 : Hid (PJ w7 cell p n q (PC.fresh isNow most i)) := by rw [hw7]; exact HJ6.out.put14 (Ne.symm HPN.out.1) (Ne.symm HPN.out.2.1) (i : Int)
                rw [← hw7]
                clear hw7 g1 g2 g3
                have HN7 := keepH (HN6.out.chg C67.out (fun e => NP.out.1 e.symm))
                have g4 : w7.cell? ⟨nB, t, none⟩ = some (.pointer (some ⟨p, 0, none⟩)) := by
                  have e := HN7.out.cell t htn
                  simpa [ptrO] using e
                go_wp2_with fail
                refine (c_same cell p n q (PC.fresh isNow most i) _ HJ7.out).mono ?_
                rintro e w8' ⟨rfl, qq, hq8⟩
                obtain ⟨w8, hw8⟩ : ∃ w8, w8 = w8' := ⟨_, rfl⟩
                have C78 : Hid (Chg (fun _ => False) w7 w8) := by rw [hw8, hq8]; exact (Goes.drewN w7 (fun _ => False) qq).chg
                rw [← hw8]
                clear hw8 hq8 g4
                have C8 : Hid (Chg (fun k => k = nB ∨ k = p) wv w8) := (C6.out.trans C67.out (H := fun k => k = nB ∨ k = p) (fun _ _ x => .inl x) (fun _ _ x => .inr x)).trans C78.out (fun _ _ x => x) (fun _ _ x => x.elim)
                have HA8 : Hid (IsRow w8 aB nt (fun s => .int .i64 (ats s : Int)) 3) := HB0.out.at_.chg C8.out (fun e => e.elim (fun e => NA.out e.symm) (fun e => NP.out.2.2.2.1 e.symm))
                have a8 : w8.cell? ⟨aB, t, none⟩ = some (.int .i64 (at0 : Int)) := by
                  have e := HA8.out.cell t htn
                  rw [← HA0.out] at e
                  exact e
                have f8 : w8.frozen? ⟨aB, t, none⟩ = false := rowI HA8.out t
                have wk : IntKind.i64.wrap ((at0 : Int) + 1) = (at0 : Int) + 1 := by rw [IntKind.wrap_i64]; omega
                go_upto_region 24 with fail
                obtain ⟨w9, hw9⟩ : ∃ w9, w9 = w8.setCell ⟨aB, t, none⟩ (.int .i64 ((at0 : Int) + 1)) := ⟨_, rfl⟩
                have C89 : Hid (Chg (fun k => k = aB) w8 w9) := by rw [hw9]; exact Chg.setCell (F := fun k => k = aB) (p := ⟨aB, t, none⟩) (Chg.refl _ _) (fun _ => rfl) _
                obtain ⟨ats2, hats2⟩ : ∃ ats2 : Nat → Nat, ats2 = fun s => if s = t then at0 + 1 else ats s := ⟨_, rfl⟩
                have HA9 : Hid (IsRow w9 aB nt (fun s => .int .i64 (ats2 s : Int)) 3) := by
                  rw [hw9]
                  refine (HA8.out.set t _).congr (fun s hs => ?_)
                  rw [hats2]
                  by_cases e : s = t <;> simp [e]
                rw [← hw9]
                clear hw9 a8 f8 wk
                have C79 : Hid (Chg (fun k => k = aB) w7 w9) := C78.out.trans C89.out (fun _ _ x => x.elim) (fun _ _ x => x)
                have C9 : Hid (Chg (fun k => k = nB ∨ k = aB ∨ k = p) wv w9) := C8.out.trans C89.out (fun _ _ x => x.elim .inl (fun e => .inr (.inr e))) (fun _ _ x => .inr (.inl x))
                have ALK : Hid (∀ k, u12.ownBlock = some k → k ≠ nB ∧ k ≠ aB ∧ k ≠ p ∧ k ≠ n ∧ k ≠ q) := fun k e => by
                  have g := HB0.out.gl k e
                  have l := (HB0.out.lt k (by simp [g])).2
                  have lp := LP.out
                  exact ⟨tne g HB0.out.gn (by simp), tne g HB0.out.ga (by simp), by omega, by omega, by omega⟩
                have HAL9 : Hid (w9.ownsRow 0 44 1 u12 pcs.length (rowF pcs.length fun j => ptrO (some (pb j)))) := row_kept HB0.out.all fun k e => C9.out.block k (row_lt HB0.out.all k e) (fun x => by have := ALK.out k e; omega)
                have g9 : w9.cell? ⟨nB, t, none⟩ = some (.pointer (some ⟨p, 0, none⟩)) := by
                  have e := (HN7.out.chg C79.out NA.out).cell t htn
                  simpa [ptrO] using e
                have pcb : pcs.length ≤ 1048576 := by have := HPL.out; omega
                obtain ⟨i0, hi0, hz0', hz1, hz2⟩ := info_parts infoP
                go_wp2_with (first | (at_builtin; refine wpList_append_own_at _ rfl (.tmp 153) (.tmp 158) 28 rfl 0 44 i0 (.pointer none) 1 8 Try.underlying28 hi0 hz0' hz1 hz2 rfl (by decide) u12 pcs.length (rowF pcs.length fun j => ptrO (some (pb j))) rfl (HAL9.out.alloc _) ⟨w9.heap.size, 0, none⟩ 1 1 [.pointer (some ⟨p, 0, none⟩)] rfl rfl (cells_new _ _ rfl _ _) (by intro u hu; simp at hu; subst hu; rfl) (by unfold maxLen; omega) (by omega) (Nat.zero_le _) ?_; intro al2 ww ho11 hg11 _ hw11; have HO11 := keepH ho11; have HG11 := keepH hg11; have HW11 := keepH hw11; clear ho11 hg11 hw11))
                have CX : Hid (Chg (fun k => u12.ownBlock = some k) w9 ww) := ((Chg.refl _ w9).alloc _).grown HG11.out (fun k e _ => e)
                have LW9 : Hid (wv.heap.size ≤ w9.heap.size ∧ p < w9.heap.size ∧ n < w9.heap.size ∧ q < w9.heap.size) := by
                  have s := C79.out.size
                  exact ⟨C9.out.size, Nat.lt_of_lt_of_le (lt_of HJ7.out.proc) s, Nat.lt_of_lt_of_le (lt_of HJ7.out.now) s, Nat.lt_of_lt_of_le (lt_of HJ7.out.take) s⟩
                obtain ⟨tg2, h2⟩ := HB0.out.begins (t := t) (p := p) (n := n) (q := q) (al' := al2) (x := PC.fresh isNow most i) (at' := ats2) (Y := ww) (HB0.out.free p LP.out.1) (HB0.out.free n LP.out.2.1) (HB0.out.free q LP.out.2.2) HPN.out.1 HPN.out.2.1 HPN.out.2.2 (Nat.le_trans HB0.out.chg.size LP.out.1) (Nat.le_trans HB0.out.chg.size LP.out.2.1) (Nat.le_trans HB0.out.chg.size LP.out.2.2)
                  (C9.out.trans CX.out (fun _ _ x => x.elim .inl (fun x => x.elim (fun e => .inr (.inl e)) (fun e => .inr (.inr (.inr e))))) (fun _ _ x => .inr (.inr (.inl x))))
                  ((HJ7.out.chg C79.out NP.out.2.2.2.1 NP.out.2.2.2.2.1 NP.out.2.2.2.2.2).chg CX.out (fun e => (ALK.out _ e).2.2.1 rfl) (fun e => (ALK.out _ e).2.2.2.1 rfl) (fun e => (ALK.out _ e).2.2.2.2 rfl))
                  ((HN7.out.chg C79.out NA.out).chg CX.out (fun e => (ALK.out _ e).1 rfl)) (HA9.out.chg CX.out (fun e => (ALK.out _ e).2.1 rfl)) HO11.out
                  (HW11.out.imp id (fun e => ⟨_, e, HB0.out.free _ (by have := LW9.out; simp; omega), by have := LW9.out; have := HB0.out.chg.size; simp; omega, by have := LW9.out; simp; omega, by have := LW9.out; simp; omega, by have := LW9.out; simp; omega⟩)) HCN.out
                obtain ⟨pb2, hpb2⟩ : ∃ f : Nat → Nat, f = fun j => if j = pcs.length then p else pb j := ⟨_, rfl⟩
                obtain ⟨nb2, hnb2⟩ : ∃ f : Nat → Nat, f = fun j => if j = pcs.length then n else nb j := ⟨_, rfl⟩
                obtain ⟨tb2, htb2⟩ : ∃ f : Nat → Nat, f = fun j => if j = pcs.length then q else tb j := ⟨_, rfl⟩
                obtain ⟨cur2, hcur2⟩ : ∃ f : Nat → Option Nat, f = fun s => if s = t then some pcs.length else cur s := ⟨_, rfl⟩
                obtain ⟨pcs2, hpcs2⟩ : ∃ f, f = pcs ++ [PC.fresh isNow most i] := ⟨_, rfl⟩
                obtain ⟨j, hj⟩ : ∃ j, j = pcs.length := ⟨_, rfl⟩
                obtain ⟨x, hx⟩ : ∃ x, x = PC.fresh isNow most i := ⟨_, rfl⟩
                rw [← hpb2, ← hnb2, ← htb2, ← hcur2, ← hpcs2] at h2
                have HS := keepH h2
                have HJC : Hid (cur2 t = some j) := by rw [hcur2, hj]; show _ = _; simp
                have HJX : Hid (pcs2[j]? = some x) := by rw [hpcs2, hj, hx]; show _ = _; simp
                have HCI2 : Hid (CI (decide (cell < 128)) (firstOf cell first) (cellN cs cell) (i + 1) pcs2) := by rw [hpcs2]; exact HCI.out.new isNow most
                have HCO2 : Hid (CO pcs2 cur2 vw') := by
                  rw [hpcs2, hcur2]
                  exact HCV.out.new t (by rw [HVT.out]; simp) (fun s j' e => HB0.out.cok s j' e) isNow most i hmo
                have HPL2 : Hid (pcs2.length ≤ i + 1) := by rw [hpcs2]; have := HPL.out; show _ ≤ _; simp; omega
                have HAT2 : Hid (∀ s, ats2 s ≤ i + 1) := fun s => by
                  rw [hats2]
                  by_cases e : s = t
                  · simp [e]; omega
                  · have := HAT.out s; simp [e]; omega
                clear h2 hpb2 hnb2 htb2 hcur2 hpcs2 hj hx hats2 g9 hi0 hz0' hz1 hz2 HB0 HJ5 HJ6 HJ7 HN6 HN7 HA8 HA9 HAL9 C6 C56 C67 C78 C8 C89 C79 C9 CX LW9 LP NP HPN ALK HO11 HG11 HW11 HR5' HC5' HS5 HS6 HN5 LCB LN LA NA bV BW
                have n2 := HS.out.nowAt htn HJC.out
                have v2 := HS.out.vwAt htn HVT.out
                obtain ⟨md, hmd, hIV⟩ := HS.out.view t v HVT.out
                have HIV := keepH hIV
                have hll : l.length < 1099511627776 := by have := HLL.out; omega
                have hmdb : md < 1099511627776 := by omega
                have HMD := keepH hmd
                have HSD := keepH (HS.out.quiet ((Chg.refl (fun _ => False) ww).drew))
                have hjl2 : j < pcs2.length := HS.out.cok t j HJC.out
                have hxm : x ∈ pcs2 := List.mem_of_getElem? HJX.out
                have hxp : x.pos < 2 := HCO2.out.1 t j x HJC.out HJX.out
                have HX0 := keepH (HCI2.out.zero x hxm hxp)
                have HX1 : Hid (x.pos = 0 ∨ x.pos = 1 ∧ x.isNow = false ∧ x.stamp + 1 < 18446744073709551616) := by
                  by_cases e : x.pos = 0
                  · exact .inl e
                  · refine .inr ⟨by omega, ?_, ?_⟩
                    · cases hn : x.isNow
                      · rfl
                      · have := (HCI2.out.now x hxm hn).2.2; omega
                    · have hn : x.isNow = false := by
                        cases hn : x.isNow
                        · rfl
                        · have := (HCI2.out.now x hxm hn).2.2; omega
                      have h1 := HCI2.out.one x hxm hn e HX0.out.1
                      have h2 := HCO2.out.2.2 x hxm
                      omega
                obtain ⟨y, hy⟩ : ∃ y, y = x.step (decide (cell < 128)) (cellN cs cell) := ⟨_, rfl⟩
                obtain ⟨dn, hdn⟩ : ∃ dn, dn = decide (y.pos = 2) := ⟨_, rfl⟩
                have K := c_step cell (pb2 j) (nb2 j) (tb2 j) v b nm md (t : Int) x F R cs l (l.map Acc.bare) ww.drew (HSD.out.pj j x HJX.out) HX1.out HX0.out (HIV.out.chg ((Chg.refl (fun _ => False) ww).drew) (fun x => x)) HSD.out.bank HSD.out.rm (HSD.out.apt HVT.out hjl2) hmdb hll (by simpa using hll) hc
                rw [← hy, ← hdn] at K
                have HK := keepH K
                have HXP := keepH hxp
                have HYS := keepH hy
                have HYM : Hid (y.most = x.most) := by rw [hy]; exact step_most _ _ x
                have HYP : Hid (y.pos ≠ 2 → y.pos < 2) := fun e => by rw [hy] at e ⊢; exact step_pos _ _ x HXP.out e
                have HDN := keepH hdn
                clear K hy hdn hIV hmd hxm hxp hjl2
                go_region_held3 (fun w' => w'.cell? ⟨nB, t, none⟩ = some (.pointer (some ⟨pb2 j, 0, none⟩)) ∧ w'.cell? ⟨vB, t, none⟩ = some (.pointer (some ⟨v, 0, none⟩))) (first | exact hS12 | exact ⟨n2, v2⟩)
                  (first | (go_at_call 27; refine HK.out.mono ?_; rintro e w12 ⟨rfl, J12, V12, F12, R12, cs12, a12, ha12, B12, M12, E12, G12⟩; obtain ⟨tg12, h12⟩ := HSD.out.step HVT.out HJX.out G12 B12 M12 ha12 HMD.out V12 J12; have hS12 := And.intro (h12.nowAt htn HJC.out) (h12.vwAt htn HVT.out); have HR12 := keepH h12; have HJ12 := keepH J12; have HE12 := keepH E12; clear h12 J12 V12 B12 M12 G12 ha12 E12))
                have n3 := hS12.1
                clear hS12 n2 v2 HK HSD HIV HMD
                by_cases hd : y.pos = 2
                · obtain rfl : dn = true := by rw [HDN.out]; exact decide_eq_true hd
                  have g15 : w12.cell? ⟨pb2 j, 15, none⟩ = some (.int .i64 y.tz) := HJ12.out.at15
                  have f15 : w12.frozen? ⟨pb2 j, 15, none⟩ = false := free_of HJ12.out.proc 15
                  have HYD := keepH hd
                  clear hd
                  go_upto_region 30 with fail
                  obtain ⟨w13, hw13⟩ : ∃ w13, w13 = w12.setCell ⟨pb2 j, 15, none⟩ (.int .i64 (i : Int)) := ⟨_, rfl⟩
                  have hjs : (pcs2.set j y)[j]? = some y := List.getElem?_set_self (List.getElem?_eq_some_iff.1 HJX.out).1
                  have HR13 : Hid (RS W1 w13 cell nt m b nm nB aB vB F12 R12 cs12 (l ++ [a12]) al2 (pcs2.set j (y.mark i)) pb2 nb2 tb2 cur2 ats2 vw' tg12) := by
                    rw [hw13, mark_done HYD.out]
                    have e := HR12.out.ends hjs (i : Int)
                    rw [List.set_set] at e
                    exact e
                  rw [← hw13]
                  clear hw13 g15 f15 n3 hjs
                  have hjm : (pcs2.set j (y.mark i))[j]? = some (y.mark i) := List.getElem?_set_self (List.getElem?_eq_some_iff.1 HJX.out).1
                  have HJ13 := keepH (HR13.out.pj j (y.mark i) hjm)
                  have HPM : Hid ((y.mark i).pos = 2) := by rw [mark_done HYD.out]; exact HYD.out
                  have n4 := HR13.out.nowAt htn HJC.out
                  have v4 := HR13.out.vwAt htn HVT.out
                  clear hjm
                  go_region_held3 (fun w' => w'.cell? ⟨nB, t, none⟩ = some (.pointer (some ⟨pb2 j, 0, none⟩)) ∧ w'.cell? ⟨vB, t, none⟩ = some (.pointer (some ⟨v, 0, none⟩))) (first | exact hS14 | exact ⟨n4, v4⟩)
                    (first | (go_at_call 27; refine (c_again cell (pb2 j) (nb2 j) (tb2 j) _ _ _ (y.mark i) w13.drew (HJ13.out.chg ((Chg.refl (fun _ => False) w13).drew) (fun x => x) (fun x => x) (fun x => x)) HPM.out).mono ?_; rintro e w14 ⟨rfl, qq, hq14⟩; have hS14 : w14.cell? ⟨nB, t, none⟩ = some (.pointer (some ⟨pb2 j, 0, none⟩)) ∧ w14.cell? ⟨vB, t, none⟩ = some (.pointer (some ⟨v, 0, none⟩)) := (by rw [hq14]; exact ⟨n4, v4⟩); have HQ14 := keepH hq14; clear hq14))
                  have C14 : Hid (Chg (fun _ => False) w13 w14) := by rw [HQ14.out]; exact ((Chg.refl (fun _ => False) w13).drew).trans (Goes.drewN w13.drew (fun _ => False) qq).chg (fun _ _ x => x) (fun _ _ x => x)
                  have HR14 := keepH (HR13.out.quiet C14.out)
                  have n5 := HR14.out.nowAt htn HJC.out
                  have f5 := rowI HR14.out.now t
                  clear n4 v4 HQ14 hS14
                  go_wp2_with fail
                  go_roundw
                  case rel =>
                    refine ⟨i + 1, F12, R12, cs12, l ++ [a12], pcs2.set j (y.mark i), pb2, nb2, tb2, (fun s => if s = t then none else cur2 s), ats2, vw', tg12, by omega, by first | rfl | go_num, keepH ⟨HR14.out.rests t, ?_, ?_, by have := HLL.out; simp; omega, by have := HPL2.out; simp; omega, HAT2.out⟩⟩
                    · rw [HE12.out, HYS.out]
                      exact HCI2.out.step HJX.out HXP.out
                    · exact HCO2.out.rest HJX.out HJC.out (fun s s' j' => HS.out.cone s s' j') (by rw [mark_done HYD.out]; exact HYM.out)
                  case measure => simp [intOf]; omega
                · obtain rfl : dn = false := by rw [HDN.out]; exact decide_eq_false hd
                  have HYD := keepH hd
                  clear hd
                  go_wp2_with fail
                  go_roundw
                  case rel =>
                    refine ⟨i + 1, F12, R12, cs12, l ++ [a12], pcs2.set j y, pb2, nb2, tb2, cur2, ats2, vw', tg12, by omega, by first | rfl | go_num, keepH ⟨HR12.out, ?_, ?_, by have := HLL.out; simp; omega, by have := HPL2.out; simp; omega, HAT2.out⟩⟩
                    · have e := HCI2.out.step HJX.out HXP.out
                      rw [← HYS.out, mark_not HYD.out] at e
                      rw [HE12.out]
                      exact e
                    · exact HCO2.out.step HJX.out (HYP.out HYD.out) HYM.out
                  case measure => simp [intOf]; omega
          | some j =>
            rw [hcur] at n0
            simp only [Option.map_some, ptrO] at n0
            have HCN : Hid (cur t = some j) := hcur
            obtain ⟨v, hvw⟩ : ∃ v, vw t = some v := by
              cases e : vw t with
              | none => have := HCO.out.2.1 t e; rw [hcur] at this; simp at this
              | some v => exact ⟨v, rfl⟩
            rw [hvw] at v0
            simp only [Option.map_some, ptrO] at v0
            have HVT : Hid (vw t = some v) := hvw
            clear hvw hcur
            go_wp2_with fail
            go_quiet (fail)
            obtain ⟨ww, hww⟩ : ∃ ww, ww = wr.drewN nq := ⟨_, rfl⟩
            have CQ : Hid (Chg (fun _ => False) wr ww) := by rw [hww]; exact (Goes.drewN wr (fun _ => False) nq).chg
            rw [← hww]
            clear hww
            have HS := keepH (H.out.quiet CQ.out)
            have n1 : ww.cell? ⟨nB, t, none⟩ = some (.pointer (some ⟨pb j, 0, none⟩)) := cell_chg CQ.out n0 (fun x => x)
            have v1 : ww.cell? ⟨vB, t, none⟩ = some (.pointer (some ⟨v, 0, none⟩)) := cell_chg CQ.out v0 (fun x => x)
            clear v0 q0 q2 q3 p0 p1 n0 a0 CQ
            go_upto_region 25 with fail
            clear n1 v1
            have hjl := HS.out.cok t j HCN.out
            obtain ⟨x, hx⟩ : ∃ x, pcs[j]? = some x := ⟨pcs[j]'hjl, List.getElem?_eq_getElem _⟩
            have HJX : Hid (pcs[j]? = some x) := hx
            have HJC : Hid (cur t = some j) := HCN.out
            have HCI2 := keepH HCI.out.later
            have HCO2 := keepH HCO.out
            have HPL2 : Hid (pcs.length ≤ i + 1) := by have := HPL.out; show _ ≤ _; omega
            have HAT2 : Hid (∀ s, ats s ≤ i + 1) := fun s => by have := HAT.out s; omega
            clear hx hjl
            have n2 := HS.out.nowAt htn HJC.out
            have v2 := HS.out.vwAt htn HVT.out
            obtain ⟨md, hmd, hIV⟩ := HS.out.view t v HVT.out
            have HIV := keepH hIV
            have hll : l.length < 1099511627776 := by have := HLL.out; omega
            have hmdb : md < 1099511627776 := by omega
            have HMD := keepH hmd
            have HSD := keepH (HS.out.quiet ((Chg.refl (fun _ => False) ww).drew))
            have hjl2 : j < pcs.length := HS.out.cok t j HJC.out
            have hxm : x ∈ pcs := List.mem_of_getElem? HJX.out
            have hxp : x.pos < 2 := HCO2.out.1 t j x HJC.out HJX.out
            have HX0 := keepH (HCI2.out.zero x hxm hxp)
            have HX1 : Hid (x.pos = 0 ∨ x.pos = 1 ∧ x.isNow = false ∧ x.stamp + 1 < 18446744073709551616) := by
              by_cases e : x.pos = 0
              · exact .inl e
              · refine .inr ⟨by omega, ?_, ?_⟩
                · cases hn : x.isNow
                  · rfl
                  · have := (HCI2.out.now x hxm hn).2.2; omega
                · have hn : x.isNow = false := by
                    cases hn : x.isNow
                    · rfl
                    · have := (HCI2.out.now x hxm hn).2.2; omega
                  have h1 := HCI2.out.one x hxm hn e HX0.out.1
                  have h2 := HCO2.out.2.2 x hxm
                  omega
            obtain ⟨y, hy⟩ : ∃ y, y = x.step (decide (cell < 128)) (cellN cs cell) := ⟨_, rfl⟩
            obtain ⟨dn, hdn⟩ : ∃ dn, dn = decide (y.pos = 2) := ⟨_, rfl⟩
            have K := c_step cell (pb j) (nb j) (tb j) v b nm md (t : Int) x F R cs l (l.map Acc.bare) ww.drew (HSD.out.pj j x HJX.out) HX1.out HX0.out (HIV.out.chg ((Chg.refl (fun _ => False) ww).drew) (fun x => x)) HSD.out.bank HSD.out.rm (HSD.out.apt HVT.out hjl2) hmdb hll (by simpa using hll) hc
            rw [← hy, ← hdn] at K
            have HK := keepH K
            have HXP := keepH hxp
            have HYS := keepH hy
            have HYM : Hid (y.most = x.most) := by rw [hy]; exact step_most _ _ x
            have HYP : Hid (y.pos ≠ 2 → y.pos < 2) := fun e => by rw [hy] at e ⊢; exact step_pos _ _ x HXP.out e
            have HDN := keepH hdn
            clear K hy hdn hIV hmd hxm hxp hjl2
            go_region_held3 (fun w' => w'.cell? ⟨nB, t, none⟩ = some (.pointer (some ⟨pb j, 0, none⟩)) ∧ w'.cell? ⟨vB, t, none⟩ = some (.pointer (some ⟨v, 0, none⟩))) (first | exact hS12 | exact ⟨n2, v2⟩)
              (first | (go_at_call 27; refine HK.out.mono ?_; rintro e w12 ⟨rfl, J12, V12, F12, R12, cs12, a12, ha12, B12, M12, E12, G12⟩; obtain ⟨tg12, h12⟩ := HSD.out.step HVT.out HJX.out G12 B12 M12 ha12 HMD.out V12 J12; have hS12 := And.intro (h12.nowAt htn HJC.out) (h12.vwAt htn HVT.out); have HR12 := keepH h12; have HJ12 := keepH J12; have HE12 := keepH E12; clear h12 J12 V12 B12 M12 G12 ha12 E12))
            have n3 := hS12.1
            clear hS12 n2 v2 HK HSD HIV HMD
            by_cases hd : y.pos = 2
            · obtain rfl : dn = true := by rw [HDN.out]; exact decide_eq_true hd
              have g15 : w12.cell? ⟨pb j, 15, none⟩ = some (.int .i64 y.tz) := HJ12.out.at15
              have f15 : w12.frozen? ⟨pb j, 15, none⟩ = false := free_of HJ12.out.proc 15
              have HYD := keepH hd
              clear hd
              go_upto_region 30 with fail
              obtain ⟨w13, hw13⟩ : ∃ w13, w13 = w12.setCell ⟨pb j, 15, none⟩ (.int .i64 (i : Int)) := ⟨_, rfl⟩
              have hjs : (pcs.set j y)[j]? = some y := List.getElem?_set_self (List.getElem?_eq_some_iff.1 HJX.out).1
              have HR13 : Hid (RS W1 w13 cell nt m b nm nB aB vB F12 R12 cs12 (l ++ [a12]) u12 (pcs.set j (y.mark i)) pb nb tb cur ats vw tg12) := by
                rw [hw13, mark_done HYD.out]
                have e := HR12.out.ends hjs (i : Int)
                rw [List.set_set] at e
                exact e
              rw [← hw13]
              clear hw13 g15 f15 n3 hjs
              have hjm : (pcs.set j (y.mark i))[j]? = some (y.mark i) := List.getElem?_set_self (List.getElem?_eq_some_iff.1 HJX.out).1
              have HJ13 := keepH (HR13.out.pj j (y.mark i) hjm)
              have HPM : Hid ((y.mark i).pos = 2) := by rw [mark_done HYD.out]; exact HYD.out
              have n4 := HR13.out.nowAt htn HJC.out
              have v4 := HR13.out.vwAt htn HVT.out
              clear hjm
              go_region_held3 (fun w' => w'.cell? ⟨nB, t, none⟩ = some (.pointer (some ⟨pb j, 0, none⟩)) ∧ w'.cell? ⟨vB, t, none⟩ = some (.pointer (some ⟨v, 0, none⟩))) (first | exact hS14 | exact ⟨n4, v4⟩)
                (first | (go_at_call 27; refine (c_again cell (pb j) (nb j) (tb j) _ _ _ (y.mark i) w13.drew (HJ13.out.chg ((Chg.refl (fun _ => False) w13).drew) (fun x => x) (fun x => x) (fun x => x)) HPM.out).mono ?_; rintro e w14 ⟨rfl, qq, hq14⟩; have hS14 : w14.cell? ⟨nB, t, none⟩ = some (.pointer (some ⟨pb j, 0, none⟩)) ∧ w14.cell? ⟨vB, t, none⟩ = some (.pointer (some ⟨v, 0, none⟩)) := (by rw [hq14]; exact ⟨n4, v4⟩); have HQ14 := keepH hq14; clear hq14))
              have C14 : Hid (Chg (fun _ => False) w13 w14) := by rw [HQ14.out]; exact ((Chg.refl (fun _ => False) w13).drew).trans (Goes.drewN w13.drew (fun _ => False) qq).chg (fun _ _ x => x) (fun _ _ x => x)
              have HR14 := keepH (HR13.out.quiet C14.out)
              have n5 := HR14.out.nowAt htn HJC.out
              have f5 := rowI HR14.out.now t
              clear n4 v4 HQ14 hS14
              go_wp2_with fail
              go_roundw
              case rel =>
                refine ⟨i + 1, F12, R12, cs12, l ++ [a12], pcs.set j (y.mark i), pb, nb, tb, (fun s => if s = t then none else cur s), ats, vw, tg12, by omega, by first | rfl | go_num, keepH ⟨HR14.out.rests t, ?_, ?_, by have := HLL.out; simp; omega, by have := HPL2.out; simp; omega, HAT2.out⟩⟩
                · rw [HE12.out, HYS.out]
                  exact HCI2.out.step HJX.out HXP.out
                · exact HCO2.out.rest HJX.out HJC.out (fun s s' j' => HS.out.cone s s' j') (by rw [mark_done HYD.out]; exact HYM.out)
              case measure => simp [intOf]; omega
            · obtain rfl : dn = false := by rw [HDN.out]; exact decide_eq_false hd
              have HYD := keepH hd
              clear hd
              go_wp2_with fail
              go_roundw
              case rel =>
                refine ⟨i + 1, F12, R12, cs12, l ++ [a12], pcs.set j y, pb, nb, tb, cur, ats, vw, tg12, by omega, by first | rfl | go_num, keepH ⟨HR12.out, ?_, ?_, by have := HLL.out; simp; omega, by have := HPL2.out; simp; omega, HAT2.out⟩⟩
                · have e := HCI2.out.step HJX.out HXP.out
                  rw [← HYS.out, mark_not HYD.out] at e
                  rw [HE12.out]
                  exact e
                · exact HCO2.out.step HJX.out (HYP.out HYD.out) HYM.out
              case measure => simp [intOf]; omega
    · obtain rfl : i = np := by omega
      have t1 : ¬ (i : Int) < (i : Int) := by omega
      obtain ⟨nc, av, os, RM⟩ := H.out.rm
      obtain ⟨pa, ca, rfl⟩ := slice_of RM.acc
      have eL : (l.map Acc.bare).length = l.length := by simp
      have k9 : wr.cell? ⟨nm, 2, none⟩ = some (.slice pa l.length ca) := by
        have e := cell_of RM.blk 2
        rw [eL] at e
        exact e
      have HROW : Hid (wr.ownsRow 0 92 8 (.slice pa l.length ca) l.length (accRow (l.map Acc.bare))) := by
        have e := RM.acc
        rw [eL] at e
        exact e
      have hll : l.length ≤ 1099511627776 := by have := HLL.out; omega
      have HVL := keepH H.out.vals
      have HD := keepH (H.out.quiet ((Chg.refl (fun _ => False) wr).drew))
      have HMT := keepH (m_trace m b 128 1 F cs l wr.drew HD.out.mem HD.out.bank hll (fun x hx => by rw [HVL.out x hx]; simp))
      have HSA : Hid (∀ W2 pt2 ct2 lk, Traced wr.drew W2 (.slice pt2 l.length ct2) l lk l.length → Calls Try.prog 28 #[.slice pt2 l.length ct2, .slice pa l.length ca] W2 fun e W' => e = .returned (.bool true) ∧ ∃ q, W' = W2.drewN q) := fun W2 pt2 ct2 lk T => by
        refine s_sameA pt2 pa ct2 ca l.length lk (l.map Acc.bare) W2 T.row (row_kept HROW.out fun k e => T.chg.block k (row_lt HROW.out k e) (fun x => x)) T.len (by simp) (fun ix x y hx hy => ?_) hll
        have hil : ix < l.length := by have := (List.getElem?_eq_some_iff.1 hx).1; have := T.len; omega
        obtain ⟨z, hz⟩ : ∃ z, l[ix]? = some z := ⟨l[ix], List.getElem?_eq_getElem hil⟩
        obtain ⟨vs, hv⟩ := T.same ix z hz
        rw [hx] at hv
        cases hv
        rw [List.getElem?_map, hz] at hy
        cases hy
        have ev := HVL.out z (List.mem_of_getElem? hz)
        have er := T.vals ix _ hil hx
        simp only [ev] at er
        obtain ⟨p9, c9, e9⟩ := slice_of er
        exact like_bare e9
      clear RM q0 q2 bR
      go_upto_region 34 with fail
      go_region_held3 (fun w' => w'.cell? ⟨nm, 2, none⟩ = some (.slice pa l.length ca)) (first | exact hS3 | exact hS2 | exact k9)
        (first | (go_at_call 29; refine HMT.out.mono ?_; rintro e W2 ⟨pt2, ct2, lk, rfl, T2⟩; have hS2 : W2.cell? ⟨nm, 2, none⟩ = some (.slice pa l.length ca) := cell_chg T2.chg k9 (fun x => x); have HT2 := keepH T2; clear T2) | (go_at_call 28; refine (HSA.out _ _ _ _ HT2.out).mono ?_; rintro e W3' ⟨rfl, q3', hq3⟩; have hS3 : W3'.cell? ⟨nm, 2, none⟩ = some (.slice pa l.length ca) := (by rw [hq3]; exact hS2); have HQ3 := keepH hq3; clear hq3))
      have CE : Hid (Chg (fun _ => False) wr W3') := by rw [HQ3.out]; exact (chg_undrew HT2.out.chg).trans (Goes.drewN _ (fun _ => False) q3').chg (fun _ _ x => x) (fun _ _ x => x)
      clear hS2 hS3 k9 q3
      go_wp2_with fail
      go_ret3
      refine ⟨u12, W1, m, b, nm, nB, aB, vB, F, R, cs, l, pcs, pb, nb, tb, cur, ats, vw, tg, by simp, C1.out.size, ?_, HCI.out, HPL.out, HWC.out.trans CE.out (fun _ _ x => x) (fun _ _ x => x)⟩
      exact H.out.quiet CE.out
end Go.Proofs.Ytinhcphhdehmhaa
