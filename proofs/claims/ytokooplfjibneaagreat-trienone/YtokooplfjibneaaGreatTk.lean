/- A Put of key 7 into an empty trie, alone. -/
import Derived.Test.YtokooplfjibneaaGreatTj
namespace Go.Proofs.YtokooplfjibneaaGreat
open Go.RowKit Go.Shelf
set_option linter.unusedVariables false

def cs0 : List Nat := 0 :: 1 :: List.replicate 64 0
def cs1 : List Nat := cs0 ++ [7, 1]
def cs2 : List Nat := cs1 ++ [133, 0, 0]
def cs3 : List Nat := cs2.set 6 68
def cs4 : List Nat := cs3.set 69 1
structure M7 (most : Nat) : Prop where
  a1 : alAt most 66 2 = 66
  a2 : alNext most 66 2 = 68
  a3 : alN most 66 cs0 [7, 1] = cs1
  b1 : alAt most 68 3 = 68
  b2 : alNext most 68 3 = 71
  b3 : alN most 68 cs1 [133, 0, 0] = cs2
  c1 : casOk most cs2 6 0 = true
  c2 : casN most cs2 6 0 68 = cs3
  d1 : casN most cs3 69 0 1 = cs4
  hm : most ≤ 4194304
def mx7 : Nat := 1346066267577507604
def L0 (p q : Nat) : List Value := wayL 1 7 mx7 6 0 (.pointer (some ⟨q, 0, none⟩)) 0 0 0 false 0 (fnV 59 p) (fnV 37 p) (fnV 38 p) (fnV 37 p) false 0 (putR 1 (.pointer none) .nilFunc (.pointer none) (.pointer none))
def L1 (p q g : Nat) : List Value := wayL 1 7 mx7 6 0 (.pointer (some ⟨q, 0, none⟩)) 0 0 0 false 0 (fnV 64 p) (fnV 37 p) (fnV 38 p) (fnV 37 p) false 0 (putR 1 (.pointer (some ⟨g, 0, none⟩)) (fnV 53 p) (.pointer none) (.pointer none))
def L2 (p q g c : Nat) : List Value := wayL 1 7 mx7 6 0 (.pointer (some ⟨q, 0, none⟩)) 0 0 0 false 0 (fnV 82 p) (fnV 37 p) (fnV 38 p) (fnV 37 p) false 0 (putR 1 (.pointer (some ⟨g, 0, none⟩)) (fnV 53 p) (.pointer none) (.pointer (some ⟨c, 0, none⟩)))
def DD (D : Nat → Prop) (p : Nat) : Nat → Prop := fun k => D k ∨ k = p
def KeepD (D : Nat → Prop) (w0 w : World) : Prop := ∀ k, D k → k < w0.heap.size ∧ w.heap[k]? = w0.heap[k]?
theorem KeepD.step {D : Nat → Prop} {w0 w w' : World} (h : KeepD D w0 w) (hs : ∀ k, D k → w'.heap[k]? = w.heap[k]?) : KeepD D w0 w' := fun k e => ⟨(h k e).1, (hs k e).trans (h k e).2⟩

theorem pcasF {W : World} {m b v most : Nat} {w : World} {next made : Nat} {cs : List Nat} {n : Nat} {D : Nat → Prop} {c : Nat} {l : List Value} {q' : Option Nat} {cam pos st p q g : Nat} (h : CS W m b v most w next made cs n D c 172 l q' cam pos st) (dp : D p) (hp : Blk w p 66 (L2 p q g c)) (Q : World → Prop)
    (hs : ∀ w0, CS W m b v most w0 next made cs n (fun k => D k ∨ k = w.heap.size) c 172 l q' cam pos st → Calls Tryz.prog 95 #[.pointer (some ⟨c, 0, none⟩), .pointer (some ⟨v, 0, none⟩)] w0 fun e w1 => e = .returned (.bool false) ∧ Q w1 ∧ ∀ k, (D k ∨ k = w.heap.size) → w1.heap[k]? = w0.heap[k]?) :
    Calls Tryz.prog 39 #[.iface 26 (.pointer (some ⟨p, 0, none⟩)), .pointer (some ⟨v, 0, none⟩)] w fun e w' => e = .returned (.bool false) ∧ ∃ w1, Q w1 ∧ w' = w1.setCell ⟨w.heap.size, 0, none⟩ (.bool false) ∧ ∀ k, D k → w'.heap[k]? = w.heap[k]? := by
  have c0 := h.alloc (.cells #[.bool false] 4)
  have hp0 : Blk (w.alloc (.cells #[.bool false] 4)) p 66 (L2 p q g c) := alloc_of hp _
  refine (sput p _ false (fun w1 => Q w1 ∧ ∀ k, (D k ∨ k = w.heap.size) → w1.heap[k]? = (w.alloc (.cells #[.bool false] 4)).heap[k]?) w (step_tDoSwapF hp0 rfl _ _ (do_swapF hp0 rfl _ _ (hs _ c0)) (fun w1 hr => ?_)) (fun w1 hr => hr.2 _ (.inr rfl))).mono ?_
  · have hp1 : Blk w1 p 66 (L2 p q g c) := (hr.2 p (.inl dp)).trans hp0
    exact ⟨_, _, hp1.cell 16⟩
  · rintro e w' ⟨rfl, w1, ⟨hq, hk⟩, rfl⟩
    refine ⟨rfl, w1, hq, rfl, fun k e => ?_⟩
    have hl := h.sr.lt k (.inl e)
    exact (Below.heap_setCell _ _ _ _ (by show k ≠ w.heap.size; omega)).trans ((hk k (.inl e)).trans (Below.heap_alloc _ _ _ hl))

def PInv (W : World) (m b v most p q : Nat) (D : Nat → Prop) (w0 : World) (made n : Nat) : Nat → World → Prop
  | 0, w => CS W m b v most w 66 made cs0 n (DD D p) q 150 (r0L 1 6) none 1 0 0 ∧ Blk w p 66 (L0 p q) ∧ KeepD D w0 w
  | 1, w => ∃ g, SR W m b v 0 most w 66 (made + 1) cs0 (n + 1) (fun k => DD D p k ∨ k = g) ∧ ¬ DD D p g ∧ IsLeaf w g false 0 7 1 0 ∧ Blk w p 66 (L1 p q g) ∧ KeepD D w0 w
  | 2, w => ∃ g c, CS W m b v most w 68 (made + 2) cs1 (n + 2) (DD D p) c 172 (c0L 1 6 133) none 1 0 0 ∧ Blk w p 66 (L2 p q g c) ∧ KeepD D w0 w
  | 3, w => ∃ g c, CS W m b v most w 68 (made + 3) cs1 (n + 3) (DD D p) c 172 (c1L 1 6 133) none 1 0 0 ∧ Blk w p 66 (L2 p q g c) ∧ KeepD D w0 w
  | 4, w => ∃ g c, CS W m b v most w 71 (made + 4) cs2 (n + 4) (DD D p) c 172 (c2L 1 6 133 68) none 1 0 0 ∧ Blk w p 66 (L2 p q g c) ∧ KeepD D w0 w
  | 5, w => ∃ g c, CS W m b v most w 71 (made + 5) cs3 (n + 5) (DD D p) c 172 (c3L 1 6 133 68 0 (.pointer none) 4 false) none 1 0 0 ∧ Blk w p 66 (L2 p q g c) ∧ KeepD D w0 w
  | 6, w => ∃ g c r, CS W m b v most w 71 (made + 6) cs3 (n + 6) (DD D p) c 172 (c3L 1 6 133 68 1 (.pointer (some ⟨r, 0, none⟩)) 4 true) (some r) 1 0 0 ∧ Blk w p 66 (L2 p q g c) ∧ KeepD D w0 w
  | 7, w => ∃ g c r, CS W m b v most w 71 (made + 7) cs3 (n + 7) (DD D p) c 172 (c3L 1 6 133 68 2 (.pointer (some ⟨r, 0, none⟩)) 4 true) (some r) 1 2 1 ∧ Blk w p 66 (L2 p q g c) ∧ KeepD D w0 w
  | _, w => SR W m b v 0 most w 71 (made + 8) cs4 (n + 8) (DD D p) ∧ KeepD D w0 w

theorem pinv_cas {W : World} {m b v most : Nat} {w : World} {next made : Nat} {cs : List Nat} {n : Nat} {D : Nat → Prop} {c : Nat} {l : List Value} {q' : Option Nat} {cam pos st p q g : Nat} {w0 : World} (h : CS W m b v most w next made cs n (DD D p) c 172 l q' cam pos st) (hp : Blk w p 66 (L2 p q g c)) (hk : KeepD D w0 w) {next' made' n' : Nat} {cs' : List Nat} {l' : List Value} {q2 : Option Nat} {pos' st' : Nat}
    (hs : ∀ w0 D', CS W m b v most w0 next made cs n D' c 172 l q' cam pos st → Calls Tryz.prog 95 #[.pointer (some ⟨c, 0, none⟩), .pointer (some ⟨v, 0, none⟩)] w0 fun e w1 => e = .returned (.bool false) ∧ CS W m b v most w1 next' made' cs' n' D' c 172 l' q2 cam pos' st' ∧ ∀ k, D' k → w1.heap[k]? = w0.heap[k]?) :
    Calls Tryz.prog 39 #[.iface 26 (.pointer (some ⟨p, 0, none⟩)), .pointer (some ⟨v, 0, none⟩)] w fun e w' => e = .returned (.bool false) ∧ CS W m b v most w' next' made' cs' n' (DD D p) c 172 l' q2 cam pos' st' ∧ Blk w' p 66 (L2 p q g c) ∧ KeepD D w0 w' := by
  refine (pcasF h (.inr rfl) hp (fun w1 => CS W m b v most w1 next' made' cs' n' (fun k => DD D p k ∨ k = w.heap.size) c 172 l' q2 cam pos' st') (fun w0 hc => hs w0 _ hc)).mono ?_
  rintro e w' ⟨rfl, w1, hq, rfl, hd⟩
  exact ⟨rfl, hq.drop _, (hd p (.inr rfl)).trans hp, hk.step (fun k e => hd k (.inl e))⟩

set_option maxRecDepth 100000 in
set_option maxHeartbeats 2000000 in
theorem pinv_step (W : World) (m b v most p q : Nat) (D : Nat → Prop) (hD : ¬ D p) (w0 : World) (made n : Nat) (hM : M7 most) (hm : made < 1000000) (hn : n < 1000000) (i : Nat) (w : World) (hi : i ≤ 7) (h : PInv W m b v most p q D w0 made n i w) :
    Calls Tryz.prog 39 #[.iface 26 (.pointer (some ⟨p, 0, none⟩)), .pointer (some ⟨v, 0, none⟩)] w fun e w' => e = .returned (.bool (decide (i = 7))) ∧ PInv W m b v most p q D w0 made n (i + 1) w' := by
  match i, hi, h with
  | 0, _, h =>
    obtain ⟨hc, hp, hk⟩ := h
    have c0 := hc.alloc (.cells #[.bool false] 4)
    have hp0 : Blk (w.alloc (.cells #[.bool false] 4)) p 66 (L0 p q) := alloc_of hp _
    have hr := rd_s0 c0 (by decide) (by decide) (by omega) (by omega)
    have hd := down_hang (lf := 0) (ly := 0) (x := 1) hp0 (.pointer (some ⟨v, 0, none⟩)) _ hr (fun y hy => (hy.2 p (.inl (.inr rfl))).trans hp0) (fun y hy => ⟨_, _, hy.1.blk, rfl⟩)
    refine (sput p _ false _ w (step_tDownF hp0 rfl _ _ hd (fun w1 hr => ?_)) (fun w1 hr => ?_)).mono ?_
    · obtain ⟨y, hy, C, g, hg, L, P⟩ := hr
      exact ⟨_, _, P.cell 16⟩
    · obtain ⟨y, hy, C, g, hg, L, P⟩ := hr
      have hl := hc.sr.lt p (.inl (.inr rfl))
      have hy2 := hy.1.sr.lt w.heap.size (.inl (.inr rfl))
      exact (C.block _ hy2 (by show w.heap.size ≠ p; omega)).trans (hy.2 _ (.inr rfl))
    · rintro e w' ⟨rfl, w1, ⟨y, ⟨hC, hK⟩, C, g, hg, L, P⟩, rfl⟩
      have hl := hc.sr.lt p (.inl (.inr rfl))
      have hyz := hC.sr.lt w.heap.size (.inl (.inr rfl))
      have hpy := hC.sr.lt p (.inl (.inl (.inr rfl)))
      have hkl : ∀ k, D k → k < w.heap.size := fun k e => hc.sr.lt k (.inl (.inl e))
      have hgl := lt_of L
      have S1 := (hC.sr.mono (E := fun k => DD D p k ∨ k = w.heap.size) (fun k e => .inl e)).fresh C (fun k e => .inl (.inr e)) g hg hgl
      have S2 : SR W m b v 0 most w1 66 (made + 1) cs0 (n + 1) (fun k => (fun k => DD D p k ∨ k = g) k ∨ k = w.heap.size) := S1.mono (fun k e => by
        rcases e with (e | e) | e
        · exact .inl (.inl e)
        · exact .inr e
        · exact .inl (.inr e))
      refine ⟨rfl, g, S2.drp _, fun e => ?_, (Below.heap_setCell _ _ _ _ (by show g ≠ w.heap.size; omega)).trans L, (Below.heap_setCell _ _ _ _ (by show p ≠ w.heap.size; omega)).trans P, hk.step (fun k e => ?_)⟩
      · rcases e with e | e
        · have := hkl g e; omega
        · omega
      · have h1 := hkl k e
        refine (Below.heap_setCell _ _ _ _ (by show k ≠ w.heap.size; omega)).trans ((C.block k (by omega) (fun z => hD (z ▸ e))).trans ((hK k (.inl (.inl e))).trans (Below.heap_alloc _ _ _ h1)))
  | 1, _, h =>
    obtain ⟨g, hS, hg, hL, hp, hk⟩ := h
    have c0 := hS.alloc (.cells #[.bool false] 4)
    have hp0 : Blk (w.alloc (.cells #[.bool false] 4)) p 66 (L1 p q g) := alloc_of hp _
    have hL0 : IsLeaf (w.alloc (.cells #[.bool false] 4)) g false 0 7 1 0 := alloc_of hL _
    have hpl := lt_of hp
    have hgl := lt_of hL
    have hgp : p ≠ g := fun z => hg (.inr z.symm)
    obtain ⟨F, l, S, hl, A⟩ := c0
    have dg : (fun j => (DD D p j ∨ j = g) ∨ j = w.heap.size) g := .inl (.inr rfl)
    have ag := A g dg
    have hst : Calls Tryz.prog 79 #[.pointer (some ⟨g, 0, none⟩), .pointer (some ⟨v, 0, none⟩)] (w.alloc (.cells #[.bool false] 4)) fun e y => e = .returned (.bool true) ∧ IsLeaf y g true 0 7 1 133 ∧ SR W m b v 0 most y 68 (made + 1 + 1) cs1 (n + 1 + 1) (fun j => (DD D p j ∨ j = g) ∨ j = w.heap.size) ∧ ∀ k, ((DD D p k ∨ k = g) ∨ k = w.heap.size) → k ≠ g → y.heap[k]? = (w.alloc (.cells #[.bool false] 4)).heap[k]? := by
      refine (leaf_step g v b most 66 (made + 1) 7 1 0 F cs0 l _ hL0 S.view S.bank S.nv ag.1 ag.2.1 (by omega) (by omega) (by decide) (by decide) 66 hM.a1 hM.hm (by omega)).mono ?_
      rintro e y ⟨rfl, L2, G⟩
      rw [hM.a2, hM.a3] at G
      have S' := SR.wentM S hl A dg G (fun vs => by simp)
      exact ⟨rfl, L2, S'.1, S'.2⟩
    have hd := make_leaf (x := 1) (fk := .pointer none) (cp := .pointer none) hp0 (.pointer (some ⟨v, 0, none⟩)) _ 7 1 133 hst (fun y hy => (hy.2.2 p (.inl (.inl (.inr rfl))) hgp).trans hp0) (fun y hy => hy.1)
    refine (sput p _ false _ w (step_tMakeLeafF hp0 rfl _ _ hd (fun w1 hr => ?_)) (fun w1 hr => ?_)).mono ?_
    · obtain ⟨y, hy, c, hc, B, P, C⟩ := hr
      exact ⟨_, _, P.cell 16⟩
    · obtain ⟨y, hy, c, hc, B, P, C⟩ := hr
      have hyz := hy.2.1.lt w.heap.size (.inr rfl)
      exact (C.block _ hyz (by show w.heap.size ≠ p; omega)).trans (hy.2.2 _ (.inr rfl) (by omega))
    · rintro e w' ⟨rfl, w1, ⟨y, ⟨hL2, hS2, hK⟩, c, hc, B, P, C⟩, rfl⟩
      have hyz := hS2.lt w.heap.size (.inr rfl)
      have hcl := lt_of B
      have hkl : ∀ k, D k → k < w.heap.size := fun k e => hS.lt k (.inl (.inl e))
      have S1 := hS2.fresh C (fun k e => .inl (.inl (.inr e))) c hc hcl
      have S2 : SR W m b v 0 most w1 68 (made + 2) cs1 (n + 2) (fun k => own2 (DD D p) c none k ∨ k = w.heap.size) := S1.mono (fun k e => by
        rcases e with (e | e | e) | e
        · exact .inl (.inl (.inl e))
        · exact .inr e
        · cases e
        · exact .inl (.inr e))
      refine ⟨rfl, g, c, ⟨S2.drp _, fun e => ?_, fun k e => (by cases e), (Below.heap_setCell _ _ _ _ (by show c ≠ w.heap.size; omega)).trans B⟩, (Below.heap_setCell _ _ _ _ (by show p ≠ w.heap.size; omega)).trans P, hk.step (fun k e => ?_)⟩
      · rcases e with e | e
        · have := hkl c e; omega
        · omega
      · have h1 := hkl k e
        exact (Below.heap_setCell _ _ _ _ (by show k ≠ w.heap.size; omega)).trans ((C.block k (by omega) (fun z => hD (z ▸ e))).trans ((hK k (.inl (.inl (.inl e))) (fun z => hg (.inl (z ▸ e)))).trans (Below.heap_alloc _ _ _ h1)))
  | 2, _, h =>
    obtain ⟨g, c, hc, hp, hk⟩ := h
    refine (pinv_cas hc hp hk (fun w0 D' h => cs_s1 h (by decide) (by decide) (by decide) (by omega) (by omega))).mono ?_
    rintro e w' ⟨rfl, z⟩
    exact ⟨rfl, g, c, z⟩
  | 3, _, h =>
    obtain ⟨g, c, hc, hp, hk⟩ := h
    have hb2 := hM.b2
    have hb3 := hM.b3
    refine (pinv_cas hc hp hk (next' := 71) (cs' := cs2) (fun w0 D' h => by
      have z := cs_s2 (c := 68) h hM.b1 (by decide) (by decide) (by omega) (by omega)
      rw [hb2, hb3] at z
      exact z)).mono ?_
    rintro e w' ⟨rfl, z⟩
    exact ⟨rfl, g, c, z⟩
  | 4, _, h =>
    obtain ⟨g, c, hc, hp, hk⟩ := h
    have hc2 := hM.c2
    refine (pinv_cas hc hp hk (cs' := cs3) (fun w0 D' h => by
      have z := cs_s3 h hM.c1 (by decide) (by decide) (by omega) (by omega)
      rw [hc2] at z
      exact z)).mono ?_
    rintro e w' ⟨rfl, z⟩
    exact ⟨rfl, g, c, z⟩
  | 5, _, h =>
    obtain ⟨g, c, hc, hp, hk⟩ := h
    refine (pcasF hc (.inr rfl) hp (fun w1 => ∃ r, CS W m b v most w1 71 (made + 6) cs3 (n + 6) (fun k => DD D p k ∨ k = w.heap.size) c 172 (c3L 1 6 133 68 1 (.pointer (some ⟨r, 0, none⟩)) 4 true) (some r) 1 0 0) (fun w0 hc => cs_s4 (a := 69) hc (by decide) (by decide) (by omega) (by omega))).mono ?_
    rintro e w' ⟨rfl, w1, ⟨r, hq⟩, rfl, hd⟩
    exact ⟨rfl, g, c, r, hq.drop _, (hd p (.inr rfl)).trans hp, hk.step (fun k e => hd k (.inl e))⟩
  | 6, _, h =>
    obtain ⟨g, c, r, hc, hp, hk⟩ := h
    refine (pinv_cas hc hp hk (pos' := 2) (st' := 1) (fun w0 D' h => cs_s5 h (by decide) (by omega) (by omega))).mono ?_
    rintro e w' ⟨rfl, z⟩
    exact ⟨rfl, g, c, r, z⟩
  | 7, _, h =>
    obtain ⟨g, c, r, hc, hp, hk⟩ := h
    have hd1 := hM.d1
    have c0 := hc.alloc (.cells #[.bool false] 4)
    have hp0 : Blk (w.alloc (.cells #[.bool false] 4)) p 66 (L2 p q g c) := alloc_of hp _
    have hst := cs_s6 (a := 69) c0 (by decide) (by decide) (by omega) (by omega)
    rw [hd1] at hst
    have hd := do_swapT (x := 1) (fk := .pointer none) hp0 (.pointer (some ⟨v, 0, none⟩)) _ hst (fun y hy => (hy.2 p (.inl (.inr rfl))).trans hp0) (fun y hy => cs_errno (x := 0) hy.1.blk rfl) (fun y hy => cs_done (b := true) hy.1.blk rfl rfl)
    have hpl := lt_of hp
    refine (sput p _ true _ w (step_tDoSwapT hp0 rfl _ _ hd (fun w1 hr => ?_)) (fun w1 hr => ?_)).mono ?_
    · obtain ⟨y, hy, C, P⟩ := hr
      exact P.cell 16
    · obtain ⟨y, hy, C, P⟩ := hr
      have hyz := hy.1.sr.lt w.heap.size (.inl (.inr rfl))
      exact (C.block _ hyz (by show w.heap.size ≠ p; omega)).trans (hy.2 _ (.inr rfl))
    · rintro e w' ⟨rfl, w1, ⟨y, ⟨hC, hK⟩, C, P⟩, rfl⟩
      have hyz := hC.sr.lt w.heap.size (.inl (.inr rfl))
      have S1 : SR W m b v 0 most w1 71 (made + 8) cs4 (n + 8) (fun k => DD D p k ∨ k = w.heap.size) := (hC.sr.mono (E := fun k => DD D p k ∨ k = w.heap.size) (fun k e => .inl e)).put C (fun k e => .inl (.inr e))
      refine ⟨rfl, S1.drp _, hk.step (fun k e => ?_)⟩
      have h1 := hc.sr.lt k (.inl (.inl e))
      exact (Below.heap_setCell _ _ _ _ (by show k ≠ w.heap.size; omega)).trans ((C.block k (by omega) (fun z => hD (z ▸ e))).trans ((hK k (.inl (.inl e))).trans (Below.heap_alloc _ _ _ h1)))
end Go.Proofs.YtokooplfjibneaaGreat
