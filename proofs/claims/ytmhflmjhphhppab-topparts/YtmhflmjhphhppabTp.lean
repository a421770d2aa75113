/- Leaves, Forks and Ats alone; the way down by a mixed key's digits. -/
import Derived.Test.YtmhflmjhphhppabVa
import Derived.Test.YtmhflmjhphhppabNdWb
namespace Go.Proofs.Ytmhflmjhphhppab
open Go.RowKit Go.Shelf
set_option linter.unusedVariables false

theorem mt_step_at (a : Addr) (w : World) : (method 321 26 (.pointer (some a)) "Step").run Try.prog w = .ok (12, .pointer (some a)) w := by kernel_rfl
set_option maxRecDepth 100000 in
theorem so_at (p : Nat) (v : Value) (d : Bool) (K : World → Prop) (W : World)
    (hK : Calls Try.prog 12 #[.pointer (some ⟨p, 0, none⟩), v] (W.alloc (.cells #[.bool false] 4)) fun e W' => e = .returned (.bool d) ∧ K W' ∧ W'.heap[W.heap.size]? = (W.alloc (.cells #[.bool false] 4)).heap[W.heap.size]?) :
    Calls Try.prog 79 #[.iface 26 (.pointer (some ⟨p, 0, none⟩)), v] W fun e W' => e = .returned (.bool d) ∧ ∃ W1, K W1 ∧ W' = W1.setCell ⟨W.heap.size, 0, none⟩ (.bool d) := by
  have hmf : ∀ (fn : Fn) (first cap : Array Value) (w : World), (Instr.makeFunc fn first cap).run Try.prog w = .ok (.func fn first cap) w := fun _ _ _ _ => rfl
  have hm := mt_step_at ⟨p, 0, none⟩
  have HK := keepH hK
  clear hK
  go_enter_defers Try.func79, Try.ntmps79
  go_wp2_with fail
  refine HK.out.mono ?_
  rintro e W1 ⟨rfl, hR, hb0⟩
  have hb : W1.heap[W.heap.size]? = some (.cells #[.bool false] 4 (0, 0)) := hb0.trans (heap_alloc_new _ _)
  have c0 : W1.cell? ⟨W.heap.size, 0, none⟩ = some (.bool false) := cell_of hb 0
  have f0 := free_of hb 0
  have HR := keepH hR
  clear hR hb hb0
  go_wp2_with fail
  refine leaves_cons (f := 95) (args := #[.pointer (some ⟨W.heap.size, 0, none⟩)]) (by simp) (by simp [go_sem]) ?_
  refine (s_catch ⟨W.heap.size, 0, none⟩ _).mono ?_
  rintro e u' w'' ⟨rfl, rfl, rfl⟩
  have r0 := World.cell?_setCell_same' W1 ⟨W.heap.size, 0, none⟩ (.bool d) (by rw [c0]; rfl)
  simp [Leaves, settle, results, Try.results79, go_sem, r0]
  exact ⟨W1, HR.out, rfl⟩
theorem mt_step_leaf (a : Addr) (w : World) : (method 321 53 (.pointer (some a)) "Step").run Try.prog w = .ok (37, .pointer (some a)) w := by kernel_rfl
set_option maxRecDepth 100000 in
theorem so_leaf (p : Nat) (v : Value) (d : Bool) (K : World → Prop) (W : World)
    (hK : Calls Try.prog 37 #[.pointer (some ⟨p, 0, none⟩), v] (W.alloc (.cells #[.bool false] 4)) fun e W' => e = .returned (.bool d) ∧ K W' ∧ W'.heap[W.heap.size]? = (W.alloc (.cells #[.bool false] 4)).heap[W.heap.size]?) :
    Calls Try.prog 79 #[.iface 53 (.pointer (some ⟨p, 0, none⟩)), v] W fun e W' => e = .returned (.bool d) ∧ ∃ W1, K W1 ∧ W' = W1.setCell ⟨W.heap.size, 0, none⟩ (.bool d) := by
  have hmf : ∀ (fn : Fn) (first cap : Array Value) (w : World), (Instr.makeFunc fn first cap).run Try.prog w = .ok (.func fn first cap) w := fun _ _ _ _ => rfl
  have hm := mt_step_leaf ⟨p, 0, none⟩
  have HK := keepH hK
  clear hK
  go_enter_defers Try.func79, Try.ntmps79
  go_wp2_with fail
  refine HK.out.mono ?_
  rintro e W1 ⟨rfl, hR, hb0⟩
  have hb : W1.heap[W.heap.size]? = some (.cells #[.bool false] 4 (0, 0)) := hb0.trans (heap_alloc_new _ _)
  have c0 : W1.cell? ⟨W.heap.size, 0, none⟩ = some (.bool false) := cell_of hb 0
  have f0 := free_of hb 0
  have HR := keepH hR
  clear hR hb hb0
  go_wp2_with fail
  refine leaves_cons (f := 95) (args := #[.pointer (some ⟨W.heap.size, 0, none⟩)]) (by simp) (by simp [go_sem]) ?_
  refine (s_catch ⟨W.heap.size, 0, none⟩ _).mono ?_
  rintro e u' w'' ⟨rfl, rfl, rfl⟩
  have r0 := World.cell?_setCell_same' W1 ⟨W.heap.size, 0, none⟩ (.bool d) (by rw [c0]; rfl)
  simp [Leaves, settle, results, Try.results79, go_sem, r0]
  exact ⟨W1, HR.out, rfl⟩
theorem mt_step_fork (a : Addr) (w : World) : (method 321 54 (.pointer (some a)) "Step").run Try.prog w = .ok (38, .pointer (some a)) w := by kernel_rfl
set_option maxRecDepth 100000 in
theorem so_fork (p : Nat) (v : Value) (d : Bool) (K : World → Prop) (W : World)
    (hK : Calls Try.prog 38 #[.pointer (some ⟨p, 0, none⟩), v] (W.alloc (.cells #[.bool false] 4)) fun e W' => e = .returned (.bool d) ∧ K W' ∧ W'.heap[W.heap.size]? = (W.alloc (.cells #[.bool false] 4)).heap[W.heap.size]?) :
    Calls Try.prog 79 #[.iface 54 (.pointer (some ⟨p, 0, none⟩)), v] W fun e W' => e = .returned (.bool d) ∧ ∃ W1, K W1 ∧ W' = W1.setCell ⟨W.heap.size, 0, none⟩ (.bool d) := by
  have hmf : ∀ (fn : Fn) (first cap : Array Value) (w : World), (Instr.makeFunc fn first cap).run Try.prog w = .ok (.func fn first cap) w := fun _ _ _ _ => rfl
  have hm := mt_step_fork ⟨p, 0, none⟩
  have HK := keepH hK
  clear hK
  go_enter_defers Try.func79, Try.ntmps79
  go_wp2_with fail
  refine HK.out.mono ?_
  rintro e W1 ⟨rfl, hR, hb0⟩
  have hb : W1.heap[W.heap.size]? = some (.cells #[.bool false] 4 (0, 0)) := hb0.trans (heap_alloc_new _ _)
  have c0 : W1.cell? ⟨W.heap.size, 0, none⟩ = some (.bool false) := cell_of hb 0
  have f0 := free_of hb 0
  have HR := keepH hR
  clear hR hb hb0
  go_wp2_with fail
  refine leaves_cons (f := 95) (args := #[.pointer (some ⟨W.heap.size, 0, none⟩)]) (by simp) (by simp [go_sem]) ?_
  refine (s_catch ⟨W.heap.size, 0, none⟩ _).mono ?_
  rintro e u' w'' ⟨rfl, rfl, rfl⟩
  have r0 := World.cell?_setCell_same' W1 ⟨W.heap.size, 0, none⟩ (.bool d) (by rw [c0]; rfl)
  simp [Leaves, settle, results, Try.results79, go_sem, r0]
  exact ⟨W1, HR.out, rfl⟩

theorem ac_step {W : World} {m b v most : Nat} {w : World} {next made : Nat} {cs : List Nat} {n : Nat} {D : Nat → Prop} {p : Nat} {l l' : List Value} {cam : Nat} (h : CS W m b v most w next made cs n D p 115 l none cam 0 0) (d : Bool) {made' n' : Nat}
    (hs : ∀ w0 D0, CS W m b v most w0 next made cs n D0 p 115 l none cam 0 0 → Calls Try.prog 12 #[.pointer (some ⟨p, 0, none⟩), .pointer (some ⟨v, 0, none⟩)] w0 fun e w' => e = .returned (.bool d) ∧ CS W m b v most w' next made' cs n' D0 p 115 l' none cam 0 0 ∧ ∀ k, D0 k → w'.heap[k]? = w0.heap[k]?) :
    Calls Try.prog 79 #[.iface 26 (.pointer (some ⟨p, 0, none⟩)), .pointer (some ⟨v, 0, none⟩)] w fun e w' => e = .returned (.bool d) ∧ CS W m b v most w' next made' cs n' D p 115 l' none cam 0 0 ∧ ∀ k, D k → w'.heap[k]? = w.heap[k]? := by
  have c0 := h.alloc (.cells #[.bool false] 4)
  refine (so_at p _ d (fun w1 => CS W m b v most w1 next made' cs n' (fun k => D k ∨ k = w.heap.size) p 115 l' none cam 0 0 ∧ ∀ k, D k → w1.heap[k]? = w.heap[k]?) w ((hs _ _ c0).mono ?_)).mono ?_
  · rintro e w1 ⟨rfl, hq, hk⟩
    exact ⟨rfl, ⟨hq, fun k e => (hk k (.inl e)).trans (Below.heap_alloc _ _ _ (h.sr.lt k (.inl e)))⟩, hk _ (.inr rfl)⟩
  · rintro e w' ⟨rfl, w1, ⟨hq, hk⟩, rfl⟩
    exact ⟨rfl, hq.drop _, fun k e => (Below.heap_setCell _ _ _ _ (fun z => by have z' : k = w.heap.size := z; have := h.sr.lt k (.inl e); omega)).trans (hk k e)⟩

/-- An object with one version, of the stamp 1. -/
structure One (cs : List Nat) (obj V x : Nat) : Prop where
  at_ : cellN cs obj = V
  ne : V ≠ 0
  lt : V + 2 < 4096
  val : cellN cs V = x
  st : cellN cs (V + 1) = 1
  old : cellN cs (V + 2) = 0
def AInv (W : World) (m b v next made : Nat) (cs : List Nat) (D : Nat → Prop) (p cam obj st V x : Nat) (w0 : World) : Nat → World → Prop
  | 0, w => CS W m b v 4096 w next made cs made D p 115 (atL cam 0 0 obj 0 0 st 0 0) none cam 0 0 ∧ ∀ k, D k → w.heap[k]? = w0.heap[k]?
  | 1, w => CS W m b v 4096 w next (made + 1) cs (made + 1) D p 115 (atL cam V 0 obj 1 V st 0 0) none cam 0 0 ∧ ∀ k, D k → w.heap[k]? = w0.heap[k]?
  | 2, w => CS W m b v 4096 w next (made + 1 + 1) cs (made + 1 + 1) D p 115 (atL cam V 3 obj 2 V st 1 0) none cam 0 0 ∧ ∀ k, D k → w.heap[k]? = w0.heap[k]?
  | 3, w => CS W m b v 4096 w next (made + 1 + 1 + 1) cs (made + 1 + 1 + 1) D p 115 (atL cam V 3 obj 2 V st (if 1 ≤ st then 3 else 2) 0) none cam 0 0 ∧ ∀ k, D k → w.heap[k]? = w0.heap[k]?
  | _, w => (∃ hd, CS W m b v 4096 w next (made + 1 + 1 + 1 + 1) cs (made + 1 + 1 + 1 + 1) D p 115 (atL cam V 3 obj 2 hd st 4 (if 1 ≤ st then x else 0)) none cam 0 0) ∧ ∀ k, D k → w.heap[k]? = w0.heap[k]?
theorem ainv_step {W : World} {m b v next made : Nat} {cs : List Nat} {D : Nat → Prop} {p cam obj st V x : Nat} {w0 : World} (hO : One cs obj V x) (ho : obj < 18446744073709551616) (hm : made ≤ 1000000) (i : Nat) (w : World) (hi : i ≤ 3) (h : AInv W m b v next made cs D p cam obj st V x w0 i w) :
    Calls Try.prog 79 #[.iface 26 (.pointer (some ⟨p, 0, none⟩)), .pointer (some ⟨v, 0, none⟩)] w fun e w' => e = .returned (.bool (decide (i = 3))) ∧ AInv W m b v next made cs D p cam obj st V x w0 (i + 1) w' := by
  have hlt := hO.lt
  match i, hi, h with
  | 0, _, h =>
    refine (ac_step h.1 false (fun w0 D0 hc => at_s1 hc hO.at_ hO.ne ho (by omega) (by omega))).mono ?_
    rintro e w' ⟨rfl, hc, hk⟩
    exact ⟨rfl, hc, fun k e => (hk k e).trans (h.2 k e)⟩
  | 1, _, h =>
    refine (ac_step h.1 false (fun w0 D0 hc => at_s2 (a := V + 1) (s := 1) hc (by omega) hO.st (by decide) hO.ne (by omega) (by omega))).mono ?_
    rintro e w' ⟨rfl, hc, hk⟩
    exact ⟨rfl, hc, fun k e => (hk k e).trans (h.2 k e)⟩
  | 2, _, h =>
    refine (ac_step h.1 false (fun w0 D0 hc => at_s3 (a := V + 1) (s := 1) hc (by omega) hO.st (by omega) (by omega))).mono ?_
    rintro e w' ⟨rfl, hc, hk⟩
    exact ⟨rfl, hc, fun k e => (hk k e).trans (h.2 k e)⟩
  | 3, _, h =>
    by_cases c : 1 ≤ st
    · have h1 := h.1
      rw [if_pos c] at h1
      refine (ac_step h1 true (fun w0 D0 hc => at_s4 (x := x) hc hO.val (by omega) (by omega) (by omega))).mono ?_
      rintro e w' ⟨rfl, hc, hk⟩
      refine ⟨rfl, ⟨V, ?_⟩, fun k e => (hk k e).trans (h.2 k e)⟩
      rw [if_pos c]
      exact hc
    · have h1 := h.1
      rw [if_neg c] at h1
      refine (ac_step h1 true (fun w0 D0 hc => at_s5 (a := V + 2) hc (by omega) hO.old (by omega) (by omega))).mono ?_
      rintro e w' ⟨rfl, hc, hk⟩
      refine ⟨rfl, ⟨0, ?_⟩, fun k e => (hk k e).trans (h.2 k e)⟩
      rw [if_neg c]
      exact hc
theorem at_alone {W : World} {m b v next made : Nat} {cs : List Nat} {D : Nat → Prop} {p cam obj st V x : Nat} {w : World} (hO : One cs obj V x) (ho : obj < 18446744073709551616) (hm : made ≤ 1000000) (h : CS W m b v 4096 w next made cs made D p 115 (atL cam 0 0 obj 0 0 st 0 0) none cam 0 0) :
    Calls Try.prog 49 #[.pointer (some ⟨v, 0, none⟩), .iface 26 (.pointer (some ⟨p, 0, none⟩)), .int .i64 10] w fun e w' => e = .returned (.bool true) ∧ (∃ hd, CS W m b v 4096 w' next (made + 4) cs (made + 4) D p 115 (atL cam V 3 obj 2 hd st 4 (if 1 ≤ st then x else 0)) none cam 0 0) ∧ ∀ k, D k → w'.heap[k]? = w.heap[k]? :=
  alone_any (.iface 26 (.pointer (some ⟨p, 0, none⟩))) (.pointer (some ⟨v, 0, none⟩)) (AInv W m b v next made cs D p cam obj st V x w) 3 10 (by omega) (by omega) w ⟨h, fun _ _ => rfl⟩ (fun i w' hi hI => ainv_step hO ho hm i w' hi hI)

theorem SR.drop {W : World} {m b v : Nat} {th : Int} {most : Nat} {w : World} {next made : Nat} {cs : List Nat} {n : Nat} {D : Nat → Prop} {g : Nat} (h : SR W m b v th most w next made cs n (fun k => D k ∨ k = g)) (u : Value) : SR W m b v th most (w.setCell ⟨g, 0, none⟩ u) next made cs n D :=
  (h.put (setP (p := g) (i := 0) u) (fun k e => .inr e)).mono (fun k e => .inl e)
theorem leaf_alone {W : World} {m b v next made n k x a p : Nat} {cs : List Nat} {D : Nat → Prop} {w : World} (h : SR W m b v 0 4096 w next made cs n (with1 D p)) (hD : ¬ D p) (hp : IsLeaf w p false 0 k x 0) (hk : k < 18446744073709551616) (hx : x < 18446744073709551616) (hn : 1 ≤ next) (ea : alAt 4096 next 2 = a) (ha : a ≠ 0) (h1 : made < 1000000) (h2 : n < 1000000) :
    Calls Try.prog 49 #[.pointer (some ⟨v, 0, none⟩), .iface 53 (.pointer (some ⟨p, 0, none⟩)), .int .i64 1] w fun e w' => e = .returned (.bool true) ∧ IsLeaf w' p true 0 k x (2 * a + 1) ∧ SR W m b v 0 4096 w' (alNext 4096 next 2) (made + 1) (alN 4096 next cs [k, x]) (n + 1) (with1 D p) ∧ ∀ j, D j → w'.heap[j]? = w.heap[j]? := by
  refine (alone_any (.iface 53 (.pointer (some ⟨p, 0, none⟩))) (.pointer (some ⟨v, 0, none⟩)) (fun i w' => if i = 0 then w' = w else IsLeaf w' p true 0 k x (2 * a + 1) ∧ SR W m b v 0 4096 w' (alNext 4096 next 2) (made + 1) (alN 4096 next cs [k, x]) (n + 1) (with1 D p) ∧ ∀ j, D j → w'.heap[j]? = w.heap[j]?) 0 1 (by omega) (by omega) w rfl (fun i w1 hi hI => ?_)).mono ?_
  · obtain rfl : i = 0 := by omega
    have hI' : w1 = w := hI
    subst hI'
    have c0 := h.alloc (.cells #[.bool false] 4)
    have P0 : IsLeaf (w1.alloc (.cells #[.bool false] 4)) p false 0 k x 0 := alloc_of hp _
    have hpl := lt_of hp
    refine (so_leaf p _ true (fun w2 => IsLeaf w2 p true 0 k x (2 * a + 1) ∧ SR W m b v 0 4096 w2 (alNext 4096 next 2) (made + 1) (alN 4096 next cs [k, x]) (n + 1) (fun j => with1 D p j ∨ j = w1.heap.size) ∧ ∀ j, D j → w2.heap[j]? = w1.heap[j]?) w1 ?_).mono ?_
    · obtain ⟨F, l, S, hl, A⟩ := c0
      have dp : (fun j => with1 D p j ∨ j = w1.heap.size) p := .inl (.inr rfl)
      have ap := A p dp
      refine (leaf_step p v b 4096 next made k x 0 F cs l _ P0 S.view S.bank S.nv ap.1 ap.2.1 (by omega) (by omega) hk hx a ea (by omega) hn).mono ?_
      rintro e w2 ⟨rfl, L2, G⟩
      rw [if_neg ha, if_neg ha] at L2
      have S' := SR.went S hl A dp G (fun vs => by simp)
      exact ⟨rfl, ⟨L2, S'.1, fun j e => (S'.2 j (.inl (.inl e)) (fun z => hD (z ▸ e))).trans (Below.heap_alloc _ _ _ (h.lt j (.inl e)))⟩, S'.2 _ (.inr rfl) (by omega)⟩
    · rintro e w3 ⟨rfl, w2, ⟨L2, S2, K2⟩, rfl⟩
      refine ⟨rfl, ?_⟩
      rw [if_neg (by omega)]
      exact ⟨(Below.heap_setCell _ _ _ _ (by show p ≠ w1.heap.size; omega)).trans L2, S2.drop _, fun j e => (Below.heap_setCell _ _ _ _ (fun z => by have z' : j = w1.heap.size := z; have := h.lt j (.inl e); omega)).trans (K2 j e)⟩
  · rintro e w' ⟨rfl, hI⟩
    rw [if_neg (by omega)] at hI
    exact ⟨rfl, hI⟩
theorem FInv.drop {W : World} {m b v p aw ha bw hb tp L B m0 : Nat} {D : Nat → Prop} {s g : Nat} {w : World} (h : FInv W m b v p aw ha bw hb tp L B m0 (fun k => D k ∨ k = g) s w) (hg : p ≠ g) (u : Value) : FInv W m b v p aw ha bw hb tp L B m0 D s (w.setCell ⟨g, 0, none⟩ u) := by
  have sr : ∀ {nx md : Nat} {cs : List Nat} {n : Nat}, SR W m b v 0 4096 w nx md cs n (with1 (fun k => D k ∨ k = g) p) → SR W m b v 0 4096 (w.setCell ⟨g, 0, none⟩ u) nx md cs n (with1 D p) := fun z => (z.put (setP (p := g) (i := 0) u) (fun k e => .inl (.inr e))).mono (fun k e => e.elim (fun e => .inl (.inl e)) .inr)
  have pk : ∀ {ov er aw' am bw' bm t lv cells ps wd}, IsFork w p ov er aw' am bw' bm t lv cells ps wd → IsFork (w.setCell ⟨g, 0, none⟩ u) p ov er aw' am bw' bm t lv cells ps wd := fun z => z.chg (setC (p := g) u) hg
  rcases h with ⟨e, cs, S, P⟩ | ⟨e, cs, S, c3, P⟩ | ⟨J, cs, e, hJ, S, M, P⟩ | ⟨J, cs, e, hJ, S, M, BR, P⟩
  · exact .inl ⟨e, cs, sr S, pk P⟩
  · exact .inr (.inl ⟨e, cs, sr S, c3, pk P⟩)
  · exact .inr (.inr (.inl ⟨J, cs, e, hJ, sr S, M, pk P⟩))
  · exact .inr (.inr (.inr ⟨J, cs, e, hJ, sr S, M, BR, pk P⟩))
theorem FInv.alloc {W : World} {m b v p aw ha bw hb tp L B m0 : Nat} {D : Nat → Prop} {s : Nat} {w : World} (h : FInv W m b v p aw ha bw hb tp L B m0 D s w) (o : Obj) : FInv W m b v p aw ha bw hb tp L B m0 (fun k => D k ∨ k = w.heap.size) s (w.alloc o) := by
  have sr : ∀ {nx md : Nat} {cs : List Nat} {n : Nat}, SR W m b v 0 4096 w nx md cs n (with1 D p) → SR W m b v 0 4096 (w.alloc o) nx md cs n (with1 (fun k => D k ∨ k = w.heap.size) p) := fun z => (z.alloc o).mono (fun k e => by
    rcases e with (e | e) | e
    · exact .inl (.inl e)
    · exact .inr e
    · exact .inl (.inr e))
  have pk : ∀ {ov er aw' am bw' bm t lv cells ps wd}, IsFork w p ov er aw' am bw' bm t lv cells ps wd → IsFork (w.alloc o) p ov er aw' am bw' bm t lv cells ps wd := fun z => z.chg (F := fun _ => False) ((Chg.refl _ _).alloc _) (fun x => x)
  rcases h with ⟨e, cs, S, P⟩ | ⟨e, cs, S, c3, P⟩ | ⟨J, cs, e, hJ, S, M, P⟩ | ⟨J, cs, e, hJ, S, M, BR, P⟩
  · exact .inl ⟨e, cs, sr S, pk P⟩
  · exact .inr (.inl ⟨e, cs, sr S, c3, pk P⟩)
  · exact .inr (.inr (.inl ⟨J, cs, e, hJ, sr S, M, pk P⟩))
  · exact .inr (.inr (.inr ⟨J, cs, e, hJ, sr S, M, BR, pk P⟩))
theorem FDone.drop {W : World} {m b v p aw ha bw hb tp L B m0 : Nat} {D : Nat → Prop} {g : Nat} {w : World} (h : FDone W m b v p aw ha bw hb tp L B m0 (fun k => D k ∨ k = g) w) (hg : p ≠ g) (u : Value) : FDone W m b v p aw ha bw hb tp L B m0 D (w.setCell ⟨g, 0, none⟩ u) := by
  obtain ⟨cs, nx, S, M, BR, P⟩ := h
  exact ⟨cs, nx, (S.put (setP (p := g) (i := 0) u) (fun k e => .inl (.inr e))).mono (fun k e => e.elim (fun e => .inl (.inl e)) .inr), M, BR, P.chg (setC (p := g) u) hg⟩
theorem FInv.lt {W : World} {m b v p aw ha bw hb tp L B m0 : Nat} {D : Nat → Prop} {s : Nat} {w : World} (h : FInv W m b v p aw ha bw hb tp L B m0 D s w) : p < w.heap.size ∧ ∀ k, D k → k < w.heap.size := by
  rcases h with ⟨e, cs, S, P⟩ | ⟨e, cs, S, c3, P⟩ | ⟨J, cs, e, hJ, S, M, P⟩ | ⟨J, cs, e, hJ, S, M, BR, P⟩
  all_goals exact ⟨S.lt _ (.inr rfl), fun k e => S.lt k (.inl e)⟩
theorem fork_alone {W : World} {m b v p aw ha bw hb tp L B m0 : Nat} {D : Nat → Prop} {w : World} (h : FInv W m b v p aw ha bw hb tp L B m0 D 0 w) (hL : partN ha hb tp = some L) (h0 : ha < 18446744073709551616) (h1 : hb < 18446744073709551616) (hA : aw < 18446744073709551616) (hB : bw < 18446744073709551616) (hb1 : 1 ≤ B) (hb2 : B ≤ 1000) (hm0 : m0 ≤ 1000) (hDp : ¬ D p) :
    Calls Try.prog 49 #[.pointer (some ⟨v, 0, none⟩), .iface 54 (.pointer (some ⟨p, 0, none⟩)), .int .i64 40] w fun e w' => e = .returned (.bool true) ∧ FDone W m b v p aw ha bw hb tp L B m0 D w' ∧ ∀ k, D k → w'.heap[k]? = w.heap[k]? := by
  obtain ⟨q1, q2, q3, q4⟩ := partF_some _ _ _ _ _ hL
  refine (alone_any (.iface 54 (.pointer (some ⟨p, 0, none⟩))) (.pointer (some ⟨v, 0, none⟩)) (fun i w' => (if i ≤ 2 * (L - tp) + 2 then FInv W m b v p aw ha bw hb tp L B m0 D i w' else FDone W m b v p aw ha bw hb tp L B m0 D w') ∧ ∀ k, D k → w'.heap[k]? = w.heap[k]?) (2 * (L - tp) + 2) 40 (by omega) (by omega) w ⟨by rw [if_pos (by omega)]; exact h, fun _ _ => rfl⟩ (fun i w1 hi hI => ?_)).mono ?_
  · obtain ⟨hF, hK⟩ := hI
    rw [if_pos hi] at hF
    have f0 := hF.alloc (.cells #[.bool false] 4)
    have hlt := hF.lt
    have st := finv_step f0 hL h0 h1 hA hB hb1 hb2 hm0 (fun e => e.elim hDp (fun z => by omega))
    refine (so_fork p _ (decide (i = 2 * (L - tp) + 2)) (fun w2 => (if i + 1 ≤ 2 * (L - tp) + 2 then FInv W m b v p aw ha bw hb tp L B m0 (fun k => D k ∨ k = w1.heap.size) (i + 1) w2 else FDone W m b v p aw ha bw hb tp L B m0 (fun k => D k ∨ k = w1.heap.size) w2) ∧ ∀ k, D k → w2.heap[k]? = w1.heap[k]?) w1 (st.mono ?_)).mono ?_
    · rintro e w2 ⟨d, rfl, hc, hk⟩
      have kk : ∀ k, D k → w2.heap[k]? = w1.heap[k]? := fun k e => (hk k (.inl e)).trans (Below.heap_alloc _ _ _ (hlt.2 k e))
      rcases hc with ⟨rfl, hF2, hlt2⟩ | ⟨rfl, heq, hD2⟩
      · refine ⟨by rw [decide_eq_false (by omega)], ⟨?_, kk⟩, hk _ (.inr rfl)⟩
        rw [if_pos (by omega)]
        exact hF2
      · refine ⟨by rw [decide_eq_true (by omega)], ⟨?_, kk⟩, hk _ (.inr rfl)⟩
        rw [if_neg (by omega)]
        exact hD2
    · rintro e w3 ⟨rfl, w2, ⟨hc, kk⟩, rfl⟩
      refine ⟨rfl, ?_, fun k e => (Below.heap_setCell _ _ _ _ (fun z => by have z' : k = w1.heap.size := z; have := hlt.2 k e; omega)).trans ((kk k e).trans (hK k e))⟩
      by_cases c : i + 1 ≤ 2 * (L - tp) + 2
      · rw [if_pos c] at hc ⊢
        exact hc.drop (by omega) _
      · rw [if_neg c] at hc ⊢
        exact hc.drop (by omega) _
  · rintro e w' ⟨rfl, hF, hK⟩
    rw [if_neg (by omega)] at hF
    exact ⟨rfl, hF, hK⟩
end Go.Proofs.Ytmhflmjhphhppab
