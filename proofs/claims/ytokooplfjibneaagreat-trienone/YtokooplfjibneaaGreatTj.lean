/- The trie's procs alone: the states of a memory with procs beside it. -/
import Derived.Test.YtokooplfjibneaaGreatTg
namespace Go.Proofs.YtokooplfjibneaaGreat
open Go.RowKit Go.Shelf
set_option linter.unusedVariables false

theorem mt_step_tput (a : Addr) (w : World) : (method 312 26 (.pointer (some a)) "Step").run Tryz.prog w = .ok (8, .pointer (some a)) w := by kernel_rfl
set_option maxRecDepth 100000 in
theorem so_tput (p : Nat) (v : Value) (d : Bool) (K : World → Prop) (W : World)
    (hK : Calls Tryz.prog 8 #[.pointer (some ⟨p, 0, none⟩), v] (W.alloc (.cells #[.bool false] 4)) fun e W' => e = .returned (.bool d) ∧ K W' ∧ W'.heap[W.heap.size]? = (W.alloc (.cells #[.bool false] 4)).heap[W.heap.size]?) :
    Calls Tryz.prog 39 #[.iface 26 (.pointer (some ⟨p, 0, none⟩)), v] W fun e W' => e = .returned (.bool d) ∧ ∃ W1, K W1 ∧ W' = W1.setCell ⟨W.heap.size, 0, none⟩ (.bool d) := by
  have hmf : ∀ (fn : Fn) (first cap : Array Value) (w : World), (Instr.makeFunc fn first cap).run Tryz.prog w = .ok (.func fn first cap) w := fun _ _ _ _ => rfl
  have hm := mt_step_tput ⟨p, 0, none⟩
  have HK := keepH hK
  clear hK
  go_enter_defers Tryz.func39, Tryz.ntmps39
  go_wp2_with fail
  refine HK.out.mono ?_
  rintro e W1 ⟨rfl, hR, hb0⟩
  have hb : W1.heap[W.heap.size]? = some (.cells #[.bool false] 4 (0, 0)) := hb0.trans (heap_alloc_new _ _)
  have c0 : W1.cell? ⟨W.heap.size, 0, none⟩ = some (.bool false) := cell_of hb 0
  have f0 := free_of hb 0
  have HR := keepH hR
  clear hR hb hb0
  go_wp2_with fail
  refine leaves_cons (f := 55) (args := #[.pointer (some ⟨W.heap.size, 0, none⟩)]) (by simp) (by simp [go_sem]) ?_
  refine (s_catch ⟨W.heap.size, 0, none⟩ _).mono ?_
  rintro e u' w'' ⟨rfl, rfl, rfl⟩
  have r0 := World.cell?_setCell_same' W1 ⟨W.heap.size, 0, none⟩ (.bool d) (by rw [c0]; rfl)
  simp [Leaves, settle, results, Tryz.results39, go_sem, r0]
  exact ⟨W1, HR.out, rfl⟩

theorem mt_step_tfind (a : Addr) (w : World) : (method 312 25 (.pointer (some a)) "Step").run Tryz.prog w = .ok (7, .pointer (some a)) w := by kernel_rfl
set_option maxRecDepth 100000 in
theorem so_tfind (p : Nat) (v : Value) (d : Bool) (K : World → Prop) (W : World)
    (hK : Calls Tryz.prog 7 #[.pointer (some ⟨p, 0, none⟩), v] (W.alloc (.cells #[.bool false] 4)) fun e W' => e = .returned (.bool d) ∧ K W' ∧ W'.heap[W.heap.size]? = (W.alloc (.cells #[.bool false] 4)).heap[W.heap.size]?) :
    Calls Tryz.prog 39 #[.iface 25 (.pointer (some ⟨p, 0, none⟩)), v] W fun e W' => e = .returned (.bool d) ∧ ∃ W1, K W1 ∧ W' = W1.setCell ⟨W.heap.size, 0, none⟩ (.bool d) := by
  have hmf : ∀ (fn : Fn) (first cap : Array Value) (w : World), (Instr.makeFunc fn first cap).run Tryz.prog w = .ok (.func fn first cap) w := fun _ _ _ _ => rfl
  have hm := mt_step_tfind ⟨p, 0, none⟩
  have HK := keepH hK
  clear hK
  go_enter_defers Tryz.func39, Tryz.ntmps39
  go_wp2_with fail
  refine HK.out.mono ?_
  rintro e W1 ⟨rfl, hR, hb0⟩
  have hb : W1.heap[W.heap.size]? = some (.cells #[.bool false] 4 (0, 0)) := hb0.trans (heap_alloc_new _ _)
  have c0 : W1.cell? ⟨W.heap.size, 0, none⟩ = some (.bool false) := cell_of hb 0
  have f0 := free_of hb 0
  have HR := keepH hR
  clear hR hb hb0
  go_wp2_with fail
  refine leaves_cons (f := 55) (args := #[.pointer (some ⟨W.heap.size, 0, none⟩)]) (by simp) (by simp [go_sem]) ?_
  refine (s_catch ⟨W.heap.size, 0, none⟩ _).mono ?_
  rintro e u' w'' ⟨rfl, rfl, rfl⟩
  have r0 := World.cell?_setCell_same' W1 ⟨W.heap.size, 0, none⟩ (.bool d) (by rw [c0]; rfl)
  simp [Leaves, settle, results, Tryz.results39, go_sem, r0]
  exact ⟨W1, HR.out, rfl⟩

theorem SR.wentM {W : World} {m b v p most : Nat} {w w' : World} {next made next' n : Nat} {cs cs' : List Nat} {D F : Nat → Prop} {l : List Acc} {f : Value → List Acc} (S : St W w m b v F 0 most next made cs l) (hL : l.length = n) (A : ∀ k, D k → ¬ F k ∧ k ≠ v ∧ k ≠ m ∧ W.heap.size ≤ k ∧ k < w.heap.size) (hp : D p) (hw : Went w w' F v p b most next' cs' 0 (made + 1) f) (hf : ∀ vs, (f vs).length = l.length + 1) :
    SR W m b v 0 most w' next' (made + 1) cs' (n + 1) D ∧ ∀ k, D k → k ≠ p → w'.heap[k]? = w.heap[k]? := by
  obtain ⟨F', vs, B, V, G⟩ := hw
  have a := A p hp
  refine ⟨⟨F', f vs, ⟨B, V, S.mem.chg G.chg (fun e => e.elim (fun e => e.elim S.nm S.mv) (fun e => a.2.2.1 e.symm)), fun x => (G.new v x).elim S.nv (fun y => by have := S.view.lt; omega), fun x => (G.new m x).elim S.nm (fun y => by have := S.mem.lt; omega), S.mv, fun k e => (G.new k e).elim (S.inF k) (fun e => Nat.le_trans S.chg.size e), S.hv, S.chg.trans G.chg (fun _ _ x => x) (fun i hi x => x.elim (fun x => x.elim (fun y => by have := S.inF i y; omega) (fun y => by have := S.hv; omega)) (fun y => by omega))⟩, by rw [hf, hL], fun k hk => ?_⟩, fun k hk hne => G.chg.block k (A k hk).2.2.2.2 (fun e => e.elim (fun e => e.elim (A k hk).1 (A k hk).2.1) hne)⟩
  exact ⟨fun x => (G.new k x).elim (A k hk).1 (fun y => by have := (A k hk).2.2.2.2; omega), (A k hk).2.1, (A k hk).2.2.1, (A k hk).2.2.2.1, Nat.lt_of_lt_of_le (A k hk).2.2.2.2 G.chg.size⟩
theorem SR.drp {W : World} {m b v : Nat} {th : Int} {most : Nat} {w : World} {next made : Nat} {cs : List Nat} {n : Nat} {D : Nat → Prop} {g : Nat} (h : SR W m b v th most w next made cs n (fun k => D k ∨ k = g)) (u : Value) : SR W m b v th most (w.setCell ⟨g, 0, none⟩ u) next made cs n D :=
  (h.put (setP (p := g) (i := 0) u) (fun k e => .inr e)).mono (fun k e => .inl e)
theorem SR.fresh {W : World} {m b v : Nat} {th : Int} {most : Nat} {w w' : World} {next made : Nat} {cs : List Nat} {n : Nat} {D G : Nat → Prop} (h : SR W m b v th most w next made cs n D) (c : Chg G w w') (hG : ∀ k, G k → D k) (g : Nat) (hg : w.heap.size ≤ g) (hl : g < w'.heap.size) : SR W m b v th most w' next made cs n (fun k => D k ∨ k = g) := by
  have h2 := h.put c hG
  have hz : W.heap.size ≤ w.heap.size := h.chg.size
  obtain ⟨F, l, S, L, A⟩ := h
  have z1 := S.view.lt
  have z2 := S.mem.lt
  refine ⟨F, l, S.chgG c (fun k hk e => (A k (hG k e)).1 hk) (fun e => (A _ (hG _ e)).2.1 rfl) (fun e => (A _ (hG _ e)).2.2.1 rfl) (fun k hk e => by have := (A k (hG k e)).2.2.2.1; omega), L, fun k e => e.elim (fun e => ⟨(A k e).1, (A k e).2.1, (A k e).2.2.1, (A k e).2.2.2.1, Nat.lt_of_lt_of_le (A k e).2.2.2.2 c.size⟩) (fun e => ?_)⟩
  subst e
  exact ⟨fun x => by have := S.bank.lt' _ x; omega, by omega, by omega, by omega, hl⟩
def r4L (cam obj : Nat) : List Value := fndL cam 0 0 (.pointer none) obj 2 0 [.int .u8 2, .int .u64 0]
set_option maxHeartbeats 1000000 in
theorem rd_s0 {W : World} {m b v most : Nat} {w : World} {next made : Nat} {cs : List Nat} {n : Nat} {D : Nat → Prop} {p : Nat} {cam obj st : Nat} (h : CS W m b v most w next made cs n D p 150 (r0L cam obj) none cam 0 st) (hc : cellN cs obj = 0) (ho : obj < 18446744073709551616) (h1 : made < 1099511627776) (h2 : n < 1099511627776) :
    Calls Tryz.prog 74 #[.pointer (some ⟨p, 0, none⟩), .pointer (some ⟨v, 0, none⟩)] w fun e w' => e = .returned (.bool true) ∧ CS W m b v most w' next (made + 1) cs (n + 1) D p 150 (r4L cam obj) none cam 0 st ∧ ∀ k, D k → w'.heap[k]? = w.heap[k]? := by
  have hL := h.sr.load obj ho h1 h2
  rw [hc] at hL
  have hF := find_load (c := 0) h.blk (.pointer (some ⟨v, 0, none⟩)) _ hL (fun x hx => (hx.2 p CS.dp).trans h.blk)
  have hR := read_find0 h.blk rfl (.pointer (some ⟨v, 0, none⟩)) _ hF (fun y hy => by
    obtain ⟨x, hx, B, C⟩ := hy
    exact ⟨_, B, rfl, rfl⟩)
  refine (readstep_any (.pointer (some ⟨v, 0, none⟩)) true _ hR).mono ?_
  rintro e w' ⟨rfl, y, ⟨x, hx, B, C⟩, rfl⟩
  exact ⟨rfl, h.fin hx.1 (fun k e _ => hx.2 k e) ((C.trans (setP _) (fun _ _ x => x) (fun _ _ x => x)).trans (setP _) (fun _ _ x => x) (fun _ _ x => x)) ((B.set 7 _).set 7 _)⟩
theorem sput (p : Nat) (V : Value) (d : Bool) (R : World → Prop) (w : World) (hN : Calls Tryz.prog 27 #[.pointer (some ⟨p, 0, none⟩), V] (w.alloc (.cells #[.bool false] 4)) fun e w1 => e = .returned (.bool d) ∧ R w1) (hB : ∀ w1, R w1 → w1.heap[w.heap.size]? = (w.alloc (.cells #[.bool false] 4)).heap[w.heap.size]?) :
    Calls Tryz.prog 39 #[.iface 26 (.pointer (some ⟨p, 0, none⟩)), V] w fun e w' => e = .returned (.bool d) ∧ ∃ w1, R w1 ∧ w' = w1.setCell ⟨w.heap.size, 0, none⟩ (.bool d) :=
  so_tput p V d R w ((step_Put V d _ hN).mono (by
    rintro e w1 ⟨rfl, hr⟩
    exact ⟨rfl, hr, hB w1 hr⟩))
theorem sfind (p : Nat) (V : Value) (d : Bool) (R : World → Prop) (w : World) (hN : Calls Tryz.prog 27 #[.pointer (some ⟨p, 0, none⟩), V] (w.alloc (.cells #[.bool false] 4)) fun e w1 => e = .returned (.bool d) ∧ R w1) (hB : ∀ w1, R w1 → w1.heap[w.heap.size]? = (w.alloc (.cells #[.bool false] 4)).heap[w.heap.size]?) :
    Calls Tryz.prog 39 #[.iface 25 (.pointer (some ⟨p, 0, none⟩)), V] w fun e w' => e = .returned (.bool d) ∧ ∃ w1, R w1 ∧ w' = w1.setCell ⟨w.heap.size, 0, none⟩ (.bool d) :=
  so_tfind p V d R w ((step_Find V d _ hN).mono (by
    rintro e w1 ⟨rfl, hr⟩
    exact ⟨rfl, hr, hB w1 hr⟩))
end Go.Proofs.YtokooplfjibneaaGreat
