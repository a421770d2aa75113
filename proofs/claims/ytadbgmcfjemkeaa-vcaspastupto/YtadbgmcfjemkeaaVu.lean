/- Procs alone; what must be whatever is asked (layer 9). -/
import Derived.Test.YtadbgmcfjemkeaaVt
import Derived.Test.YtadbgmcfjemkeaaSOf
import Derived.Defers
import Derived.Recover
namespace Go.Proofs.Ytadbgmcfjemkeaa
open Go.RowKit Go.Shelf
set_option linter.unusedVariables false

theorem mt_step_cas (a : Addr) (w : World) : (method 292 53 (.pointer (some a)) "Step").run Try.prog w = .ok (81, .pointer (some a)) w := by kernel_rfl
set_option maxRecDepth 100000 in
theorem so_cas (p : Nat) (v : Value) (d : Bool) (K : World → Prop) (W : World)
    (hK : Calls Try.prog 81 #[.pointer (some ⟨p, 0, none⟩), v] (W.alloc (.cells #[.bool false] 4)) fun e W' => e = .returned (.bool d) ∧ K W' ∧ W'.heap[W.heap.size]? = (W.alloc (.cells #[.bool false] 4)).heap[W.heap.size]?) :
    Calls Try.prog 35 #[.iface 53 (.pointer (some ⟨p, 0, none⟩)), v] W fun e W' => e = .returned (.bool d) ∧ ∃ W1, K W1 ∧ W' = W1.setCell ⟨W.heap.size, 0, none⟩ (.bool d) := by
  have hmf : ∀ (fn : Fn) (first cap : Array Value) (w : World), (Instr.makeFunc fn first cap).run Try.prog w = .ok (.func fn first cap) w := fun _ _ _ _ => rfl
  have hm := mt_step_cas ⟨p, 0, none⟩
  have HK := keepH hK
  clear hK
  go_enter_defers Try.func35, Try.ntmps35
  go_wp2_with fail
  refine HK.out.mono ?_
  rintro e W1 ⟨rfl, hR, hb0⟩
  have hb : W1.heap[W.heap.size]? = some (.cells #[.bool false] 4 (0, 0)) := hb0.trans (heap_alloc_new _ _)
  have c0 : W1.cell? ⟨W.heap.size, 0, none⟩ = some (.bool false) := cell_of hb 0
  have f0 := free_of hb 0
  have HR := keepH hR
  clear hR hb hb0
  go_wp2_with fail
  refine leaves_cons (f := 47) (args := #[.pointer (some ⟨W.heap.size, 0, none⟩)]) (by simp) (by simp [go_sem]) ?_
  refine (s_catch ⟨W.heap.size, 0, none⟩ _).mono ?_
  rintro e u' w'' ⟨rfl, rfl, rfl⟩
  have r0 := World.cell?_setCell_same' W1 ⟨W.heap.size, 0, none⟩ (.bool d) (by rw [c0]; rfl)
  simp [Leaves, settle, results, Try.results35, go_sem, r0]
  exact ⟨W1, HR.out, rfl⟩
theorem mt_step_read (a : Addr) (w : World) : (method 292 52 (.pointer (some a)) "Step").run Try.prog w = .ok (72, .pointer (some a)) w := by kernel_rfl
set_option maxRecDepth 100000 in
theorem so_read (p : Nat) (v : Value) (d : Bool) (K : World → Prop) (W : World)
    (hK : Calls Try.prog 72 #[.pointer (some ⟨p, 0, none⟩), v] (W.alloc (.cells #[.bool false] 4)) fun e W' => e = .returned (.bool d) ∧ K W' ∧ W'.heap[W.heap.size]? = (W.alloc (.cells #[.bool false] 4)).heap[W.heap.size]?) :
    Calls Try.prog 35 #[.iface 52 (.pointer (some ⟨p, 0, none⟩)), v] W fun e W' => e = .returned (.bool d) ∧ ∃ W1, K W1 ∧ W' = W1.setCell ⟨W.heap.size, 0, none⟩ (.bool d) := by
  have hmf : ∀ (fn : Fn) (first cap : Array Value) (w : World), (Instr.makeFunc fn first cap).run Try.prog w = .ok (.func fn first cap) w := fun _ _ _ _ => rfl
  have hm := mt_step_read ⟨p, 0, none⟩
  have HK := keepH hK
  clear hK
  go_enter_defers Try.func35, Try.ntmps35
  go_wp2_with fail
  refine HK.out.mono ?_
  rintro e W1 ⟨rfl, hR, hb0⟩
  have hb : W1.heap[W.heap.size]? = some (.cells #[.bool false] 4 (0, 0)) := hb0.trans (heap_alloc_new _ _)
  have c0 : W1.cell? ⟨W.heap.size, 0, none⟩ = some (.bool false) := cell_of hb 0
  have f0 := free_of hb 0
  have HR := keepH hR
  clear hR hb hb0
  go_wp2_with fail
  refine leaves_cons (f := 47) (args := #[.pointer (some ⟨W.heap.size, 0, none⟩)]) (by simp) (by simp [go_sem]) ?_
  refine (s_catch ⟨W.heap.size, 0, none⟩ _).mono ?_
  rintro e u' w'' ⟨rfl, rfl, rfl⟩
  have r0 := World.cell?_setCell_same' W1 ⟨W.heap.size, 0, none⟩ (.bool d) (by rw [c0]; rfl)
  simp [Leaves, settle, results, Try.results35, go_sem, r0]
  exact ⟨W1, HR.out, rfl⟩

set_option maxRecDepth 100000 in
set_option maxHeartbeats 1000000 in
theorem alone_any (P V : Value) (Inv : Nat → World → Prop) (n most : Nat) (hn : n < most) (hm : most < 4611686018427387904) (W : World) (h0 : Inv 0 W) (hst : ∀ i w, i ≤ n → Inv i w → Calls Try.prog 35 #[P, V] w fun e w' => e = .returned (.bool (decide (i = n))) ∧ Inv (i + 1) w') :
    Calls Try.prog 19 #[V, P, .int .i64 (most : Int)] W fun e W' => e = .returned (.bool true) ∧ Inv (n + 1) W' := by
  have H0 := keepH h0
  have HS := keepH hst
  clear h0 hst
  go_enter Try.func19, Try.ntmps19
  go_wp2_with fail
  go_loopw [8] (fun s wr => ∃ k : Nat, k ≤ n ∧ s = .int .i64 (k : Int) ∧ Hid (Inv k wr)) (fun s _ => n + 1 - (intOf s).toNat)
  case atStart => exact ⟨0, by omega, rfl, H0⟩
  case round =>
    obtain ⟨k, hk, rfl, HI⟩ := hrel
    have i1 : (k : Int) < (most : Int) := by omega
    by_cases e : k = n
    · subst e
      go_wp2_with fail
      refine (HS.out k _ (Nat.le_refl _) HI.out).mono ?_
      rintro e w ⟨rfl, hI⟩
      have HI2 := keepH hI
      have dd : decide (k = k) = true := by simp
      clear hI
      go_wp2_with fail
      go_ret
      exact ⟨by simp, HI2.out⟩
    · go_wp2_with fail
      refine (HS.out k _ hk HI.out).mono ?_
      rintro e' w ⟨rfl, hI⟩
      have HI2 := keepH hI
      have dd : decide (k = n) = false := decide_eq_false e
      clear hI
      go_wp2_with fail
      go_roundw
      case rel => exact ⟨k + 1, by omega, by first | rfl | go_num, HI2⟩
      case measure => simp [intOf]; omega

theorem CS.alloc {W : World} {m b v most : Nat} {w : World} {next made : Nat} {cs : List Nat} {n : Nat} {D : Nat → Prop} {p : Nat} {t : TypeId} {l : List Value} {q : Option Nat} {cam pos st : Nat} (h : CS W m b v most w next made cs n D p t l q cam pos st) (o : Obj) : CS W m b v most (w.alloc o) next made cs n (fun k => D k ∨ k = w.heap.size) p t l q cam pos st := by
  refine ⟨(h.sr.alloc o).mono (fun k e => ?_), fun e => e.elim h.np (fun z => by have := lt_of h.blk; omega), fun k e => ⟨fun z => z.elim (h.nq k e).1 (fun z => by have := lt_of (h.nq k e).2.2; omega), (h.nq k e).2.1, alloc_of (h.nq k e).2.2 _⟩, alloc_of h.blk _⟩
  rcases e with (e | e) | e
  · exact .inl (.inl e)
  · exact .inr e
  · exact .inl (.inr e)
theorem CS.drop {W : World} {m b v most : Nat} {w : World} {next made : Nat} {cs : List Nat} {n : Nat} {D : Nat → Prop} {p : Nat} {t : TypeId} {l : List Value} {q : Option Nat} {cam pos st g : Nat} (h : CS W m b v most w next made cs n (fun k => D k ∨ k = g) p t l q cam pos st) (u : Value) : CS W m b v most (w.setCell ⟨g, 0, none⟩ u) next made cs n D p t l q cam pos st := by
  have hp : p ≠ g := fun e => h.np (.inr e)
  refine ⟨(h.sr.put (setP (p := g) (i := 0) u) (fun k e => .inl (.inr e))).mono (fun k e => ?_), fun e => h.np (.inl e), fun k e => ⟨fun z => (h.nq k e).1 (.inl z), (h.nq k e).2.1, (Below.heap_setCell _ _ _ _ (fun z => (h.nq k e).1 (.inr z))).trans (h.nq k e).2.2⟩, (Below.heap_setCell _ _ _ _ hp).trans h.blk⟩
  rcases e with e | e
  · exact .inl (.inl e)
  · exact .inr e

set_option maxRecDepth 100000 in
set_option maxHeartbeats 1000000 in
theorem mem_9 (W : World) : Calls Try.prog 7 #[.int .i64 128] W fun e W' => e = .returned (.tuple #[.pointer (some ⟨W.heap.size + 1, 0, none⟩), .int .u64 1]) ∧ IsMem W' (W.heap.size + 1) W.heap.size ∧ (∃ F l, Bank W' F W.heap.size 128 5 [0, 1, 0, 0, 0] l ∧ l.length = 1 ∧ (∀ k, F k → W.heap.size ≤ k) ∧ ¬ F (W.heap.size + 1)) ∧ Chg (fun _ => False) W W' := by
  go_enter Try.func7, Try.ntmps7
  go_wp2_with fail
  refine (m_new 128 W (by omega)).mono ?_
  rintro e W1 ⟨rfl, M1, B1, C1, S1⟩
  have S2 := keepH ((St.new0 (th := -1) M1 B1 C1 S1).chg' ((Chg.refl _ _).alloc (.cells ([1, 0, 0, 0].map u64V).toArray 27)))
  have HM1 := keepH M1
  have HS1 := keepH S1
  clear B1 S1 C1 M1
  go_wp2_with fail
  refine (m_view _ W.heap.size (-1) _ HM1.out).mono ?_
  rintro e w ⟨rfl, rfl⟩
  clear HM1
  go_wp2_with fail
  refine (v_alloc W1.heap.size W.heap.size 128 1 0 (-1) (some ⟨W1.heap.size + 1, 0, none⟩) 4 [1, 0, 0, 0] _ _ _ _ S2.out.view S2.out.bank S2.out.nv (by omega) (by simp) (reads_new _ [1, 0, 0, 0] _ (by simp)) (fun ad e _ => by cases e; have := HS1.out; show ¬ W1.heap.size + 1 = W.heap.size; omega) (fun ad e _ => by cases e; show W1.heap.size + 1 ≠ W1.heap.size; omega) (by simp) (by simp)).mono ?_
  rintro e w3 ⟨rfl, F3, vs3, B3, V3, G3⟩
  have e3 : alAt 128 1 [1, 0, 0, 0].length = 1 := by decide
  have e3' : alN 128 1 [] [1, 0, 0, 0] = [0, 1, 0, 0, 0] := by decide
  have e3n : alNext 128 1 [1, 0, 0, 0].length = 5 := by decide
  rw [e3', e3n] at B3
  have S3 := keepH (S2.out.step G3 B3 V3)
  clear B3 V3 G3 S2 e3' e3n
  go_wp2_with fail
  go_ret2
  exact ⟨by simp [show alAt 128 1 4 = 1 from e3], S3.out.mem, ⟨F3, _, S3.out.bank, rfl, S3.out.inF, S3.out.nm⟩, S3.out.chg⟩
end Go.Proofs.Ytadbgmcfjemkeaa
