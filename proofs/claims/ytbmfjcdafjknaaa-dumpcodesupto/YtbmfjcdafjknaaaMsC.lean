/- A picture of a map of one entry. -/
import Derived.Test.YtbmfjcdafjknaaaMsL
import Derived.Maps.OwnSet
import Derived.Maps.RangeWalk
import Derived.Maps.AppendAt
import Derived.OwnWalk
namespace Go.Proofs.Ytbmfjcdafjknaaa
open Go.RowKit Go.Maps
set_option linter.unusedVariables false

theorem K64 : Keyed Try.prog 57 := int_keyed Try.underlying57
def D7 : DataW Unit := (DataW.map []).put (.int .u64 7) (.lit (.int .u64 1))
theorem own7 {W : World} {b : Nat} (hB : W.heap[b]? = some (.map #[⟨.int .u64 7, .int .u64 1, 0⟩] 1)) : W.ownsMap (H := Unit) Try.prog 57 (plainElem Try.prog 57) b 1 D7 := by
  have h0 := World.ownsMap_made (H := Unit) W Try.prog 57 (plainElem Try.prog 57)
  obtain ⟨w', hrun, ho, _⟩ := h0.update (t := 105) (e := 57) K64 Try.underlying105 (by unfold maxLen; omega) (keyOf_int_mk Try.underlying57 (a := 7) (by decide)) (plainElem_int (H := Unit) Try.underlying57 (show (Lit.int .u64 1).wf = true by decide))
  have e := put_0 (w := W.alloc (.map #[] 0)) (heap_alloc_new _ _) 1
  rw [e] at hrun
  simp only [Result.ok.injEq, true_and] at hrun
  subst hrun
  obtain ⟨es, clock, hb, F, hs, hD⟩ := ho
  rw [setBlock_at (heap_alloc_new _ _)] at hb
  simp only [Option.some.injEq, Obj.map.injEq] at hb
  obtain ⟨rfl, rfl⟩ := hb
  exact ⟨_, _, hB, F, hs, hD⟩
theorem d7_has (x : Int) (h : Maps.has D7 (.int .u64 x) = true) : x = 7 := by
  by_cases e : x = 7
  · exact e
  · exfalso
    have z : Maps.has D7 (.int .u64 x) = Maps.has (DataW.map [] : DataW Unit) (.int .u64 x) := has_put_other (fun q => e (by injection q)) _
    rw [z] at h
    simp [Maps.has] at h
theorem d7_at (c : Int) (h : ∀ zd, D7.atKey (.int .u64 7) zd = .lit (.int .u64 c)) : c = 1 := by
  have z := h .nil
  have q : D7.atKey (.int .u64 7) .nil = .lit (.int .u64 1) := by rfl
  rw [q] at z
  simpa using z.symm
theorem d7_size : Maps.size D7 = 1 := by rfl
theorem grown_chg {a b : World} {row : Option Nat} {F : Nat → Prop} (h : a.grownBy b row) (hr : ∀ k, row = some k → F k) : Chg F a b := (Chg.refl F a).grown h (fun k e _ => hr k e)
theorem mk_hint (n : Int) (w : World) : (Instr.makeMap 105 (some (.int .i64 n))).run Try.prog w = .ok (.map (some w.heap.size)) (w.alloc (.map #[] 0)) := by
  simp [Instr.makeMap, run_underlying Try.underlying105, asInt, asIntOf, Result.andThen]
set_option maxRecDepth 100000 in
set_option maxHeartbeats 4000000 in
theorem pict_one {W : World} {b : Nat} (hB : W.heap[b]? = some (.map #[⟨.int .u64 7, .int .u64 1, 0⟩] 1)) :
    Calls Try.prog 70 #[.map (some b)] W fun e W' => e = .returned (.map (some W.heap.size)) ∧ W'.heap[W.heap.size]? = some (.map #[⟨.int .u64 7, .int .u64 1, 0⟩] 1) ∧ Chg (fun _ => False) W W' := by
  have hown := own7 hB
  have hbl := (Array.getElem?_eq_some_iff.1 hB).1
  have hmm := mk_hint
  obtain ⟨w0, hw0⟩ : ∃ w0, w0 = W.alloc (.map #[] 0) := ⟨_, rfl⟩
  have hB0 : w0.heap[b]? = some (.map #[⟨.int .u64 7, .int .u64 1, 0⟩] 1) := by rw [hw0]; exact alloc_of hB _
  have hown1 := own7 hB0
  have n0 : w0.heap[W.heap.size]? = some (.map #[] 0) := by rw [hw0]; exact heap_alloc_new _ _
  have C0 : Chg (fun _ => False) W w0 := by rw [hw0]; exact (Chg.refl _ _).alloc _
  have z0 : w0.heap.size = W.heap.size + 1 := by rw [hw0]; exact World.size_alloc _ _
  have HN0 := keepH n0
  have HC0 := keepH C0
  have HZ0 := keepH z0
  have HBL := keepH hbl
  clear hB hB0 n0 C0 z0 hbl
  go_enter Try.func70, Try.ntmps70
  go_wp2_with (first | (at_len; refine wpList_len_own _ rfl _ 105 rfl 57 57 Try.underlying105 _ b 1 D7 rfl hown ?_) | (at_range; rw [← hw0]; refine wpList_range_own _ rfl _ 105 rfl 57 57 K64 Try.underlying105 _ b 1 _ rfl hown1 ?_; intro w1 hrg1 hg1 hs1))
  clear hw0 hmm
  refine wp_loop_rounds 2 ?_
  rw [rounds_succ]
  go_wp2_with (first | (at_next; refine wpList_next_ranges_ii _ rfl _ rfl 57 57 .u64 .u64 K64 Try.underlying57 Try.underlying57 b w0.heap.size 1 _ _ _ rfl hrg1 ?_ ?_))
  · intro h0 _
    rw [d7_size] at h0
    omega
  · intro x c w2 cnt2 hwx hwc hlx hat hrg2 hlt hg2 hs2 hen
    obtain rfl := d7_has x hlx
    obtain rfl := d7_at c hat
    rw [d7_size] at hlt
    have c1 : Chg (fun _ => False) w0 w1 := grown_chg hg1 (fun k e => by simp at e)
    have c2 : Chg (fun k => k = w0.heap.size) w1 w2 := grown_chg hg2 (fun k e => (Option.some.inj e).symm)
    have n1 := (c1.block W.heap.size (by have := HZ0.out; omega) (fun x => x)).trans HN0.out
    have n2 := (c2.block W.heap.size (Array.getElem?_eq_some_iff.1 n1).1 (by have := HZ0.out; omega)).trans n1
    have hu := put_0 n2 1
    obtain ⟨w3, hw3⟩ : ∃ w3, w3 = ChangeMaps.setBlock w2 W.heap.size (.map #[⟨.int .u64 7, .int .u64 1, 0⟩] 1) := ⟨_, rfl⟩
    rw [← hw3] at hu
    have C3 : Chg (fun k => k = W.heap.size) w2 w3 := by rw [hw3]; exact setBlock_chg n2 _
    have HN3 : Hid (w3.heap[W.heap.size]? = some (.map #[⟨.int .u64 7, .int .u64 1, 0⟩] 1)) := by rw [hw3]; exact setBlock_at n2 _
    have cg : w2.grownBy w3 (some W.heap.size) := ⟨C3.os, C3.tape, C3.output, C3.size, fun k hk hn => C3.block k hk (fun e => hn (by rw [e]))⟩
    have hrg3 := hrg2.kept cg (fun e => by injection e with e; have := HBL.out; omega) (fun e => by injection e with e; have := HZ0.out; omega)
    have HCH : Hid (Chg (fun _ => False) W w3) := ((HC0.out.trans c1 (H := fun _ => False) (fun _ _ x => x) (fun _ _ x => x)).trans c2 (H := fun _ => False) (fun _ _ x => x) (fun i hi e => by have := HZ0.out; omega)).trans C3 (fun _ _ x => x) (fun i hi e => by omega)
    have HS : Hid (cnt2 < 1) := by show _ < _; omega
    clear hwx hwc hlx hat hg1 hg2 hrg1 hrg2 hown hown1 hs1 hs2 hlt c1 c2 n1 n2 C3 cg hw3 HN0 HC0
    go_wp2_with fail
    rw [rounds_succ]
    go_wp2_with (first | (at_next; refine wpList_next_ranges_ii _ rfl _ rfl 57 57 .u64 .u64 K64 Try.underlying57 Try.underlying57 b w0.heap.size 1 _ _ _ rfl hrg3 ?_ ?_))
    · intro h0 _
      go_wp2_with fail
      go_ret
      exact ⟨rfl, HN3.out, HCH.out⟩
    · intro x' c' w4 cnt4 _ _ _ _ _ hlt4 _ _ _
      have := HS.out
      omega
end Go.Proofs.Ytbmfjcdafjknaaa
