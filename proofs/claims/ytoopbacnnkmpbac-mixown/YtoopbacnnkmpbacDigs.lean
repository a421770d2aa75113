/- All the digits of a mixed key, as a list of the call's own. -/
import Derived.Maps.AppendAt
import Derived.Test.YtoopbacnnkmpbacLev
namespace Go.Proofs.Ytoopbacnnkmpbac
open Go.RowKit Go.Shelf

attribute [local go_sem] Oper.semAt_some

theorem infoInt : (Try.prog.info? 3).map (fun i => (i.zero, i.size, i.bytes)) = some (some (.int .i64 0), 1, 8) := by kernel_rfl
def vals (h : Int) (l : List (Fin 11)) : List Value := l.map fun j => Value.int .i64 (dig h (j.val : Int))
theorem vals_length (h : Int) (l : List (Fin 11)) : (vals h l).length = l.length := by simp [vals]
theorem vals_snoc (h : Int) (l : List (Fin 11)) (x : Fin 11) : vals h (l ++ [x]) = vals h l ++ [.int .i64 (dig h (x.val : Int))] := by simp [vals]
def zeros : Array Value := #[.int .i64 0, .int .i64 0, .int .i64 0, .int .i64 0, .int .i64 0, .int .i64 0, .int .i64 0, .int .i64 0, .int .i64 0, .int .i64 0, .int .i64 0]

set_option maxRecDepth 100000 in
set_option maxHeartbeats 2000000 in
theorem digits_in (n : Nat) (hn : 3 ≤ n) (h : Int) (h0 : 0 ≤ h) (h1' : h < 18446744073709551616) (w : World) :
    CallsIn Fence.wide n Try.prog 13 #[.int .u64 h] w fun e W' => (∃ v, e = .returned v ∧ W'.ownsRow w.heap.size 3 1 v 11 (vals h (firsts 11))) ∧ Below w.heap.size w W' := by
  have h1 : 1 ≤ n := by omega
  obtain ⟨i0, hi, hz0, hz1, hz2⟩ := info_parts infoInt
  have hmk : ∀ w, (Instr.makeSlice 54 (.int .i64 0) (.int .i64 11)).run Try.prog w = .ok (.slice (some ⟨w.heap.size, 0, none⟩) 0 11) (w.alloc (.cells zeros 3)) := fun _ => by kernel_rfl
  refine callsIn_of_wp_marks Try.func13 rfl trivial ?_ rfl
  simp only [Try.ntmps13, List.size_toArray, List.length_cons, List.length_nil, Nat.reduceAdd, Nat.reduceSub, Array.replicate_succ, Array.replicate_zero, List.push_toArray, List.append_toArray, List.nil_append, List.cons_append]
  gi_wp2_with (refine ⟨trivial, ?_⟩; gi_at_call 22; refine (levels_in (n - 1) _ _).mono ?_; rintro e w' ⟨rfl, rfl⟩)
  have bO := Boxed.new (w.alloc (.cells zeros 3)) 54 (.slice (some ⟨w.heap.size, 0, none⟩) 0 11)
  have bN := Boxed.new ((w.alloc (.cells zeros 3)).alloc (.cells #[.slice (some ⟨w.heap.size, 0, none⟩) 0 11] 54)) 22 (.int .u64 h)
  rw [World.size_alloc] at bO
  rw [World.size_alloc, World.size_alloc] at bN
  have hR0 : (((w.alloc (.cells zeros 3)).alloc (.cells #[.slice (some ⟨w.heap.size, 0, none⟩) 0 11] 54)).alloc (.cells #[.int .u64 h] 22)).ownsRow w.heap.size 3 1 (.slice (some ⟨w.heap.size, 0, none⟩) 0 11) 0 [] := by
    have r0 : (w.alloc (.cells zeros 3)).ownsRow w.heap.size 3 1 (.slice (some ⟨w.heap.size, 0, none⟩) 0 11) 0 [] :=
      ⟨rfl, .inr ⟨w.heap.size, 11, zeros, rfl, Nat.le_refl _, World.alloc_heap_new w _, by omega, by unfold maxLen; omega, rfl, rfl⟩⟩
    exact (r0.alloc _).alloc _
  have hB0 : Below w.heap.size w (((w.alloc (.cells zeros 3)).alloc (.cells #[.slice (some ⟨w.heap.size, 0, none⟩) 0 11] 54)).alloc (.cells #[.int .u64 h] 22)) := (((Below.refl _ w).alloc (Nat.le_refl _) _).alloc (by simp) _).alloc (by simp; omega) _
  refine wpIn_rangeFunc_ownG rfl h1 (gf := 49) (lb := #[.pointer (some ⟨w.heap.size + 1 + 1, 0, none⟩)]) rfl trivial (enters_of Try.func49 (by kernel_rfl) rfl)
    (levels_stops (n - 1) (by omega) (w.heap.size + 1 + 1) h h0 h1' _ (by simp) bN.cell) KeepC.t (KeepC.b (by simp)) (Below.refl _ _) (fun _ => rfl)
    (fun pre W => (∃ v, Boxed W (w.heap.size + 1) 54 v ∧ W.ownsRow w.heap.size 3 1 v pre.length (vals h pre) ∧ True) ∧ (Boxed W (w.heap.size + 1 + 1) 22 (.int .u64 h) ∧ Below w.heap.size w W))
    (fun _ _ _ => False)
    (OwnFrom.and (Own.from (holdsRow_own w.heap.size (w.heap.size + 1) 54 3 1 (fun pre : List (Fin 11) => pre.length) (fun pre => vals h pre) (fun _ _ => True)) _) (OwnFrom.and (Own.from (boxed_own (w.heap.size + 1 + 1) 22 (fun _ => .int .u64 h)) _) (ownFrom_below (Nat.le_refl _) (by simp; omega))))
    (fun _ _ _ _ _ hs _ _ => hs)
    ⟨⟨_, bO.alloc _, hR0, trivial⟩, bN, hB0⟩
    (fun x => { tmps := #[.int .u64 h, undef, .slice none 0 0, .pointer (some ⟨w.heap.size + 1, 0, none⟩), undef, .int .i64 (dig h (x.val : Int)), .slice (some ⟨w.heap.size, 0, none⟩) 0 11, .int .u64 h, .func (.func 49) #[] #[.pointer (some ⟨w.heap.size + 1 + 1, 0, none⟩)], .int .i64 (x.val : Int), .int .i64 (dig h (x.val : Int)), undef, undef, undef, undef, undef], defers := [] }) ?assign ?body ?done ?stop
  case assign =>
    intro l x W K hK
    unfold encL
    gi_wp2
    exact hK
  case body =>
    rintro l pre x W ⟨⟨v, hv, hrow, _⟩, hN, hB⟩ hlt
    have hc := hv.cell
    gi_wp2_with (gi_at_builtin; refine wpListIn_append_own _ rfl _ _ 54 rfl w.heap.size 3 i0 (.int .i64 0) 1 8 Try.underlying54 hi hz0 hz1 hz2 rfl (by decide) _ _ _ rfl (hrow.alloc _) ⟨W.heap.size, 0, none⟩ 1 1 [.int .i64 (dig h (x.val : Int))] rfl rfl (cell_one_new _ _ _) (by simp [Value.oneCell']) (by unfold maxLen; omega) (by omega) (by have := hB.size; simp; omega) ?_; intro v' w1 hown' hgrow _; obtain ⟨g', cap', rfl⟩ := ownsRow_succ hown'; obtain ⟨hv1, hv2, hr2, hk2, hb2⟩ := hv.appended (by decide) hrow hB.size (by omega) hown' hgrow; have hc1 := hv1.cell; have hf1 := hv1.frozen; have hN2 := ((hN.alloc _).kept hgrow (hN.not_row (by decide) hrow)).other (B' := w.heap.size + 1) (by omega) (.slice (some ⟨g', 0, none⟩) (pre.length + 1) cap'))
    exact ⟨hk2.from _, hN2.cell.trans hN.cell.symm, ⟨_, hv2, by rw [vals_snoc, List.length_append]; exact hr2, trivial⟩, hN2, hB.trans hb2⟩
  case done =>
    rintro D ys W hD rfl ⟨⟨v, hv, hrow, _⟩, hN, hB⟩ hK
    have hc := hv.cell
    gi_wp2
    refine ⟨by simp, .inl ⟨_, _, rfl, run_takeDeferred hK, ?_⟩⟩
    exact ⟨_, results_tmp rfl _ _ _, ⟨v, rfl, by have e := ownsRow_putObj hrow (.deferred none) hK rfl; rwa [firsts_length] at e⟩, hB.trans (belowK_b (w := w) (Nat.le_refl _) W D _ _ (by simp at hD; omega) hK rfl rfl)⟩
  case stop =>
    rintro D c pre W _ _ h _
    exact h.elim

theorem digits_any (h : Int) (h0 : 0 ≤ h) (h1 : h < 18446744073709551616) (w : World) :
    Calls Try.prog 13 #[.int .u64 h] w fun e W' => (∃ v, e = .returned v ∧ W'.ownsRow w.heap.size 3 1 v 11 (vals h (firsts 11))) ∧ Below w.heap.size w W' :=
  callsIn_wide.1 (digits_in 3 (by omega) h h0 h1 w)
end Go.Proofs.Ytoopbacnnkmpbac
