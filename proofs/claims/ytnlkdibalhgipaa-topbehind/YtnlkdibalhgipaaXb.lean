/- The handles that hold, as a list: slices.Sorted over maps.Keys. -/
import Derived.Test.YtnlkdibalhgipaaXa
import Derived.Test.YtnlkdibalhgipaaUM
namespace Go.Proofs.Ytnlkdibalhgipaa
open Go.RowKit Go.Maps Go.Shelf
set_option linter.unusedVariables false

section
attribute [local go_sem] Oper.semAt_some
theorem infoU64x : (Try.prog.info? 30).map (fun i => (i.zero, i.size, i.bytes)) = some (some (.int .u64 0), 1, 8) := by kernel_rfl
set_option maxRecDepth 100000 in
set_option maxHeartbeats 2000000 in
theorem appendSeq_in (n : Nat) (hn : 3 ≤ n) (Bm b nn : Nat) (D : DataW (Option Nat)) (h : Nat → Option Nat) (r : RdM elH (fun _ => True) D h) (w : World) (hBm : Bm < w.heap.size)
    (hc : w.cell? ⟨Bm, 0, none⟩ = some (.map (some b))) (hown : w.ownsMap Try.prog 30 heldM b nn D) (hN : Maps.size D ≤ 60000) :
    CallsIn Fence.wide n Try.prog 34 #[.slice none 0 0, .func (.func 29) #[] #[.pointer (some ⟨Bm, 0, none⟩)]] w fun e W' => (∃ v ss, e = .returned v ∧ AllU h ss ∧ ss.length ≤ 60000 ∧ W'.ownsRow w.heap.size 30 1 v ss.length (ss.map encU)) ∧ Below w.heap.size w W' := by
  have h1 : 1 ≤ n := by omega
  obtain ⟨i0, hi, hz0, hz1, hz2⟩ := info_parts infoU64x
  refine callsIn_of_wp_marks Try.func34 rfl trivial ?_ rfl
  simp only [Try.ntmps34, List.size_toArray, List.length_cons, List.length_nil, Nat.reduceAdd, Nat.reduceSub, Array.replicate_succ, Array.replicate_zero, List.push_toArray, List.append_toArray, List.nil_append, List.cons_append]
  gi_wp2
  have bO := Boxed.new w 38 (.slice none 0 0)
  have hR0 : (w.alloc (.cells #[.slice none 0 0] 38)).ownsRow w.heap.size 30 1 (.slice none 0 0) 0 [] := ⟨rfl, .inl ⟨rfl, rfl⟩⟩
  have hB0 : Below w.heap.size w (w.alloc (.cells #[.slice none 0 0] 38)) := (Below.refl _ w).alloc (Nat.le_refl _) _
  have hown1 := own_below hown hB0
  have hc1 : (w.alloc (.cells #[.slice none 0 0] 38)).cell? ⟨Bm, 0, none⟩ = some (.map (some b)) := (hB0.cell (p := ⟨Bm, 0, none⟩) hBm).trans hc
  refine wpIn_rangeFunc_ownG rfl h1 (gf := 29) (lb := #[.pointer (some ⟨Bm, 0, none⟩)]) rfl trivial (enters_of Try.func29 (by kernel_rfl) rfl)
    (keys_stops (n - 1) (by omega) Bm b nn D h r _ (by simp; omega) hc1 hown1) walksK_t walksK_b (Below.refl _ _) (fun _ => rfl)
    (fun pre W => (∃ v, Boxed W w.heap.size 38 v ∧ W.ownsRow w.heap.size 30 1 v pre.length (pre.map encU) ∧ pre.length ≤ 60000) ∧ Below w.heap.size w W)
    (fun _ _ _ => False)
    (OwnFrom.and (Own.from (holdsRow_own w.heap.size w.heap.size 38 30 1 (fun pre : List Nat => pre.length) (fun pre => pre.map encU) (fun pre _ => pre.length ≤ 60000)) _) (ownFrom_below (Nat.le_refl _) (by simp)))
    (fun _ _ _ _ _ hs _ _ => hs)
    ⟨⟨_, bO, hR0, by simp⟩, hB0⟩
    (fun x => { tmps := #[.slice none 0 0, .func (.func 29) #[] #[.pointer (some ⟨Bm, 0, none⟩)], .pointer (some ⟨w.heap.size, 0, none⟩), undef, .slice none 0 0, encU x, .func (.func 29) #[] #[.pointer (some ⟨Bm, 0, none⟩)], encU x, undef, undef, undef, undef, undef], defers := [] }) ?assign ?body ?done ?stop
  case assign =>
    intro l x W K hK
    unfold encU at hK ⊢
    gi_wp2
    exact hK
  case body =>
    rintro l pre x W ⟨⟨v, hv, hrow, _⟩, hB⟩ hlt
    have hc := hv.cell
    have hpl : pre.length < 60000 := by omega
    unfold encU
    gi_wp2_with (gi_at_builtin; refine wpListIn_append_own _ rfl _ _ 38 rfl w.heap.size 30 i0 (.int .u64 0) 1 8 Try.underlying38 hi hz0 hz1 hz2 rfl (by decide) _ _ _ rfl (hrow.alloc _) ⟨W.heap.size, 0, none⟩ 1 1 [.int .u64 (x : Int)] rfl rfl (cell_one_new _ _ _) (by simp [Value.oneCell']) (by unfold maxLen; omega) (by omega) (by have := hB.size; simp; omega) ?_; intro v' w1 hown' hgrow _; obtain ⟨g', cap', rfl⟩ := ownsRow_succ hown'; obtain ⟨hv1, hv2, hr2, hk2, hb2⟩ := hv.appended (by decide) hrow hB.size (by omega) hown' hgrow; have hc1 := hv1.cell; have hf1 := hv1.frozen)
    exact ⟨hk2.from _, hk2.walks, ⟨_, hv2, by rw [List.map_append, List.length_append]; exact hr2, by simp; omega⟩, hB.trans hb2⟩
  case done =>
    rintro D ys W hD hA ⟨⟨v, hv, hrow, hl⟩, hB⟩ hK
    have hc := hv.cell
    gi_wp2
    refine ⟨by simp, .inl ⟨_, _, rfl, run_takeDeferred hK, ?_⟩⟩
    exact ⟨_, results_tmp rfl _ _ _, ⟨v, ys, rfl, hA, hl, ownsRow_putObj hrow (.deferred none) hK rfl⟩, hB.trans (belowK_b (w := w) (Nat.le_refl _) W D _ _ (by simp at hD; omega) hK rfl rfl)⟩
  case stop =>
    rintro D c pre W _ _ h _
    exact h.elim
set_option maxHeartbeats 1000000 in
theorem collect_in (n : Nat) (hn : 4 ≤ n) (Bm b nn : Nat) (D : DataW (Option Nat)) (h : Nat → Option Nat) (r : RdM elH (fun _ => True) D h) (w : World) (hBm : Bm < w.heap.size)
    (hc : w.cell? ⟨Bm, 0, none⟩ = some (.map (some b))) (hown : w.ownsMap Try.prog 30 heldM b nn D) (hN : Maps.size D ≤ 60000) :
    CallsIn Fence.wide n Try.prog 27 #[.func (.func 29) #[] #[.pointer (some ⟨Bm, 0, none⟩)]] w fun e W' => (∃ v ss, e = .returned v ∧ AllU h ss ∧ ss.length ≤ 60000 ∧ W'.ownsRow w.heap.size 30 1 v ss.length (ss.map encU)) ∧ Below w.heap.size w W' := by
  have h1 : 1 ≤ n := by omega
  refine callsIn_of_wp Try.func27 rfl trivial ?_ rfl
  simp only [Try.ntmps27, List.size_toArray, List.length_cons, List.length_nil, Nat.reduceAdd, Nat.reduceSub, Array.replicate_succ, Array.replicate_zero, List.push_toArray, List.append_toArray, List.nil_append, List.cons_append]
  gi_wp2_with (refine ⟨trivial, ?_⟩; gi_at_call 34; refine (appendSeq_in (n - 1) (by omega) Bm b nn D h r w hBm hc hown hN).mono ?_; rintro e w' ⟨⟨v, ss, rfl, hS, hl, hrow⟩, hb⟩)
  go_ret
  exact ⟨⟨v, ss, rfl, hS, hl, hrow⟩, hb⟩
end

set_option maxRecDepth 100000 in
theorem ins_le1 (v : Value) (n : Nat) (hn : n ≤ 1) (W : World) : Calls Try.prog 39 #[v, .int .i64 0, .int .i64 (n : Int)] W fun e W' => e = .returned (.tuple #[]) ∧ W' = W := by
  have t1 : ¬ (1 : Int) < (n : Int) := by omega
  go_enter Try.func39, Try.ntmps39
  go_wp2_with fail
  go_loopw [6] (fun s6 wr => s6 = .int .i64 1 ∧ wr = W) (fun _ _ => 0)
  case atStart => exact ⟨rfl, rfl⟩
  case round =>
    obtain ⟨rfl, rfl⟩ := hrel
    go_wp2_with fail
    go_end0
    exact ⟨rfl, rfl⟩
set_option maxRecDepth 100000 in
theorem pdq_le1 (v : Value) (n : Nat) (hn : n ≤ 1) (k : Int) (W : World) : Calls Try.prog 35 #[v, .int .i64 0, .int .i64 (n : Int), .int .i64 k] W fun e W' => e = .returned (.tuple #[]) ∧ W' = W := by
  have t1 : (n : Int) ≤ 12 := by omega
  go_enter Try.func35, Try.ntmps35
  go_wp2_with fail
  go_loopw [1, 2] (fun s1 s2 wr => s1 = .int .i64 0 ∧ s2 = .int .i64 (n : Int) ∧ wr = W) (fun _ _ _ => 0)
  case atStart => exact ⟨rfl, rfl, rfl⟩
  case round =>
    obtain ⟨rfl, rfl, rfl⟩ := hrel
    go_wp2_with fail
    refine (ins_le1 v n hn _).mono ?_
    rintro e W' ⟨rfl, rfl⟩
    go_wp2_with fail
    exact bodyPost_ret (results_none rfl _ _ _) rfl ⟨rfl, rfl⟩
set_option maxRecDepth 100000 in
theorem sort_0 (W : World) : Calls Try.prog 28 #[.slice none 0 0] W fun e W' => e = .returned (.tuple #[]) ∧ W' = W := by
  have HP := keepH (fun k => pdq_le1 (.slice none 0 0) 0 (by omega) k W)
  have HL := keepH (len_s (n := 0) (by omega) W)
  go_enter Try.func28, Try.ntmps28
  go_wp2_with fail
  refine HL.out.mono ?_
  rintro e W' ⟨⟨k, rfl, hk⟩, rfl⟩
  clear hk
  go_wp2_with fail
  refine (HP.out k).mono ?_
  rintro e W' ⟨rfl, rfl⟩
  go_wp2_with fail
  go_end0
  exact ⟨rfl, rfl⟩
/-- A list of numbers that is one's own: nothing, or a row. -/
def ListU (W : World) (base : Nat) (v : Value) (ss : List Nat) : Prop := (ss = [] ∧ v = .slice none 0 0) ∨ ∃ g c, v = .slice (some ⟨g, 0, none⟩) ss.length c ∧ base ≤ g ∧ RowU W g ss
theorem listU_of {W : World} {base : Nat} {v : Value} {ss : List Nat} (h : W.ownsRow base 30 1 v ss.length (ss.map encU)) : ListU W base v ss := by
  rcases h.2 with ⟨rfl, h0⟩ | ⟨g, cap, cur, rfl, hb, hgb, h1, h2, h3, h4⟩
  · exact .inl ⟨List.eq_nil_of_length_eq_zero h0, rfl⟩
  · refine .inr ⟨g, cap, rfl, hb, cur.toList.drop ss.length, ?_⟩
    have e : ss.map u64V = cur.toList.take ss.length := by rw [Nat.mul_one] at h4; rw [h4]; rfl
    unfold Blk
    rw [e, List.take_append_drop]
    exact hgb
theorem below_chg {w W : World} (h : Below w.heap.size w W) : Chg (fun _ => False) w W := ⟨h.os, h.tape, h.output, h.size, fun k hk _ => h.block k hk⟩
set_option maxRecDepth 100000 in
set_option maxHeartbeats 2000000 in
theorem sorted_any (Bm b nn : Nat) (D : DataW (Option Nat)) (h : Nat → Option Nat) (r : RdM elH (fun _ => True) D h) (w : World) (hBm : Bm < w.heap.size)
    (hc : w.cell? ⟨Bm, 0, none⟩ = some (.map (some b))) (hown : w.ownsMap Try.prog 30 heldM b nn D) (hN : Maps.size D ≤ 60000) :
    Calls Try.prog 16 #[.func (.func 29) #[] #[.pointer (some ⟨Bm, 0, none⟩)]] w fun e W' => (∃ v ss, e = .returned v ∧ AllU h ss ∧ ss.length ≤ 60000 ∧ ListU W' w.heap.size v ss) ∧ Chg (fun _ => False) w W' := by
  have HC := keepH (callsIn_wide.1 (collect_in 4 (Nat.le_refl _) Bm b nn D h r w hBm hc hown hN))
  clear hc hown r
  go_enter Try.func16, Try.ntmps16
  go_wp2_with fail
  refine HC.out.mono ?_
  rintro e w1 ⟨⟨v, ss, rfl, hA, hl, hrow⟩, hb⟩
  have HA := keepH hA
  have HB := keepH (below_chg hb)
  have hlu := listU_of hrow
  clear hA hb hrow
  rcases hlu with ⟨rfl, rfl⟩ | ⟨g, c, rfl, hg, hr⟩
  · go_wp2_with fail
    refine (sort_0 _).mono ?_
    rintro e w2 ⟨rfl, rfl⟩
    go_wp2_with fail
    go_ret
    exact ⟨⟨_, [], rfl, HA.out, by simp, .inl ⟨rfl, rfl⟩⟩, HB.out⟩
  · have HS := keepH (sort_g (c := c) hr hl)
    have HG := keepH hg
    clear hr hg
    obtain ⟨k, hk⟩ : ∃ k, k = ss.length := ⟨_, rfl⟩
    have HK := keepH hk
    rw [← hk] at HS ⊢
    clear hk
    go_wp2_with fail
    refine HS.out.mono ?_
    rintro e w2 ⟨rfl, zs, hp, hr2, hc2⟩
    have HP := keepH hp
    have HR := keepH hr2
    have HC2 := keepH hc2
    clear hp hr2 hc2
    go_wp2_with fail
    go_ret
    refine ⟨⟨_, zs, rfl, ⟨HP.out.nodup_iff.2 HA.out.1, fun x => by rw [HP.out.mem_iff]; exact HA.out.2 x⟩, by rw [HP.out.length_eq]; exact hl, .inr ⟨g, c, by rw [HP.out.length_eq, ← HK.out]; rfl, HG.out, HR.out⟩⟩, HB.out.trans HC2.out (fun _ _ x => x) (fun i hi e => by have := HG.out; omega)⟩
set_option maxRecDepth 100000 in
theorem m_handles {W : World} {m nw hd mu : Nat} {f h : Nat → Option Nat} {g : Nat → Nat → Option Nat} {n : Nat} (H : MoAt W m nw hd mu f h g n) (hn : n ≤ 60000) :
    Calls Try.prog 7 #[.pointer (some ⟨m, 0, none⟩)] W fun e W' => (∃ v ss, e = .returned v ∧ AllU h ss ∧ ss.length ≤ 60000 ∧ ListU W' W.heap.size v ss) ∧ Chg (fun _ => False) W W' := by
  have c2 : W.cell? ⟨m, 2, none⟩ = some (.map (some hd)) := cell_of H.md 2
  obtain ⟨D, hown, r⟩ := H.held
  have hsz := hown.size_le
  have hq : Below W.heap.size W (W.alloc (.cells #[.map (some hd)] 54)) := (Below.refl _ W).alloc (Nat.le_refl _) _
  have HS := keepH (sorted_any W.heap.size hd n D h r (W.alloc (.cells #[.map (some hd)] 54)) (by simp) (Boxed.new W 54 (.map (some hd))).cell (own_below hown hq) (by omega))
  clear H hown r hq
  go_enter Try.func7, Try.ntmps7
  go_wp2_with fail
  refine (callsIn_wide.1 (keys_in 4 hd W)).mono ?_
  rintro e w1 ⟨rfl, rfl⟩
  go_wp2_with fail
  refine HS.out.mono ?_
  rintro e w2 ⟨⟨v, ss, rfl, hA, hl, hu⟩, hb⟩
  have HZ : Hid (AllU h ss ∧ ss.length ≤ 60000 ∧ ListU w2 W.heap.size v ss) := by
    refine ⟨hA, hl, ?_⟩
    rcases hu with h | ⟨g, c, e, hg, hr⟩
    · exact .inl h
    · exact .inr ⟨g, c, e, by simp at hg; omega, hr⟩
  have HB := keepH hb
  clear hA hl hu hb
  go_wp2_with fail
  go_ret
  exact ⟨⟨v, ss, rfl, HZ.out⟩, ((Chg.refl (fun _ => False) W).alloc _).trans HB.out (fun _ _ x => x) (fun _ _ x => x)⟩
end Go.Proofs.Ytnlkdibalhgipaa
