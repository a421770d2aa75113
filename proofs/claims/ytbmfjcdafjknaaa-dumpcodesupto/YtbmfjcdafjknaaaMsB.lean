/- What a copy of the model holds, as a list. -/
import Derived.Test.YtbmfjcdafjknaaaMsE
import Derived.Maps.RangeWalk
import Derived.Maps.AppendAt
import Derived.OwnWalk
namespace Go.Proofs.Ytbmfjcdafjknaaa
open Go.RowKit Go.Maps
set_option linter.unusedVariables false

theorem cells_new (w : World) (g : Nat) (hg : w.heap.size = g) (cs : Array Value) (t : TypeId) : ∀ j u, cs.toList[j]? = some u → (w.alloc (.cells cs t)).cell? ((⟨g, 0, none⟩ : Addr).add j) = some u := by
  intro j u h
  subst hg
  have e : (⟨w.heap.size, 0, none⟩ : Addr).add j = ⟨w.heap.size, j, none⟩ := by unfold Addr.add; split <;> simp_all
  rw [e]
  have hh : (w.alloc (.cells cs t)).heap[w.heap.size]? = some (.cells cs t (0, 0)) := heap_alloc_new _ _
  rw [cell_of hh j]
  simpa using h
theorem infoPair : (Try.prog.info? 71).map (fun i => (i.zero, i.size, i.bytes)) = some (some (.agg #[.int .u64 0, .int .u64 0]), 2, 16) := by kernel_rfl
set_option maxRecDepth 100000 in
theorem len64_one (W : World) : Calls Try.prog 92 #[.int .u64 1] W fun e W' => (∃ k : Int, e = .returned (.int .i64 k)) ∧ W' = W := by
  go_enter Try.func92, Try.ntmps92
  go_wp2_with fail
  go_ret
  exact ⟨⟨_, rfl⟩, rfl⟩
set_option maxRecDepth 100000 in
theorem len_one (W : World) : Calls Try.prog 81 #[.int .u64 1] W fun e W' => (∃ k : Int, e = .returned (.int .i64 k)) ∧ W' = W := by
  go_enter Try.func81, Try.ntmps81
  go_wp2_with fail
  refine (len64_one _).mono ?_
  rintro e w1 ⟨⟨k, rfl⟩, rfl⟩
  go_wp2_with fail
  go_ret
  exact ⟨⟨k, by simp⟩, rfl⟩
set_option maxRecDepth 100000 in
theorem ins_one (p : Option Addr) (c : Nat) (f : Value) (W : World) : Calls Try.prog 83 #[.slice p 1 c, .int .i64 0, .int .i64 1, f] W fun e W' => e = .returned (.tuple #[]) ∧ W' = W := by
  go_enter Try.func83, Try.ntmps83
  go_wp2_with fail
  refine wp_loop_rounds 1 ?_
  rw [rounds_succ]
  go_wp2_with fail
  go_end0
  exact ⟨rfl, rfl⟩
set_option maxRecDepth 100000 in
theorem pdq_one (p : Option Addr) (c : Nat) (k : Int) (f : Value) (W : World) : Calls Try.prog 80 #[.slice p 1 c, .int .i64 0, .int .i64 1, .int .i64 k, f] W fun e W' => e = .returned (.tuple #[]) ∧ W' = W := by
  go_enter Try.func80, Try.ntmps80
  go_wp2_with fail
  refine wp_loop_rounds 1 ?_
  rw [rounds_succ]
  go_wp2_with fail
  refine (ins_one p c f _).mono ?_
  rintro e w1 ⟨rfl, rfl⟩
  go_wp2_with fail
  (try simp only [Exit.inBlock, Exit.then])
  refine bodyPost_ret (results_none rfl _ _ _) rfl ?_
  exact ⟨rfl, rfl⟩
set_option maxRecDepth 100000 in
theorem sort_one (p : Option Addr) (c : Nat) (f : Value) (W : World) : Calls Try.prog 77 #[.slice p 1 c, f] W fun e W' => e = .returned (.tuple #[]) ∧ W' = W := by
  go_enter Try.func77, Try.ntmps77
  go_wp2_with fail
  refine (len_one _).mono ?_
  rintro e w1 ⟨⟨k, rfl⟩, rfl⟩
  go_wp2_with fail
  refine (pdq_one p c k f _).mono ?_
  rintro e w1 ⟨rfl, rfl⟩
  go_wp2_with fail
  go_end0
  exact ⟨rfl, rfl⟩
set_option maxRecDepth 100000 in
set_option maxHeartbeats 4000000 in
theorem between_one {W : World} {b : Nat} (hB : W.heap[b]? = some (.map #[⟨.int .u64 7, .int .u64 1, 0⟩] 1)) :
    Calls Try.prog 71 #[.map (some b), .int .u64 0, .int .u64 18446744073709551615] W fun e W' => ∃ g c, e = .returned (.slice (some ⟨g, 0, none⟩) 1 c) ∧ W.heap.size ≤ g ∧ W'.cell? ⟨g, 0, none⟩ = some (.int .u64 7) ∧ W'.cell? ⟨g, 1, none⟩ = some (.int .u64 1) ∧ Chg (fun _ => False) W W' := by
  obtain ⟨i0, hi, hz0, hz1, hz2⟩ := info_parts infoPair
  have hown := own7 hB
  have hbl := (Array.getElem?_eq_some_iff.1 hB).1
  clear hB
  go_enter Try.func71, Try.ntmps71
  go_wp2_with (first | (at_range; refine wpList_range_own _ rfl _ 105 rfl 57 57 K64 Try.underlying105 _ b 1 _ rfl hown ?_; intro w1 hrg1 hg1 hs1))
  refine wp_loop_rounds 2 ?_
  rw [rounds_succ]
  go_wp2_with (first | (at_next; refine wpList_next_ranges_ii _ rfl _ rfl 57 57 .u64 .u64 K64 Try.underlying57 Try.underlying57 b W.heap.size 1 _ _ _ rfl hrg1 ?_ ?_))
  · intro h0 _
    rw [d7_size] at h0
    omega
  · intro x c w2 cnt2 hwx hwc hlx hat hrg2 hlt hg2 hs2 hen
    obtain rfl := d7_has x hlx
    obtain rfl := d7_at c hat
    rw [d7_size] at hlt
    have HG1 := keepH hg1
    have HG2 := keepH hg2
    have HR2 := keepH hrg2
    have HS : Hid (w2.heap.size = W.heap.size + 1 ∧ cnt2 < 1 ∧ b < W.heap.size) := by show _ ∧ _ ∧ _; omega
    clear hwx hwc hlx hat hg1 hg2 hrg1 hrg2 hown hs1 hs2 hlt hbl
    go_wp2_with (first | (at_builtin; go_loud (refine wpList_append_own_at _ rfl _ _ 22 rfl 0 71 i0 (.agg #[.int .u64 0, .int .u64 0]) 2 16 Try.underlying22 hi hz0 hz1 hz2 rfl (by decide) (.slice none 0 0) 0 [] rfl ⟨rfl, .inl ⟨rfl, rfl⟩⟩ ⟨w2.heap.size, 0, none⟩ 1 1 [.int .u64 7, .int .u64 1] rfl rfl (cells_new w2 _ rfl _ _) (by intro u hu; simp at hu; rcases hu with rfl | rfl <;> rfl) (by unfold maxLen; omega) (by omega) (Nat.zero_le _) ?_); intro v' w3 r1 r2 r3 r4; have R1 := keepH r1; have R2 := keepH r2; have R4 := keepH r4; clear r1 r2 r3 r4))
    have r1 := R1.out
    have r4 := R4.out
    obtain ⟨_, ⟨_, h⟩ | ⟨g, cap, cur, rfl, _, hg, _, _, _, ht⟩⟩ := r1
    · simp at h
    have hgs : g = w2.heap.size + 1 := by
      rcases r4 with h | h
      · simp [Value.ownBlock] at h
      · simpa [Value.ownBlock] using h
    have e0 : cur[0]? = some (.int .u64 7) := by
      have q : (cur.toList.take 2)[0]? = some (.int .u64 7) := by
        have ht' : cur.toList.take 2 = [.int .u64 7, .int .u64 1] := ht
        rw [ht']
        rfl
      rw [List.getElem?_take_of_lt (by omega)] at q
      simpa using q
    have e1 : cur[1]? = some (.int .u64 1) := by
      have q : (cur.toList.take 2)[1]? = some (.int .u64 1) := by
        have ht' : cur.toList.take 2 = [.int .u64 7, .int .u64 1] := ht
        rw [ht']
        rfl
      rw [List.getElem?_take_of_lt (by omega)] at q
      simpa using q
    have HQ : Hid (w3.cell? ⟨g, 0, none⟩ = some (.int .u64 7) ∧ w3.cell? ⟨g, 1, none⟩ = some (.int .u64 1)) := ⟨(cell_of hg 0).trans e0, (cell_of hg 1).trans e1⟩
    have hrg3 := (HR2.out.alloc (.cells #[.int .u64 7, .int .u64 1] 71)).kept R2.out (by simp [Value.ownBlock]) (by simp [Value.ownBlock])
    have HCH : Hid (Chg (fun _ => False) W w3) := by
      have c1 : Chg (fun k => k = W.heap.size) W w1 := grown_chg HG1.out (fun k e => by simp at e)
      have c2 : Chg (fun k => k = W.heap.size) w1 w2 := grown_chg HG2.out (fun k e => by simpa using e.symm)
      have c3 : Chg (fun k => k = W.heap.size) (w2.alloc (.cells #[.int .u64 7, .int .u64 1] 71)) w3 := grown_chg R2.out (fun k e => by simp [Value.ownBlock] at e)
      exact (((c1.trans c2 (H := fun k => k = W.heap.size) (fun _ _ x => x) (fun _ _ x => x)).alloc _).trans c3 (H := fun k => k = W.heap.size) (fun _ _ x => x) (fun _ _ x => x)).mono (fun i hi e => by omega)
    have HGS : Hid (W.heap.size ≤ g) := by have := HS.out; show _ ≤ _; omega
    clear r4 hg ht hgs e0 e1 R1 R2 R4 HR2 HG1 HG2
    rw [rounds_succ]
    go_wp2_with (first | (at_next; refine wpList_next_ranges_ii _ rfl _ rfl 57 57 .u64 .u64 K64 Try.underlying57 Try.underlying57 b W.heap.size 1 _ _ _ rfl hrg3 ?_ ?_))
    · intro h0 _
      go_wp2_with fail
      refine (sort_one _ _ _ _).mono ?_
      rintro e w4 ⟨rfl, rfl⟩
      go_wp2_with fail
      go_ret
      exact ⟨g, cap, by simp, HGS.out, HQ.out.1, HQ.out.2, HCH.out⟩
    · intro x' c' w4 cnt4 _ _ _ _ _ hlt4 _ _ _
      have := HS.out
      omega
set_option maxRecDepth 100000 in
theorem all_one {W : World} {b : Nat} (hB : W.heap[b]? = some (.map #[⟨.int .u64 7, .int .u64 1, 0⟩] 1)) :
    Calls Try.prog 59 #[.map (some b)] W fun e W' => ∃ g c, e = .returned (.slice (some ⟨g, 0, none⟩) 1 c) ∧ W.heap.size ≤ g ∧ W'.cell? ⟨g, 0, none⟩ = some (.int .u64 7) ∧ W'.cell? ⟨g, 1, none⟩ = some (.int .u64 1) ∧ Chg (fun _ => False) W W' := by
  have HB := keepH (between_one hB)
  clear hB
  go_enter Try.func59, Try.ntmps59
  go_wp2_with fail
  refine HB.out.mono ?_
  rintro e w1 ⟨g, c, rfl, h1, h2, h3, h4⟩
  have HZ : Hid (W.heap.size ≤ g ∧ w1.cell? ⟨g, 0, none⟩ = some (.int .u64 7) ∧ w1.cell? ⟨g, 1, none⟩ = some (.int .u64 1) ∧ Chg (fun _ => False) W w1) := ⟨h1, h2, h3, h4⟩
  clear h1 h2 h3 h4
  go_wp2_with fail
  go_ret
  exact ⟨g, c, by simp, HZ.out⟩
end Go.Proofs.Ytbmfjcdafjknaaa
