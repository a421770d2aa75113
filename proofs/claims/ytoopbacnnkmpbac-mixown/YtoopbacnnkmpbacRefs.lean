/- The references of the digits, and lists that are held against one another. -/
import Derived.OwnWalk
import Derived.Deep.QuietTactic
import Derived.BigQuiet
import Derived.WalkSmall
import Derived.Test.YtoopbacnnkmpbacDigs
namespace Go.Proofs.Ytoopbacnnkmpbac
open Go.RowKit Go.Shelf

theorem vals_firsts (h : Int) (k : Nat) (hk : k < 11) : vals h (firsts (k + 1)) = vals h (firsts k) ++ [.int .i64 (dig h (k : Int))] := by
  simp only [firsts]
  rw [vals_snoc, idx_val k hk]

theorem below_app {W w1 : World} {n₀ : Nat} {e : TypeId} {size : Nat} {v : Value} {k : Nat} {xs : List Value} {tmp : Obj} (hrow : W.ownsRow n₀ e size v k xs) (hn : n₀ ≤ W.heap.size) (hgrow : (W.alloc tmp).grownBy w1 v.ownBlock) : Below n₀ W w1 := by
  refine ((Below.refl n₀ W).alloc hn tmp).grown hgrow (by simp; omega) fun j ej => ?_
  rcases hrow.2 with ⟨rfl, _⟩ | ⟨g, cap, cur, rfl, hb, _, _⟩
  · simp [Value.ownBlock] at ej
  · obtain rfl : g = j := by simpa [Value.ownBlock] using ej
    exact hb

set_option maxRecDepth 100000 in
set_option maxHeartbeats 1000000 in
theorem refDigits_any (h : Int) (h0 : 0 ≤ h) (h1 : h < 18446744073709551616) (w : World) :
    Calls Try.prog 16 #[.int .u64 h] w fun e W' => (∃ v, e = .returned v ∧ W'.ownsRow w.heap.size 3 1 v 11 (vals h (firsts 11))) ∧ Below w.heap.size w W' := by
  obtain ⟨i0, hi, hz0, hz1, hz2⟩ := info_parts infoInt
  go_enter Try.func16, Try.ntmps16
  go_wp2
  go_loopw [3, 4] (fun l i wr => ∃ k : Nat, k ≤ 11 ∧ i = .int .i64 (k : Int) ∧ wr.ownsRow w.heap.size 3 1 l k (vals h (firsts k)) ∧ Below w.heap.size w wr) (fun _ i _ => 11 - (intOf i).toNat)
  case atStart => exact ⟨0, by omega, rfl, World.ownsRow_nil _ _ _ _, Below.refl _ _⟩
  case round =>
    obtain ⟨k, hk, rfl, hrow, hB⟩ := hrel
    by_cases hlt : k < 11
    · go_wp2_with fail
      refine (refDigit_any h (k : Int) _ h0 h1 (by omega) (by omega)).mono ?_
      rintro e w' ⟨rfl, rfl⟩
      go_wp2_with (at_builtin; refine wpList_append_own _ rfl _ _ 54 rfl w.heap.size 3 i0 (.int .i64 0) 1 8 Try.underlying54 hi hz0 hz1 hz2 rfl (by decide) _ _ _ rfl (hrow.alloc _) ⟨w'.heap.size, 0, none⟩ 1 1 [.int .i64 (dig h (k : Int))] rfl rfl (cell_one_new _ _ _) (by simp [Value.oneCell']) (by unfold maxLen; omega) (by omega) (by have := hB.size; simp; omega) ?_; intro v' w1 hown' hgrow _)
      exact ⟨⟨k + 1, by omega, by go_num, by rw [vals_firsts h k hlt]; exact hown', hB.trans (below_app hrow hB.size hgrow)⟩, by simp [intOf]; omega⟩
    · obtain rfl : k = 11 := by omega
      go_wp2
      go_ret
      exact ⟨⟨_, rfl, hrow⟩, hB⟩

set_option maxHeartbeats 1000000 in
theorem same_any (g1 o1 g2 o2 n c1 c2 : Nat) (zs : Nat → Int) (w : World) (hn : n ≤ 281474976710656) (hu : ∀ j, j < n → w.cell? ⟨g1, o1 + j, none⟩ = some (.int .i64 (zs j))) (hv : ∀ j, j < n → w.cell? ⟨g2, o2 + j, none⟩ = some (.int .i64 (zs j))) :
    Calls Try.prog 15 #[.slice (some ⟨g1, o1, none⟩) n c1, .slice (some ⟨g2, o2, none⟩) n c2] w fun e W' => e = .returned (.bool true) ∧ Below w.heap.size w W' := by
  have HU := keepH hu
  have HV := keepH hv
  clear hu hv
  go_enter Try.func15, Try.ntmps15
  go_wp2
  go_loopw [5] (fun i wr => ∃ k : Nat, k ≤ n ∧ i = .int .i64 (k : Int) ∧ (Hid (∀ x, wr.cell? x = w.cell? x)) ∧ Below w.heap.size w wr) (fun i _ => n - (intOf i).toNat)
  case atStart => exact ⟨0, by omega, rfl, fun _ => rfl, Below.refl _ _⟩
  case round =>
    obtain ⟨k, hk, rfl, HC, hB⟩ := hrel
    by_cases hlt : k < n
    · have x1 : wr.cell? ⟨g1, o1 + k, none⟩ = some (.int .i64 (zs k)) := (HC.out _).trans (HU.out k hlt)
      have x2 : wr.cell? ⟨g2, o2 + k, none⟩ = some (.int .i64 (zs k)) := (HC.out _).trans (HV.out k hlt)
      have i1 : (k : Int) < (n : Int) := by omega
      go_wp2
      go_quiet (fail)
      go_wp2
      go_roundw
      case rel => exact ⟨k + 1, by omega, by go_num, fun x => HC.out x, below_drewN hB _⟩
      case measure => simp [intOf]; omega
    · obtain rfl : k = n := by omega
      go_wp2
      go_ret
      exact ⟨rfl, hB⟩

theorem firsts_get (k j : Nat) (h : j < k) : (firsts k)[j]? = some (idx j) := by
  induction k with
  | zero => omega
  | succ k ih =>
    simp only [firsts]
    by_cases e : j = k
    · subst e
      rw [List.getElem?_append_right (by rw [firsts_length]; exact Nat.le_refl _), firsts_length]
      simp
    · rw [List.getElem?_append_left (by rw [firsts_length]; omega)]
      exact ih (by omega)
theorem row_cells {W : World} {base : Nat} {v : Value} {h : Int} (hrow : W.ownsRow base 3 1 v 11 (vals h (firsts 11))) :
    ∃ g cap, v = .slice (some ⟨g, 0, none⟩) 11 cap ∧ base ≤ g ∧ g < W.heap.size ∧ 11 ≤ cap ∧ cap ≤ maxLen ∧ ∀ j, j < 11 → W.cell? ⟨g, 0 + j, none⟩ = some (.int .i64 (dig h (j : Int))) := by
  have hr := hrow
  rcases hrow.2 with ⟨_, h0⟩ | ⟨g, cap, cur, rfl, hb, hg, hc1, hc2, _, _⟩
  · omega
  · refine ⟨g, cap, rfl, hb, (Array.getElem?_eq_some_iff.1 hg).1, hc1, hc2, fun j hj => ?_⟩
    rw [Nat.zero_add, hr.cellAt j (by omega)]
    unfold vals
    rw [List.getElem?_map, firsts_get 11 j hj]
    simp [idx_val j hj]
theorem cells_below {W W' : World} {B g : Nat} {f : Nat → Int} (hB : Below B W W') (hg : g < B) (h : ∀ j, j < 11 → W.cell? ⟨g, 0 + j, none⟩ = some (.int .i64 (f j))) : ∀ j, j < 11 → W'.cell? ⟨g, 0 + j, none⟩ = some (.int .i64 (f j)) :=
  fun j hj => (hB.cell (p := ⟨g, 0 + j, none⟩) hg).trans (h j hj)
end Go.Proofs.Ytoopbacnnkmpbac
