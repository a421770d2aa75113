/- slices.Sort of ints, over a row of the call's own. -/
import Derived.Test.YtmjjaadliebgoaaShelf
import Derived.Sort.OwnSortedInts
namespace Go.Proofs.Ytmjjaadliebgoaa
open Go.RowKit Go.Shelf Go.Sort

def sortZ (zs : List Int) : List Int := zs.mergeSort fun x y => decide (x ≤ y)
theorem sortZ_perm (zs : List Int) : (sortZ zs).Perm zs := List.mergeSort_perm _ _
theorem sortZ_length (zs : List Int) : (sortZ zs).length = zs.length := (sortZ_perm zs).length_eq
theorem sortZ_rises (zs : List Int) (i j : Nat) (a b : Int) (hij : i ≤ j) (ha : (sortZ zs)[i]? = some a) (hb : (sortZ zs)[j]? = some b) : a ≤ b := by
  have h : (sortZ zs).Pairwise (fun x y => decide (x ≤ y) = true) := List.pairwise_mergeSort (fun a b c h1 h2 => by simp at *; omega) (fun a b => by simp; omega) zs
  by_cases e : i = j
  · subst e
    rw [ha] at hb
    cases hb
    exact Int.le_refl _
  · obtain ⟨hi, rfl⟩ := List.getElem?_eq_some_iff.1 ha
    obtain ⟨hj, rfl⟩ := List.getElem?_eq_some_iff.1 hb
    have := List.pairwise_iff_getElem.1 h i j hi hj (by omega)
    simpa using this

theorem len_zero (W : World) : Calls Try.prog 24 #[.int .u64 0] W fun e W' => ∃ k : Int, e = .returned (.int .i64 k) ∧ W' = W := by
  refine Calls.mono (calls_of_every_depth fun D => AnyS.bits_LenIn { Try.lays189 with } D 0 W (by omega) (by omega)) ?_
  rintro e W' ⟨rfl, rfl⟩
  exact ⟨_, rfl, rfl⟩
set_option maxRecDepth 100000 in
theorem ins_nil (W : World) : Calls Try.prog 31 #[.slice none 0 0, .int .i64 0, .int .i64 0] W fun e W' => e = .returned (.tuple #[]) ∧ W' = W := by
  go_enter Try.func31, Try.ntmps31
  go_wp2_with fail
  go_loopw [6] (fun s6 wr => s6 = .int .i64 1 ∧ wr = W) (fun _ _ => 0)
  case atStart => exact ⟨rfl, rfl⟩
  case round =>
    obtain ⟨rfl, rfl⟩ := hrel
    go_wp2_with fail
    go_end0
    exact ⟨rfl, rfl⟩
set_option maxRecDepth 100000 in
theorem pdq_nil (k : Int) (W : World) : Calls Try.prog 23 #[.slice none 0 0, .int .i64 0, .int .i64 0, .int .i64 k] W fun e W' => e = .returned (.tuple #[]) ∧ W' = W := by
  go_enter Try.func23, Try.ntmps23
  go_wp2_with fail
  go_loopw [1, 2] (fun s1 s2 wr => s1 = .int .i64 0 ∧ s2 = .int .i64 0 ∧ wr = W) (fun _ _ _ => 0)
  case atStart => exact ⟨rfl, rfl, rfl⟩
  case round =>
    obtain ⟨rfl, rfl, rfl⟩ := hrel
    go_wp2_with fail
    refine (ins_nil _).mono ?_
    rintro e W' ⟨rfl, rfl⟩
    go_wp2_with fail
    exact bodyPost_ret (results_none rfl _ _ _) rfl ⟨rfl, rfl⟩
set_option maxRecDepth 100000 in
theorem sort_nil (W : World) : Calls Try.prog 13 #[.slice none 0 0] W fun e W' => e = .returned (.tuple #[]) ∧ Chg (fun _ => False) W W' := by
  go_enter Try.func13, Try.ntmps13
  go_wp2_with fail
  refine (len_zero _).mono ?_
  rintro e W' ⟨k, rfl, rfl⟩
  go_wp2_with fail
  refine (pdq_nil k _).mono ?_
  rintro e W' ⟨rfl, rfl⟩
  go_wp2_with fail
  go_end0
  exact ⟨rfl, Chg.refl _ _⟩

theorem sort_ints (v : Value) (zs : List Int) (W : World) (h : W.ownsRow 0 3 1 v zs.length (zs.map (Value.int .i64))) (hz : zs.length ≤ 4398046511104) :
    Calls Try.prog 13 #[v] W fun e W' => e = .returned (.tuple #[]) ∧ W'.ownsRow 0 3 1 v zs.length ((sortZ zs).map (Value.int .i64)) ∧ Chg (fun k => v.ownBlock = some k) W W' := by
  rcases h.2 with ⟨h0, h1⟩ | ⟨g, cap, cur, hv, hg, hb, hn, hcap, hsz, htk⟩
  · subst h0
    have hz0 : zs = [] := by
      cases zs with
      | nil => rfl
      | cons a r => simp at h1
    subst hz0
    refine (sort_nil W).mono ?_
    rintro e W' ⟨rfl, C⟩
    have e0 : sortZ [] = [] := by simp [sortZ]
    rw [e0]
    exact ⟨rfl, World.ownsRow_nil _ _ _ _, C.mono (fun _ _ x => x.elim)⟩
  · subst hv
    rw [Nat.mul_one] at htk
    refine (Any.slices_Sort_int Try.lays189 g 0 cap zs W (holds_of_blockI hb htk) (lt_of hb) (by omega)).mono ?_
    rintro e W' ⟨rfl, n, os, rfl⟩
    exact ⟨rfl, ownsRow_sortedI (sortZ_length zs) hg hb hn hcap hsz, (Chg.refl _ W).grown (grownBy_sortedI _) (fun k e _ => e)⟩
end Go.Proofs.Ytmjjaadliebgoaa
