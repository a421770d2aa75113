/- Check; what must be whatever is asked. -/
import Derived.Test.YtjodechhnobkhaaGreatDoorRpp
namespace Go.Proofs.YtjodechhnobkhaaGreatDoor
open Go.RowKit Go.Shelf
set_option linter.unusedVariables false

/-- Check: what it tells -/
def chkV (n : Nat) (xs : List Ax) : Value := if ∀ x ∈ xs, RightA x then (if msBad n ⟨1, []⟩ xs < xs.length then .tuple #[.int .i64 210, .int .i64 (msBad n ⟨1, []⟩ xs : Int)] else .tuple #[.int .i64 0, .int .i64 (xs.length : Int)]) else .tuple #[.int .i64 52, .int .i64 (wrongI xs : Int)]
set_option maxRecDepth 100000 in
theorem check_any (n : Nat) (hn : 128 ≤ n ∧ n ≤ 4194304) (p : Option Addr) (c : Nat) (xs : List Ax) (W : World) (h : ARd W p xs) (hok : ∀ x ∈ xs, x.Ok) (hl : xs.length ≤ 1048576) (hvl : ∀ x ∈ xs, x.vals.length ≤ 1048576) :
    Calls Tryz.prog 6 #[.int .i64 (n : Int), .slice p xs.length c] W fun e W' => e = .returned (chkV n xs) ∧ Below W.heap.size W W' := by
  have hg := go_through n hn p c xs W h hok hl hvl
  obtain ⟨V, hV⟩ : ∃ V, V = chkV n xs := ⟨_, rfl⟩
  obtain ⟨N, hN⟩ : ∃ N, N = xs.length := ⟨_, rfl⟩
  rw [← hV]
  have HV := keepH hV
  have HN := keepH hN
  rw [← hN] at hg ⊢
  clear hV hN h hok hl hvl
  go_enter Tryz.func6, Tryz.ntmps6
  go_wp2_with fail
  refine hg.mono ?_
  rintro e w1 ⟨v, rfl, hb, hr⟩
  rcases hr with ⟨m, b, F, l, rfl, h1, h2, _⟩ | ⟨h1, h2, rfl⟩ | ⟨h1, rfl⟩
  · go_wp2_with fail
    go_ret2
    exact ⟨by rw [HV.out]; unfold chkV; rw [if_pos h1, if_neg (by omega)]; rfl, hb⟩
  · go_wp2_with fail
    go_ret2
    exact ⟨by rw [HV.out]; unfold chkV; rw [if_pos h1, if_pos h2]; rfl, hb⟩
  · go_wp2_with fail
    go_ret2
    exact ⟨by rw [HV.out]; unfold chkV; rw [if_neg h1]; rfl, hb⟩
def xs3 : List Ax := [⟨0, 5, 1, 0, 0, [9, 9], 0, false⟩, ⟨0, 1, 2, 0, 0, [], 9, false⟩, ⟨0, 1, 2, 0, 0, [], 8, false⟩]
def xs1 : List Ax := [⟨0, 1, 2, 0, 0, [], 9, false⟩]
theorem chk3 : chkV 128 xs3 = .tuple #[.int .i64 210, .int .i64 2] := by
  unfold chkV
  rw [if_pos (by decide)]
  have e : msBad 128 ⟨1, []⟩ xs3 = 2 := by decide
  rw [e, if_pos (by decide)]
  rfl
theorem dec_2 : Lib.decDigits 2 = [50] := by rw [Lib.decDigits]; rfl
theorem dec_9 : Lib.decDigits 9 = [57] := by rw [Lib.decDigits]; rfl
theorem dec_0 : Lib.itoa 0 = [48] := by
  rw [show (0 : Int) = ((0 : Nat) : Int) from rfl, Lib.itoa_nonneg, Lib.decDigits]; rfl
theorem prt1 : printA xs1 = [48, 32, 108, 111, 97, 100, 32, 50, 32, 57, 10] := by
  simp [printA, xs1, lineA, partsL, numsL, wordL, dec_2, dec_9, dec_0, Lib.join, List.intercalate]
theorem ok3 : ∀ x ∈ xs3, x.Ok := by
  intro x hx
  simp [xs3] at hx
  rcases hx with rfl | rfl | rfl
  all_goals exact ⟨by simp, by simp, by simp, by simp [isU], by simp [isU], by simp [isU], by simp [isU], by simp [isU]⟩
theorem ok1 : ∀ x ∈ xs1, x.Ok := by
  intro x hx
  simp [xs1] at hx
  subst hx
  exact ⟨by simp, by simp, by simp, by simp [isU], by simp [isU], by simp [isU], by simp [isU], by simp [isU]⟩
abbrev l3C (vp : Option Addr) : Array Value := #[.int .i64 0, .int .u8 5, .int .u64 1, .int .u64 0, .int .u64 0, .slice vp 2 2, .int .u64 0, .bool false, .int .i64 0, .int .u8 1, .int .u64 2, .int .u64 0, .int .u64 0, .slice none 0 0, .int .u64 9, .bool false, .int .i64 0, .int .u8 1, .int .u64 2, .int .u64 0, .int .u64 0, .slice none 0 0, .int .u64 8, .bool false]
theorem rd3 {W : World} {g0 g1 : Nat} (h0 : W.heap[g0]? = some (.cells #[.int .u64 9, .int .u64 9] 42 (0, 0))) (h1 : W.heap[g1]? = some (.cells (l3C (some ⟨g0, 0, none⟩)) 44 (0, 0))) : ARd W (some ⟨g1, 0, none⟩) xs3 := by
  refine Or.inr ⟨g1, 0, rfl, lt_of h1, fun i x hx => ?_⟩
  have hi : i < 3 := (List.getElem?_eq_some_iff.mp hx).1
  have hii : i = 0 ∨ i = 1 ∨ i = 2 := by omega
  rcases hii with rfl | rfl | rfl
  · simp [xs3] at hx
    subst hx
    refine ⟨some ⟨g0, 0, none⟩, 2, fun j u hj => ?_, Or.inr ⟨g0, 0, rfl, lt_of h0, fun k z hz => ?_⟩⟩
    · have hj8 : j < 8 := (Array.getElem?_eq_some_iff.1 hj).1
      rw [cell_of h1]
      have : j = 0 ∨ j = 1 ∨ j = 2 ∨ j = 3 ∨ j = 4 ∨ j = 5 ∨ j = 6 ∨ j = 7 := by omega
      rcases this with rfl | rfl | rfl | rfl | rfl | rfl | rfl | rfl <;> exact hj
    · have hk : k < 2 := (List.getElem?_eq_some_iff.mp hz).1
      rw [cell_of h0]
      have : k = 0 ∨ k = 1 := by omega
      rcases this with rfl | rfl <;> (injection hz with hz; subst hz; rfl)
  · simp [xs3] at hx
    subst hx
    refine ⟨none, 0, fun j u hj => ?_, Or.inl rfl⟩
    have hj8 : j < 8 := (Array.getElem?_eq_some_iff.1 hj).1
    rw [cell_of h1]
    have : j = 0 ∨ j = 1 ∨ j = 2 ∨ j = 3 ∨ j = 4 ∨ j = 5 ∨ j = 6 ∨ j = 7 := by omega
    rcases this with rfl | rfl | rfl | rfl | rfl | rfl | rfl | rfl <;> exact hj
  · simp [xs3] at hx
    subst hx
    refine ⟨none, 0, fun j u hj => ?_, Or.inl rfl⟩
    have hj8 : j < 8 := (Array.getElem?_eq_some_iff.1 hj).1
    rw [cell_of h1]
    have : j = 0 ∨ j = 1 ∨ j = 2 ∨ j = 3 ∨ j = 4 ∨ j = 5 ∨ j = 6 ∨ j = 7 := by omega
    rcases this with rfl | rfl | rfl | rfl | rfl | rfl | rfl | rfl <;> exact hj
theorem rd1 {W : World} {g1 : Nat} {vp : Option Addr} (h1 : W.heap[g1]? = some (.cells (l3C vp) 44 (0, 0))) : ARd W (some ⟨g1, 8, none⟩) xs1 := by
  refine Or.inr ⟨g1, 8, rfl, lt_of h1, fun i x hx => ?_⟩
  have hi : i < 1 := (List.getElem?_eq_some_iff.mp hx).1
  obtain rfl : i = 0 := by omega
  simp [xs1] at hx
  subst hx
  refine ⟨none, 0, fun j u hj => ?_, Or.inl rfl⟩
  have hj8 : j < 8 := (Array.getElem?_eq_some_iff.1 hj).1
  rw [cell_of h1]
  have : j = 0 ∨ j = 1 ∨ j = 2 ∨ j = 3 ∨ j = 4 ∨ j = 5 ∨ j = 6 ∨ j = 7 := by omega
  rcases this with rfl | rfl | rfl | rfl | rfl | rfl | rfl | rfl <;> exact hj

set_option maxRecDepth 100000 in
set_option maxHeartbeats 2000000 in
theorem live_21 (W : World) (T : Tb W) : Calls Tryz.prog 10 #[] W fun e W' => e = .returned (.bool true) ∧ Below W.heap.size W W' := by
  obtain ⟨w1, hw1⟩ : ∃ w1, w1 = W.alloc (.cells #[.int .u64 9, .int .u64 9] 42) := ⟨_, rfl⟩
  obtain ⟨w2, hw2⟩ : ∃ w2, w2 = w1.alloc (.cells (l3C (some ⟨W.heap.size, 0, none⟩)) 44) := ⟨_, rfl⟩
  obtain ⟨g1, hg1⟩ : ∃ g, g = w1.heap.size := ⟨_, rfl⟩
  have B1 : Below W.heap.size W w1 := by rw [hw1]; exact below_alloc _ _
  have B2 : Below w1.heap.size w1 w2 := by rw [hw2]; exact below_alloc _ _
  have X0 : w2.heap[W.heap.size]? = some (.cells #[.int .u64 9, .int .u64 9] 42 (0, 0)) := heap_below (by rw [hw1]; exact heap_alloc_new _ _) B2
  have X1 : w2.heap[g1]? = some (.cells (l3C (some ⟨W.heap.size, 0, none⟩)) 44 (0, 0)) := by rw [hw2, hg1]; exact heap_alloc_new _ _
  have hc := check_any 128 (by omega) (some ⟨g1, 0, none⟩) 3 xs3 w2 (rd3 X0 X1) ok3 (by decide) (by decide)
  rw [chk3] at hc
  have HP : Hid (∀ w', Below w2.heap.size w2 w' → Calls Tryz.prog 20 #[.slice (some ⟨g1, 8, none⟩) 1 2] w' fun e W' => e = .returned (.tuple #[.string (mkS (printA xs1)), .int .i64 0]) ∧ Below w'.heap.size w' W') := keepH (fun w' hb => print_yes (some ⟨g1, 8, none⟩) 2 xs1 w' ((rd1 X1).on hb) ok1 (by decide) (by decide) (by rw [prt1]; decide) (T.on (below_chain B1 (below_chain B2 hb))) (by decide))
  rw [prt1] at HP
  have HB := keepH (below_chain B1 B2)
  have HW1 := keepH hw1
  have HW2 : Hid ((W.alloc (.cells #[.int .u64 9, .int .u64 9] 42)).alloc (.cells #[.int .i64 0, .int .u8 5, .int .u64 1, .int .u64 0, .int .u64 0, .slice (some ⟨W.heap.size, 0, none⟩) 2 2, .int .u64 0, .bool false, .int .i64 0, .int .u8 1, .int .u64 2, .int .u64 0, .int .u64 0, .slice none 0 0, .int .u64 9, .bool false, .int .i64 0, .int .u8 1, .int .u64 2, .int .u64 0, .int .u64 0, .slice none 0 0, .int .u64 8, .bool false] 44) = w2) := keepH (by rw [hw2, hw1])
  have HG1 : Hid (g1 = W.heap.size + 1) := keepH (by rw [hg1, hw1]; simp)
  clear hw1 hw2 hg1 X0 X1 B1 B2 T
  have hc' : Calls Tryz.prog 6 #[.int .i64 128, .slice (some ⟨g1, 0, none⟩) 3 3] w2 fun e W' => e = .returned (.tuple #[.int .i64 210, .int .i64 2]) ∧ Below w2.heap.size w2 W' := hc
  clear hc
  go_enter Tryz.func10, Tryz.ntmps10
  go_upto_region 2 with fail
  rw [HW2.out, ← HG1.out]
  go_wp2_with fail
  refine hc'.mono ?_
  rintro e w3 ⟨rfl, C3⟩
  have hp := HP.out w3 C3
  have HB3 := keepH (below_chain HB.out C3)
  clear C3
  go_wp2_with fail
  refine hp.mono ?_
  rintro e w4 ⟨rfl, C4⟩
  have HB4 := keepH (below_chain HB3.out C4)
  clear C4
  go_wp2_with fail
  go_ret
  exact ⟨by first | rfl | simp, HB4.out⟩
end Go.Proofs.YtjodechhnobkhaaGreatDoor
