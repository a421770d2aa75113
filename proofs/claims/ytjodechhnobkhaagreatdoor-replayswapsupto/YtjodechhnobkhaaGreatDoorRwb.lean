/- What comes in (calls that were done, steps); which accesses clash. -/
import Derived.Test.YtjodechhnobkhaaGreatDoorRwa
namespace Go.Proofs.YtjodechhnobkhaaGreatDoor
open Go.RowKit
set_option linter.unusedVariables false

structure Dx where
  th : Int
  idx : Int
  fr : Int
  til : Int
  rest : List Value
structure Dx.Ok (d : Dx) : Prop where
  th : isI d.th
  fr : isI d.fr
  til : isI d.til
  rest : d.rest.length = 18
  one : d.rest.all (·.oneCell') = true
def didC (d : Dx) : Array Value := (.int .i64 d.th :: .int .i64 d.idx :: .int .i64 d.fr :: .int .i64 d.til :: d.rest).toArray
theorem list18 {α : Type} {l : List α} (h : l.length = 18) : ∃ r0 r1 r2 r3 r4 r5 r6 r7 r8 r9 r10 r11 r12 r13 r14 r15 r16 r17, l = [r0, r1, r2, r3, r4, r5, r6, r7, r8, r9, r10, r11, r12, r13, r14, r15, r16, r17] := by
  match l, h with
  | [r0, r1, r2, r3, r4, r5, r6, r7, r8, r9, r10, r11, r12, r13, r14, r15, r16, r17], _ => exact ⟨r0, r1, r2, r3, r4, r5, r6, r7, r8, r9, r10, r11, r12, r13, r14, r15, r16, r17, rfl⟩
def DRd (W : World) (p : Option Addr) (ds : List Dx) : Prop :=
  ds = [] ∨ ∃ bk off, p = some ⟨bk, off, none⟩ ∧ bk < W.heap.size ∧ ∀ (i : Nat) (d : Dx), ds[i]? = some d → ∀ (j : Nat) u, (didC d)[j]? = some u → W.cell? ⟨bk, off + i * 22 + j, none⟩ = some u
theorem DRd.get {W : World} {p : Option Addr} {ds : List Dx} (h : DRd W p ds) (i : Nat) (d : Dx) (hd : ds[i]? = some d) : ∃ bk off, p = some ⟨bk, off, none⟩ ∧ bk < W.heap.size ∧ ∀ (j : Nat) u, (didC d)[j]? = some u → W.cell? ⟨bk, off + i * 22 + j, none⟩ = some u := by
  rcases h with rfl | ⟨bk, off, rfl, hb, h⟩
  · simp at hd
  · exact ⟨bk, off, rfl, hb, h i d hd⟩
theorem DRd.on {W X : World} {p : Option Addr} {ds : List Dx} (h : DRd W p ds) (hb : Below W.heap.size W X) : DRd X p ds := by
  rcases h with rfl | ⟨bk, off, rfl, hl, h⟩
  · exact .inl rfl
  · exact .inr ⟨bk, off, rfl, Nat.lt_of_lt_of_le hl hb.size, fun i d hd j u hj => cell_below (h i d hd j u hj) hb⟩
def IRd (W : World) (p : Option Addr) (zs : List Int) : Prop :=
  zs = [] ∨ ∃ bk off, p = some ⟨bk, off, none⟩ ∧ bk < W.heap.size ∧ ∀ (i : Nat) (z : Int), zs[i]? = some z → W.cell? ⟨bk, off + i, none⟩ = some (.int .i64 z)
theorem IRd.get {W : World} {p : Option Addr} {zs : List Int} (h : IRd W p zs) (i : Nat) (z : Int) (hz : zs[i]? = some z) : ∃ bk off, p = some ⟨bk, off, none⟩ ∧ bk < W.heap.size ∧ W.cell? ⟨bk, off + i, none⟩ = some (.int .i64 z) := by
  rcases h with rfl | ⟨bk, off, rfl, hb, h⟩
  · simp at hz
  · exact ⟨bk, off, rfl, hb, h i z hz⟩
theorem IRd.on {W X : World} {p : Option Addr} {zs : List Int} (h : IRd W p zs) (hb : Below W.heap.size W X) : IRd X p zs := by
  rcases h with rfl | ⟨bk, off, rfl, hl, h⟩
  · exact .inl rfl
  · exact .inr ⟨bk, off, rfl, Nat.lt_of_lt_of_le hl hb.size, fun i z hz => cell_below (h i z hz) hb⟩

def wrA (kind : Nat) (ok : Bool) : Bool := decide (kind = 2) || decide (kind = 4) || (decide (kind = 3) && ok)
def clA (k l : Nat) (a b : Nat) (x y : Bool) : Bool := if k = 5 ∨ l = 5 then decide (k = l) else decide (a = b) && (wrA k x || wrA l y)

set_option maxRecDepth 100000 in
set_option maxHeartbeats 2000000 in
theorem writes_any (th : Int) (kind ad a b : Nat) (v : Value) (got : Nat) (ok : Bool) (W : World) :
    Calls Tryz.prog 41 #[.agg (accC th kind ad a b v got ok)] W fun e W' => e = .returned (.bool (wrA kind ok)) ∧ Below W.heap.size W W' := by
  unfold accC
  have r : wrA kind ok = (decide (kind = 2) || decide (kind = 4) || (decide (kind = 3) && ok)) := rfl
  by_cases h2 : kind = 2
  · subst h2
    go_enter Tryz.func41, Tryz.ntmps41
    go_wp2_with fail
    go_ret
    exact ⟨by first | rfl | (simp [r]; done) | (simp [r, h2, h3, h4, t2, t4]; done), below_alloc _ _⟩
  by_cases h4 : kind = 4
  · subst h4
    go_enter Tryz.func41, Tryz.ntmps41
    go_wp2_with fail
    go_ret
    exact ⟨by first | rfl | (simp [r]; done) | (simp [r, h2, h3, h4, t2, t4]; done), below_alloc _ _⟩
  have t2 : ¬ ((kind : Int) = 2) := by omega
  have t4 : ¬ ((kind : Int) = 4) := by omega
  by_cases h3 : kind = 3
  · subst h3
    go_enter Tryz.func41, Tryz.ntmps41
    go_wp2_with fail
    go_ret
    exact ⟨by first | rfl | (simp [r]; done) | (simp [r, h2, h3, h4, t2, t4]; done), below_alloc _ _⟩
  · have t3 : ¬ ((kind : Int) = 3) := by omega
    go_enter Tryz.func41, Tryz.ntmps41
    go_wp2_with fail
    go_ret
    exact ⟨by first | rfl | (simp [r]; done) | (simp [r, h2, h3, h4, t2, t4]; done), below_alloc _ _⟩
set_option maxRecDepth 100000 in
set_option maxHeartbeats 2000000 in
theorem rwrites_any (th : Int) (kind ad a b : Nat) (v : Value) (got : Nat) (ok : Bool) (W : World) :
    Calls Tryz.prog 42 #[.agg (accC th kind ad a b v got ok)] W fun e W' => e = .returned (.bool (wrA kind ok)) ∧ Below W.heap.size W W' := by
  unfold accC
  have r : wrA kind ok = (decide (kind = 2) || decide (kind = 4) || (decide (kind = 3) && ok)) := rfl
  by_cases h2 : kind = 2
  · subst h2
    go_enter Tryz.func42, Tryz.ntmps42
    go_wp2_with fail
    go_ret
    exact ⟨by first | rfl | (simp [r]; done) | (simp [r, h2, h3, h4, t2, t4]; done), below_alloc _ _⟩
  by_cases h4 : kind = 4
  · subst h4
    go_enter Tryz.func42, Tryz.ntmps42
    go_wp2_with fail
    go_ret
    exact ⟨by first | rfl | (simp [r]; done) | (simp [r, h2, h3, h4, t2, t4]; done), below_alloc _ _⟩
  have t2 : ¬ ((kind : Int) = 2) := by omega
  have t4 : ¬ ((kind : Int) = 4) := by omega
  by_cases h3 : kind = 3
  · subst h3
    go_enter Tryz.func42, Tryz.ntmps42
    go_wp2_with fail
    go_ret
    exact ⟨by first | rfl | (simp [r]; done) | (simp [r, h2, h3, h4, t2, t4]; done), below_alloc _ _⟩
  · have t3 : ¬ ((kind : Int) = 3) := by omega
    go_enter Tryz.func42, Tryz.ntmps42
    go_wp2_with fail
    go_ret
    exact ⟨by first | rfl | (simp [r]; done) | (simp [r, h2, h3, h4, t2, t4]; done), below_alloc _ _⟩
set_option maxRecDepth 100000 in
set_option maxHeartbeats 2000000 in
theorem clash_any (th : Int) (kind ad a b : Nat) (v : Value) (got : Nat) (ok : Bool) (th' : Int) (kind' ad' a' b' : Nat) (v' : Value) (got' : Nat) (ok' : Bool) (W : World) :
    Calls Tryz.prog 25 #[.agg (accC th kind ad a b v got ok), .agg (accC th' kind' ad' a' b' v' got' ok')] W fun e W' => e = .returned (.bool (clA kind kind' ad ad' ok ok')) ∧ Below W.heap.size W W' := by
  have hw1 := fun w => writes_any th kind ad a b v got ok w
  have hw2 := fun w => writes_any th' kind' ad' a' b' v' got' ok' w
  obtain ⟨w2, hw⟩ : ∃ w2, w2 = (W.alloc (.cells (accC th kind ad a b v got ok) 44)).alloc (.cells (accC th' kind' ad' a' b' v' got' ok') 44) := ⟨_, rfl⟩
  have B2 : Below W.heap.size W w2 := by rw [hw]; exact (below_alloc _ _).trans ((below_alloc _ _).mono (by simp))
  have hb1 : w2.heap[W.heap.size]? = some (.cells (accC th kind ad a b v got ok) 44 (0, 0)) := by
    rw [hw, Below.heap_alloc _ _ _ (by simp)]
    exact heap_alloc_new _ _
  have hb2 : w2.heap[W.heap.size + 1]? = some (.cells (accC th' kind' ad' a' b' v' got' ok') 44 (0, 0)) := by
    rw [hw]
    have := heap_alloc_new (W.alloc (.cells (accC th kind ad a b v got ok) 44)) (.cells (accC th' kind' ad' a' b' v' got' ok') 44)
    simpa using this
  unfold accC at hw1 hw2 hb1 hb2 hw ⊢
  have HW := keepH hw
  have HB := keepH hb1
  have HB2 := keepH hb2
  have HB3 := keepH B2
  clear hw hb1 hb2 B2
  by_cases h5 : kind = 5
  · subst h5
    by_cases h6 : kind' = 5
    · subst h6
      clear HW HB HB2 HB3 hw1 hw2
      go_enter Tryz.func25, Tryz.ntmps25
      go_wp2_with fail
      go_ret
      exact ⟨by simp [clA], (below_alloc _ _).trans ((below_alloc _ _).mono (by simp))⟩
    · have t6 : ¬ ((kind' : Int) = 5) := by omega
      have t7 : ¬ ((5 : Int) = (kind' : Int)) := by omega
      have r6 : ¬ (5 = kind') := by omega
      clear HW HB HB2 HB3 hw1 hw2
      go_enter Tryz.func25, Tryz.ntmps25
      go_wp2_with fail
      go_ret
      exact ⟨by first | (simp [clA, r6]; done) | simp [clA, r6, t7], (below_alloc _ _).trans ((below_alloc _ _).mono (by simp))⟩
  have t5 : ¬ ((kind : Int) = 5) := by omega
  by_cases h6 : kind' = 5
  · subst h6
    clear HW HB HB2 HB3 hw1 hw2
    go_enter Tryz.func25, Tryz.ntmps25
    go_wp2_with fail
    go_ret
    exact ⟨by first | (simp [clA, h5]; done) | simp [clA, h5, t5], (below_alloc _ _).trans ((below_alloc _ _).mono (by simp))⟩
  have t6 : ¬ ((kind' : Int) = 5) := by omega
  have u5 : ((kind : Int) == 5) = false := by simpa using t5
  have u6 : ((kind' : Int) == 5) = false := by simpa using t6
  have r0 : clA kind kind' ad ad' ok ok' = (decide (ad = ad') && (wrA kind ok || wrA kind' ok')) := by unfold clA; rw [if_neg (by simp [h5, h6])]
  rw [r0]
  by_cases hd : ad = ad'
  · subst hd
    have R : (decide (ad = ad) && (wrA kind ok || wrA kind' ok')) = (wrA kind ok || wrA kind' ok') := by simp
    rw [R]
    clear R r0
    obtain ⟨g1, hg1⟩ : ∃ g, g = wrA kind ok := ⟨_, rfl⟩
    obtain ⟨g2, hg2⟩ : ∃ g, g = wrA kind' ok' := ⟨_, rfl⟩
    rw [← hg1] at hw1 ⊢
    rw [← hg2] at hw2 ⊢
    clear hg1 hg2
    have q1 := hw1 w2
    have HW2 := keepH hw2
    clear hw1 hw2
    cases g1
    · go_enter Tryz.func25, Tryz.ntmps25
      go_wp2_with fail
      rw [← HW.out]
      refine q1.mono ?_
      rintro e w3 ⟨rfl, C3⟩
      have X3 := C3.block _ (Array.getElem?_eq_some_iff.1 HB2.out).1
      rw [HB2.out] at X3
      have B3 := below_chain HB3.out C3
      have d0 := cell_of X3 0
      have d1 := cell_of X3 1
      have d2 := cell_of X3 2
      have d3 := cell_of X3 3
      have d4 := cell_of X3 4
      have d5 := cell_of X3 5
      have d6 := cell_of X3 6
      have d7 := cell_of X3 7
      have q2 := HW2.out w3
      clear X3 C3 q1
      go_wp2_with fail
      refine q2.mono ?_
      rintro e w4 ⟨rfl, C4⟩
      have B4 := below_chain B3 C4
      clear C4 q2
      go_wp2_with fail
      go_ret
      exact ⟨by simp, B4⟩
    · go_enter Tryz.func25, Tryz.ntmps25
      go_wp2_with fail
      rw [← HW.out]
      refine q1.mono ?_
      rintro e w3 ⟨rfl, C3⟩
      have B3 := below_chain HB3.out C3
      clear C3 q1
      go_wp2_with fail
      go_ret
      exact ⟨by simp, B3⟩
  · have td : ¬ ((ad : Int) = (ad' : Int)) := by omega
    have R : (decide (ad = ad') && (wrA kind ok || wrA kind' ok')) = false := by simp [hd]
    rw [R]
    clear HW HB HB2 HB3 hw1 hw2 R r0
    go_enter Tryz.func25, Tryz.ntmps25
    go_wp2_with fail
    go_ret
    exact ⟨by first | rfl | simp, (below_alloc _ _).trans ((below_alloc _ _).mono (by simp))⟩
set_option maxRecDepth 100000 in
set_option maxHeartbeats 2000000 in
theorem rclash_any (th : Int) (kind ad a b : Nat) (v : Value) (got : Nat) (ok : Bool) (th' : Int) (kind' ad' a' b' : Nat) (v' : Value) (got' : Nat) (ok' : Bool) (W : World) :
    Calls Tryz.prog 26 #[.agg (accC th kind ad a b v got ok), .agg (accC th' kind' ad' a' b' v' got' ok')] W fun e W' => e = .returned (.bool (clA kind kind' ad ad' ok ok')) ∧ Below W.heap.size W W' := by
  have hw1 := fun w => rwrites_any th kind ad a b v got ok w
  have hw2 := fun w => rwrites_any th' kind' ad' a' b' v' got' ok' w
  obtain ⟨w2, hw⟩ : ∃ w2, w2 = (W.alloc (.cells (accC th kind ad a b v got ok) 44)).alloc (.cells (accC th' kind' ad' a' b' v' got' ok') 44) := ⟨_, rfl⟩
  have B2 : Below W.heap.size W w2 := by rw [hw]; exact (below_alloc _ _).trans ((below_alloc _ _).mono (by simp))
  have hb1 : w2.heap[W.heap.size]? = some (.cells (accC th kind ad a b v got ok) 44 (0, 0)) := by
    rw [hw, Below.heap_alloc _ _ _ (by simp)]
    exact heap_alloc_new _ _
  have hb2 : w2.heap[W.heap.size + 1]? = some (.cells (accC th' kind' ad' a' b' v' got' ok') 44 (0, 0)) := by
    rw [hw]
    have := heap_alloc_new (W.alloc (.cells (accC th kind ad a b v got ok) 44)) (.cells (accC th' kind' ad' a' b' v' got' ok') 44)
    simpa using this
  unfold accC at hw1 hw2 hb1 hb2 hw ⊢
  have HW := keepH hw
  have HB := keepH hb1
  have HB2 := keepH hb2
  have HB3 := keepH B2
  clear hw hb1 hb2 B2
  by_cases h5 : kind = 5
  · subst h5
    by_cases h6 : kind' = 5
    · subst h6
      clear HW HB HB2 HB3 hw1 hw2
      go_enter Tryz.func26, Tryz.ntmps26
      go_wp2_with fail
      go_ret
      exact ⟨by simp [clA], (below_alloc _ _).trans ((below_alloc _ _).mono (by simp))⟩
    · have t6 : ¬ ((kind' : Int) = 5) := by omega
      have t7 : ¬ ((5 : Int) = (kind' : Int)) := by omega
      have r6 : ¬ (5 = kind') := by omega
      clear HW HB HB2 HB3 hw1 hw2
      go_enter Tryz.func26, Tryz.ntmps26
      go_wp2_with fail
      go_ret
      exact ⟨by first | (simp [clA, r6]; done) | simp [clA, r6, t7], (below_alloc _ _).trans ((below_alloc _ _).mono (by simp))⟩
  have t5 : ¬ ((kind : Int) = 5) := by omega
  by_cases h6 : kind' = 5
  · subst h6
    clear HW HB HB2 HB3 hw1 hw2
    go_enter Tryz.func26, Tryz.ntmps26
    go_wp2_with fail
    go_ret
    exact ⟨by first | (simp [clA, h5]; done) | simp [clA, h5, t5], (below_alloc _ _).trans ((below_alloc _ _).mono (by simp))⟩
  have t6 : ¬ ((kind' : Int) = 5) := by omega
  have u5 : ((kind : Int) == 5) = false := by simpa using t5
  have u6 : ((kind' : Int) == 5) = false := by simpa using t6
  have r0 : clA kind kind' ad ad' ok ok' = (decide (ad = ad') && (wrA kind ok || wrA kind' ok')) := by unfold clA; rw [if_neg (by simp [h5, h6])]
  rw [r0]
  by_cases hd : ad = ad'
  · subst hd
    have R : (decide (ad = ad) && (wrA kind ok || wrA kind' ok')) = (wrA kind ok || wrA kind' ok') := by simp
    rw [R]
    clear R r0
    obtain ⟨g1, hg1⟩ : ∃ g, g = wrA kind ok := ⟨_, rfl⟩
    obtain ⟨g2, hg2⟩ : ∃ g, g = wrA kind' ok' := ⟨_, rfl⟩
    rw [← hg1] at hw1 ⊢
    rw [← hg2] at hw2 ⊢
    clear hg1 hg2
    have q1 := hw1 w2
    have HW2 := keepH hw2
    clear hw1 hw2
    cases g1
    · go_enter Tryz.func26, Tryz.ntmps26
      go_wp2_with fail
      rw [← HW.out]
      refine q1.mono ?_
      rintro e w3 ⟨rfl, C3⟩
      have X3 := C3.block _ (Array.getElem?_eq_some_iff.1 HB2.out).1
      rw [HB2.out] at X3
      have B3 := below_chain HB3.out C3
      have d0 := cell_of X3 0
      have d1 := cell_of X3 1
      have d2 := cell_of X3 2
      have d3 := cell_of X3 3
      have d4 := cell_of X3 4
      have d5 := cell_of X3 5
      have d6 := cell_of X3 6
      have d7 := cell_of X3 7
      have q2 := HW2.out w3
      clear X3 C3 q1
      go_wp2_with fail
      refine q2.mono ?_
      rintro e w4 ⟨rfl, C4⟩
      have B4 := below_chain B3 C4
      clear C4 q2
      go_wp2_with fail
      go_ret
      exact ⟨by simp, B4⟩
    · go_enter Tryz.func26, Tryz.ntmps26
      go_wp2_with fail
      rw [← HW.out]
      refine q1.mono ?_
      rintro e w3 ⟨rfl, C3⟩
      have B3 := below_chain HB3.out C3
      clear C3 q1
      go_wp2_with fail
      go_ret
      exact ⟨by simp, B3⟩
  · have td : ¬ ((ad : Int) = (ad' : Int)) := by omega
    have R : (decide (ad = ad') && (wrA kind ok || wrA kind' ok')) = false := by simp [hd]
    rw [R]
    clear HW HB HB2 HB3 hw1 hw2 R r0
    go_enter Tryz.func26, Tryz.ntmps26
    go_wp2_with fail
    go_ret
    exact ⟨by first | rfl | simp, (below_alloc _ _).trans ((below_alloc _ _).mono (by simp))⟩
end Go.Proofs.YtjodechhnobkhaaGreatDoor
