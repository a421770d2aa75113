/- The walk through the levels of a mixed key (a function that yields), and how many digits two keys have in common. -/
import Derived.RangeFuncNested
import Derived.RangeFuncBox
import Derived.RangeFuncBound
import Derived.RangeFuncCalls
import Derived.RangeFuncLeaves
import Derived.Shelf.Abstract
import Derived.WalkKit
import Derived.OwnWalkIn
import Derived.TacticsInMore
import Derived.LoopNIn
import Derived.LoopIn
import Derived.Test.YtoopbacnnkmpbacDig
namespace Go.Proofs.Ytoopbacnnkmpbac
open Go.RowKit Go.Shelf

attribute [local go_sem] Oper.semAt_some

def idx (k : Nat) : Fin 11 := ⟨k % 11, Nat.mod_lt _ (by decide)⟩
def firsts : Nat → List (Fin 11)
  | 0 => []
  | k + 1 => firsts k ++ [idx k]
theorem firsts_length (k : Nat) : (firsts k).length = k := by
  induction k with
  | zero => rfl
  | succ k ih => simp [firsts, ih]
theorem idx_val (k : Nat) (h : k < 11) : (idx k).val = k := Nat.mod_eq_of_lt h
theorem mem_firsts (k : Nat) (hk : k ≤ 11) (j : Nat) (hj : j < k) : idx j ∈ firsts k := by
  induction k with
  | zero => omega
  | succ k ih =>
    simp only [firsts, List.mem_append, List.mem_singleton]
    by_cases h : j = k
    · subst h; exact .inr rfl
    · exact .inl (ih (by omega) (by omega))

def KeepC (Bs : Nat) (W W' : World) : Prop := W'.cell? ⟨Bs, 0, none⟩ = W.cell? ⟨Bs, 0, none⟩
theorem KeepC.t {Bs : Nat} {A B C : World} (h : KeepC Bs A B) (k : KeepC Bs B C) : KeepC Bs A C := Eq.trans k h
theorem KeepC.b {Bs : Nat} {w : World} (hn : Bs < w.heap.size) (W : World) (l : Nat) (o o' : Obj) (hl : w.heap.size ≤ l) (h : W.heap[l]? = some o) (hc : o.isCells = false) (hk : o.isWalk = false) : KeepC Bs W (W.putObj l o') :=
  (belowK_b (n₀ := Bs + 1) (w := w) (by omega) W l o o' hl h hc hk).cell (p := ⟨Bs, 0, none⟩) (by simp)

def encL (h : Int) (j : Fin 11) : Array Value := #[Value.int .i64 (j.val : Int), Value.int .i64 (dig h (j.val : Int))]

set_option maxRecDepth 100000 in
set_option maxHeartbeats 2000000 in
theorem levels1_in (n l Bs : Nat) (hn : 1 ≤ n) (h : Int) (h0 : 0 ≤ h) (h1 : h < 18446744073709551616) (J Jx : List (Fin 11) → World → Prop)
    (hY : ∀ pre x W, J pre W → pre.length < 11 → YieldAt Fence.wide (n - 1) Try.prog l (encL h x) W fun e W' =>
      (e = .returned (.bool true) ∧ J (pre ++ [x]) W' ∧ KeepC Bs W W') ∨ (e = .returned (.bool false) ∧ Jx (pre ++ [x]) W'))
    (W : World) (hBs : W.cell? ⟨Bs, 0, none⟩ = some (.int .u64 h)) (hJ0 : J [] W) :
    CallsIn Fence.wide n Try.prog 49 #[.func (.yield l) #[] #[], .pointer (some ⟨Bs, 0, none⟩)] W fun e W' => (∃ v, e = .returned v) ∧
      ((∃ ys, ys = firsts 11 ∧ J ys W') ∨ (∃ pre, (∃ k, k ≤ 11 ∧ pre = firsts k) ∧ Jx pre W')) := by
  refine callsIn_of_wp Try.func49 rfl trivial ?_ rfl
  simp only [Try.ntmps49, List.size_toArray, List.length_cons, List.length_nil, Nat.reduceAdd, Nat.reduceSub, Array.replicate_succ, Array.replicate_zero, List.push_toArray, List.append_toArray, List.nil_append, List.cons_append]
  gi_wp2
  gi_loopw [4] (fun i wr => ∃ k : Nat, k ≤ 11 ∧ i = .int .i64 k ∧ J (firsts k) wr ∧ wr.cell? ⟨Bs, 0, none⟩ = some (.int .u64 h))
    (fun i _ => 11 - (intOf i).toNat)
  case atStart => exact ⟨0, Nat.zero_le _, rfl, hJ0, hBs⟩
  case round =>
    obtain ⟨k, hk, rfl, hJs, hcx⟩ := hrel
    by_cases hlt : k < 11
    · obtain ⟨fn, tmps, assign, body, hy, hR⟩ := hY _ (idx k) wr hJs (by rw [firsts_length]; exact hlt)
      unfold encL at hy
      rw [idx_val k hlt] at hy
      gi_wp2_with (refine ⟨trivial, ?_⟩; gi_at_call 9; refine (callsIn_wide.2 (digit_any h (k : Int) _ h0 h1 (by omega) (by omega))).mono ?_; rintro e w1 ⟨rfl, rfl⟩)
      refine hR.mono ?_
      rintro e W3 (⟨rfl, hJ3, hk3⟩ | ⟨rfl, hJx3⟩)
      · gi_wp2
        go_roundw
        case rel => exact ⟨k + 1, by omega, by simp, hJ3, Eq.trans hk3 hcx⟩
        case measure => simp [intOf]; omega
      · gi_wp2
        refine bodyPost_ret (results_none rfl _ _ _) rfl ?_
        exact ⟨⟨_, rfl⟩, .inr ⟨_, ⟨k + 1, by omega, rfl⟩, hJx3⟩⟩
    · obtain rfl : k = 11 := by omega
      gi_wp2
      go_end0
      exact ⟨⟨_, rfl⟩, .inl ⟨_, rfl, hJs⟩⟩

set_option maxHeartbeats 1000000 in
theorem levels_in (n : Nat) (h : Int) (w : World) :
    CallsIn Fence.wide n Try.prog 22 #[.int .u64 h] w fun e w' => e = .returned (.func (.func 49) #[] #[.pointer (some ⟨w.heap.size, 0, none⟩)]) ∧ w' = w.alloc (.cells #[.int .u64 h] 22) := by
  refine callsIn_of_wp Try.func22 rfl trivial ?_ rfl
  simp only [Try.ntmps22, List.size_toArray, List.length_cons, List.length_nil, Nat.reduceAdd, Nat.reduceSub, Array.replicate_succ, Array.replicate_zero, List.push_toArray, List.append_toArray, List.nil_append, List.cons_append]
  gi_wp2
  go_ret
  exact ⟨rfl, rfl⟩

theorem levels_stops (n : Nat) (hn : 1 ≤ n) (Bs : Nat) (h : Int) (h0 : 0 ≤ h) (h1 : h < 18446744073709551616) (w : World) (hBs : Bs < w.heap.size)
    (hc : w.cell? ⟨Bs, 0, none⟩ = some (.int .u64 h)) :
    SeqStopsK Fence.wide n Try.prog 49 #[.pointer (some ⟨Bs, 0, none⟩)] (encL h) (KeepC Bs) (fun ys => ys = firsts 11)
      (fun pre => ∃ k, k ≤ 11 ∧ pre = firsts k) 11 w := fun l J Jx W hW _ _ hY hJ0 =>
  levels1_in n l Bs hn h h0 h1 J Jx hY W ((hW.cell (p := ⟨Bs, 0, none⟩) hBs).trans hc) hJ0

def Comm (a b : Int) (c : Nat) : Prop := c ≤ 11 ∧ (∀ j : Nat, j < c → dig a (j : Int) = dig b (j : Int)) ∧ (c < 11 → dig a (c : Int) ≠ dig b (c : Int))
theorem comm_one {a b : Int} {c d : Nat} (h : Comm a b c) (k : Comm a b d) : c = d := by
  obtain ⟨h1, h2, h3⟩ := h
  obtain ⟨k1, k2, k3⟩ := k
  by_cases e : c < d
  · exact absurd (k2 c e) (h3 (by omega))
  · by_cases f : d < c
    · exact absurd (h2 d f) (k3 (by omega))
    · omega
theorem comm_same (a : Int) : Comm a a 11 := ⟨by omega, fun _ _ => rfl, fun h => by omega⟩

set_option maxRecDepth 100000 in
set_option maxHeartbeats 2000000 in
theorem common_in (n : Nat) (hn : 3 ≤ n) (a b : Int) (a0 : 0 ≤ a) (a1 : a < 18446744073709551616) (b0 : 0 ≤ b) (b1 : b < 18446744073709551616) (w : World) :
    CallsIn Fence.wide n Try.prog 8 #[.int .u64 a, .int .u64 b] w fun e W' => (∃ c : Nat, e = .returned (.int .i64 (c : Int)) ∧ Comm a b c) ∧ Below w.heap.size w W' := by
  have h1 : 1 ≤ n := by omega
  refine callsIn_of_wp_marks Try.func8 rfl trivial ?_ rfl
  simp only [Try.ntmps8, List.size_toArray, List.length_cons, List.length_nil, Nat.reduceAdd, Nat.reduceSub, Array.replicate_succ, Array.replicate_zero, List.push_toArray, List.append_toArray, List.nil_append, List.cons_append]
  gi_wp2_with (refine ⟨trivial, ?_⟩; gi_at_call 22; refine (levels_in (n - 1) _ _).mono ?_; rintro e w' ⟨rfl, rfl⟩)
  have bB := Boxed.new w 22 (.int .u64 b)
  have bR := Boxed.new (w.alloc (.cells #[.int .u64 b] 22)) 3 (.int .i64 0)
  have bN := Boxed.new ((w.alloc (.cells #[.int .u64 b] 22)).alloc (.cells #[.int .i64 0] 3)) 22 (.int .u64 a)
  rw [World.size_alloc] at bR
  rw [World.size_alloc, World.size_alloc] at bN
  have hB0 : Below w.heap.size w (((w.alloc (.cells #[.int .u64 b] 22)).alloc (.cells #[.int .i64 0] 3)).alloc (.cells #[.int .u64 a] 22)) := (((Below.refl _ w).alloc (Nat.le_refl _) _).alloc (by simp) _).alloc (by simp; omega) _
  have hd2 : 1 ≤ n - 1 - 1 := by omega
  refine wpIn_rangeFunc_ownG rfl h1 (gf := 49) (lb := #[.pointer (some ⟨w.heap.size + 1 + 1, 0, none⟩)]) rfl trivial (enters_of Try.func49 (by kernel_rfl) rfl)
    (levels_stops (n - 1) (by omega) (w.heap.size + 1 + 1) a a0 a1 _ (by simp) bN.cell) KeepC.t (KeepC.b (by simp)) (Below.refl _ _) (fun _ => rfl)
    (fun pre W => ((∀ j ∈ pre, dig a (j.val : Int) = dig b (j.val : Int)) ∧ W.cell? ⟨w.heap.size, 0, none⟩ = some (.int .u64 b) ∧ W.cell? ⟨w.heap.size + 1, 0, none⟩ = some (.int .i64 0) ∧ W.frozen? ⟨w.heap.size + 1, 0, none⟩ = false) ∧ Below w.heap.size w W)
    (fun c pre W => (c = .ret ∧ ∃ ini last, pre = ini ++ [last] ∧ (∀ j ∈ ini, dig a (j.val : Int) = dig b (j.val : Int)) ∧ dig a (last.val : Int) ≠ dig b (last.val : Int) ∧ W.cell? ⟨w.heap.size + 1, 0, none⟩ = some (.int .i64 (last.val : Int))) ∧ Below w.heap.size w W)
    (OwnFrom.and (Own.from (fun s A B row hs hg hr => ⟨hs.1, cell_kept hs.2.1 hg hr, cell_kept hs.2.2.1 hg hr, (frozen_kept hs.2.2.1 hg hr).trans hs.2.2.2⟩) _) (ownFrom_below (Nat.le_refl _) (by simp; omega)))
    (fun c => OwnFrom.and (Own.from (fun s A B row hs hg hr => by obtain ⟨hc, ini, last, e1, e2, e3, e4⟩ := hs; exact ⟨hc, ini, last, e1, e2, e3, cell_kept e4 hg hr⟩) _) (ownFrom_below (Nat.le_refl _) (by simp; omega)))
    ⟨⟨by simp, ((bB.alloc _).alloc _).cell, (bR.alloc _).cell, (bR.alloc _).frozen⟩, hB0⟩
    (fun x => { tmps := #[.int .u64 a, .int .u64 b, undef, .pointer (some ⟨w.heap.size, 0, none⟩), .pointer (some ⟨w.heap.size + 1, 0, none⟩), .int .i64 (x.val : Int), .int .i64 (dig a (x.val : Int)), .int .u64 a, .func (.func 49) #[] #[.pointer (some ⟨w.heap.size + 1 + 1, 0, none⟩)], .int .i64 (x.val : Int), .int .i64 (dig a (x.val : Int)), undef, undef, undef, undef, undef, undef], defers := [] }) ?assign ?body ?done ?stop
  case assign =>
    intro l x W K hK
    unfold encL
    gi_wp2
    exact hK
  case body =>
    rintro l pre x W ⟨⟨hp, hcb, hcr, hfr⟩, hB⟩ _
    have hx := x.isLt
    by_cases hd : dig a (x.val : Int) = dig b (x.val : Int)
    · have hd' : (dig a (x.val : Int) != dig b (x.val : Int)) = false := by simp [hd]
      have HD : Hid (dig a (x.val : Int) = dig b (x.val : Int)) := hd
      clear hd
      gi_wp2_with (refine ⟨trivial, ?_⟩; gi_at_call 9; refine (CallsIn.inRound l (callsIn_wide.2 (digit_any b (x.val : Int) _ b0 b1 (by omega) (by omega)))).mono ?_; rintro e w1 ⟨rfl, rfl⟩)
      exact ⟨KeepsFrom.refl _ _, rfl, ⟨fun j hj => (List.mem_append.1 hj).elim (hp j) (fun e => by simp at e; subst e; exact HD.out), hcb, hcr, hfr⟩, hB⟩
    · have hd' : (dig a (x.val : Int) != dig b (x.val : Int)) = true := by simp [hd]
      gi_wp2_with (refine ⟨trivial, ?_⟩; gi_at_call 9; refine (CallsIn.inRound l (callsIn_wide.2 (digit_any b (x.val : Int) _ b0 b1 (by omega) (by omega)))).mono ?_; rintro e w1 ⟨rfl, rfl⟩)
      exact ⟨(KeepsOthers.setCell _ _ _).from _, ⟨rfl, pre, x, rfl, hp, hd, World.cell?_setCell_same' _ _ _ (by rw [hcr]; rfl)⟩, hB.setCell (p := ⟨w.heap.size + 1, 0, none⟩) (by simp) _⟩
  case done =>
    rintro D ys W hD rfl ⟨⟨hne, hcb, hcr, hfr⟩, hB⟩ hK
    gi_wp2
    have hK' := (KeepsOthers.setCell W ⟨w.heap.size + 1, 0, none⟩ (.int .i64 11)).same D _ hK rfl
    refine ⟨by simp, .inl ⟨_, _, rfl, run_takeDeferred hK', ?_⟩⟩
    have hc5 := cell_kept (World.cell?_setCell_same' W ⟨w.heap.size + 1, 0, none⟩ (.int .i64 11) (by rw [hcr]; rfl)) (grownBy_putObj' _ D (.deferred none)) (fun r e => by cases e; exact ⟨_, hK', rfl⟩)
    refine ⟨.int .i64 11, ?_, ⟨11, rfl, by omega, fun j hj => ?_, fun h => by omega⟩, (hB.setCell (p := ⟨w.heap.size + 1, 0, none⟩) (by simp) _).trans (belowK_b (w := w) (Nat.le_refl _) _ D _ _ (by simp at hD; omega) hK' rfl rfl)⟩
    · simp [results, Try.results8, go_sem, hc5]
    · have := hne (idx j) (mem_firsts 11 (by omega) j hj)
      rwa [idx_val j hj] at this
  case stop =>
    rintro D c pre W hD ⟨k, hk, rfl⟩ ⟨⟨rfl, ini, last, e1, e2, e3, hcr⟩, hB⟩ hK
    gi_wp2
    refine ⟨by simp, .inl ⟨_, _, rfl, run_takeDeferred hK, ?_⟩⟩
    have hc5 := cell_kept hcr (grownBy_putObj' _ D (.deferred none)) (fun r e => by cases e; exact ⟨_, hK, rfl⟩)
    obtain ⟨k', rfl⟩ : ∃ k', k = k' + 1 := by
      cases k with
      | zero => simp [firsts] at e1
      | succ k' => exact ⟨k', rfl⟩
    simp only [firsts] at e1
    obtain ⟨rfl, e5⟩ := List.append_inj' e1 rfl
    obtain rfl : idx k' = last := by simpa using e5
    rw [idx_val k' (by omega)] at e3 hc5
    refine ⟨.int .i64 (k' : Int), ?_, ⟨k', rfl, by omega, fun j hj => ?_, fun _ => e3⟩, hB.trans (belowK_b (w := w) (Nat.le_refl _) W D _ _ (by simp at hD; omega) hK rfl rfl)⟩
    · simp [results, Try.results8, go_sem, hc5]
    · have := e2 (idx j) (mem_firsts k' (by omega) j hj)
      rwa [idx_val j (by omega)] at this

theorem common_any (a b : Int) (a0 : 0 ≤ a) (a1 : a < 18446744073709551616) (b0 : 0 ≤ b) (b1 : b < 18446744073709551616) (w : World) :
    Calls Try.prog 8 #[.int .u64 a, .int .u64 b] w fun e W' => (∃ c : Nat, e = .returned (.int .i64 (c : Int)) ∧ Comm a b c) ∧ Below w.heap.size w W' :=
  callsIn_wide.1 (common_in 3 (by omega) a b a0 a1 b0 b1 w)
end Go.Proofs.Ytoopbacnnkmpbac
