/- maps.Keys of the pictures: the handles come, each once. -/
import Derived.RangeFuncNested
import Derived.RangeFuncBox
import Derived.RangeFuncBound
import Derived.RangeFuncCalls
import Derived.RangeFuncLeaves
import Derived.Shelf.Abstract
import Derived.Shelf.AbstractIn
import Derived.WalkKit
import Derived.OwnWalkIn
import Derived.TacticsInMore
import Derived.RegionIn
import Derived.LoopNIn
import Derived.LoopIn
import Derived.Sort.MapsRangeIn
import Derived.Test.YtahgaghokpicgaaGreatW4Pi
import Derived.Test.YtahgaghokpicgaaGreatW1MsL
import Derived.Sort.LotA
import Derived.Sort.LotB
namespace Go.Proofs.YtahgaghokpicgaaGreat
open Go.RowKit Go.Maps Go.Shelf
set_option linter.unusedVariables false
set_option maxHeartbeats 16000000
attribute [local go_sem] Oper.semAt_some
def encU (x : Nat) : Value := .int .u64 x
theorem keyOf_u64 {key : Value} {kl : Lit} (h : keyOf Tryz.prog 30 key = some kl) : ∃ x : Nat, key = encU x ∧ kl = .int .u64 x ∧ x < 18446744073709551616 := by
 cases key <;> simp [keyOf, Tryz.underlying30, mapKey] at h
 rename_i q a
 obtain ⟨⟨rfl, hw⟩, rfl⟩ := h
 obtain ⟨x, rfl, hx⟩ := nat_u64 hw
 exact ⟨x, rfl, rfl, hx⟩
def CollU (h : Nat → Option Nat) (left : Lit → Bool) (ss : List Nat) : Prop := ss.Nodup ∧ ∀ x : Nat, x ∈ ss ↔ ((h x).isSome = true ∧ left (.int .u64 x) = false)
theorem CollU.start {H : Type} {el : Nat → DataW H} {ok : Nat → Prop} {D : DataW H} {h : Nat → Option Nat} (r : RdM el ok D h) : CollU h (Maps.has D) [] :=
 ⟨List.nodup_nil, fun x => by rw [r.has x]; cases (h x) <;> simp⟩
theorem CollU.step {h : Nat → Option Nat} {left : Lit → Bool} {ss : List Nat} (c : CollU h left ss) {x : Nat} (hx : (h x).isSome = true) (hl : left (.int .u64 x) = true) : CollU h (fun z => left z && !z.sameKey (.int .u64 x)) (ss ++ [x]) := by
 refine ⟨List.nodup_append.2 ⟨c.1, by simp, fun a ha b hb => ?_⟩, fun k => ?_⟩
 ·simp at hb
  subst hb
  rintro rfl
  have := ((c.2 a).1 ha).2
  rw [hl] at this
  cases this
 ·rw [left_step, List.mem_append, c.2 k]
  constructor
  ·rintro (⟨a, b⟩ | q)
   ·exact ⟨a, .inl b⟩
   ·simp at q
    subst q
    exact ⟨hx, .inr rfl⟩
  ·rintro ⟨a, b | b⟩
   ·exact .inl ⟨a, b⟩
   ·exact .inr (by simp [b])
def AllU (h : Nat → Option Nat) (ss : List Nat) : Prop := ss.Nodup ∧ ∀ x : Nat, x ∈ ss ↔ (h x).isSome = true
theorem CollU.all {h : Nat → Option Nat} {left : Lit → Bool} {ss : List Nat} (c : CollU h left ss) (hl : ∀ k, left k = false) : AllU h ss := ⟨c.1, fun x => by rw [c.2 x, hl]; simp⟩
set_option maxRecDepth 100000 in
theorem keys1_in (n l Bm b nn : Nat) (hn : 1 ≤ n) (D : DataW (Option Nat)) (h : Nat → Option Nat) (r : RdM elH (fun _ => True) D h) (J Jx : List Nat → World → Prop)
    (hY : ∀ pre x W, J pre W → pre.length < Maps.size D → YieldAt Fence.wide (n - 1) Tryz.prog l #[encU x] W fun e W' =>
     (e = .returned (.bool true) ∧ J (pre ++ [x]) W' ∧ KeepsWalks W W') ∨ (e = .returned (.bool false) ∧ Jx (pre ++ [x]) W'))
    (W : World) (hJ : AbidesFrom W.heap.size J) (hm : W.cell? ⟨Bm, 0, none⟩ = some (.map (some b))) (hown : W.ownsMap Tryz.prog 30 heldM b nn D) (h0 : J [] W) :
    CallsIn Fence.wide n Tryz.prog 92 #[.func (.yield l) #[] #[], .pointer (some ⟨Bm, 0, none⟩)] W fun e W' => (∃ v, e = .returned v) ∧
     ((∃ ss : List Nat, AllU h ss ∧ J ss W') ∨ (∃ pre : List Nat, True ∧ Jx pre W')) := by
 refine callsIn_of_wp Tryz.func92 rfl trivial ?_ rfl
 simp only [Tryz.ntmps92, List.size_toArray, List.length_cons, List.length_nil, Nat.reduceAdd, Nat.reduceSub, Array.replicate_succ, Array.replicate_zero, List.push_toArray, List.append_toArray, List.nil_append, List.cons_append]
 gi_wp2_with (first
  | (gi_at_range; refine wpListIn_range_own _ rfl _ 98 rfl 30 97 K64 Tryz.underlying98 _ b nn _ rfl hown ?_; intro w0 hrg0 hg0 hs0)
  | gi_in)
 go_frame
 gi_loopw [3] (fun _ wr => ∃ (left : Lit → Bool) (cnt : Nat) (ss : List Nat), wr.ranges Tryz.prog 30 heldM b W.heap.size nn D left cnt ∧ ss.length + cnt ≤ Maps.size D ∧ CollU h left ss ∧ J ss wr)
  (fun _ wr => wr.rangeLeft b W.heap.size)
 case atStart =>
  exact ⟨_, _, [], hrg0, by simp, CollU.start r, hJ [] W w0 none h0 hg0 (fun r e => by cases e)⟩
 case round =>
  obtain ⟨left, cnt, ss, hrg, hcs, hC, hJs⟩ := hrel
  gi_wp2_with (first
   | (gi_at_next; refine wpListIn_next_ranges _ rfl _ rfl 30 K64 heldM encU id (fun key kl hk => by obtain ⟨x, hx, _⟩ := keyOf_u64 hk; exact ⟨x, hx⟩) (fun v _ _ => ⟨v, rfl⟩) b W.heap.size nn _ _ _ rfl hrg ?_ ?_)
   | gi_in)
  ·intro hc0 hl0
   gi_wp2
   go_end0
   exact ⟨⟨_, rfl⟩, .inl ⟨ss, hC.all hl0, hJs⟩⟩
  ·intro x c kl yd yp w2 cnt2 hkey hlk hv hat hrg2 hlt hg2 hs2 hen
   obtain ⟨x', ex, rfl, _⟩ := keyOf_u64 hkey
   obtain rfl : x = x' := by simp [encU] at ex; omega
   have hx : (h x).isSome = true := by rw [← r.has x]; exact has_true_of_atKey hat
   have hJ2 : J ss w2 := hJ ss wr w2 (some W.heap.size) hJs hg2 (fun r e => by cases e; exact ⟨Nat.le_refl _, hrg.iter_walk⟩)
   obtain ⟨fn, tmps, assign, body, hy, hR⟩ := hY ss x w2 hJ2 (by omega)
   unfold encU at hy hen
   clear hs2
   gi_wp2
   refine hR.mono ?_
   rintro e W3 (⟨rfl, hJ3, hk3⟩ | ⟨rfl, hJx3⟩)
   ·gi_wp2
    have hrg3 := hrg2.of_walks hk3
    go_roundw
    case rel => exact ⟨_, cnt2, ss ++ [x], hrg3, by simp; omega, hC.step hx hlk, hJ3⟩
    case measure => rw [hrg3.left_eq, hrg.left_eq]; exact hlt
   ·gi_wp2
    refine bodyPost_ret (results_none rfl _ _ _) rfl ?_
    exact ⟨⟨_, rfl⟩, .inr ⟨_, trivial, hJx3⟩⟩
theorem keys_in (n : Nat) (b : Nat) (w : World) :
    CallsIn Fence.wide n Tryz.prog 55 #[.map (some b)] w fun e w' => e = .returned (.func (.func 92) #[] #[.pointer (some ⟨w.heap.size, 0, none⟩)]) ∧ w' = w.alloc (.cells #[.map (some b)] 98) := by
 refine callsIn_of_wp Tryz.func55 rfl trivial ?_ rfl
 simp only [Tryz.ntmps55, List.size_toArray, List.length_cons, List.length_nil, Nat.reduceAdd, Nat.reduceSub, Array.replicate_succ, Array.replicate_zero, List.push_toArray, List.append_toArray, List.nil_append, List.cons_append]
 gi_wp2
 go_ret
 exact ⟨rfl, rfl⟩
theorem own_below {H : Type} {P : Program} {k : TypeId} {R : Value → Option (DataW H × List MemPlace)} {w W : World} {b n : Nat} {D : DataW H} (h : w.ownsMap P k R b n D) (hW : Below w.heap.size w W) : W.ownsMap P k R b n D := by
 have hbl := h.lt
 obtain ⟨es, clock, hb, Ft, hs, hD⟩ := h
 exact ⟨es, clock, (hW.block b hbl).trans hb, Ft, hs, hD⟩
theorem keys_stops (n : Nat) (hn : 1 ≤ n) (Bm b nn : Nat) (D : DataW (Option Nat)) (h : Nat → Option Nat) (r : RdM elH (fun _ => True) D h) (w : World) (hBm : Bm < w.heap.size)
    (hc : w.cell? ⟨Bm, 0, none⟩ = some (.map (some b))) (hown : w.ownsMap Tryz.prog 30 heldM b nn D) :
    SeqStopsK Fence.wide n Tryz.prog 92 #[.pointer (some ⟨Bm, 0, none⟩)] (fun x => #[encU x]) KeepsWalks (AllU h) (fun _ => True) (Maps.size D) w := fun l J Jx W hW hJ _ hY h0 =>
 keys1_in n l Bm b nn hn D h r J Jx hY W hJ ((hW.cell (p := ⟨Bm, 0, none⟩) hBm).trans hc) (own_below hown hW) h0
end Go.Proofs.YtahgaghokpicgaaGreat
namespace Go.Proofs.YtahgaghokpicgaaGreat
open Go.RowKit
set_option linter.unusedVariables false
set_option maxHeartbeats 16000000
theorem less_is {x y : Nat} {b : Bool} (h : decide (x < y) = b) (W : World) : Calls Tryz.prog 110 #[.int .u64 x, .int .u64 y] W fun e W' => e = .returned (.bool b) ∧ W' = W := by
 rw [← h]
 exact less_u x y W
end Go.Proofs.YtahgaghokpicgaaGreat
namespace Go.Proofs.YtahgaghokpicgaaGreat
open Go.RowKit Go.Sort
set_option linter.unusedVariables false
set_option maxHeartbeats 16000000
theorem ltN_true {x y : Nat} : decide (x < y) = true ↔ x < y := by simp
theorem ltN_false {x y : Nat} : decide (x < y) = false ↔ y ≤ x := by simp
def ltN (x y : Nat) : Bool := decide (x < y)
theorem swoN : SWO ltN := ⟨fun x => by simp [ltN], fun x y z h k => by simp [ltN] at *; omega, fun x y z h k => by simp [ltN] at *; omega⟩
theorem ltf {x y : Nat} : ltN x y = false ↔ y ≤ x := by simp [ltN]
theorem pi_swap {a b i j : Nat} {d0 d : Array Nat} (h : PermIn a b d0 d) (hb : b ≤ d.size) (h1 : a ≤ i) (h2 : i < b) (h3 : a ≤ j) (h4 : j < b) : PermIn a b d0 (swp d i j) :=
 permIn_trans _ _ _ _ _ h (swp_permIn d a b i j h1 h2 h3 h4 hb)
theorem pi_trans {a b : Nat} {d d' d'' : Array Nat} (h : PermIn a b d d') (k : PermIn a b d' d'') : PermIn a b d d'' := permIn_trans _ _ _ _ _ h k
theorem pi_mono {a b a' b' : Nat} {d d' : Array Nat} (h1 : a' ≤ a) (h2 : b ≤ b') (h3 : b' ≤ d.size) (h : PermIn a b d d') : PermIn a' b' d d' := permIn_mono d d' a b a' b' h1 h2 h3 h
theorem pi_all {a b : Nat} {d d' : Array Nat} (hb : b ≤ d.size) (h : PermIn a b d d') (p : Nat → Prop) (hp : ∀ i, a ≤ i → i < b → p d[i]!) : ∀ i, a ≤ i → i < b → p d'[i]! := permIn_all d d' a b p hb h hp
theorem swp_at (d : Array Nat) (i j k : Nat) (hi : i < d.size) (hj : j < d.size) : (swp d i j)[k]! = if k = j then d[i]! else if k = i then d[j]! else d[k]! := by
 by_cases e1 : k = j
 ·subst e1
  rw [if_pos rfl, swp_right d i k hj]
 ·rw [if_neg e1]
  by_cases e2 : k = i
  ·subst e2
   rw [if_pos rfl, swp_left d k j hi e1]
  ·rw [if_neg e2, swp_other d i j k e2 e1]
/- Parted by a pivot. -/
structure PQ (a b : Nat) (d0 d : Array Nat) (i j : Nat) : Prop where
 size : d.size = d0.size
 perm : PermIn a b d0 d
 low : ∀ k, a < k → k < i → d[k]! < d[a]!
 high : ∀ k, j < k → k < b → d[a]! ≤ d[k]!
theorem PQ.up {a b i j : Nat} {d0 d : Array Nat} (h : PQ a b d0 d i j) (hx : d[i]! < d[a]!) : PQ a b d0 d (i + 1) j :=
 ⟨h.size, h.perm, fun k h1 h2 => by
  by_cases e : k = i
  ·subst e; exact hx
  ·exact h.low k h1 (by omega), h.high⟩
theorem PQ.dn {a b i j : Nat} {d0 d : Array Nat} (h : PQ a b d0 d i (j + 1)) (hx : d[a]! ≤ d[j + 1]!) : PQ a b d0 d i j :=
 ⟨h.size, h.perm, h.low, fun k h1 h2 => by
  by_cases e : k = j + 1
  ·subst e; exact hx
  ·exact h.high k (by omega) h2⟩
theorem PQ.sw {a b i j : Nat} {d0 d : Array Nat} (h : PQ a b d0 d i (j + 1)) (hb : b ≤ d0.size) (h1 : a < i) (h2 : i ≤ j + 1) (h3 : j + 1 < b) (hx : d[a]! ≤ d[i]!) (hy : d[j + 1]! < d[a]!) : PQ a b d0 (swp d i (j + 1)) (i + 1) j := by
 have hs := h.size
 have ea : (swp d i (j + 1))[a]! = d[a]! := by rw [swp_at _ _ _ _ (by omega) (by omega), if_neg (by omega), if_neg (by omega)]
 refine ⟨by rw [size_swp]; exact hs, pi_swap h.perm (by omega) (by omega) (by omega) (by omega) (by omega), fun k k1 k2 => ?_, fun k k1 k2 => ?_⟩
 ·rw [ea, swp_at _ _ _ _ (by omega) (by omega)]
  split
  ·have : k = i := by omega
   have : i = j + 1 := by omega
   subst this
   omega
  ·split
   ·exact hy
   ·exact h.low k k1 (by omega)
 ·rw [ea, swp_at _ _ _ _ (by omega) (by omega)]
  split
  ·exact hx
  ·split
   ·omega
   ·exact h.high k (by omega) k2
structure Parted (a b m : Nat) (d0 d : Array Nat) : Prop where
 perm : PermIn a b d0 d
 am : a ≤ m
 mb : m < b
 low : ∀ k, a ≤ k → k < m → d[k]! < d[m]!
 high : ∀ k, m < k → k < b → d[m]! ≤ d[k]!
theorem PQ.fin {a b i j : Nat} {d0 d : Array Nat} (h : PQ a b d0 d i j) (hb : b ≤ d0.size) (h1 : j < i) (h2 : a ≤ j) (h3 : j < b) : Parted a b j d0 (swp d j a) := by
 have hs := h.size
 have ej : (swp d j a)[j]! = d[a]! := by
  rw [swp_at _ _ _ _ (by omega) (by omega)]
  split
  ·rename_i e; rw [e]
  ·rw [if_pos rfl]
 refine ⟨pi_swap h.perm (by omega) (by omega) (by omega) (by omega) (by omega), h2, h3, fun k k1 k2 => ?_, fun k k1 k2 => ?_⟩
 ·rw [ej, swp_at _ _ _ _ (by omega) (by omega)]
  split
  ·exact h.low j (by omega) h1
  ·rw [if_neg (by omega)]
   exact h.low k (by omega) (by omega)
 ·rw [ej, swp_at _ _ _ _ (by omega) (by omega), if_neg (by omega), if_neg (by omega)]
  exact h.high k k1 k2
theorem PQ.start {a b pv : Nat} {d0 : Array Nat} (hb : b ≤ d0.size) (h1 : a ≤ pv) (h2 : pv < b) : PQ a b d0 (swp d0 a pv) (a + 1) (b - 1) :=
 ⟨size_swp _ _ _, swp_permIn d0 a b a pv (Nat.le_refl _) (by omega) h1 h2 hb, fun k k1 k2 => by omega, fun k k1 k2 => by omega⟩
/- Parted by a pivot that nothing is less than. -/
structure PE (a b p : Nat) (d0 d : Array Nat) (i j : Nat) : Prop where
 size : d.size = d0.size
 perm : PermIn a b d0 d
 piv : d[a]! = p
 low : ∀ k, a ≤ k → k < i → d[k]! ≤ p
 high : ∀ k, j < k → k < b → p < d[k]!
theorem PE.up {a b p i j : Nat} {d0 d : Array Nat} (h : PE a b p d0 d i j) (hx : d[i]! ≤ d[a]!) : PE a b p d0 d (i + 1) j :=
 ⟨h.size, h.perm, h.piv, fun k h1 h2 => by
  by_cases e : k = i
  ·subst e; rw [← h.piv]; exact hx
  ·exact h.low k h1 (by omega), h.high⟩
theorem PE.dn {a b p i j : Nat} {d0 d : Array Nat} (h : PE a b p d0 d i (j + 1)) (hx : d[a]! < d[j + 1]!) : PE a b p d0 d i j :=
 ⟨h.size, h.perm, h.piv, h.low, fun k h1 h2 => by
  by_cases e : k = j + 1
  ·subst e; rw [← h.piv]; exact hx
  ·exact h.high k (by omega) h2⟩
theorem PE.sw {a b p i j : Nat} {d0 d : Array Nat} (h : PE a b p d0 d i (j + 1)) (hb : b ≤ d0.size) (h1 : a < i) (h2 : i ≤ j + 1) (h3 : j + 1 < b) (hx : d[a]! < d[i]!) (hy : d[j + 1]! ≤ d[a]!) : PE a b p d0 (swp d i (j + 1)) (i + 1) j := by
 have hs := h.size
 have hp := h.piv
 refine ⟨by rw [size_swp]; exact hs, pi_swap h.perm (by omega) (by omega) (by omega) (by omega) (by omega), ?_, fun k k1 k2 => ?_, fun k k1 k2 => ?_⟩
 ·rw [swp_at _ _ _ _ (by omega) (by omega), if_neg (by omega), if_neg (by omega)]
  exact hp
 ·rw [swp_at _ _ _ _ (by omega) (by omega)]
  split
  ·have : i = j + 1 := by omega
   subst this
   omega
  ·split
   ·omega
   ·exact h.low k k1 (by omega)
 ·rw [swp_at _ _ _ _ (by omega) (by omega)]
  split
  ·omega
  ·split
   ·omega
   ·exact h.high k (by omega) k2
theorem PE.start {a b pv : Nat} {d0 : Array Nat} (hb : b ≤ d0.size) (h1 : a ≤ pv) (h2 : pv < b) : PE a b d0[pv]! d0 (swp d0 a pv) (a + 1) (b - 1) := by
 have e : (swp d0 a pv)[a]! = d0[pv]! := by
  rw [swp_at _ _ _ _ (by omega) (by omega)]
  split
  ·rename_i e; rw [e]
  ·rw [if_pos rfl]
 refine ⟨size_swp _ _ _, swp_permIn d0 a b a pv (Nat.le_refl _) (by omega) h1 h2 hb, e, fun k k1 k2 => ?_, fun k k1 k2 => by omega⟩
 obtain rfl : k = a := by omega
 omega
structure PartedE (a b m p : Nat) (d0 d : Array Nat) : Prop where
 perm : PermIn a b d0 d
 am : a < m
 mb : m ≤ b
 low : ∀ k, a ≤ k → k < m → d[k]! ≤ p
 high : ∀ k, m ≤ k → k < b → p < d[k]!
theorem PE.fin {a b p i j : Nat} {d0 d : Array Nat} (h : PE a b p d0 d i j) (h1 : j < i) (h2 : a < i) (h3 : i ≤ b) : PartedE a b i p d0 d :=
 ⟨h.perm, h2, h3, h.low, fun k k1 k2 => h.high k (by omega) k2⟩
/- What is still to be sorted. -/
abbrev Blw (a b : Nat) (d : Array Nat) : Prop := Go.Sort.Below ltN a b d
theorem blw_perm {a b : Nat} {d d' : Array Nat} (hb : b ≤ d.size) (h : Blw a b d) (k : PermIn a b d d') : Blw a b d' := by
 rcases h with h | h
 ·exact .inl h
 ·by_cases a0 : a = 0
  ·exact .inl a0
  ·refine .inr fun i h1 h2 => ?_
   rw [k.2.1 (a - 1) (.inl (by omega))]
   exact pi_all hb k (fun x => ltN x d[a - 1]! = false) h i h1 h2
theorem blw_part {a b m : Nat} {d : Array Nat} (h : Blw a b d) (hm : m ≤ b) : Blw a m d := h.imp id fun h i h1 h2 => h i h1 (by omega)
structure Rest (a b a' b' : Nat) (d0 d : Array Nat) : Prop where
 perm : PermIn a b d0 d
 a1 : a ≤ a'
 b1 : b' ≤ b
 fin : ∀ d', PermIn a' b' d d' → SortedIn ltN a' b' d' → SortedIn ltN a b d'
theorem Rest.refl (a b : Nat) (d : Array Nat) : Rest a b a b d d := ⟨permIn_refl _ _ _, Nat.le_refl _, Nat.le_refl _, fun _ _ h => h⟩
theorem Rest.on {a b a' b' : Nat} {d0 d d2 : Array Nat} (h : Rest a b a' b' d0 d) (hb : b ≤ d0.size) (k : PermIn a' b' d d2) : Rest a b a' b' d0 d2 :=
 ⟨pi_trans h.perm (pi_mono h.a1 h.b1 (by rw [h.perm.1]; exact hb) k), h.a1, h.b1, fun d' p s => h.fin d' (pi_trans k p) s⟩
theorem Rest.ends {a b a' b' : Nat} {d0 d d2 : Array Nat} (h : Rest a b a' b' d0 d) (hb : b ≤ d0.size) (k : PermIn a' b' d d2) (s : SortedIn ltN a' b' d2) : PermIn a b d0 d2 ∧ SortedIn ltN a b d2 :=
 ⟨pi_trans h.perm (pi_mono h.a1 h.b1 (by rw [h.perm.1]; exact hb) k), h.fin d2 k s⟩
theorem Rest.peq {a b a' b' m p : Nat} {d0 d d2 : Array Nat} (h : Rest a b a' b' d0 d) (hb : b ≤ d0.size) (hB : Blw a' b' d) (h0 : 0 < a') (hp : p ≤ d[a' - 1]!) (k : PartedE a' b' m p d d2) : Rest a b m b' d0 d2 ∧ Blw m b' d2 := by
 have hs : d.size = d0.size := h.perm.1
 have hs2 : d2.size = d.size := k.perm.1
 have hb1 := h.b1
 have km := k.am
 have kb := k.mb
 have ge : ∀ i, a' ≤ i → i < b' → p ≤ d2[i]! := pi_all (by omega) k.perm (fun x => p ≤ x) fun i h1 h2 => by
  rcases hB with e | e
  ·omega
  ·have := ltf.1 (e i h1 h2)
   omega
 refine ⟨⟨pi_trans h.perm (pi_mono h.a1 h.b1 (by omega) k.perm), by have := h.a1; omega, h.b1, fun d' q s => ?_⟩, .inr fun i h1 h2 => ltf.2 ?_⟩
 ·refine h.fin d' (pi_trans k.perm (pi_mono (by omega) (Nat.le_refl _) (by omega) q)) fun i j h1 h2 h3 => ltf.2 ?_
  have hi : ∀ i, i < m → d'[i]! = d2[i]! := fun i hi => q.2.1 i (.inl hi)
  have hj : ∀ j, m ≤ j → j < b' → p < d'[j]! := pi_all (by omega) q (fun x => p < x) k.high
  by_cases c1 : j < m
  ·rw [hi i (by omega), hi j c1]
   have := k.low i h1 (by omega)
   have := ge j (by omega) h3
   omega
  ·by_cases c2 : i < m
   ·rw [hi i c2]
    have := k.low i h1 c2
    have := hj j (by omega) h3
    omega
   ·exact ltf.1 (s i j (by omega) h2 h3)
 ·have := k.low (m - 1) (by omega) (by omega)
  have := k.high i h1 h2
  omega
theorem Parted.left {a b m : Nat} {d0 d : Array Nat} (hb : b ≤ d0.size) (hB : Blw a b d0) (k : Parted a b m d0 d) : Blw a m d :=
 blw_part (blw_perm hb hB k.perm) (Nat.le_of_lt k.mb)
theorem Parted.right {a b m : Nat} {d0 d : Array Nat} (k : Parted a b m d0 d) : Blw (m + 1) b d :=
 .inr fun i h1 h2 => ltf.2 (by rw [Nat.add_sub_cancel]; exact k.high i (by omega) h2)
theorem joined {a b m : Nat} {d d' : Array Nat} (hl : ∀ k, a ≤ k → k < m → d'[k]! < d'[m]!) (hh : ∀ k, m < k → k < b → d'[m]! ≤ d'[k]!) (s1 : SortedIn ltN a m d') (s2 : SortedIn ltN (m + 1) b d') : SortedIn ltN a b d' := by
 intro i j h1 h2 h3
 refine ltf.2 ?_
 by_cases c1 : j < m
 ·exact ltf.1 (s1 i j h1 h2 c1)
 ·by_cases c2 : m < i
  ·exact ltf.1 (s2 i j c2 h2 h3)
  ·have li : d'[i]! ≤ d'[m]! := by
     by_cases e : i = m
     ·rw [e]; exact Nat.le_refl _
     ·exact Nat.le_of_lt (hl i h1 (by omega))
   have lj : d'[m]! ≤ d'[j]! := by
    by_cases e : j = m
    ·rw [e]; exact Nat.le_refl _
    ·exact hh j (by omega) h3
   omega
theorem sorted_kept {a b : Nat} {d d' : Array Nat} (h : SortedIn ltN a b d) (e : ∀ i, a ≤ i → i < b → d'[i]! = d[i]!) : SortedIn ltN a b d' := fun i j h1 h2 h3 => by
 rw [e i h1 (by omega), e j (by omega) h3]
 exact h i j h1 h2 h3
theorem Rest.partL {a b a' b' m : Nat} {d0 d d2 d5 : Array Nat} (h : Rest a b a' b' d0 d) (hb : b ≤ d0.size) (k : Parted a' b' m d d2) (p5 : PermIn a' m d2 d5) (s5 : SortedIn ltN a' m d5) : Rest a b (m + 1) b' d0 d5 ∧ Blw (m + 1) b' d5 := by
 have hs : d.size = d0.size := h.perm.1
 have hs2 : d2.size = d.size := k.perm.1
 have hs5 : d5.size = d2.size := p5.1
 have hb1 := h.b1
 have km := k.am
 have kb := k.mb
 have pd : PermIn a' b' d d5 := pi_trans k.perm (pi_mono (Nat.le_refl _) (by omega) (by omega) p5)
 have em : d5[m]! = d2[m]! := p5.2.1 m (.inr (Nat.le_refl _))
 have lo : ∀ i, a' ≤ i → i < m → d5[i]! < d2[m]! := pi_all (by omega) p5 (fun x => x < d2[m]!) k.low
 have hi : ∀ i, m < i → i < b' → d2[m]! ≤ d5[i]! := fun i h1 h2 => by rw [p5.2.1 i (.inr (by omega))]; exact k.high i h1 h2
 refine ⟨⟨pi_trans h.perm (pi_mono h.a1 h.b1 (by omega) pd), by have := h.a1; omega, h.b1, fun d' q s => ?_⟩, .inr fun i h1 h2 => ltf.2 (by rw [Nat.add_sub_cancel, em]; exact hi i (by omega) h2)⟩
 refine h.fin d' (pi_trans pd (pi_mono (by omega) (Nat.le_refl _) (by omega) q)) ?_
 have e1 : ∀ i, i < m + 1 → d'[i]! = d5[i]! := fun i hi => q.2.1 i (.inl hi)
 have q2 : ∀ i, m + 1 ≤ i → i < b' → d2[m]! ≤ d'[i]! := pi_all (by omega) q (fun x => d2[m]! ≤ x) fun i h1 h2 => hi i (by omega) h2
 refine joined (d := d) (m := m) (fun i h1 h2 => ?_) (fun i h1 h2 => ?_) (sorted_kept s5 fun i h1 h2 => e1 i (by omega)) s
 ·rw [e1 i (by omega), e1 m (by omega), em]
  exact lo i h1 h2
 ·rw [e1 m (by omega), em]
  exact q2 i (by omega) h2
theorem Rest.partR {a b a' b' m : Nat} {d0 d d2 d5 : Array Nat} (h : Rest a b a' b' d0 d) (hb : b ≤ d0.size) (hB : Blw a' b' d) (k : Parted a' b' m d d2) (p5 : PermIn (m + 1) b' d2 d5) (s5 : SortedIn ltN (m + 1) b' d5) : Rest a b a' m d0 d5 ∧ Blw a' m d5 := by
 have hs : d.size = d0.size := h.perm.1
 have hs2 : d2.size = d.size := k.perm.1
 have hs5 : d5.size = d2.size := p5.1
 have hb1 := h.b1
 have km := k.am
 have kb := k.mb
 have pd : PermIn a' b' d d5 := pi_trans k.perm (pi_mono (by omega) (Nat.le_refl _) (by omega) p5)
 have e5 : ∀ i, i < m + 1 → d5[i]! = d2[i]! := fun i hi => p5.2.1 i (.inl hi)
 have lo : ∀ i, a' ≤ i → i < m → d5[i]! < d2[m]! := fun i h1 h2 => by rw [e5 i (by omega)]; exact k.low i h1 h2
 have hi : ∀ i, m + 1 ≤ i → i < b' → d2[m]! ≤ d5[i]! := pi_all (by omega) p5 (fun x => d2[m]! ≤ x) fun i h1 h2 => k.high i (by omega) h2
 refine ⟨⟨pi_trans h.perm (pi_mono h.a1 h.b1 (by omega) pd), h.a1, by omega, fun d' q s => ?_⟩, blw_part (blw_perm (by omega) hB pd) (by omega)⟩
 refine h.fin d' (pi_trans pd (pi_mono (Nat.le_refl _) (by omega) (by omega) q)) ?_
 have e1 : ∀ i, m ≤ i → d'[i]! = d5[i]! := fun i hi => q.2.1 i (.inr hi)
 have q2 : ∀ i, a' ≤ i → i < m → d'[i]! < d2[m]! := pi_all (by omega) q (fun x => x < d2[m]!) lo
 have em : d'[m]! = d2[m]! := by rw [e1 m (Nat.le_refl _), e5 m (by omega)]
 refine joined (d := d) (m := m) (fun i h1 h2 => ?_) (fun i h1 h2 => ?_) s (sorted_kept s5 fun i h1 h2 => e1 i (by omega))
 ·rw [em]
  exact q2 i h1 h2
 ·rw [em, e1 i (by omega)]
  exact hi i (by omega) h2
def SzK (W w : World) (g : Nat) : Prop := ∀ cs t p, W.heap[g]? = some (.cells cs t p) → ∃ cs', w.heap[g]? = some (.cells cs' t p) ∧ cs'.size = cs.size
theorem SzK.refl (W : World) (g : Nat) : SzK W W g := fun cs t p h => ⟨cs, h, rfl⟩
theorem SzK.trans {W w w' : World} {g : Nat} (h : SzK W w g) (k : SzK w w' g) : SzK W w' g := fun cs t p e => by
 obtain ⟨c1, e1, s1⟩ := h cs t p e
 obtain ⟨c2, e2, s2⟩ := k c1 t p e1
 exact ⟨c2, e2, s2.trans s1⟩
theorem SzK.chg {F : Nat → Prop} {w w' : World} {g : Nat} (c : Chg F w w') (hF : ¬ F g) : SzK w w' g := fun cs t p e => ⟨cs, (c.block g (lt_of e) hF).trans e, rfl⟩
theorem SzK.set (w : World) (g i : Nat) (v : Value) : SzK w (w.setCell ⟨g, i, none⟩ v) g := fun cs t p e => by
 obtain ⟨q1, q2⟩ := p
 exact ⟨_, set_of e i v, by simp⟩
structure Ar (W : World) (g : Nat) (d : Array Nat) (w : World) : Prop where
 row : RowU w g d.toList
 chg : Chg (fun k => k = g) W w
 sz : SzK W w g
theorem Ar.refl {W : World} {g : Nat} {d : Array Nat} (h : RowU W g d.toList) : Ar W g d W := ⟨h, Chg.refl _ _, SzK.refl _ _⟩
theorem Ar.quiet {W w w' : World} {g : Nat} {d : Array Nat} (h : Ar W g d w) (c : Chg (fun _ => False) w w') : Ar W g d w' := ⟨h.row.chg c (fun x => x), h.chg.pf c, h.sz.trans (SzK.chg c (fun x => x))⟩
theorem Ar.trans {W w w' : World} {g : Nat} {d d' : Array Nat} (h : Ar W g d w) (k : Ar w g d' w') : Ar W g d' w' := ⟨k.row, h.chg.p k.chg, h.sz.trans k.sz⟩
theorem swp_list (d : Array Nat) (i j : Nat) (hi : i < d.size) (hj : j < d.size) : (swp d i j).toList = (d.toList.set i d[j]!).set j d[i]! := by
 simp [swp, Array.toList_setIfInBounds]
theorem Ar.any {W w : World} {g : Nat} {d : Array Nat} (h : Ar W g d w) {i j : Nat} (hi : i < d.size) (hj : j < d.size) :
    ∃ x y : Nat, x = d[i]! ∧ y = d[j]! ∧ ∀ w', Chg (fun _ => False) w w' → Hid (w'.cell? ⟨g, i, none⟩ = some (.int .u64 x) ∧ w'.cell? ⟨g, j, none⟩ = some (.int .u64 y) ∧ w'.frozen? ⟨g, i, none⟩ = false ∧ (∀ v, (w'.setCell ⟨g, i, none⟩ v).frozen? ⟨g, j, none⟩ = false) ∧ (∀ v, ∃ u, (w'.setCell ⟨g, i, none⟩ v).cell? ⟨g, j, none⟩ = some u)
     ∧ Ar W g (swp d i j) ((w'.setCell ⟨g, i, none⟩ (.int .u64 y)).setCell ⟨g, j, none⟩ (.int .u64 x))) := by
 refine ⟨_, _, rfl, rfl, fun w' c => ?_⟩
 have R' := h.row.chg c (fun x => x)
 have gi : d.toList[i]? = some d[i]! := by rw [Array.getElem?_toList, Array.getElem?_eq_getElem hi, getElem!_pos d i hi]
 have gj : d.toList[j]? = some d[j]! := by rw [Array.getElem?_toList, Array.getElem?_eq_getElem hj, getElem!_pos d j hj]
 have fr : ∀ v, (w'.setCell ⟨g, i, none⟩ v).frozen? ⟨g, j, none⟩ = false := fun v => by
  obtain ⟨rest, B⟩ := R'
  exact (B.set i v).free j
 have so : ∀ v, ∃ u, (w'.setCell ⟨g, i, none⟩ v).cell? ⟨g, j, none⟩ = some u := fun v => by
  have q := R'.cell j _ gj
  obtain ⟨rest, B⟩ := R'
  by_cases e : i = j
  ·subst e
   exact ⟨v, by rw [(B.set i v).cell i, List.getElem?_set_self (by simp; omega)]⟩
  ·exact ⟨_, by rw [(B.set i v).cell j, List.getElem?_set_ne e, ← B.cell j]; exact q⟩
 refine ⟨R'.cell i _ gi, R'.cell j _ gj, R'.free i, fr, so, ?_, (h.chg.pf c).p ((setP _).p (setP _)), (h.sz.trans (SzK.chg c (fun x => x))).trans ((SzK.set _ _ _ _).trans (SzK.set _ _ _ _))⟩
 rw [swp_list d i j hi hj]
 exact (R'.set i _ (by simpa using hi)).set j _ (by simpa using hj)
theorem Ar.two {W w : World} {g : Nat} {d : Array Nat} (h : Ar W g d w) {i j : Nat} (hi : i < d.size) (hj : j < d.size) :
    ∃ x y : Nat, x = d[i]! ∧ y = d[j]! ∧ ∀ w', Chg (fun _ => False) w w' → Hid (w'.cell? ⟨g, i, none⟩ = some (.int .u64 x) ∧ w'.cell? ⟨g, j, none⟩ = some (.int .u64 y) ∧ w'.frozen? ⟨g, i, none⟩ = false ∧ (∀ v, (w'.setCell ⟨g, i, none⟩ v).frozen? ⟨g, j, none⟩ = false) ∧ (i ≠ j → ∀ v, (w'.setCell ⟨g, i, none⟩ v).cell? ⟨g, j, none⟩ = some (.int .u64 y)) ∧ (i = j → ∀ v, (w'.setCell ⟨g, i, none⟩ v).cell? ⟨g, j, none⟩ = some v)
     ∧ Ar W g (swp d i j) ((w'.setCell ⟨g, i, none⟩ (.int .u64 y)).setCell ⟨g, j, none⟩ (.int .u64 x))) := by
 obtain ⟨x, y, hx, hy, hT⟩ := h.any hi hj
 refine ⟨x, y, hx, hy, fun w' c => ?_⟩
 obtain ⟨k1, k2, k3, k4, k5, k6⟩ : _ := (hT w' c).out
 obtain ⟨rest, B⟩ := h.row.chg c (fun x => x)
 refine ⟨k1, k2, k3, k4, fun ne v => ?_, fun e v => ?_, k6⟩
 ·rw [(B.set i v).cell j, List.getElem?_set_ne ne, ← B.cell j]; exact k2
 ·subst e
  rw [(B.set i v).cell i, List.getElem?_set_self (by simp; omega)]
def St (W : World) (g n : Nat) (R : Array Nat → Prop) (w : World) : Prop := ∃ d : Array Nat, d.size = n ∧ R d ∧ Ar W g d w
theorem St.quiet {W w w' : World} {g n : Nat} {R : Array Nat → Prop} (h : St W g n R w) (c : Chg (fun _ => False) w w') : St W g n R w' := by
 obtain ⟨d, h1, h2, h3⟩ := h
 exact ⟨d, h1, h2, h3.quiet c⟩
theorem St.mono {W w : World} {g n : Nat} {R R' : Array Nat → Prop} (h : St W g n R w) (k : ∀ d, d.size = n → R d → R' d) : St W g n R' w := by
 obtain ⟨d, h1, h2, h3⟩ := h
 exact ⟨d, h1, k d h1 h2, h3⟩
theorem swp_size' (d : Array Nat) (i j n : Nat) (h : d.size = n) : (swp d i j).size = n := by rw [size_swp]; exact h
/- Insertion. -/
theorem insOuter_go {a b i : Nat} {d : Array Nat} (h : i < b) : insOuter ltN a b i d = insOuter ltN a b (i + 1) (insInner ltN a i d) := by rw [insOuter, if_pos h]
theorem insOuter_end {a b i : Nat} {d : Array Nat} (h : ¬ i < b) : insOuter ltN a b i d = d := by rw [insOuter, if_neg h]
theorem insInner_end {a : Nat} {d : Array Nat} : insInner ltN a a d = d := by
 cases a with
 | zero => rfl
 | succ a => rw [insInner, if_neg (by simp)]
theorem insInner_yes {a j : Nat} {d : Array Nat} (h : a < j + 1) (hl : d[j + 1]! < d[j]!) : insInner ltN a (j + 1) d = insInner ltN a j (swp d (j + 1) j) := by
 rw [insInner, if_pos (by simp [ltN, hl]; omega)]
theorem insInner_no {a j : Nat} {d : Array Nat} (hl : ¬ d[j + 1]! < d[j]!) : insInner ltN a (j + 1) d = d := by
 rw [insInner, if_neg (by simp [ltN]; omega)]
/- Heaps. -/
theorem sd_end {hi first root : Nat} {d : Array Nat} (h : hi ≤ 2 * root + 1) : siftDown ltN hi first root d = d := by rw [siftDown, dif_pos h]
theorem sd_rstop {hi first root c : Nat} {d : Array Nat} (hc : c = 2 * root + 1) (h : c + 1 < hi) (h1 : d[first + c]! < d[first + c + 1]!) (h2 : ¬ d[first + root]! < d[first + (c + 1)]!) : siftDown ltN hi first root d = d := by
 subst hc
 have h3 : ¬ d[first + root]! < d[first + (2 * root + 2)]! := h2
 rw [siftDown, dif_neg (by omega), if_pos (by simp [ltN]; exact ⟨h, h1⟩), if_pos (by simp [ltN]; omega)]
theorem sd_rgo {hi first root c : Nat} {d : Array Nat} (hc : c = 2 * root + 1) (h : c + 1 < hi) (h1 : d[first + c]! < d[first + c + 1]!) (h2 : d[first + root]! < d[first + (c + 1)]!) : siftDown ltN hi first root d = siftDown ltN hi first (c + 1) (swp d (first + root) (first + (c + 1))) := by
 subst hc
 have h3 : d[first + root]! < d[first + (2 * root + 2)]! := h2
 rw [siftDown, dif_neg (by omega), if_pos (by simp [ltN]; exact ⟨h, h1⟩), if_neg (by simp [ltN]; omega), dif_pos (by omega)]
theorem sd_lstop {hi first root c : Nat} {d : Array Nat} (hc : c = 2 * root + 1) (h : c < hi) (h1 : c + 1 < hi → ¬ d[first + c]! < d[first + c + 1]!) (h2 : ¬ d[first + root]! < d[first + c]!) : siftDown ltN hi first root d = d := by
 subst hc
 rw [siftDown, dif_neg (by omega), if_neg (by simp [ltN]; intro q; have := h1 q; omega), if_pos (by simp [ltN]; omega)]
theorem sd_lgo {hi first root c : Nat} {d : Array Nat} (hc : c = 2 * root + 1) (h : c < hi) (h1 : c + 1 < hi → ¬ d[first + c]! < d[first + c + 1]!) (h2 : d[first + root]! < d[first + c]!) : siftDown ltN hi first root d = siftDown ltN hi first c (swp d (first + root) (first + c)) := by
 subst hc
 rw [siftDown, dif_neg (by omega), if_neg (by simp [ltN]; intro q; have := h1 q; omega), if_neg (by simp [ltN]; omega)]
/- Partial insertion. -/
theorem scan_go {d : Array Nat} {b i : Nat} (h : i < b) (hl : ¬ d[i]! < d[i - 1]!) : scanSorted ltN d b i = scanSorted ltN d b (i + 1) := by
 rw [scanSorted, if_pos (by simp [ltN]; omega)]
theorem scan_end {d : Array Nat} {b i : Nat} (h : ¬ i < b ∨ d[i]! < d[i - 1]!) : scanSorted ltN d b i = i := by
 rw [scanSorted, if_neg (by simp [ltN]; omega)]
theorem shd_0 {d : Array Nat} : shiftDown ltN 0 d = d := by rw [shiftDown]
theorem shd_no {j : Nat} {d : Array Nat} (h : ¬ d[j + 1]! < d[j]!) : shiftDown ltN (j + 1) d = d := by rw [shiftDown, if_pos (by simp [ltN]; omega)]
theorem shd_go {j : Nat} {d : Array Nat} (h : d[j + 1]! < d[j]!) : shiftDown ltN (j + 1) d = shiftDown ltN j (swp d (j + 1) j) := by rw [shiftDown, if_neg (by simp [ltN]; omega)]
theorem shu_end {b j : Nat} {d : Array Nat} (h : ¬ j < b ∨ ¬ d[j]! < d[j - 1]!) : shiftUp ltN b j d = d := by
 rw [shiftUp]
 by_cases e : j < b
 ·rw [if_pos e, if_pos (by simp [ltN]; omega)]
 ·rw [if_neg e]
theorem shu_go {b j : Nat} {d : Array Nat} (h : j < b) (hl : d[j]! < d[j - 1]!) : shiftUp ltN b j d = shiftUp ltN b (j + 1) (swp d j (j - 1)) := by
 rw [shiftUp, if_pos h, if_neg (by simp [ltN]; omega)]
set_option maxRecDepth 100000 in
theorem ins_o {W : World} {g c a b : Nat} {d0 : Array Nat} (hr : RowU W g d0.toList) (hb : b ≤ d0.size) (hz : d0.size ≤ 4611686018427387903) (ha : a ≤ d0.size) :
    Calls Tryz.prog 104 #[.slice (some ⟨g, 0, none⟩) d0.size c, .int .i64 a, .int .i64 b] W fun e W' => e = .returned (.tuple #[]) ∧ Ar W g (insertionSort ltN d0 a b) W' := by
 obtain ⟨D, hD⟩ : ∃ D, D = insertionSort ltN d0 a b := ⟨_, rfl⟩
 have HS : Hid (St W g d0.size (fun d => insOuter ltN a b (a + 1) d = D) W) := ⟨d0, rfl, hD.symm, Ar.refl hr⟩
 rw [← hD]
 clear hr hD
 obtain ⟨n, hn⟩ : ∃ n, n = d0.size := ⟨_, rfl⟩
 rw [← hn] at hz hb ha HS ⊢
 clear hn
 have wa : IntKind.i64.wrap ((a : Int) + 1) = ((a + 1 : Nat) : Int) := by rw [IntKind.wrap_i64]; omega
 go_enter Tryz.func104, Tryz.ntmps104
 go_wp2_with fail
 clear wa
 go_loopw [6] (fun s6 wr => ∃ i : Nat, a + 1 ≤ i ∧ i ≤ n + 1 ∧ s6 = .int .i64 i ∧ Hid (St W g n (fun d => insOuter ltN a b i d = D) wr)) (fun s6 _ => n + 2 - (intOf s6).toNat)
 case atStart => exact ⟨a + 1, by omega, by omega, by first | rfl | go_num, HS⟩
 case round =>
  obtain ⟨i, hi1, hi2, rfl, HI⟩ := hrel
  by_cases hin : i < b
  ·have t1 : (i : Int) < (b : Int) := by omega
   have wi : IntKind.i64.wrap ((i : Int) + 1) = ((i + 1 : Nat) : Int) := by rw [IntKind.wrap_i64]; omega
   have HI2 : Hid (St W g n (fun d => insOuter ltN a b (i + 1) (insInner ltN a i d) = D) wr) := HI.out.mono fun d _ e => by rw [← insOuter_go hin]; exact e
   clear HI
   go_wp2_with fail
   go_loopw [7] (fun s7 wr => ∃ j : Nat, a ≤ j ∧ j ≤ i ∧ s7 = .int .i64 j ∧ Hid (St W g n (fun d => insOuter ltN a b (i + 1) (insInner ltN a j d) = D) wr)) (fun s7 _ => (intOf s7).toNat)
   case atStart => exact ⟨i, by omega, by omega, rfl, HI2⟩
   case round =>
    obtain ⟨j, hja, hj, rfl, HJ⟩ := hrel
    clear HI2
    by_cases hj0 : j = a
    ·subst hj0
     have HJ' : Hid (St W g n (fun d => insOuter ltN j b (i + 1) d = D) wr) := HJ.out.mono fun d _ e => by rw [insInner_end] at e; exact e
     clear HJ
     go_upto_region 4 with fail
     go_quiet (fail)
     obtain ⟨w3, hw3⟩ : ∃ w3, w3 = wr.drewN nq := ⟨_, rfl⟩
     have HJ3 : Hid (St W g n (fun d => insOuter ltN j b (i + 1) d = D) w3) := by rw [hw3]; exact HJ'.out.quiet (drewN_chg wr nq)
     rw [← hw3]
     clear hw3 HJ'
     go_wp2_with fail
     go_roundw
     case rel => exact ⟨i + 1, by omega, by omega, by first | rfl | go_num, HJ3⟩
     case measure => simp [intOf]; omega
    ·obtain ⟨j0, hj00⟩ : ∃ j0, j = j0 + 1 := ⟨j - 1, by omega⟩
     obtain ⟨d, hd, hR, hA⟩ := HJ.out
     have HD := keepH hd
     have HR := keepH hR
     have HA := keepH hA
     clear hd hR hA HJ
     obtain ⟨x, y, hx, hy, hT⟩ := HA.out.two (i := j) (j := j0) (by rw [HD.out]; omega) (by rw [HD.out]; omega)
     have HT := keepH hT
     have cx := (hT wr (Chg.refl _ _)).out.1
     have cy := (hT wr (Chg.refl _ _)).out.2.1
     have b1 : j < n := by omega
     have b0 : j0 < n := by omega
     have t2 : (a : Int) < (j : Int) := by omega
     have t3 : a < j := by omega
     have t4 : decide (a < j) = true := decide_eq_true t3
     have w1 : IntKind.i64.wrap ((j : Int) - 1) = (j0 : Int) := by rw [IntKind.wrap_i64]; omega
     have HJ0 : Hid (j = j0 + 1 ∧ j ≤ i ∧ i < n ∧ a ≤ j0) := ⟨hj00, hj, by omega, by omega⟩
     have hne : j ≠ j0 := by omega
     clear hj00 hj0 hT
     cases hlt : decide (x < y) with
     | true =>
      have HLS := keepH (less_is hlt)
      have HLT : Hid (d[j]! < d[j0]!) := by rw [← hx, ← hy]; exact ltN_true.1 hlt
      clear hlt hx hy
      go_upto_region 4 with fail
      go_quiet (first | (go_at_call 110; refine (HLS.out _).mono ?_; rintro q r ⟨rfl, rfl⟩; exact ⟨rfl, _, rfl⟩))
      obtain ⟨w3, hw3⟩ : ∃ w3, w3 = wr.drewN nq := ⟨_, rfl⟩
      obtain ⟨k1, k2, k3, k4, k5, k6, k7⟩ : _ := (HT.out w3 (by rw [hw3]; exact drewN_chg wr nq)).out
      rw [← hw3]
      have k5 := k5 hne (.int .u64 y)
      have k4 := k4 (.int .u64 y)
      obtain ⟨w5, hw5⟩ : ∃ w5, w5 = ((w3.setCell ⟨g, j, none⟩ (.int .u64 y)).setCell ⟨g, j0, none⟩ (.int .u64 x)).drew := ⟨_, rfl⟩
      have HJ5 : Hid (St W g n (fun d => insOuter ltN a b (i + 1) (insInner ltN a j0 d) = D) w5) := by
       rw [hw5]
       refine ⟨_, swp_size' d j j0 n HD.out, ?_, k7.quiet (Chg.refl _ _).drew⟩
       have hj := HJ0.out.1
       have hl := HLT.out
       have e := HR.out
       have ha := HJ0.out.2.2.2
       subst hj
       rw [insInner_yes (by omega) hl] at e
       exact e
      clear hw3 k6 k7 cx cy HA HT HLS hne HLT HR HD
      go_upto_region 6 with fail
      go_region
      all_goals (
       rw [← hw5]
       clear hw5 k1 k2 k3 k4 k5
       go_wp2_with fail
       go_roundw
       case rel => exact ⟨j0, by have := HJ0.out; omega, by have := HJ0.out; omega, by first | rfl | go_num, HJ5⟩
       case measure => have := HJ0.out; simp [intOf]; omega)
     | false =>
      have HLS := keepH (less_is hlt)
      have HJ5 : Hid (insOuter ltN a b (i + 1) d = D) := by
       have hl : ¬ d[j]! < d[j0]! := by rw [← hx, ← hy]; have := ltN_false.1 hlt; omega
       have e := HR.out
       have hj := HJ0.out.1
       subst hj
       rw [insInner_no hl] at e
       exact e
      clear hlt hx hy
      go_upto_region 4 with fail
      go_quiet (first | (go_at_call 110; refine (HLS.out _).mono ?_; rintro q r ⟨rfl, rfl⟩; exact ⟨rfl, _, rfl⟩))
      obtain ⟨w3, hw3⟩ : ∃ w3, w3 = wr.drewN nq := ⟨_, rfl⟩
      have HJ3 : Hid (St W g n (fun d => insOuter ltN a b (i + 1) d = D) w3) := by rw [hw3]; exact ⟨d, HD.out, HJ5.out, HA.out.quiet (drewN_chg wr nq)⟩
      rw [← hw3]
      clear hw3 HA cx cy HT HLS HR HD HJ5
      go_wp2_with fail
      go_roundw
      case rel => exact ⟨i + 1, by omega, by omega, by first | rfl | go_num, HJ3⟩
      case measure => simp [intOf]; omega
  ·have t1 : ¬ (i : Int) < (b : Int) := by omega
   have HE : Hid (Ar W g D wr) := by
    obtain ⟨d, hd, hR, hA⟩ := HI.out
    rw [insOuter_end hin] at hR
    rw [← hR]
    exact hA
   clear HI
   go_wp2_with fail
   go_end0
   exact ⟨rfl, HE.out⟩
end Go.Proofs.YtahgaghokpicgaaGreat
