/- maps.Keys of the pictures: the handles come, each once. -/
import Derived.RangeFuncNested
import Derived.RangeFuncBox
import Derived.RangeFuncBound
import Derived.RangeFuncCalls
import Derived.RangeFuncLeaves
import Derived.Shelf.Abstract
import Derived.Shelf.AbstractIn
import Derived.WalkKit
import Derived.OwnWalkIn
import Derived.TacticsInMore
import Derived.RegionIn
import Derived.LoopNIn
import Derived.LoopIn
import Derived.Sort.MapsRangeIn
import Derived.Test.YtnlkdibalhgipaaNd0
namespace Go.Proofs.Ytnlkdibalhgipaa
open Go.RowKit Go.Maps Go.Shelf
set_option linter.unusedVariables false
attribute [local go_sem] Oper.semAt_some

def encU (x : Nat) : Value := .int .u64 (x : Int)
theorem keyOf_u64 {key : Value} {kl : Lit} (h : keyOf Try.prog 30 key = some kl) : ∃ x : Nat, key = encU x ∧ kl = .int .u64 (x : Int) ∧ x < 18446744073709551616 := by
  cases key <;> simp [keyOf, Try.underlying30, mapKey] at h
  rename_i q a
  obtain ⟨⟨rfl, hw⟩, rfl⟩ := h
  obtain ⟨x, rfl, hx⟩ := nat_u64 hw
  exact ⟨x, rfl, rfl, hx⟩
/-- The handles that have come so far. -/
def CollU (h : Nat → Option Nat) (left : Lit → Bool) (ss : List Nat) : Prop := ss.Nodup ∧ ∀ x : Nat, x ∈ ss ↔ ((h x).isSome = true ∧ left (.int .u64 (x : Int)) = false)
theorem CollU.start {H : Type} {el : Nat → DataW H} {ok : Nat → Prop} {D : DataW H} {h : Nat → Option Nat} (r : RdM el ok D h) : CollU h (Maps.has D) [] :=
  ⟨List.nodup_nil, fun x => by rw [r.has x]; cases (h x) <;> simp⟩
theorem CollU.step {h : Nat → Option Nat} {left : Lit → Bool} {ss : List Nat} (c : CollU h left ss) {x : Nat} (hx : (h x).isSome = true) (hl : left (.int .u64 (x : Int)) = true) : CollU h (fun z => left z && !z.sameKey (.int .u64 (x : Int))) (ss ++ [x]) := by
  refine ⟨List.nodup_append.2 ⟨c.1, by simp, fun a ha b hb => ?_⟩, fun k => ?_⟩
  · simp at hb
    subst hb
    rintro rfl
    have := ((c.2 a).1 ha).2
    rw [hl] at this
    cases this
  · rw [left_step, List.mem_append, c.2 k]
    constructor
    · rintro (⟨a, b⟩ | q)
      · exact ⟨a, .inl b⟩
      · simp at q
        subst q
        exact ⟨hx, .inr rfl⟩
    · rintro ⟨a, b | b⟩
      · exact .inl ⟨a, b⟩
      · exact .inr (by simp [b])
/-- All handles, each once. -/
def AllU (h : Nat → Option Nat) (ss : List Nat) : Prop := ss.Nodup ∧ ∀ x : Nat, x ∈ ss ↔ (h x).isSome = true
theorem CollU.all {h : Nat → Option Nat} {left : Lit → Bool} {ss : List Nat} (c : CollU h left ss) (hl : ∀ k, left k = false) : AllU h ss := ⟨c.1, fun x => by rw [c.2 x, hl]; simp⟩

set_option maxRecDepth 100000 in
set_option maxHeartbeats 2000000 in
theorem keys1_in (n l Bm b nn : Nat) (hn : 1 ≤ n) (D : DataW (Option Nat)) (h : Nat → Option Nat) (r : RdM elH (fun _ => True) D h) (J Jx : List Nat → World → Prop)
    (hY : ∀ pre x W, J pre W → pre.length < Maps.size D → YieldAt Fence.wide (n - 1) Try.prog l #[encU x] W fun e W' =>
      (e = .returned (.bool true) ∧ J (pre ++ [x]) W' ∧ KeepsWalks W W') ∨ (e = .returned (.bool false) ∧ Jx (pre ++ [x]) W'))
    (W : World) (hJ : AbidesFrom W.heap.size J) (hm : W.cell? ⟨Bm, 0, none⟩ = some (.map (some b))) (hown : W.ownsMap Try.prog 30 heldM b nn D) (h0 : J [] W) :
    CallsIn Fence.wide n Try.prog 29 #[.func (.yield l) #[] #[], .pointer (some ⟨Bm, 0, none⟩)] W fun e W' => (∃ v, e = .returned v) ∧
      ((∃ ss : List Nat, AllU h ss ∧ J ss W') ∨ (∃ pre : List Nat, True ∧ Jx pre W')) := by
  refine callsIn_of_wp Try.func29 rfl trivial ?_ rfl
  simp only [Try.ntmps29, List.size_toArray, List.length_cons, List.length_nil, Nat.reduceAdd, Nat.reduceSub, Array.replicate_succ, Array.replicate_zero, List.push_toArray, List.append_toArray, List.nil_append, List.cons_append]
  gi_wp2_with (first
    | (gi_at_range; refine wpListIn_range_own _ rfl _ 54 rfl 30 53 K64 Try.underlying54 _ b nn _ rfl hown ?_; intro w0 hrg0 hg0 hs0)
    | gi_in)
  go_frame
  gi_loopw [3] (fun _ wr => ∃ (left : Lit → Bool) (cnt : Nat) (ss : List Nat), wr.ranges Try.prog 30 heldM b W.heap.size nn D left cnt ∧ ss.length + cnt ≤ Maps.size D ∧ CollU h left ss ∧ J ss wr)
    (fun _ wr => wr.rangeLeft b W.heap.size)
  case atStart =>
    exact ⟨_, _, [], hrg0, by simp, CollU.start r, hJ [] W w0 none h0 hg0 (fun r e => by cases e)⟩
  case round =>
    obtain ⟨left, cnt, ss, hrg, hcs, hC, hJs⟩ := hrel
    gi_wp2_with (first
      | (gi_at_next; refine wpListIn_next_ranges _ rfl _ rfl 30 K64 heldM encU id (fun key kl hk => by obtain ⟨x, hx, _⟩ := keyOf_u64 hk; exact ⟨x, hx⟩) (fun v _ _ => ⟨v, rfl⟩) b W.heap.size nn _ _ _ rfl hrg ?_ ?_)
      | gi_in)
    · intro hc0 hl0
      gi_wp2
      go_end0
      exact ⟨⟨_, rfl⟩, .inl ⟨ss, hC.all hl0, hJs⟩⟩
    · intro x c kl yd yp w2 cnt2 hkey hlk hv hat hrg2 hlt hg2 hs2 hen
      obtain ⟨x', ex, rfl, _⟩ := keyOf_u64 hkey
      obtain rfl : x = x' := by simp [encU] at ex; omega
      have hx : (h x).isSome = true := by rw [← r.has x]; exact has_true_of_atKey hat
      have hJ2 : J ss w2 := hJ ss wr w2 (some W.heap.size) hJs hg2 (fun r e => by cases e; exact ⟨Nat.le_refl _, hrg.iter_walk⟩)
      obtain ⟨fn, tmps, assign, body, hy, hR⟩ := hY ss x w2 hJ2 (by omega)
      unfold encU at hy hen
      clear hs2
      gi_wp2
      refine hR.mono ?_
      rintro e W3 (⟨rfl, hJ3, hk3⟩ | ⟨rfl, hJx3⟩)
      · gi_wp2
        have hrg3 := hrg2.of_walks hk3
        go_roundw
        case rel => exact ⟨_, cnt2, ss ++ [x], hrg3, by simp; omega, hC.step hx hlk, hJ3⟩
        case measure => rw [hrg3.left_eq, hrg.left_eq]; exact hlt
      · gi_wp2
        refine bodyPost_ret (results_none rfl _ _ _) rfl ?_
        exact ⟨⟨_, rfl⟩, .inr ⟨_, trivial, hJx3⟩⟩

set_option maxHeartbeats 1000000 in
theorem keys_in (n : Nat) (b : Nat) (w : World) :
    CallsIn Fence.wide n Try.prog 17 #[.map (some b)] w fun e w' => e = .returned (.func (.func 29) #[] #[.pointer (some ⟨w.heap.size, 0, none⟩)]) ∧ w' = w.alloc (.cells #[.map (some b)] 54) := by
  refine callsIn_of_wp Try.func17 rfl trivial ?_ rfl
  simp only [Try.ntmps17, List.size_toArray, List.length_cons, List.length_nil, Nat.reduceAdd, Nat.reduceSub, Array.replicate_succ, Array.replicate_zero, List.push_toArray, List.append_toArray, List.nil_append, List.cons_append]
  gi_wp2
  go_ret
  exact ⟨rfl, rfl⟩
theorem own_below {H : Type} {P : Program} {k : TypeId} {R : Value → Option (DataW H × List MemPlace)} {w W : World} {b n : Nat} {D : DataW H} (h : w.ownsMap P k R b n D) (hW : Below w.heap.size w W) : W.ownsMap P k R b n D := by
  have hbl := h.lt
  obtain ⟨es, clock, hb, Ft, hs, hD⟩ := h
  exact ⟨es, clock, (hW.block b hbl).trans hb, Ft, hs, hD⟩
theorem keys_stops (n : Nat) (hn : 1 ≤ n) (Bm b nn : Nat) (D : DataW (Option Nat)) (h : Nat → Option Nat) (r : RdM elH (fun _ => True) D h) (w : World) (hBm : Bm < w.heap.size)
    (hc : w.cell? ⟨Bm, 0, none⟩ = some (.map (some b))) (hown : w.ownsMap Try.prog 30 heldM b nn D) :
    SeqStopsK Fence.wide n Try.prog 29 #[.pointer (some ⟨Bm, 0, none⟩)] (fun x => #[encU x]) KeepsWalks (AllU h) (fun _ => True) (Maps.size D) w := fun l J Jx W hW hJ _ hY h0 =>
  keys1_in n l Bm b nn hn D h r J Jx hY W hJ ((hW.cell (p := ⟨Bm, 0, none⟩) hBm).trans hc) (own_below hown hW) h0
end Go.Proofs.Ytnlkdibalhgipaa
