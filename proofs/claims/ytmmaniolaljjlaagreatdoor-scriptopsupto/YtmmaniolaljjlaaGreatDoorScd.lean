/- An operation: its cells; whether it names its handle in one way; whether it is blank. -/
import Derived.Test.YtmmaniolaljjlaaGreatDoorScc
import Derived.Lib.SmallJoins
import Derived.MapViews
import Derived.DeepKeys4
import Derived.Laws.BitsAllLaws
namespace Go.Proofs.YtmmaniolaljjlaaGreatDoor
open Go.RowKit Go.Joins Go.Shelf
set_option linter.unusedVariables false

structure Opx where
  k : Nat
  key : Nat
  val : Nat
  old : Nat
  hnd : Nat
  set : Bool
  rt : Int
  ri : Int
  keys : List Nat
  lo : Nat
  hi : Nat
abbrev opR (k key val old hnd : Nat) (set : Bool) (rt ri : Int) (vk : Value) (lo hi : Nat) : Array Value := #[.int .u8 (k : Int), .int .u64 (key : Int), .int .u64 (val : Int), .int .u64 (old : Int), .int .u64 (hnd : Int), .bool set, .int .i64 rt, .int .i64 ri, vk, .int .u64 (lo : Int), .int .u64 (hi : Int)]
def isI (z : Int) : Prop := -9223372036854775808 ≤ z ∧ z < 9223372036854775808
structure Opx.Ok (o : Opx) : Prop where
  k : o.k < 256
  key : isU o.key
  val : isU o.val
  old : isU o.old
  hnd : isU o.hnd
  rt : isI o.rt
  ri : isI o.ri
  keys : ∀ u ∈ o.keys, isU u
  lo : isU o.lo
  hi : isU o.hi
theorem or_nat (x y : Nat) (hx : x < 18446744073709551616) (hy : y < 18446744073709551616) : bits .or .u64 (x : Int) (y : Int) = ((x ||| y : Nat) : Int) ∧ x ||| y < 18446744073709551616 := by
  have hlt : x ||| y < 2 ^ 64 := Nat.or_lt_two_pow (by omega) (by omega)
  refine ⟨?_, by omega⟩
  exact u64_or_nat x y hx hy
theorem or_6 (a b c d e f : Nat) (ha : isU a) (hb : isU b) (hc : isU c) (hd : isU d) (he : isU e) (hf : isU f) :
    ∃ m : Nat, bits .or .u64 (bits .or .u64 (bits .or .u64 (bits .or .u64 (bits .or .u64 (a : Int) (b : Int)) (c : Int)) (d : Int)) (e : Int)) (f : Int) = (m : Int) ∧ (m = 0 ↔ a = 0 ∧ b = 0 ∧ c = 0 ∧ d = 0 ∧ e = 0 ∧ f = 0) := by
  unfold isU at *
  obtain ⟨e1, l1⟩ := or_nat a b ha hb
  obtain ⟨e2, l2⟩ := or_nat _ c l1 hc
  obtain ⟨e3, l3⟩ := or_nat _ d l2 hd
  obtain ⟨e4, l4⟩ := or_nat _ e l3 he
  obtain ⟨e5, l5⟩ := or_nat _ f l4 hf
  refine ⟨_, by rw [e1, e2, e3, e4, e5], ?_⟩
  simp [Nat.or_eq_zero_iff, and_assoc]
theorem wf_i64 {n : Int} (h : isI n) : (Lit.int .i64 n).wf = true := by
  have e1 : IntKind.i64.min = -9223372036854775808 := by decide
  have e2 : IntKind.i64.max = 9223372036854775807 := by decide
  unfold isI at h
  simp [Lit.wf, e1, e2]
  omega
theorem trod_i (n : Int) (h : isI n) (w : World) : ∃ m, DataW.trod (H := Unit) (fun _ => ()) Tryz.prog w 0 (fun _ => true) true m 3 [.int .i64 n] = some (.lit (.int .i64 n), []) :=
  ⟨1, by simp [DataW.trod, Tryz.underlying3, wf_i64 h]⟩
theorem trod_b (b : Bool) (w : World) : ∃ m, DataW.trod (H := Unit) (fun _ => ()) Tryz.prog w 0 (fun _ => true) true m 4 [.bool b] = some (.lit (.bool b), []) :=
  ⟨1, by simp [DataW.trod, Tryz.underlying4]⟩
abbrev refV (s : Bool) (a b : Int) : Value := .agg #[.bool s, .int .i64 a, .int .i64 b]
theorem ref_key (s : Bool) (a b : Int) (ha : isI a) (hb : isI b) (w : World) : ∃ l, keyOf Tryz.prog 25 (refV s a b) = some l := by
  have t := shut_agg3 (enc := fun _ => ()) (P := Tryz.prog) (w := w) (base := 0) (spare := fun _ => true) (held := true) Tryz.underlying25 (by kernel_rfl) (by kernel_rfl) (trod_b s w) (trod_i a ha w) (trod_i b hb w)
  exact ⟨_, (keyOf_asKey (by kernel_rfl) (by kernel_rfl) (by kernel_rfl) t).1⟩
set_option maxRecDepth 100000 in
theorem ref_eql (s : Bool) (a b : Int) (s' : Bool) (a' b' : Int) (ha : isI a) (hb : isI b) (ha' : isI a') (hb' : isI b') (w : World) :
    (Op.equal 25 (refV s a b) (refV s' a' b')).run Tryz.prog w = .ok (decide ((s, a, b) = (s', a', b'))) w := by
  obtain ⟨l, hl⟩ := ref_key s a b ha hb w
  obtain ⟨l', hl'⟩ := ref_key s' a' b' ha' hb' w
  obtain ⟨r, hr, hi⟩ := run_equal_deep (P := Tryz.prog) w (m := 3) (by omega) (by kernel_rfl) (by kernel_rfl) hl hl'
  rw [hr]
  congr 1
  by_cases e : (s, a, b) = (s', a', b')
  · simp only [Prod.mk.injEq] at e
    obtain ⟨rfl, rfl, rfl⟩ := e
    rw [hl] at hl'
    simp only [Option.some.injEq] at hl'
    simp [hi.2 hl']
  · have h1 : ¬ r = true := fun h => by
      have h2 := hi.1 h
      subst h2
      have h3 := keyOf_inj_deep (P := Tryz.prog) (m := 3) (by kernel_rfl) (by kernel_rfl) hl hl'
      simp at h3
      exact e (by simp; exact h3)
    simp [e, h1]
theorem ref_eq0 (s : Bool) (a b : Int) (ha : isI a) (hb : isI b) (w : World) :
    (binOp .eql 25 (refV s a b) (refV false 0 0)).run Tryz.prog w = .ok (.bool (decide (s = false ∧ a = 0 ∧ b = 0))) w := by
  have h := ref_eql s a b false 0 0 ha hb ⟨by omega, by omega⟩ ⟨by omega, by omega⟩ w
  simp only [binOp, go_sem]
  simp [h, Result.andThen]

def blB (key val old hnd lo hi : Nat) (set : Bool) (rt ri : Int) (n : Nat) : Bool := decide ((key = 0 ∧ val = 0 ∧ old = 0 ∧ hnd = 0 ∧ lo = 0 ∧ hi = 0) ∧ (set = false ∧ rt = 0 ∧ ri = 0) ∧ n = 0)
def rhB (hnd : Nat) (set : Bool) (rt ri : Int) : Bool := if set then decide (hnd = 0 ∧ 0 ≤ rt ∧ 0 ≤ ri) else decide (rt = 0 ∧ ri = 0)
set_option maxRecDepth 100000 in
theorem too_any (k key val old hnd : Nat) (set : Bool) (rt ri : Int) (kp : Option Addr) (n kc lo hi : Nat) (W : World) :
    Calls Tryz.prog 66 #[.agg (opR k key val old hnd set rt ri (.slice kp n kc) lo hi)] W fun e W' => e = .returned (.bool (decide (k = 7 ∧ 1024 < n))) ∧ Below W.heap.size W W' := by
  by_cases h7 : k = 7
  · subst h7
    go_enter Tryz.func66, Tryz.ntmps66
    go_wp2_with fail
    go_ret
    exact ⟨by simp; omega, below_alloc _ _⟩
  · have t7 : ¬ ((k : Int) = 7) := by omega
    have u7 : ((k : Int) == 7) = false := by simpa using t7
    go_enter Tryz.func66, Tryz.ntmps66
    go_wp2_with fail
    go_ret
    exact ⟨by simp [h7], below_alloc _ _⟩
set_option maxRecDepth 100000 in
theorem rh_any (k key val old hnd : Nat) (set : Bool) (rt ri : Int) (vk : Value) (lo hi : Nat) (ha : isI rt) (hb : isI ri) (W : World) :
    Calls Tryz.prog 67 #[.agg (opR k key val old hnd set rt ri vk lo hi)] W fun e W' => e = .returned (.bool (rhB hnd set rt ri)) ∧ Below W.heap.size W W' := by
  have he := fun w => ref_eq0 set rt ri ha hb w
  cases set with
  | false =>
    clear ha hb
    go_enter Tryz.func67, Tryz.ntmps67
    go_wp2_with fail
    go_ret
    exact ⟨by simp [rhB], below_alloc _ _⟩
  | true =>
    clear he ha hb
    by_cases h1 : hnd = 0
    · subst h1
      by_cases h2 : 0 ≤ rt
      · go_enter Tryz.func67, Tryz.ntmps67
        go_wp2_with fail
        go_ret
        exact ⟨by simp [rhB, h2], below_alloc _ _⟩
      · go_enter Tryz.func67, Tryz.ntmps67
        go_wp2_with fail
        go_ret
        exact ⟨by simp [rhB]; omega, below_alloc _ _⟩
    · have t1 : ¬ ((hnd : Int) = 0) := by omega
      have u1 : ((hnd : Int) == 0) = false := by simpa using t1
      go_enter Tryz.func67, Tryz.ntmps67
      go_wp2_with fail
      go_ret
      exact ⟨by simp [rhB, h1], below_alloc _ _⟩
set_option maxRecDepth 100000 in
theorem blank_any (k key val old hnd : Nat) (set : Bool) (rt ri : Int) (kp : Option Addr) (n kc lo hi : Nat) (h1 : isU key) (h2 : isU val) (h3 : isU old) (h4 : isU hnd) (h5 : isU lo) (h6 : isU hi) (ha : isI rt) (hb : isI ri) (W : World) :
    Calls Tryz.prog 68 #[.agg (opR k key val old hnd set rt ri (.slice kp n kc) lo hi)] W fun e W' => e = .returned (.bool (blB key val old hnd lo hi set rt ri n)) ∧ Below W.heap.size W W' := by
  have he := fun w => ref_eq0 set rt ri ha hb w
  obtain ⟨m, hm, hz⟩ := or_6 key val old hnd lo hi h1 h2 h3 h4 h5 h6
  have hbl : blB key val old hnd lo hi set rt ri n = decide (m = 0 ∧ (set = false ∧ rt = 0 ∧ ri = 0) ∧ n = 0) := by
    unfold blB
    rw [decide_eq_decide, hz]
  rw [hbl]
  clear hbl hz h1 h2 h3 h4 h5 h6 ha hb
  by_cases c1 : m = 0
  · subst c1
    by_cases c2 : set = false ∧ rt = 0 ∧ ri = 0
    · have c2' : decide (set = false ∧ rt = 0 ∧ ri = 0) = true := by simpa using c2
      simp only [c2'] at he
      have R : decide ((0 = 0) ∧ (set = false ∧ rt = 0 ∧ ri = 0) ∧ n = 0) = decide (n = 0) := by simp [c2]
      have R' : decide (n = 0) = ((n : Int) == 0) := by rw [Bool.eq_iff_iff]; simp
      rw [R, R']
      clear R'
      clear c2 c2' R
      go_enter Tryz.func68, Tryz.ntmps68
      go_wp2_with fail
      go_ret
      exact ⟨by simp, below_alloc _ _⟩
    · have c2' : decide (set = false ∧ rt = 0 ∧ ri = 0) = false := by simpa using c2
      simp only [c2'] at he
      have R : decide ((0 = 0) ∧ (set = false ∧ rt = 0 ∧ ri = 0) ∧ n = 0) = false := by simp; intro a b c; exact absurd ⟨a, b, c⟩ c2
      rw [R]
      clear c2 c2' R
      go_enter Tryz.func68, Tryz.ntmps68
      go_wp2_with fail
      go_ret
      exact ⟨by simp, below_alloc _ _⟩
  · have t1 : ¬ ((m : Int) = 0) := by omega
    have u1 : ((m : Int) == 0) = false := by simpa using t1
    go_enter Tryz.func68, Tryz.ntmps68
    go_wp2_with fail
    go_ret
    exact ⟨by simp [c1], below_alloc _ _⟩
end Go.Proofs.YtmmaniolaljjlaaGreatDoor
