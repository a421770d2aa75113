/- An operation: its cells; whether it names its handle in one way; whether it is blank. -/
import Derived.Test.YtmmaniolaljjlaaGreatDoorP4Scc
import Derived.Lib.SmallJoins
import Derived.MapViews
import Derived.DeepKeys4
import Derived.Laws.BitsAllLaws
import Derived.Laws.Tables
namespace Go.Proofs.YtmmaniolaljjlaaGreatDoor
open Go.RowKit Go.Joins Go.Shelf
set_option linter.unusedVariables false

structure Opx where
  k : Nat
  key : Nat
  val : Nat
  old : Nat
  hnd : Nat
  set : Bool
  rt : Int
  ri : Int
  keys : List Nat
  lo : Nat
  hi : Nat
abbrev opR (k key val old hnd : Nat) (set : Bool) (rt ri : Int) (vk : Value) (lo hi : Nat) : Array Value := #[.int .u8 (k : Int), .int .u64 (key : Int), .int .u64 (val : Int), .int .u64 (old : Int), .int .u64 (hnd : Int), .bool set, .int .i64 rt, .int .i64 ri, vk, .int .u64 (lo : Int), .int .u64 (hi : Int)]
def isI (z : Int) : Prop := -9223372036854775808 ≤ z ∧ z < 9223372036854775808
structure Opx.Ok (o : Opx) : Prop where
  k : o.k < 256
  key : isU o.key
  val : isU o.val
  old : isU o.old
  hnd : isU o.hnd
  rt : isI o.rt
  ri : isI o.ri
  keys : ∀ u ∈ o.keys, isU u
  lo : isU o.lo
  hi : isU o.hi
theorem or_nat (x y : Nat) (hx : x < 18446744073709551616) (hy : y < 18446744073709551616) : bits .or .u64 (x : Int) (y : Int) = ((x ||| y : Nat) : Int) ∧ x ||| y < 18446744073709551616 := by
  have hlt : x ||| y < 2 ^ 64 := Nat.or_lt_two_pow (by omega) (by omega)
  refine ⟨?_, by omega⟩
  exact u64_or_nat x y hx hy
theorem or_6 (a b c d e f : Nat) (ha : isU a) (hb : isU b) (hc : isU c) (hd : isU d) (he : isU e) (hf : isU f) :
    ∃ m : Nat, bits .or .u64 (bits .or .u64 (bits .or .u64 (bits .or .u64 (bits .or .u64 (a : Int) (b : Int)) (c : Int)) (d : Int)) (e : Int)) (f : Int) = (m : Int) ∧ (m = 0 ↔ a = 0 ∧ b = 0 ∧ c = 0 ∧ d = 0 ∧ e = 0 ∧ f = 0) := by
  unfold isU at *
  obtain ⟨e1, l1⟩ := or_nat a b ha hb
  obtain ⟨e2, l2⟩ := or_nat _ c l1 hc
  obtain ⟨e3, l3⟩ := or_nat _ d l2 hd
  obtain ⟨e4, l4⟩ := or_nat _ e l3 he
  obtain ⟨e5, l5⟩ := or_nat _ f l4 hf
  refine ⟨_, by rw [e1, e2, e3, e4, e5], ?_⟩
  simp [Nat.or_eq_zero_iff, and_assoc]
theorem wf_i64 {n : Int} (h : isI n) : (Lit.int .i64 n).wf = true := by
  have e1 : IntKind.i64.min = -9223372036854775808 := by decide
  have e2 : IntKind.i64.max = 9223372036854775807 := by decide
  unfold isI at h
  simp [Lit.wf, e1, e2]
  omega
theorem trod_i (n : Int) (h : isI n) (w : World) : ∃ m, DataW.trod (H := Unit) (fun _ => ()) Tryz.prog w 0 (fun _ => true) true m 3 [.int .i64 n] = some (.lit (.int .i64 n), []) :=
  ⟨1, by simp [DataW.trod, Tryz.underlying3, wf_i64 h]⟩
theorem trod_b (b : Bool) (w : World) : ∃ m, DataW.trod (H := Unit) (fun _ => ()) Tryz.prog w 0 (fun _ => true) true m 4 [.bool b] = some (.lit (.bool b), []) :=
  ⟨1, by simp [DataW.trod, Tryz.underlying4]⟩
abbrev refV (s : Bool) (a b : Int) : Value := .agg #[.bool s, .int .i64 a, .int .i64 b]
theorem ref_key (s : Bool) (a b : Int) (ha : isI a) (hb : isI b) (w : World) : ∃ l, keyOf Tryz.prog 25 (refV s a b) = some l := by
  have t := shut_agg3 (enc := fun _ => ()) (P := Tryz.prog) (w := w) (base := 0) (spare := fun _ => true) (held := true) Tryz.underlying25 (by kernel_rfl) (by kernel_rfl) (trod_b s w) (trod_i a ha w) (trod_i b hb w)
  exact ⟨_, (keyOf_asKey (by kernel_rfl) (by kernel_rfl) (by kernel_rfl) t).1⟩
set_option maxRecDepth 100000 in
theorem ref_eql (s : Bool) (a b : Int) (s' : Bool) (a' b' : Int) (ha : isI a) (hb : isI b) (ha' : isI a') (hb' : isI b') (w : World) :
    (Op.equal 25 (refV s a b) (refV s' a' b')).run Tryz.prog w = .ok (decide ((s, a, b) = (s', a', b'))) w := by
  obtain ⟨l, hl⟩ := ref_key s a b ha hb w
  obtain ⟨l', hl'⟩ := ref_key s' a' b' ha' hb' w
  obtain ⟨r, hr, hi⟩ := run_equal_deep (P := Tryz.prog) w (m := 3) (by omega) (by kernel_rfl) (by kernel_rfl) hl hl'
  rw [hr]
  congr 1
  by_cases e : (s, a, b) = (s', a', b')
  · simp only [Prod.mk.injEq] at e
    obtain ⟨rfl, rfl, rfl⟩ := e
    rw [hl] at hl'
    simp only [Option.some.injEq] at hl'
    simp [hi.2 hl']
  · have h1 : ¬ r = true := fun h => by
      have h2 := hi.1 h
      subst h2
      have h3 := keyOf_inj_deep (P := Tryz.prog) (m := 3) (by kernel_rfl) (by kernel_rfl) hl hl'
      simp at h3
      exact e (by simp; exact h3)
    simp [e, h1]
theorem ref_eq0 (s : Bool) (a b : Int) (ha : isI a) (hb : isI b) (w : World) :
    (binOp .eql 25 (refV s a b) (refV false 0 0)).run Tryz.prog w = .ok (.bool (decide (s = false ∧ a = 0 ∧ b = 0))) w := by
  have h := ref_eql s a b false 0 0 ha hb ⟨by omega, by omega⟩ ⟨by omega, by omega⟩ w
  simp only [binOp, go_sem]
  simp [h, Result.andThen]

def blB (key val old hnd lo hi : Nat) (set : Bool) (rt ri : Int) (n : Nat) : Bool := decide ((key = 0 ∧ val = 0 ∧ old = 0 ∧ hnd = 0 ∧ lo = 0 ∧ hi = 0) ∧ (set = false ∧ rt = 0 ∧ ri = 0) ∧ n = 0)
def rhB (hnd : Nat) (set : Bool) (rt ri : Int) : Bool := if set then decide (hnd = 0 ∧ 0 ≤ rt ∧ 0 ≤ ri) else decide (rt = 0 ∧ ri = 0)
set_option maxRecDepth 100000 in
theorem too_any (k key val old hnd : Nat) (set : Bool) (rt ri : Int) (kp : Option Addr) (n kc lo hi : Nat) (W : World) :
    Calls Tryz.prog 66 #[.agg (opR k key val old hnd set rt ri (.slice kp n kc) lo hi)] W fun e W' => e = .returned (.bool (decide (k = 7 ∧ 1024 < n))) ∧ Below W.heap.size W W' := by
  by_cases h7 : k = 7
  · subst h7
    go_enter Tryz.func66, Tryz.ntmps66
    go_wp2_with fail
    go_ret
    exact ⟨by simp; omega, below_alloc _ _⟩
  · have t7 : ¬ ((k : Int) = 7) := by omega
    have u7 : ((k : Int) == 7) = false := by simpa using t7
    go_enter Tryz.func66, Tryz.ntmps66
    go_wp2_with fail
    go_ret
    exact ⟨by simp [h7], below_alloc _ _⟩
set_option maxRecDepth 100000 in
theorem rh_any (k key val old hnd : Nat) (set : Bool) (rt ri : Int) (vk : Value) (lo hi : Nat) (ha : isI rt) (hb : isI ri) (W : World) :
    Calls Tryz.prog 67 #[.agg (opR k key val old hnd set rt ri vk lo hi)] W fun e W' => e = .returned (.bool (rhB hnd set rt ri)) ∧ Below W.heap.size W W' := by
  have he := fun w => ref_eq0 set rt ri ha hb w
  cases set with
  | false =>
    clear ha hb
    go_enter Tryz.func67, Tryz.ntmps67
    go_wp2_with fail
    go_ret
    exact ⟨by simp [rhB], below_alloc _ _⟩
  | true =>
    clear he ha hb
    by_cases h1 : hnd = 0
    · subst h1
      by_cases h2 : 0 ≤ rt
      · go_enter Tryz.func67, Tryz.ntmps67
        go_wp2_with fail
        go_ret
        exact ⟨by simp [rhB, h2], below_alloc _ _⟩
      · go_enter Tryz.func67, Tryz.ntmps67
        go_wp2_with fail
        go_ret
        exact ⟨by simp [rhB]; omega, below_alloc _ _⟩
    · have t1 : ¬ ((hnd : Int) = 0) := by omega
      have u1 : ((hnd : Int) == 0) = false := by simpa using t1
      go_enter Tryz.func67, Tryz.ntmps67
      go_wp2_with fail
      go_ret
      exact ⟨by simp [rhB, h1], below_alloc _ _⟩
set_option maxRecDepth 100000 in
theorem blank_any (k key val old hnd : Nat) (set : Bool) (rt ri : Int) (kp : Option Addr) (n kc lo hi : Nat) (h1 : isU key) (h2 : isU val) (h3 : isU old) (h4 : isU hnd) (h5 : isU lo) (h6 : isU hi) (ha : isI rt) (hb : isI ri) (W : World) :
    Calls Tryz.prog 68 #[.agg (opR k key val old hnd set rt ri (.slice kp n kc) lo hi)] W fun e W' => e = .returned (.bool (blB key val old hnd lo hi set rt ri n)) ∧ Below W.heap.size W W' := by
  have he := fun w => ref_eq0 set rt ri ha hb w
  obtain ⟨m, hm, hz⟩ := or_6 key val old hnd lo hi h1 h2 h3 h4 h5 h6
  have hbl : blB key val old hnd lo hi set rt ri n = decide (m = 0 ∧ (set = false ∧ rt = 0 ∧ ri = 0) ∧ n = 0) := by
    unfold blB
    rw [decide_eq_decide, hz]
  rw [hbl]
  clear hbl hz h1 h2 h3 h4 h5 h6 ha hb
  by_cases c1 : m = 0
  · subst c1
    by_cases c2 : set = false ∧ rt = 0 ∧ ri = 0
    · have c2' : decide (set = false ∧ rt = 0 ∧ ri = 0) = true := by simpa using c2
      simp only [c2'] at he
      have R : decide ((0 = 0) ∧ (set = false ∧ rt = 0 ∧ ri = 0) ∧ n = 0) = decide (n = 0) := by simp [c2]
      have R' : decide (n = 0) = ((n : Int) == 0) := by rw [Bool.eq_iff_iff]; simp
      rw [R, R']
      clear R'
      clear c2 c2' R
      go_enter Tryz.func68, Tryz.ntmps68
      go_wp2_with fail
      go_ret
      exact ⟨by simp, below_alloc _ _⟩
    · have c2' : decide (set = false ∧ rt = 0 ∧ ri = 0) = false := by simpa using c2
      simp only [c2'] at he
      have R : decide ((0 = 0) ∧ (set = false ∧ rt = 0 ∧ ri = 0) ∧ n = 0) = false := by simp; intro a b c; exact absurd ⟨a, b, c⟩ c2
      rw [R]
      clear c2 c2' R
      go_enter Tryz.func68, Tryz.ntmps68
      go_wp2_with fail
      go_ret
      exact ⟨by simp, below_alloc _ _⟩
  · have t1 : ¬ ((m : Int) = 0) := by omega
    have u1 : ((m : Int) == 0) = false := by simpa using t1
    go_enter Tryz.func68, Tryz.ntmps68
    go_wp2_with fail
    go_ret
    exact ⟨by simp [c1], below_alloc _ _⟩
end Go.Proofs.YtmmaniolaljjlaaGreatDoor
/- What is wrong with an operation, by the program. (mkSce.py) -/
namespace Go.Proofs.YtmmaniolaljjlaaGreatDoor
open Go.RowKit Go.Shelf
set_option linter.unusedVariables false

def zr (row : Array Value) (ns : List Nat) : Array Value := ns.foldl (fun r i => r.setIfInBounds i (.int .u64 0)) row
def zk (k i x : Nat) : Nat := if i ∈ numK k then 0 else x
theorem zr_next (row : Array Value) {ns : List Nat} {i m : Nat} (h : ns[i]? = some m) : zr row (ns.take (i + 1)) = (zr row (ns.take i)).setIfInBounds m (.int .u64 0) := by
  rw [List.take_add_one, h]
  simp [zr]
theorem zr_size (ns : List Nat) : ∀ row, (zr row ns).size = row.size := by
  induction ns with
  | nil => intro row; rfl
  | cons a r ih => intro row; show (zr (row.setIfInBounds a _) r).size = _; rw [ih]; simp
theorem numK_lt (k : Nat) : ∀ m ∈ numK k, m < 11 := by
  unfold numK
  split <;> simp
theorem numK_len (k : Nat) : (numK k).length ≤ 3 := by
  unfold numK
  split <;> simp
theorem zr_op (k key val old hnd : Nat) (set : Bool) (rt ri : Int) (vk : Value) (lo hi : Nat) : zr (opR k key val old hnd set rt ri vk lo hi) (numK k) = opR k (zk k 1 key) (zk k 2 val) (zk k 3 old) hnd set rt ri vk (zk k 9 lo) (zk k 10 hi) := by
  unfold zk numK
  split <;> simp [zr]
theorem zk_u {k i x : Nat} (h : isU x) : isU (zk k i x) := by
  unfold zk
  split
  · unfold isU; omega
  · exact h
def faultN (k key val old hnd : Nat) (set : Bool) (rt ri : Int) (kp : Option Addr) (n kc lo hi : Nat) : Nat :=
  if hasK k = false then 160
  else if k = 7 ∧ 1024 < n then 6
  else if hndK k = true ∧ rhB hnd set rt ri = false then 52
  else if blB (zk k 1 key) (zk k 2 val) (zk k 3 old) (if hndK k = true then 0 else hnd) (zk k 9 lo) (zk k 10 hi) (if hndK k = true then false else set) (if hndK k = true then 0 else rt) (if hndK k = true then 0 else ri) (if kysK k = true then 0 else n) = true then 0 else 52
/-- what lies in memory while an operation is looked at -/
structure FS (W : World) (P F : Nat) (row fr : Array Value) (pv : Value) (ns : List Nat) (wr : World) : Prop where
  box : wr.heap[P]? = some (.cells row 28 (0, 0))
  fld : wr.heap[F]? = some (.cells fr 113 (0, 0))
  num : (ns = [] ∧ pv = .slice none 0 0) ∨ ∃ g, pv = .slice (some ⟨g, 0, none⟩) ns.length ns.length ∧ g ≠ P ∧ wr.heap[g]? = some (.cells (ns.map fun n => Value.pointer (some ⟨P, n, none⟩)).toArray 115 (0, 0))
  bel : Below W.heap.size W wr
  lo : W.heap.size ≤ P
  ne : F ≠ P
theorem FS.on {W : World} {P F : Nat} {row fr : Array Value} {pv : Value} {ns : List Nat} {wr X : World} (h : FS W P F row fr pv ns wr) (hb : Below wr.heap.size wr X) : FS W P F row fr pv ns X := by
  refine ⟨heap_below h.box hb, heap_below h.fld hb, ?_, below_chain h.bel hb, h.lo, h.ne⟩
  rcases h.num with x | ⟨g, h1, h2, h3⟩
  · exact .inl x
  · exact .inr ⟨g, h1, h2, heap_below h3 hb⟩
theorem FS.set {W : World} {P F : Nat} {row fr : Array Value} {pv : Value} {ns : List Nat} {wr : World} (h : FS W P F row fr pv ns wr) (i : Nat) (v : Value) : FS W P F (row.setIfInBounds i v) fr pv ns (wr.setCell ⟨P, i, none⟩ v) := by
  refine ⟨set_of h.box i v, other_of h.fld h.ne v, ?_, h.bel.setCell h.lo _, h.lo, h.ne⟩
  rcases h.num with x | ⟨g, h1, h2, h3⟩
  · exact .inl x
  · exact .inr ⟨g, h1, h2, other_of h3 h2 v⟩
theorem FS.ptr {W : World} {P F : Nat} {row fr : Array Value} {pp : Option Addr} {m : Nat} {ns : List Nat} {wr : World} (h : FS W P F row fr (.slice pp m m) ns wr) {i o : Nat} (ho : ns[i]? = some o) : ∃ g, pp = some ⟨g, 0, none⟩ ∧ wr.cell? ⟨g, i, none⟩ = some (.pointer (some ⟨P, o, none⟩)) := by
  rcases h.num with ⟨rfl, _⟩ | ⟨g, h1, h2, h3⟩
  · simp at ho
  · refine ⟨g, by injection h1, ?_⟩
    rw [cell_of h3 i]
    simp [ho]
theorem FS.cells {W : World} {P F : Nat} {row fr : Array Value} {pv : Value} {ns : List Nat} {wr : World} (h : FS W P F row fr pv ns wr) {j : Nat} {v : Value} (hv : row[j]? = some v) : wr.cell? ⟨P, j, none⟩ = some v := (cell_of h.box j).trans hv

set_option maxRecDepth 100000 in
set_option maxHeartbeats 8000000 in
theorem fault_any (b : Nat) (k key val old hnd : Nat) (set : Bool) (rt ri : Int) (kp : Option Addr) (n kc lo hi : Nat) (hk : k < 256) (h1 : isU key) (h2 : isU val) (h3 : isU old) (h4 : isU hnd) (h5 : isU lo) (h6 : isU hi) (ha : isI rt) (hb : isI ri) (W : World) (hV : IsVoc W b) (hW : Wd W) :
    Calls Tryz.prog 24 #[.map (some b), .agg (opR k key val old hnd set rt ri (.slice kp n kc) lo hi)] W fun e W' => e = .returned (.int .i64 (faultN k key val old hnd set rt ri kp n kc lo hi : Int)) ∧ Below W.heap.size W W' := by
  obtain ⟨w1, hw1⟩ : ∃ w1, w1 = W.alloc (.cells (opR k key val old hnd set rt ri (.slice kp n kc) lo hi) 28) := ⟨_, rfl⟩
  obtain ⟨P, hP⟩ : ∃ P, P = W.heap.size := ⟨_, rfl⟩
  have B1 : Below W.heap.size W w1 := by rw [hw1]; exact below_alloc _ _
  have X1 : w1.heap[P]? = some (.cells (opR k key val old hnd set rt ri (.slice kp n kc) lo hi) 28 (0, 0)) := by rw [hw1, hP]; exact heap_alloc_new _ _
  have hno := fields_no b P k hk w1 (hV.on B1) (hW.on B1) (cell_of X1 0)
  have hye := fields_any b P k hk w1 (hV.on B1) (hW.on B1) (cell_of X1 0)
  have htm := fun w => too_any k key val old hnd set rt ri kp n kc lo hi w
  have hrh := fun w => rh_any k key val old hnd set rt ri (.slice kp n kc) lo hi ha hb w
  have i0 : isI 0 := ⟨by omega, by omega⟩
  have u0 : isU 0 := by unfold isU; omega
  have hbl0 := fun w => blank_any k (zk k 1 key) (zk k 2 val) (zk k 3 old) hnd set rt ri kp n kc (zk k 9 lo) (zk k 10 hi) (zk_u h1) (zk_u h2) (zk_u h3) h4 (zk_u h5) (zk_u h6) ha hb w
  have hbl1 := fun w => blank_any k (zk k 1 key) (zk k 2 val) (zk k 3 old) 0 false 0 0 kp n kc (zk k 9 lo) (zk k 10 hi) (zk_u h1) (zk_u h2) (zk_u h3) u0 (zk_u h5) (zk_u h6) i0 i0 w
  have hbl2 := fun w => blank_any k (zk k 1 key) (zk k 2 val) (zk k 3 old) 0 false 0 0 none 0 0 (zk k 9 lo) (zk k 10 hi) (zk_u h1) (zk_u h2) (zk_u h3) u0 (zk_u h5) (zk_u h6) i0 i0 w
  have HZ0 := keepH (zr_op k key val old hnd set rt ri (.slice kp n kc) lo hi)
  have HZ1 := keepH (zr_op k key val old 0 false 0 0 (.slice kp n kc) lo hi)
  have HNO := keepH hno
  have HYE := keepH hye
  have HTM := keepH htm
  have HRH := keepH hrh
  have HBL0 := keepH hbl0
  have HBL1 := keepH hbl1
  have HBL2 := keepH hbl2
  have HW1 := keepH hw1
  have HP := keepH hP
  have HB1 := keepH B1
  have HX1 := keepH X1
  have HLT := keepH (numK_lt k)
  have HLE := keepH (numK_len k)
  obtain ⟨E, hE⟩ : ∃ E, E = faultN k key val old hnd set rt ri kp n kc lo hi := ⟨_, rfl⟩
  rw [← hE]
  have HE := keepH hE
  clear hno hye htm hrh hbl0 hbl1 hbl2 hw1 hP B1 X1 hV hW hE h1 h2 h3 h4 h5 h6 ha hb hk i0 u0
  by_cases hh : hasK k = true
  · have HHK := keepH hh
    clear hh
    go_enter Tryz.func24, Tryz.ntmps24
    go_upto_region 1 with fail
    rw [← HW1.out, ← HP.out]
    go_wp2_with fail
    refine (HYE.out HHK.out).mono ?_
    rintro e w2 ⟨pp, rfl, hnum, B2⟩
    obtain ⟨m, hm⟩ : ∃ m, m = (numK k).length := ⟨_, rfl⟩
    rw [← hm] at hnum ⊢
    obtain ⟨hd, hhd⟩ : ∃ d, d = hndK k := ⟨_, rfl⟩
    obtain ⟨kb, hkb⟩ : ∃ d, d = kysK k := ⟨_, rfl⟩
    rw [← hhd, ← hkb]
    obtain ⟨w3, hw3⟩ : ∃ w3, w3 = w2.alloc (.cells #[.bool hd, .slice pp m m, .bool kb] 113) := ⟨_, rfl⟩
    obtain ⟨F, hF⟩ : ∃ F, F = w2.heap.size := ⟨_, rfl⟩
    have B3 : Below w2.heap.size w2 w3 := by rw [hw3]; exact below_alloc _ _
    have S3 : FS W P F (opR k key val old hnd set rt ri (.slice kp n kc) lo hi) #[.bool hd, .slice pp m m, .bool kb] (.slice pp m m) (numK k) w3 := by
      have hx := (Array.getElem?_eq_some_iff.1 HX1.out).1
      refine ⟨heap_below (heap_below HX1.out B2) B3, by rw [hw3, hF]; exact heap_alloc_new _ _, ?_, below_chain (below_chain HB1.out B2) B3, by rw [HP.out]; exact Nat.le_refl _, ?_⟩
      · rcases hnum with h | ⟨g, q1, q2, q3⟩
        · exact .inl h
        · exact .inr ⟨g, q1, by omega, heap_below q3 B3⟩
      · have := B2.size
        omega
    have HS3 := keepH S3
    have HW3 := keepH hw3
    have HFF := keepH hF
    have HM := keepH hm
    have HHD := keepH hhd
    have HKB := keepH hkb
    have hm3 : m ≤ 3 := by rw [hm]; exact HLE.out
    clear hnum B2 B3 S3 hw3 hF hm hhd hkb
    go_upto_region 2 with fail
    rw [← HW3.out, ← HFF.out]
    have hs3 := HS3.out
    have c0 : w3.cell? ⟨P, 0, none⟩ = _ := hs3.cells rfl
    have c1 : w3.cell? ⟨P, 1, none⟩ = _ := hs3.cells rfl
    have c2 : w3.cell? ⟨P, 2, none⟩ = _ := hs3.cells rfl
    have c3 : w3.cell? ⟨P, 3, none⟩ = _ := hs3.cells rfl
    have c4 : w3.cell? ⟨P, 4, none⟩ = _ := hs3.cells rfl
    have c5 : w3.cell? ⟨P, 5, none⟩ = _ := hs3.cells rfl
    have c6 : w3.cell? ⟨P, 6, none⟩ = _ := hs3.cells rfl
    have c7 : w3.cell? ⟨P, 7, none⟩ = _ := hs3.cells rfl
    have c8 : w3.cell? ⟨P, 8, none⟩ = _ := hs3.cells rfl
    have c9 : w3.cell? ⟨P, 9, none⟩ = _ := hs3.cells rfl
    have c10 : w3.cell? ⟨P, 10, none⟩ = _ := hs3.cells rfl
    clear hs3
    go_wp2_with fail
    refine (HTM.out w3).mono ?_
    rintro e w4 ⟨rfl, B4⟩
    have HS4 := keepH (HS3.out.on B4)
    clear B4 c0 c1 c2 c3 c4 c5 c6 c7 c8 c9 c10
    by_cases ht : k = 7 ∧ 1024 < n
    · have g : decide (k = 7 ∧ 1024 < n) = true := by simpa using ht
      rw [g]
      have HEE : Hid (E = 6) := keepH (by rw [HE.out]; unfold faultN; rw [if_neg (by rw [HHK.out]; simp), if_pos ht])
      clear g ht
      go_wp2_with fail
      go_ret
      exact ⟨by rw [HEE.out]; rfl, HS4.out.bel⟩
    have g : decide (k = 7 ∧ 1024 < n) = false := by simpa using ht
    rw [g]
    have HT := keepH ht
    clear g ht
    have f0 : w4.cell? ⟨F, 0, none⟩ = some (.bool hd) := cell_of HS4.out.fld 0
    have f1 : w4.cell? ⟨F, 1, none⟩ = some (.slice pp m m) := cell_of HS4.out.fld 1
    have f2 : w4.cell? ⟨F, 2, none⟩ = some (.bool kb) := cell_of HS4.out.fld 2
    cases hd with
    | false =>
      have hkb0 : kb = false := by
        rw [HKB.out]
        have := HHD.out
        unfold hndK at this
        unfold kysK
        simp at this ⊢
        omega
      subst hkb0
      go_upto_region 10 with fail
      clear f0 f1 f2
      have f1 : w4.cell? ⟨F, 1, none⟩ = some (.slice pp m m) := cell_of HS4.out.fld 1
      go_wp2_with fail
      clear f1
      go_loopw [36] (fun s wr => ∃ i : Nat, i ≤ m ∧ s = .int .i64 (i : Int) ∧ Hid (FS W P F (zr (opR k key val old hnd set rt ri (.slice kp n kc) lo hi) ((numK k).take i)) #[.bool false, .slice pp m m, .bool false] (.slice pp m m) (numK k) wr)) (fun s _ => m - (intOf s).toNat)
      case atStart => exact ⟨0, by omega, rfl, keepH (by simpa [zr] using HS4.out)⟩
      case round =>
        obtain ⟨i, him, rfl, HR⟩ := hrel
        by_cases hlt : i < m
        · have t1 : (i : Int) < (m : Int) := by omega
          have t0 : (0 : Int) ≤ (i : Int) := by omega
          obtain ⟨o, ho⟩ : ∃ o, (numK k)[i]? = some o := ⟨(numK k)[i]'(by have := HM.out; omega), List.getElem?_eq_getElem _⟩
          obtain ⟨g, rfl, p0⟩ := HR.out.ptr ho
          have ho11 := HLT.out o (List.mem_of_getElem? ho)
          have hsz : o < (zr (opR k key val old hnd set rt ri (.slice kp n kc) lo hi) ((numK k).take i)).size := by rw [zr_size]; exact ho11
          obtain ⟨u, hu⟩ : ∃ u, (zr (opR k key val old hnd set rt ri (.slice kp n kc) lo hi) ((numK k).take i))[o]? = some u := ⟨_, Array.getElem?_eq_getElem hsz⟩
          have p1 : wr.cell? ⟨P, o, none⟩ = some u := HR.out.cells hu
          have p2 : wr.frozen? ⟨P, o, none⟩ = false := free_of HR.out.box o
          have hst := HR.out.set o (.int .u64 0)
          rw [← zr_next _ ho] at hst
          have HST := keepH hst
          clear ho hu hsz hst
          go_wp2_with fail
          go_roundw
          case rel => exact ⟨i + 1, by omega, by first | rfl | go_num, HST⟩
          case measure => simp [intOf]; omega
        · obtain rfl : i = m := by omega
          have t1 : ¬ (i : Int) < (i : Int) := by omega
          have hf := HR.out
          rw [HM.out, List.take_length, HZ0.out, ← HM.out] at hf
          have f2 : wr.cell? ⟨F, 2, none⟩ = some (.bool false) := cell_of hf.fld 2
          have HG := keepH hf
          go_upto_region 17 with fail
          have c0 : wr.cell? ⟨P, 0, none⟩ = _ := HG.out.cells rfl
          have c1 : wr.cell? ⟨P, 1, none⟩ = _ := HG.out.cells rfl
          have c2 : wr.cell? ⟨P, 2, none⟩ = _ := HG.out.cells rfl
          have c3 : wr.cell? ⟨P, 3, none⟩ = _ := HG.out.cells rfl
          have c4 : wr.cell? ⟨P, 4, none⟩ = _ := HG.out.cells rfl
          have c5 : wr.cell? ⟨P, 5, none⟩ = _ := HG.out.cells rfl
          have c6 : wr.cell? ⟨P, 6, none⟩ = _ := HG.out.cells rfl
          have c7 : wr.cell? ⟨P, 7, none⟩ = _ := HG.out.cells rfl
          have c8 : wr.cell? ⟨P, 8, none⟩ = _ := HG.out.cells rfl
          have c9 : wr.cell? ⟨P, 9, none⟩ = _ := HG.out.cells rfl
          have c10 : wr.cell? ⟨P, 10, none⟩ = _ := HG.out.cells rfl
          clear f2 hf
          go_wp2_with fail
          refine (HBL0.out wr).mono ?_
          rintro e w9 ⟨rfl, B9⟩
          have HB9 := keepH (below_chain HG.out.bel B9)
          clear B9 c0 c1 c2 c3 c4 c5 c6 c7 c8 c9 c10
          have hfin : E = if blB (zk k 1 key) (zk k 2 val) (zk k 3 old) hnd (zk k 9 lo) (zk k 10 hi) set rt ri n = true then 0 else 52 := by
            rw [HE.out]; unfold faultN; rw [if_neg (by rw [HHK.out]; simp), if_neg HT.out, if_neg (by rw [← HHD.out]; simp)]; rw [← HHD.out, ← HKB.out]; rfl
          obtain ⟨bb, hbb⟩ : ∃ bb, bb = blB (zk k 1 key) (zk k 2 val) (zk k 3 old) hnd (zk k 9 lo) (zk k 10 hi) set rt ri n := ⟨_, rfl⟩
          rw [← hbb] at hfin ⊢
          have HFIN := keepH hfin
          clear hfin hbb
          cases bb with
          | true =>
            go_wp2_with fail
            go_ret
            exact ⟨by rw [HFIN.out]; rfl, HB9.out⟩
          | false =>
            go_wp2_with fail
            go_ret
            exact ⟨by rw [HFIN.out]; rfl, HB9.out⟩
    | true =>
      have c0 : w4.cell? ⟨P, 0, none⟩ = _ := HS4.out.cells rfl
      have c1 : w4.cell? ⟨P, 1, none⟩ = _ := HS4.out.cells rfl
      have c2 : w4.cell? ⟨P, 2, none⟩ = _ := HS4.out.cells rfl
      have c3 : w4.cell? ⟨P, 3, none⟩ = _ := HS4.out.cells rfl
      have c4 : w4.cell? ⟨P, 4, none⟩ = _ := HS4.out.cells rfl
      have c5 : w4.cell? ⟨P, 5, none⟩ = _ := HS4.out.cells rfl
      have c6 : w4.cell? ⟨P, 6, none⟩ = _ := HS4.out.cells rfl
      have c7 : w4.cell? ⟨P, 7, none⟩ = _ := HS4.out.cells rfl
      have c8 : w4.cell? ⟨P, 8, none⟩ = _ := HS4.out.cells rfl
      have c9 : w4.cell? ⟨P, 9, none⟩ = _ := HS4.out.cells rfl
      have c10 : w4.cell? ⟨P, 10, none⟩ = _ := HS4.out.cells rfl
      go_wp2_with fail
      refine (HRH.out w4).mono ?_
      rintro e w5 ⟨rfl, B5⟩
      have HS5 := keepH (HS4.out.on B5)
      clear B5 c0 c1 c2 c3 c4 c5 c6 c7 c8 c9 c10 f0 f1 f2
      obtain ⟨rb, hrb⟩ : ∃ r, r = rhB hnd set rt ri := ⟨_, rfl⟩
      rw [← hrb]
      have HRB0 := keepH hrb
      clear hrb
      cases rb with
      | false =>
        have HEE : Hid (E = 52) := keepH (by rw [HE.out]; unfold faultN; rw [if_neg (by rw [HHK.out]; simp), if_neg HT.out, if_pos ⟨HHD.out.symm, HRB0.out.symm⟩])
        go_wp2_with fail
        go_ret
        exact ⟨by rw [HEE.out]; rfl, HS5.out.bel⟩
      | true =>
        have HRB : Hid (rhB hnd set rt ri = true) := keepH HRB0.out.symm
        have f0 : w5.cell? ⟨F, 0, none⟩ = some (.bool true) := cell_of HS5.out.fld 0
        have p4 : w5.cell? ⟨P, 4, none⟩ = _ := HS5.out.cells rfl
        have p5 : w5.cell? ⟨P, 5, none⟩ = _ := HS5.out.cells rfl
        have p6 : w5.cell? ⟨P, 6, none⟩ = _ := HS5.out.cells rfl
        have p7 : w5.cell? ⟨P, 7, none⟩ = _ := HS5.out.cells rfl
        have q4 : w5.frozen? ⟨P, 4, none⟩ = false := free_of HS5.out.box 4
        have q5 : w5.frozen? ⟨P, 5, none⟩ = false := free_of HS5.out.box 5
        have q6 : w5.frozen? ⟨P, 6, none⟩ = false := free_of HS5.out.box 6
        have q7 : w5.frozen? ⟨P, 7, none⟩ = false := free_of HS5.out.box 7
        obtain ⟨w6, hw6⟩ : ∃ w6, w6 = (((w5.setCell ⟨P, 4, none⟩ (.int .u64 0)).setCell ⟨P, 5, none⟩ (.bool false)).setCell ⟨P, 6, none⟩ (.int .i64 0)).setCell ⟨P, 7, none⟩ (.int .i64 0) := ⟨_, rfl⟩
        have HS6 : Hid (FS W P F (opR k key val old 0 false 0 0 (.slice kp n kc) lo hi) #[.bool true, .slice pp m m, .bool kb] (.slice pp m m) (numK k) w6) := keepH (by
          rw [hw6]
          exact (((HS5.out.set 4 (.int .u64 0)).set 5 (.bool false)).set 6 (.int .i64 0)).set 7 (.int .i64 0))
        have HW6 := keepH hw6
        clear hw6
        go_upto_region 10 with fail
        rw [← HW6.out]
        clear f0 p4 p5 p6 p7 q4 q5 q6 q7
        cases kb with
        | false =>
          have f1 : w6.cell? ⟨F, 1, none⟩ = some (.slice pp m m) := cell_of HS6.out.fld 1
          go_wp2_with fail
          clear f1
          go_loopw [36] (fun s wr => ∃ i : Nat, i ≤ m ∧ s = .int .i64 (i : Int) ∧ Hid (FS W P F (zr (opR k key val old 0 false 0 0 (.slice kp n kc) lo hi) ((numK k).take i)) #[.bool true, .slice pp m m, .bool false] (.slice pp m m) (numK k) wr)) (fun s _ => m - (intOf s).toNat)
          case atStart => exact ⟨0, by omega, rfl, keepH (by simpa [zr] using HS6.out)⟩
          case round =>
            obtain ⟨i, him, rfl, HR⟩ := hrel
            by_cases hlt : i < m
            · have t1 : (i : Int) < (m : Int) := by omega
              have t0 : (0 : Int) ≤ (i : Int) := by omega
              obtain ⟨o, ho⟩ : ∃ o, (numK k)[i]? = some o := ⟨(numK k)[i]'(by have := HM.out; omega), List.getElem?_eq_getElem _⟩
              obtain ⟨g, rfl, p0⟩ := HR.out.ptr ho
              have ho11 := HLT.out o (List.mem_of_getElem? ho)
              have hsz : o < (zr (opR k key val old 0 false 0 0 (.slice kp n kc) lo hi) ((numK k).take i)).size := by rw [zr_size]; exact ho11
              obtain ⟨u, hu⟩ : ∃ u, (zr (opR k key val old 0 false 0 0 (.slice kp n kc) lo hi) ((numK k).take i))[o]? = some u := ⟨_, Array.getElem?_eq_getElem hsz⟩
              have p1 : wr.cell? ⟨P, o, none⟩ = some u := HR.out.cells hu
              have p2 : wr.frozen? ⟨P, o, none⟩ = false := free_of HR.out.box o
              have hst := HR.out.set o (.int .u64 0)
              rw [← zr_next _ ho] at hst
              have HST := keepH hst
              clear ho hu hsz hst
              go_wp2_with fail
              go_roundw
              case rel => exact ⟨i + 1, by omega, by first | rfl | go_num, HST⟩
              case measure => simp [intOf]; omega
            · obtain rfl : i = m := by omega
              have t1 : ¬ (i : Int) < (i : Int) := by omega
              have hf := HR.out
              rw [HM.out, List.take_length, HZ1.out, ← HM.out] at hf
              have f2 : wr.cell? ⟨F, 2, none⟩ = some (.bool false) := cell_of hf.fld 2
              have HG := keepH hf
              go_upto_region 17 with fail
              have c0 : wr.cell? ⟨P, 0, none⟩ = _ := HG.out.cells rfl
              have c1 : wr.cell? ⟨P, 1, none⟩ = _ := HG.out.cells rfl
              have c2 : wr.cell? ⟨P, 2, none⟩ = _ := HG.out.cells rfl
              have c3 : wr.cell? ⟨P, 3, none⟩ = _ := HG.out.cells rfl
              have c4 : wr.cell? ⟨P, 4, none⟩ = _ := HG.out.cells rfl
              have c5 : wr.cell? ⟨P, 5, none⟩ = _ := HG.out.cells rfl
              have c6 : wr.cell? ⟨P, 6, none⟩ = _ := HG.out.cells rfl
              have c7 : wr.cell? ⟨P, 7, none⟩ = _ := HG.out.cells rfl
              have c8 : wr.cell? ⟨P, 8, none⟩ = _ := HG.out.cells rfl
              have c9 : wr.cell? ⟨P, 9, none⟩ = _ := HG.out.cells rfl
              have c10 : wr.cell? ⟨P, 10, none⟩ = _ := HG.out.cells rfl
              clear f2 hf
              go_wp2_with fail
              refine (HBL1.out wr).mono ?_
              rintro e w9 ⟨rfl, B9⟩
              have HB9 := keepH (below_chain HG.out.bel B9)
              clear B9 c0 c1 c2 c3 c4 c5 c6 c7 c8 c9 c10
              have hfin : E = if blB (zk k 1 key) (zk k 2 val) (zk k 3 old) 0 (zk k 9 lo) (zk k 10 hi) false 0 0 n = true then 0 else 52 := by
                rw [HE.out]; unfold faultN; rw [if_neg (by rw [HHK.out]; simp), if_neg HT.out, if_neg (by rw [← HHD.out]; intro hq; rw [HRB.out] at hq; simp at hq)]; rw [← HHD.out, ← HKB.out]; rfl
              obtain ⟨bb, hbb⟩ : ∃ bb, bb = blB (zk k 1 key) (zk k 2 val) (zk k 3 old) 0 (zk k 9 lo) (zk k 10 hi) false 0 0 n := ⟨_, rfl⟩
              rw [← hbb] at hfin ⊢
              have HFIN := keepH hfin
              clear hfin hbb
              cases bb with
              | true =>
                go_wp2_with fail
                go_ret
                exact ⟨by rw [HFIN.out]; rfl, HB9.out⟩
              | false =>
                go_wp2_with fail
                go_ret
                exact ⟨by rw [HFIN.out]; rfl, HB9.out⟩
        | true =>
          have f1 : w6.cell? ⟨F, 1, none⟩ = some (.slice pp m m) := cell_of HS6.out.fld 1
          go_wp2_with fail
          clear f1
          go_loopw [36] (fun s wr => ∃ i : Nat, i ≤ m ∧ s = .int .i64 (i : Int) ∧ Hid (FS W P F (zr (opR k key val old 0 false 0 0 (.slice kp n kc) lo hi) ((numK k).take i)) #[.bool true, .slice pp m m, .bool true] (.slice pp m m) (numK k) wr)) (fun s _ => m - (intOf s).toNat)
          case atStart => exact ⟨0, by omega, rfl, keepH (by simpa [zr] using HS6.out)⟩
          case round =>
            obtain ⟨i, him, rfl, HR⟩ := hrel
            by_cases hlt : i < m
            · have t1 : (i : Int) < (m : Int) := by omega
              have t0 : (0 : Int) ≤ (i : Int) := by omega
              obtain ⟨o, ho⟩ : ∃ o, (numK k)[i]? = some o := ⟨(numK k)[i]'(by have := HM.out; omega), List.getElem?_eq_getElem _⟩
              obtain ⟨g, rfl, p0⟩ := HR.out.ptr ho
              have ho11 := HLT.out o (List.mem_of_getElem? ho)
              have hsz : o < (zr (opR k key val old 0 false 0 0 (.slice kp n kc) lo hi) ((numK k).take i)).size := by rw [zr_size]; exact ho11
              obtain ⟨u, hu⟩ : ∃ u, (zr (opR k key val old 0 false 0 0 (.slice kp n kc) lo hi) ((numK k).take i))[o]? = some u := ⟨_, Array.getElem?_eq_getElem hsz⟩
              have p1 : wr.cell? ⟨P, o, none⟩ = some u := HR.out.cells hu
              have p2 : wr.frozen? ⟨P, o, none⟩ = false := free_of HR.out.box o
              have hst := HR.out.set o (.int .u64 0)
              rw [← zr_next _ ho] at hst
              have HST := keepH hst
              clear ho hu hsz hst
              go_wp2_with fail
              go_roundw
              case rel => exact ⟨i + 1, by omega, by first | rfl | go_num, HST⟩
              case measure => simp [intOf]; omega
            · obtain rfl : i = m := by omega
              have t1 : ¬ (i : Int) < (i : Int) := by omega
              have hf := HR.out
              rw [HM.out, List.take_length, HZ1.out, ← HM.out] at hf
              have f2 : wr.cell? ⟨F, 2, none⟩ = some (.bool true) := cell_of hf.fld 2
              have p1 : wr.cell? ⟨P, 8, none⟩ = some (.slice kp n kc) := hf.cells rfl
              have p2 : wr.frozen? ⟨P, 8, none⟩ = false := free_of hf.box 8
              have hg : FS W P F (opR k (zk k 1 key) (zk k 2 val) (zk k 3 old) 0 false 0 0 (.slice none 0 0) (zk k 9 lo) (zk k 10 hi)) _ _ _ _ := hf.set 8 (.slice none 0 0)
              have HG := keepH hg
              obtain ⟨wq, hwq⟩ : ∃ wq, wq = wr.setCell ⟨P, 8, none⟩ (.slice none 0 0) := ⟨_, rfl⟩
              rw [← hwq] at HG hg
              have HWQ := keepH hwq
              clear hf hwq
              go_upto_region 17 with fail
              rw [← HWQ.out]
              have c0 : wq.cell? ⟨P, 0, none⟩ = _ := HG.out.cells rfl
              have c1 : wq.cell? ⟨P, 1, none⟩ = _ := HG.out.cells rfl
              have c2 : wq.cell? ⟨P, 2, none⟩ = _ := HG.out.cells rfl
              have c3 : wq.cell? ⟨P, 3, none⟩ = _ := HG.out.cells rfl
              have c4 : wq.cell? ⟨P, 4, none⟩ = _ := HG.out.cells rfl
              have c5 : wq.cell? ⟨P, 5, none⟩ = _ := HG.out.cells rfl
              have c6 : wq.cell? ⟨P, 6, none⟩ = _ := HG.out.cells rfl
              have c7 : wq.cell? ⟨P, 7, none⟩ = _ := HG.out.cells rfl
              have c8 : wq.cell? ⟨P, 8, none⟩ = _ := HG.out.cells rfl
              have c9 : wq.cell? ⟨P, 9, none⟩ = _ := HG.out.cells rfl
              have c10 : wq.cell? ⟨P, 10, none⟩ = _ := HG.out.cells rfl
              clear f2 p1 p2 hg
              go_wp2_with fail
              refine (HBL2.out wq).mono ?_
              rintro e w9 ⟨rfl, B9⟩
              have HB9 := keepH (below_chain HG.out.bel B9)
              clear B9 c0 c1 c2 c3 c4 c5 c6 c7 c8 c9 c10
              have hfin : E = if blB (zk k 1 key) (zk k 2 val) (zk k 3 old) 0 (zk k 9 lo) (zk k 10 hi) false 0 0 0 = true then 0 else 52 := by
                rw [HE.out]; unfold faultN; rw [if_neg (by rw [HHK.out]; simp), if_neg HT.out, if_neg (by rw [← HHD.out]; intro hq; rw [HRB.out] at hq; simp at hq)]; rw [← HHD.out, ← HKB.out]; rfl
              obtain ⟨bb, hbb⟩ : ∃ bb, bb = blB (zk k 1 key) (zk k 2 val) (zk k 3 old) 0 (zk k 9 lo) (zk k 10 hi) false 0 0 0 := ⟨_, rfl⟩
              rw [← hbb] at hfin ⊢
              have HFIN := keepH hfin
              clear hfin hbb
              cases bb with
              | true =>
                go_wp2_with fail
                go_ret
                exact ⟨by rw [HFIN.out]; rfl, HB9.out⟩
              | false =>
                go_wp2_with fail
                go_ret
                exact ⟨by rw [HFIN.out]; rfl, HB9.out⟩
  · have hh' : hasK k = false := by simpa using hh
    have HHK := keepH hh'
    have HEE : Hid (E = 160) := keepH (by rw [HE.out]; unfold faultN; rw [if_pos hh'])
    clear hh hh'
    go_enter Tryz.func24, Tryz.ntmps24
    go_upto_region 1 with fail
    rw [← HW1.out, ← HP.out]
    go_wp2_with fail
    refine (HNO.out HHK.out).mono ?_
    rintro e w2 ⟨rfl, B2⟩
    have HB2 := keepH (below_chain HB1.out B2)
    clear B2
    go_wp2_with fail
    go_ret
    exact ⟨by rw [HEE.out]; rfl, below_chain HB2.out (below_alloc _ _)⟩
end Go.Proofs.YtmmaniolaljjlaaGreatDoor
/- The document's Lines and Words. -/
namespace Go.Proofs.YtmmaniolaljjlaaGreatDoor
open Go.RowKit Go.Shelf
set_option linter.unusedVariables false

theorem infoStr : (Tryz.prog.info? 9).map (fun i => (i.zero, i.size, i.bytes)) = some (some (.string ⟨#[]⟩), 1, 16) := by kernel_rfl
def strsRow (ls : List (List UInt8)) : List Value := ls.map (fun x => Value.string (mkS x))
theorem strsRow_snoc (ls : List (List UInt8)) (r : List UInt8) : strsRow (ls ++ [r]) = strsRow ls ++ [.string (mkS r)] := by simp [strsRow]
def joinL (ls : List (List UInt8)) : List UInt8 := (ls.map (fun x => x ++ [10])).flatten
theorem joinL_snoc (ls : List (List UInt8)) (r : List UInt8) : joinL (ls ++ [r]) = joinL ls ++ (r ++ [10]) := by simp [joinL]
theorem joinL_cons (ls : List (List UInt8)) (r : List UInt8) : joinL (r :: ls) = r ++ 10 :: joinL ls := by simp [joinL]
def LnR (t : List UInt8) (i f : Nat) (ls : List (List UInt8)) : Prop := ∃ r, t.take i = joinL ls ++ r ∧ f = (joinL ls).length ∧ noB 10 r ∧ (∀ x ∈ ls, noB 10 x)
theorem LnR.no {t : List UInt8} {i f : Nat} {ls : List (List UInt8)} (h : LnR t i f ls) (hi : i < t.length) (hb : ¬ t[i]? = some 10) : LnR t (i + 1) f ls := by
  obtain ⟨r, e, hf, hr, hx⟩ := h
  refine ⟨r ++ [t[i]], ?_, hf, hr.append ?_, hx⟩
  · rw [List.take_add_one, List.getElem?_eq_getElem hi, e]; simp
  · intro x hx' q
    simp at hx'
    exact hb (by rw [List.getElem?_eq_getElem hi, ← hx', q])
theorem LnR.yes {t : List UInt8} {i f : Nat} {ls : List (List UInt8)} (h : LnR t i f ls) (hi : i < t.length) (hb : t[i]? = some 10) : f ≤ i ∧ LnR t (i + 1) (i + 1) (ls ++ [(t.drop f).take (i - f)]) := by
  obtain ⟨r, e, hf, hr, hx⟩ := h
  have hl : (t.take i).length = i := by simp; omega
  have hl2 : i = (joinL ls).length + r.length := by rw [e] at hl; simp at hl; omega
  have hq : (t.drop f).take (i - f) = r := by rw [← List.drop_take, e, hf, List.drop_left]
  rw [hq]
  refine ⟨by omega, [], ?_, ?_, noB_nil _, ?_⟩
  · rw [List.take_add_one, hb, e, joinL_snoc]; simp
  · rw [joinL_snoc]; simp; omega
  · intro x hx'
    rcases List.mem_append.1 hx' with q | q
    · exact hx x q
    · simp at q
      subst q
      exact hr
theorem idx_str (l : List UInt8) (n : Nat) (hn : n < l.length) (c : UInt8) : ∃ x : Nat, (∀ W, (Instr.index 9 (.string (mkS l)) (.int .i64 (n : Int))).run Tryz.prog W = .ok (.int .u8 (x : Int)) W) ∧ (x = c.toNat ↔ l[n]? = some c) := by
  have hs : n < (mkS l).size := by rw [mkS_size]; exact hn
  refine ⟨((mkS l)[n]'hs).toNat, fun W => ?_, ?_⟩
  · rw [run_index_string W 9 (mkS l) .i64 (n : Int) Tryz.underlying9, dif_pos ⟨by omega, by omega⟩]
    rfl
  · have e : (mkS l)[n]'hs = l[n]'hn := by rfl
    rw [e, List.getElem?_eq_getElem hn]
    constructor
    · intro h
      congr 1
      exact UInt8.toNat_inj.mp h
    · intro h
      injection h with h
      rw [h]
theorem cut_m (t : List UInt8) (f i : Nat) (h : f ≤ i) (hi : i ≤ t.length) (w : World) : (Instr.slice 9 (.string (mkS t)) (some (.int .i64 (f : Int))) (some (.int .i64 (i : Int))) none).run Tryz.prog w = .ok (.string (mkS ((t.drop f).take (i - f)))) w := by
  have hs := mkS_size t
  rw [run_slice_string w 9 (mkS t) .i64 .i64 (f : Int) (i : Int) Tryz.underlying9 (by omega) (by omega) (by omega), mkS_extract]
  rfl
structure RowI (W wr : World) (v : Value) (ls : List (List UInt8)) : Prop where
  row : wr.ownsRow 0 9 1 v ls.length (strsRow ls)
  chg : Chg (fun _ => False) W wr
  new : ∀ b, v.ownBlock = some b → W.heap.size ≤ b
theorem RowI.more {W wr w2 : World} {v v' : Value} {ls : List (List UInt8)} {r : List UInt8} {o : Obj} (h : RowI W wr v ls)
    (hr : w2.ownsRow 0 9 1 v' (ls.length + 1) (strsRow ls ++ [.string (mkS r)])) (hg : (wr.alloc o).grownBy w2 v.ownBlock) (hw : v'.ownBlock = v.ownBlock ∨ v'.ownBlock = some (wr.alloc o).heap.size) : RowI W w2 v' (ls ++ [r]) := by
  have c2 : Chg (fun b => v.ownBlock = some b) wr w2 := ((Chg.refl (fun b => v.ownBlock = some b) wr).alloc o).grown hg (fun k e _ => e)
  have hz := h.chg.size
  refine ⟨by rw [strsRow_snoc, List.length_append]; exact hr, h.chg.trans c2 (fun _ _ x => x) (fun i hi x => by have := h.new _ x; omega), ?_⟩
  intro b hb
  rcases hw with e1 | e1
  · rw [e1] at hb
    exact h.new b hb
  · rw [e1] at hb
    simp at hb
    omega

set_option maxRecDepth 100000 in
set_option maxHeartbeats 4000000 in
theorem r_lines (t : List UInt8) (ht : t.length ≤ 200000000) (W : World) :
    Calls Tryz.prog 55 #[.string (mkS t)] W fun e W' => ∃ v, e = .returned v ∧ ∃ ls, RowI W W' v ls ∧ ∃ f, LnR t t.length f ls := by
  obtain ⟨i0, hi, hz0, hz1, hz2⟩ := info_parts infoStr
  have HI := keepH hi
  have hix := fun n hn => idx_str t n hn 10
  have hcm := cut_m t
  obtain ⟨s, hs⟩ : ∃ s, s = mkS t := ⟨_, rfl⟩
  have hsz : s.size = t.length := by rw [hs, mkS_size]
  rw [← hs] at hix hcm ⊢
  have HX := keepH hix
  have HC := keepH hcm
  clear hi hix hcm hs
  go_enter Tryz.func55, Tryz.ntmps55
  go_wp2_with fail
  go_loopw [3, 4, 5] (fun v f i wr => ∃ (k fk : Nat) (ls : List (List UInt8)), k ≤ t.length ∧ ls.length ≤ k ∧ f = .int .i64 (fk : Int) ∧ i = .int .i64 (k : Int) ∧ Hid (LnR t k fk ls ∧ RowI W wr v ls)) (fun _ _ i _ => t.length - (intOf i).toNat)
  case atStart => exact ⟨0, 0, [], by omega, by simp, rfl, rfl, keepH ⟨⟨[], by simp [joinL], by simp [joinL], noB_nil _, by simp⟩, World.ownsRow_nil _ _ _ _, Chg.refl _ _, fun b hb => by simp [Value.ownBlock] at hb⟩⟩
  case round =>
    obtain ⟨k, fk, ls, hk, hlk, rfl, rfl, HK⟩ := hrel
    by_cases hlt : k < t.length
    · have t1 : (k : Int) < (s.size : Int) := by omega
      have t0 : (0 : Int) ≤ (k : Int) := by omega
      have qw : IntKind.i64.wrap ((k : Int) + 1) = ((k + 1 : Nat) : Int) := by rw [IntKind.wrap_i64]; omega
      obtain ⟨x, hx, hxi⟩ := HX.out k hlt
      by_cases h1 : t[k]? = some 10
      · have hx10 := hxi.2 h1
        obtain ⟨hf, hnx⟩ := HK.out.1.yes hlt h1
        have hcx := HC.out fk k hf (by omega)
        obtain ⟨r, hr⟩ : ∃ r, r = (t.drop fk).take (k - fk) := ⟨_, rfl⟩
        rw [← hr] at hcx hnx
        have hi := HI.out
        obtain ⟨sr, hsr⟩ : ∃ s, s = mkS r := ⟨_, rfl⟩
        rw [← hsr] at hcx
        have HSR := keepH hsr
        have HNX := keepH hnx
        obtain ⟨nl, hnl⟩ : ∃ nl, nl = ls.length := ⟨_, rfl⟩
        have HNL := keepH hnl
        have HRW : Hid (wr.ownsRow 0 9 1 u3 nl (strsRow ls)) := by rw [hnl]; exact HK.out.2.row
        have hnl2 : nl ≤ 200000000 := by omega
        have q10 : ((x : Nat) : Int) = 10 := by rw [hx10]; rfl
        rw [q10] at hx
        clear hsr hr hnx hxi h1 hf hx10 hnl q10
        go_wp2_with (first | (at_builtin; refine wpList_append_own_at _ rfl (.tmp 16) (.tmp 21) 67 rfl 0 9 i0 (.string ⟨#[]⟩) 1 16 Tryz.underlying67 hi hz0 hz1 hz2 rfl (by decide) u3 nl (strsRow ls) rfl (HRW.out.alloc _) ⟨wr.heap.size, 0, none⟩ 1 1 [.string sr] rfl rfl (cells_newR _ _ (by simp) _ _) (by intro u hu; simp at hu; rcases hu with rfl; rfl) (by unfold maxLen; omega) (by omega) (Nat.zero_le _) ?_; intro v2 w2 r1 r2 r3 r4; have R1 := keepH r1; have R2 := keepH r2; have R4 := keepH r4; clear r1 r2 r3 r4) | go_in)
        go_roundw
        case rel => exact ⟨k + 1, k + 1, ls ++ [r], by omega, by simp; omega, by first | rfl | go_num, by first | rfl | go_num, keepH ⟨HNX.out, HK.out.2.more (by rw [← HSR.out, ← HNL.out]; exact R1.out) R2.out R4.out⟩⟩
        case measure => simp [intOf]; omega
      · have HNX := keepH (HK.out.1.no hlt h1)
        have q10 : ¬ ((x : Nat) : Int) = 10 := fun q => h1 (hxi.1 (by rw [show (10 : UInt8).toNat = 10 from rfl]; omega))
        clear hxi h1
        go_wp2_with fail
        go_roundw
        case rel => exact ⟨k + 1, fk, ls, by omega, by omega, rfl, by first | rfl | go_num, keepH ⟨HNX.out, HK.out.2⟩⟩
        case measure => simp [intOf]; omega
    · obtain rfl : k = t.length := by omega
      have t1 : ¬ (t.length : Int) < (s.size : Int) := by omega
      go_wp2_with fail
      go_ret
      exact ⟨u3, by simp, ls, HK.out.2, fk, HK.out.1⟩

def frontL (ls : List (List UInt8)) : List UInt8 := (ls.map (fun x => x ++ [32])).flatten
theorem frontL_snoc (ls : List (List UInt8)) (r : List UInt8) : frontL (ls ++ [r]) = frontL ls ++ (r ++ [32]) := by simp [frontL]
theorem frontL_cons (ls : List (List UInt8)) (r : List UInt8) : frontL (r :: ls) = r ++ 32 :: frontL ls := by simp [frontL]
def WdR (t : List UInt8) (i : Nat) (fs : List (List UInt8)) (r : List UInt8) : Prop := t.take i = frontL fs ++ r ∧ noB 32 r ∧ (∀ x ∈ fs, noB 32 x)
theorem WdR.no {t : List UInt8} {i : Nat} {fs : List (List UInt8)} {r : List UInt8} (h : WdR t i fs r) (hi : i < t.length) (hb : ¬ t[i]? = some 32) : WdR t (i + 1) fs (r ++ [t[i]]) := by
  obtain ⟨e, hr, hx⟩ := h
  refine ⟨?_, hr.append ?_, hx⟩
  · rw [List.take_add_one, List.getElem?_eq_getElem hi, e]; simp
  · intro x hx' q
    simp at hx'
    exact hb (by rw [List.getElem?_eq_getElem hi, ← hx', q])
theorem WdR.yes {t : List UInt8} {i : Nat} {fs : List (List UInt8)} {r : List UInt8} (h : WdR t i fs r) (hb : t[i]? = some 32) : WdR t (i + 1) (fs ++ [r]) [] := by
  obtain ⟨e, hr, hx⟩ := h
  refine ⟨?_, noB_nil _, ?_⟩
  · rw [List.take_add_one, hb, e, frontL_snoc]; simp
  · intro x hx'
    rcases List.mem_append.1 hx' with q | q
    · exact hx x q
    · simp at q
      subst q
      exact hr
theorem WdR.len {t : List UInt8} {i : Nat} {fs : List (List UInt8)} {r : List UInt8} (h : WdR t i fs r) : r.length ≤ i := by
  have q := congrArg List.length h.1
  simp at q
  omega
theorem RowI.set {W wr : World} {g m cap : Nat} {fs : List (List UInt8)} {r r' : List UInt8} (hm : fs.length = m) (h : RowI W wr (.slice (some ⟨g, 0, none⟩) (m + 1) cap) (fs ++ [r])) : RowI W (wr.setCell ⟨g, m, none⟩ (.string (mkS r'))) (.slice (some ⟨g, 0, none⟩) (m + 1) cap) (fs ++ [r']) := by
  have hl : ∀ r, (fs ++ [r]).length = m + 1 := fun r => by simp [hm]
  have h0 := h.row
  rw [hl] at h0
  obtain ⟨k1, k2⟩ := World.ownsRow.stored h0 m (.string (mkS r'))
  refine ⟨?_, h.chg.grown k2 (fun k e hk => by injection e with e; subst e; have := h.new g rfl; omega), h.new⟩
  rw [hl, strsRow_snoc]
  rw [strsRow_snoc, List.set_append_right _ _ (by simp [strsRow, hm])] at k1
  have : m - (strsRow fs).length = 0 := by simp [strsRow, hm]
  rw [this] at k1
  exact k1
theorem RowI.cell {W wr : World} {g m cap : Nat} {fs : List (List UInt8)} {r : List UInt8} (hm : fs.length = m) (h : RowI W wr (.slice (some ⟨g, 0, none⟩) (m + 1) cap) (fs ++ [r])) : wr.cell? ⟨g, m, none⟩ = some (.string (mkS r)) ∧ wr.frozen? ⟨g, m, none⟩ = false := by
  have h0 := h.row
  rw [show (fs ++ [r]).length = m + 1 by simp [hm]] at h0
  refine ⟨?_, World.ownsRow.frozenAt h0 m⟩
  rw [World.ownsRow.cellAt h0 m (by omega), strsRow_snoc, List.getElem?_append_right (by simp [strsRow, hm])]
  simp [strsRow, hm]
theorem RowI.form {W wr : World} {v : Value} {fs : List (List UInt8)} {r : List UInt8} (h : RowI W wr v (fs ++ [r])) : ∃ g cap, v = .slice (some ⟨g, 0, none⟩) (fs.length + 1) cap := by
  have h0 := h.row
  rw [show (fs ++ [r]).length = fs.length + 1 by simp] at h0
  rcases h0.2 with ⟨_, e⟩ | ⟨g, cap, cur, e, _⟩
  · omega
  · exact ⟨g, cap, e⟩

set_option maxRecDepth 100000 in
set_option maxHeartbeats 4000000 in
theorem r_words (t : List UInt8) (ht : t.length ≤ 200000000) (W : World) :
    Calls Tryz.prog 32 #[.string (mkS t)] W fun e W' => ∃ v, e = .returned v ∧ ∃ fs r, RowI W W' v (fs ++ [r]) ∧ WdR t t.length fs r := by
  obtain ⟨i0, hi, hz0, hz1, hz2⟩ := info_parts infoStr
  have HI := keepH hi
  have hix := fun n hn => idx_str t n hn 32
  have hcm := cut_m t
  obtain ⟨s, hs⟩ : ∃ s, s = mkS t := ⟨_, rfl⟩
  have hsz : s.size = t.length := by rw [hs, mkS_size]
  rw [← hs] at hix hcm ⊢
  have HX := keepH hix
  have HC := keepH hcm
  clear hi hix hcm hs
  go_enter Tryz.func32, Tryz.ntmps32
  go_wp2_with fail
  go_loopw [3, 4] (fun v i wr => ∃ (k : Nat) (fs : List (List UInt8)) (r : List UInt8), k ≤ t.length ∧ fs.length ≤ k ∧ i = .int .i64 (k : Int) ∧ Hid (WdR t k fs r ∧ RowI W wr v (fs ++ [r]))) (fun _ i _ => t.length - (intOf i).toNat)
  case atStart => exact ⟨0, [], [], by omega, by simp, rfl, keepH ⟨⟨by simp [frontL], noB_nil _, by simp⟩, World.ownsRow_lit W #[.string ⟨#[]⟩] 1 (Nat.zero_le _) (by unfold maxLen; omega) rfl, (Chg.refl _ _).alloc _, fun b hb => by simp [Value.ownBlock] at hb; omega⟩⟩
  case round =>
    obtain ⟨k, fs, r, hk, hlk, rfl, HK⟩ := hrel
    obtain ⟨g, cap, rfl⟩ := HK.out.2.form
    obtain ⟨m, hm⟩ : ∃ m, m = fs.length := ⟨_, rfl⟩
    rw [← hm] at HK hlk ⊢
    have HM := keepH hm
    clear hm
    by_cases hlt : k < t.length
    · have t1 : (k : Int) < (s.size : Int) := by omega
      have t0 : (0 : Int) ≤ (k : Int) := by omega
      have qw : IntKind.i64.wrap ((k : Int) + 1) = ((k + 1 : Nat) : Int) := by rw [IntKind.wrap_i64]; omega
      obtain ⟨x, hx, hxi⟩ := HX.out k hlt
      by_cases h1 : t[k]? = some 32
      · have hx10 := hxi.2 h1
        have HNX := keepH (HK.out.1.yes h1)
        have hi := HI.out
        have HRW : Hid (wr.ownsRow 0 9 1 (.slice (some ⟨g, 0, none⟩) (m + 1) cap) (m + 1) (strsRow (fs ++ [r]))) := by
          have := HK.out.2.row
          rw [show (fs ++ [r]).length = m + 1 by rw [HM.out]; simp] at this
          exact keepH this
        have q10 : ((x : Nat) : Int) = 32 := by rw [hx10]; rfl
        rw [q10] at hx
        clear hxi h1 hx10 q10
        go_wp2_with (first | (at_builtin; refine wpList_append_own_at _ rfl (.tmp 16) (.tmp 17) 67 rfl 0 9 i0 (.string ⟨#[]⟩) 1 16 Tryz.underlying67 hi hz0 hz1 hz2 rfl (by decide) (.slice (some ⟨g, 0, none⟩) (m + 1) cap) (m + 1) (strsRow (fs ++ [r])) rfl (HRW.out.alloc _) ⟨wr.heap.size, 0, none⟩ 1 1 [.string ⟨#[]⟩] rfl rfl (cells_newR _ _ (by simp) _ _) (by intro u hu; simp at hu; rcases hu with rfl; rfl) (by unfold maxLen; omega) (by omega) (Nat.zero_le _) ?_; intro v2 w2 r1 r2 r3 r4; have R1 := keepH r1; have R2 := keepH r2; have R4 := keepH r4; clear r1 r2 r3 r4) | go_in)
        go_roundw
        case rel => exact ⟨k + 1, fs ++ [r], [], by omega, by have := HM.out; simp; omega, by first | rfl | go_num, keepH ⟨HNX.out, HK.out.2.more (r := []) (by rw [show (fs ++ [r]).length = m + 1 by rw [HM.out]; simp]; exact R1.out) R2.out R4.out⟩⟩
        case measure => simp [intOf]; omega
      · have HNX := keepH (HK.out.1.no hlt h1)
        have q10 : ¬ ((x : Nat) : Int) = 32 := fun q => h1 (hxi.1 (by rw [show (32 : UInt8).toNat = 32 from rfl]; omega))
        have hcx := HC.out k (k + 1) (by omega) (by omega)
        rw [show (t.drop k).take (k + 1 - k) = [t[k]] by rw [List.drop_eq_getElem_cons hlt, show k + 1 - k = 1 by omega]; rfl] at hcx
        have hrl := HK.out.1.len
        have had := add_str r [t[k]] (by simp; omega)
        obtain ⟨g1, g2⟩ := RowI.cell HM.out.symm HK.out.2
        have HNR := keepH (HK.out.2.set (r' := r ++ [t[k]]) HM.out.symm)
        obtain ⟨r', hr'⟩ : ∃ r', r' = r ++ [t[k]] := ⟨_, rfl⟩
        rw [← hr'] at had HNX HNR
        obtain ⟨sb, hsb⟩ : ∃ sb, sb = mkS [t[k]] := ⟨_, rfl⟩
        obtain ⟨sr, hsr⟩ : ∃ sb, sb = mkS r := ⟨_, rfl⟩
        obtain ⟨sn, hsn⟩ : ∃ sb, sb = mkS r' := ⟨_, rfl⟩
        rw [← hsb] at hcx
        rw [show ((k + 1 : Nat) : Int) = (k : Int) + 1 by omega] at hcx
        rw [← hsb, ← hsr, ← hsn] at had
        rw [← hsr] at g1
        have HSN := keepH hsn
        have qm : IntKind.i64.wrap (((m + 1 : Nat) : Int) - 1) = (m : Int) := by rw [IntKind.wrap_i64]; omega
        have m0 : (0 : Int) ≤ (m : Int) := by omega
        have m1 : (m : Int) < ((m + 1 : Nat) : Int) := by omega
        clear hsb hsr hsn hr' hxi h1
        go_upto_region 7 with fail
        go_region
        go_wp2_with fail
        go_roundw
        case rel => exact ⟨k + 1, fs, r', by omega, by have := HM.out; omega, by first | rfl | go_num, keepH ⟨HNX.out, by rw [HSN.out]; exact ⟨HNR.out.row, HNR.out.chg.drew, HNR.out.new⟩⟩⟩
        case measure => simp [intOf]; omega
    · obtain rfl : k = t.length := by omega
      have t1 : ¬ (t.length : Int) < (s.size : Int) := by omega
      go_wp2_with fail
      go_ret
      exact ⟨_, by simp, fs, r, HK.out.2, HK.out.1⟩
theorem noB_cutG {c : UInt8} {a b r r' : List UInt8} (ha : noB c a) (hb : noB c b) (e : a ++ c :: r = b ++ c :: r') : a = b ∧ r = r' := by
  have h1 := ix_at (r := r) ha
  rw [e, ix_at hb] at h1
  have hl : b.length = a.length := by omega
  have := List.append_inj e hl.symm
  exact ⟨this.1, by injection this.2⟩
theorem ln_len {t : List UInt8} {ls : List (List UInt8)} (h : ∃ f, LnR t t.length f ls) : ls.length ≤ t.length ∧ ∀ x ∈ ls, x.length ≤ t.length := by
  obtain ⟨f, r, e1, _, _, _⟩ := h
  rw [List.take_length] at e1
  have q : ∀ ls : List (List UInt8), ls.length ≤ (joinL ls).length ∧ ∀ x ∈ ls, x.length ≤ (joinL ls).length := by
    intro ls
    induction ls with
    | nil => exact ⟨by simp, fun x hx => by simp at hx⟩
    | cons y ys ih =>
      rw [joinL_cons]
      refine ⟨by simp; omega, fun x hx => ?_⟩
      rcases List.mem_cons.1 hx with rfl | hx
      · simp
      · have := ih.2 x hx
        simp
        omega
  have h2 := q ls
  have h3 : t.length = (joinL ls).length + r.length := by rw [e1]; simp
  exact ⟨by omega, fun x hx => by have := h2.2 x hx; omega⟩
theorem wd_split {t : List UInt8} {fs : List (List UInt8)} {r : List UInt8} (h : WdR t t.length fs r) : Lib.split t [32] = fs ++ [r] := by
  obtain ⟨e, hr, hx⟩ := h
  rw [List.take_length] at e
  have key : ∀ (fs : List (List UInt8)) (r : List UInt8), Lib.join (fs ++ [r]) [32] = frontL fs ++ r := by
    intro fs
    induction fs with
    | nil => intro r; simp [Lib.join_one, frontL]
    | cons x l ih =>
      intro r
      cases l with
      | nil => simp [join_cc, Lib.join_one, frontL]
      | cons y l =>
        have := ih r
        rw [List.cons_append, List.cons_append, join_cc, ← List.cons_append, this]
        simp [frontL_cons]
  rw [e, ← key fs r]
  refine split_join _ (by simp) (fun f hf => ?_)
  rcases List.mem_append.mp hf with q | q
  · exact hx f q
  · simp at q; subst q; exact hr
end Go.Proofs.YtmmaniolaljjlaaGreatDoor
