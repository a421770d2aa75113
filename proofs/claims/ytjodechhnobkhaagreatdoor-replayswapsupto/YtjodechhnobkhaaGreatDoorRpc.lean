/- right: an access has nothing in the fields that its text does not name; by kind. (mkRpc.py) -/
import Derived.Test.YtjodechhnobkhaaGreatDoorRpb
import Derived.Deep.Cut
import Derived.Laws.BitsAllLaws
namespace Go.Proofs.YtjodechhnobkhaaGreatDoor
open Go.RowKit
set_option linter.unusedVariables false

abbrev accC (th : Int) (kind ad a b : Nat) (vs : Value) (got : Nat) (ok : Bool) : Array Value := #[.int .i64 th, .int .u8 (kind : Int), .int .u64 (ad : Int), .int .u64 (a : Int), .int .u64 (b : Int), vs, .int .u64 (got : Int), .bool ok]
theorem or_nat (x y : Nat) (hx : x < 18446744073709551616) (hy : y < 18446744073709551616) : bits .or .u64 (x : Int) (y : Int) = ((x ||| y : Nat) : Int) ∧ x ||| y < 18446744073709551616 := by
  have hlt : x ||| y < 2 ^ 64 := Nat.or_lt_two_pow (by omega) (by omega)
  refine ⟨?_, by omega⟩
  exact u64_or_nat x y hx hy

theorem or4 (a b c d : Nat) (ha : isU a) (hb : isU b) (hc : isU c) (hd : isU d) : ∃ z1 z2 z3 : Nat, bits .or .u64 (a : Int) (b : Int) = (z1 : Int) ∧ bits .or .u64 (z1 : Int) (c : Int) = (z2 : Int) ∧ bits .or .u64 (z2 : Int) (d : Int) = (z3 : Int) ∧ (z3 = 0 ↔ a = 0 ∧ b = 0 ∧ c = 0 ∧ d = 0) := by
  obtain ⟨e1, l1⟩ := or_nat a b ha hb
  obtain ⟨e2, l2⟩ := or_nat _ c l1 hc
  obtain ⟨e3, l3⟩ := or_nat _ d l2 hd
  refine ⟨_, _, _, e1, e2, e3, ?_⟩
  simp [Nat.or_eq_zero_iff, and_assoc]

structure RI (W : World) (tb B nb : Nat) (cs ps : Array Value) (wr : World) : Prop where
  bel : Below W.heap.size W wr
  box : wr.heap[B]? = some (.cells cs 44 (0, 0))
  row : wr.heap[nb]? = some (.cells ps 115 (0, 0))
  frm : IsForms wr tb
  lo : W.heap.size ≤ B
  ne : B ≠ nb
  nt : B ≠ tb
theorem RI.set {W : World} {tb B nb : Nat} {cs ps : Array Value} {wr : World} (h : RI W tb B nb cs ps wr) (i : Nat) (v : Value) : RI W tb B nb (cs.setIfInBounds i v) ps (wr.setCell ⟨B, i, none⟩ v) :=
  ⟨h.bel.setCell h.lo _, set_of h.box i v, other_of h.row (Ne.symm h.ne) v, other_of h.frm (Ne.symm h.nt) v, h.lo, h.ne, h.nt⟩
theorem RI.start {W w1 w2 : World} {tb B : Nat} {cs ps : Array Value} (hB : B = W.heap.size) (h0 : Below W.heap.size W w1) (hx : w1.heap[B]? = some (.cells cs 44 (0, 0))) (hf : IsForms w1 tb) (htb : tb < W.heap.size) (hn : NumsAt w1 w2 ps) : RI W tb B w1.heap.size cs ps w2 :=
  ⟨below_chain h0 hn.2.2, heap_below hx hn.2.2, hn.1, hf.on hn.2.2, by omega, by have := lt_of hx; omega, by omega⟩

def z1 (th : Int) (ad a b got n c : Nat) (p : Option Addr) (ok : Bool) : Nat → Array Value
  | 0 => #[.int .i64 th, .int .u8 1, .int .u64 (ad : Int), .int .u64 (a : Int), .int .u64 (b : Int), .slice p n c, .int .u64 (got : Int), .bool ok]
  | 1 => #[.int .i64 th, .int .u8 1, .int .u64 0, .int .u64 (a : Int), .int .u64 (b : Int), .slice p n c, .int .u64 (got : Int), .bool ok]
  | _ => #[.int .i64 th, .int .u8 1, .int .u64 0, .int .u64 (a : Int), .int .u64 (b : Int), .slice p n c, .int .u64 0, .bool ok]

set_option maxRecDepth 100000 in
set_option maxHeartbeats 2000000 in
theorem right_1 (th : Int) (ad a b got n c tb : Nat) (p : Option Addr) (ok : Bool) (W : World) (hF : IsForms W tb) (had : isU ad) (ha : isU a) (hb : isU b) (hgot : isU got) :
    Calls Tryz.prog 50 #[.pointer (some ⟨tb, 0, none⟩), .agg #[.int .i64 th, .int .u8 1, .int .u64 (ad : Int), .int .u64 (a : Int), .int .u64 (b : Int), .slice p n c, .int .u64 (got : Int), .bool ok]] W fun e W' => e = .returned (.bool (decide (a = 0 ∧ b = 0 ∧ n = 0 ∧ ok = false))) ∧ Below W.heap.size W W' := by
  obtain ⟨zz1, zz2, zz3, o1, o2, o3, o4⟩ := or4 0 a b 0 (by first | exact okU0 | assumption) (by first | exact okU0 | assumption) (by first | exact okU0 | assumption) (by first | exact okU0 | assumption)
  simp only [show ((0 : Nat) : Int) = 0 from rfl] at o1 o2 o3
  obtain ⟨R, hR⟩ : ∃ R, R = decide (a = 0 ∧ b = 0 ∧ n = 0 ∧ ok = false) := ⟨_, rfl⟩
  rw [← hR]
  have HR := keepH hR
  clear hR
  have htb := lt_of hF
  obtain ⟨w0, hw0⟩ : ∃ w0, w0 = W.alloc (.cells #[.int .i64 th, .int .u8 1, .int .u64 (ad : Int), .int .u64 (a : Int), .int .u64 (b : Int), .slice p n c, .int .u64 (got : Int), .bool ok] 44) := ⟨_, rfl⟩
  obtain ⟨B, hB⟩ : ∃ B, B = W.heap.size := ⟨_, rfl⟩
  have B0 : Below W.heap.size W w0 := by rw [hw0]; exact below_alloc _ _
  have X0 : w0.heap[B]? = some (.cells #[.int .i64 th, .int .u8 1, .int .u64 (ad : Int), .int .u64 (a : Int), .int .u64 (b : Int), .slice p n c, .int .u64 (got : Int), .bool ok] 44 (0, 0)) := by rw [hw0, hB]; exact heap_alloc_new _ _
  have F0 := hF.on B0
  have hn := f_n1 B w0
  have x1 := cell_of X0 1
  have fk : w0.cell? ⟨tb, 5, none⟩ = some (.func (.func 45) #[] #[]) := cell_of F0 5
  have HB := keepH hB
  have HH : Hid (Below W.heap.size W w0 ∧ w0.heap[B]? = some (.cells #[.int .i64 th, .int .u8 1, .int .u64 (ad : Int), .int .u64 (a : Int), .int .u64 (b : Int), .slice p n c, .int .u64 (got : Int), .bool ok] 44 (0, 0)) ∧ IsForms w0 tb ∧ tb < W.heap.size) := keepH ⟨B0, X0, F0, htb⟩
  clear hF htb B0 X0 F0
  go_enter Tryz.func50, Tryz.ntmps50
  go_upto_region 1 with fail
  rw [← hw0, ← hB]
  clear hw0 hB
  go_upto_region 3 with fail
  go_quiet (fail)
  obtain ⟨w1, hw1⟩ : ∃ w1, w1 = w0.drewN nq := ⟨_, rfl⟩
  have D : Below w0.heap.size w0 w1 := by rw [hw1]; exact below_drewN (Below.refl _ _) _
  have HH1 : Hid (Below W.heap.size W w1 ∧ w1.heap[B]? = some (.cells #[.int .i64 th, .int .u8 1, .int .u64 (ad : Int), .int .u64 (a : Int), .int .u64 (b : Int), .slice p n c, .int .u64 (got : Int), .bool ok] 44 (0, 0)) ∧ IsForms w1 tb ∧ tb < W.heap.size) := keepH ⟨below_chain HH.out.1 D, heap_below HH.out.2.1 D, HH.out.2.2.1.on D, HH.out.2.2.2⟩
  have hn := f_n1 B w1
  have fk : w1.cell? ⟨tb, 5, none⟩ = some (.func (.func 45) #[] #[]) := cell_of HH1.out.2.2.1 5
  clear x1 D
  rw [← hw1]
  clear hw1
  go_wp2_with fail
  refine hn.mono ?_
  rintro e w2 ⟨rfl, hN⟩
  have HI0 : Hid (RI W tb B w1.heap.size (z1 th ad a b got n c p ok 0) #[.pointer (some ⟨B, 2, none⟩), .pointer (some ⟨B, 6, none⟩)] w2) := keepH (RI.start HB.out HH1.out.1 HH1.out.2.1 HH1.out.2.2.1 HH1.out.2.2.2 hN)
  obtain ⟨nb, hnb⟩ : ∃ nb, nb = w1.heap.size := ⟨_, rfl⟩
  rw [← hnb] at HI0 ⊢
  clear hnb hN hn fk
  go_wp2_with fail
  go_loopw [7, 27] (fun s7 s27 wr => ∃ i : Nat, i ≤ 2 ∧ s27 = .int .i64 (i : Int) ∧ Hid (RI W tb B nb (z1 th ad a b got n c p ok i) #[.pointer (some ⟨B, 2, none⟩), .pointer (some ⟨B, 6, none⟩)] wr)) (fun _ s27 _ => 2 - (intOf s27).toNat)
  case atStart => exact ⟨0, by omega, rfl, HI0⟩
  case round =>
    obtain ⟨i, hi, rfl, HI⟩ := hrel
    by_cases hlt : i < 2
    · have hcase : i = 0 ∨ i = 1 := by omega
      clear hlt hi
      rcases hcase with rfl | rfl
      · have hS := HI.out.set 2 (.int .u64 0)
        have x0 : wr.cell? ⟨nb, 0, none⟩ = some (.pointer (some ⟨B, 2, none⟩)) := cell_of HI.out.row 0
        have x1 : wr.cell? ⟨B, 2, none⟩ = some (.int .u64 (ad : Int)) := cell_of HI.out.box 2
        have x2 := free_of HI.out.box 2
        have HS : Hid (RI W tb B nb (z1 th ad a b got n c p ok 1) #[.pointer (some ⟨B, 2, none⟩), .pointer (some ⟨B, 6, none⟩)] (wr.setCell ⟨B, 2, none⟩ (.int .u64 0))) := keepH hS
        clear hS
        go_wp2_with fail
        go_roundw
        case rel => exact ⟨1, by omega, by first | rfl | go_num, HS⟩
        case measure => simp [intOf]
      · have hS := HI.out.set 6 (.int .u64 0)
        have x0 : wr.cell? ⟨nb, 1, none⟩ = some (.pointer (some ⟨B, 6, none⟩)) := cell_of HI.out.row 1
        have x1 : wr.cell? ⟨B, 6, none⟩ = some (.int .u64 (got : Int)) := cell_of HI.out.box 6
        have x2 := free_of HI.out.box 6
        have HS : Hid (RI W tb B nb (z1 th ad a b got n c p ok 2) #[.pointer (some ⟨B, 2, none⟩), .pointer (some ⟨B, 6, none⟩)] (wr.setCell ⟨B, 6, none⟩ (.int .u64 0))) := keepH hS
        clear hS
        go_wp2_with fail
        go_roundw
        case rel => exact ⟨2, by omega, by first | rfl | go_num, HS⟩
        case measure => simp [intOf]
    · obtain rfl : i = 2 := by omega
      clear hlt hi
      have f2 : wr.cell? ⟨tb, 6, none⟩ = some (.bool false) := cell_of HI.out.frm 6
      have f3 : wr.cell? ⟨tb, 7, none⟩ = some (.bool false) := cell_of HI.out.frm 7
      have HE : Hid (RI W tb B nb #[.int .i64 th, .int .u8 1, .int .u64 0, .int .u64 (a : Int), .int .u64 (b : Int), .slice p n c, .int .u64 0, .bool ok] #[.pointer (some ⟨B, 2, none⟩), .pointer (some ⟨B, 6, none⟩)] wr) := HI
      have e2 : wr.cell? ⟨B, 2, none⟩ = some (.int .u64 0) := cell_of HE.out.box 2
      have e3 : wr.cell? ⟨B, 3, none⟩ = some (.int .u64 (a : Int)) := cell_of HE.out.box 3
      have e4 : wr.cell? ⟨B, 4, none⟩ = some (.int .u64 (b : Int)) := cell_of HE.out.box 4
      have e5 : wr.cell? ⟨B, 5, none⟩ = some (.slice p n c) := cell_of HE.out.box 5
      have e6 : wr.cell? ⟨B, 6, none⟩ = some (.int .u64 0) := cell_of HE.out.box 6
      have e7 : wr.cell? ⟨B, 7, none⟩ = some (.bool ok) := cell_of HE.out.box 7
      clear HI HI0 HH HH1 HB
      by_cases hz : zz3 = 0
      · have q0 : (zz3 : Int) = 0 := by omega
        obtain ⟨h2, h3, h4, h6⟩ := o4.mp hz
        have HZ := keepH (And.intro h2 (And.intro h3 (And.intro h4 h6)))
        clear h2 h3 h4 h6 o4 hz
        cases ok
        · by_cases hn0 : n = 0
          · subst hn0
            go_wp2_with fail
            go_ret
            exact ⟨by rw [show R = true from by rw [HR.out]; exact decide_eq_true (by have hz := HZ.out; simp [hz])]; first | rfl | simp, HE.out.bel⟩
          · have q1 : ((n : Int) == 0) = false := by simp; omega
            go_wp2_with fail
            go_ret
            exact ⟨by rw [show R = false from by rw [HR.out]; exact decide_eq_false (by have hz := HZ.out; first | simp [hz, hn0] | simp [hz])]; first | rfl | simp, HE.out.bel⟩
        · go_wp2_with fail
          go_ret
          exact ⟨by rw [show R = false from by rw [HR.out]; exact decide_eq_false (by have hz := HZ.out; first | simp [hz, hn0] | simp [hz])]; first | rfl | simp, HE.out.bel⟩
      · have q0 : ((zz3 : Int) == 0) = false := by simp; omega
        have q1 : ¬ (a = 0 ∧ b = 0 ∧ n = 0 ∧ ok = false) := fun h => hz (o4.mpr (by simp_all))
        have HZ := keepH q1
        clear o4 hz q1
        go_wp2_with fail
        go_ret
        exact ⟨by rw [show R = false from by rw [HR.out]; exact decide_eq_false HZ.out]; first | rfl | simp, HE.out.bel⟩

def z2 (th : Int) (ad a b got n c : Nat) (p : Option Addr) (ok : Bool) : Nat → Array Value
  | 0 => #[.int .i64 th, .int .u8 2, .int .u64 (ad : Int), .int .u64 (a : Int), .int .u64 (b : Int), .slice p n c, .int .u64 (got : Int), .bool ok]
  | 1 => #[.int .i64 th, .int .u8 2, .int .u64 0, .int .u64 (a : Int), .int .u64 (b : Int), .slice p n c, .int .u64 (got : Int), .bool ok]
  | _ => #[.int .i64 th, .int .u8 2, .int .u64 0, .int .u64 0, .int .u64 (b : Int), .slice p n c, .int .u64 (got : Int), .bool ok]

set_option maxRecDepth 100000 in
set_option maxHeartbeats 2000000 in
theorem right_2 (th : Int) (ad a b got n c tb : Nat) (p : Option Addr) (ok : Bool) (W : World) (hF : IsForms W tb) (had : isU ad) (ha : isU a) (hb : isU b) (hgot : isU got) :
    Calls Tryz.prog 50 #[.pointer (some ⟨tb, 0, none⟩), .agg #[.int .i64 th, .int .u8 2, .int .u64 (ad : Int), .int .u64 (a : Int), .int .u64 (b : Int), .slice p n c, .int .u64 (got : Int), .bool ok]] W fun e W' => e = .returned (.bool (decide (b = 0 ∧ got = 0 ∧ n = 0 ∧ ok = false))) ∧ Below W.heap.size W W' := by
  obtain ⟨zz1, zz2, zz3, o1, o2, o3, o4⟩ := or4 0 0 b got (by first | exact okU0 | assumption) (by first | exact okU0 | assumption) (by first | exact okU0 | assumption) (by first | exact okU0 | assumption)
  simp only [show ((0 : Nat) : Int) = 0 from rfl] at o1 o2 o3
  obtain ⟨R, hR⟩ : ∃ R, R = decide (b = 0 ∧ got = 0 ∧ n = 0 ∧ ok = false) := ⟨_, rfl⟩
  rw [← hR]
  have HR := keepH hR
  clear hR
  have htb := lt_of hF
  obtain ⟨w0, hw0⟩ : ∃ w0, w0 = W.alloc (.cells #[.int .i64 th, .int .u8 2, .int .u64 (ad : Int), .int .u64 (a : Int), .int .u64 (b : Int), .slice p n c, .int .u64 (got : Int), .bool ok] 44) := ⟨_, rfl⟩
  obtain ⟨B, hB⟩ : ∃ B, B = W.heap.size := ⟨_, rfl⟩
  have B0 : Below W.heap.size W w0 := by rw [hw0]; exact below_alloc _ _
  have X0 : w0.heap[B]? = some (.cells #[.int .i64 th, .int .u8 2, .int .u64 (ad : Int), .int .u64 (a : Int), .int .u64 (b : Int), .slice p n c, .int .u64 (got : Int), .bool ok] 44 (0, 0)) := by rw [hw0, hB]; exact heap_alloc_new _ _
  have F0 := hF.on B0
  have hn := f_n2 B w0
  have x1 := cell_of X0 1
  have fk : w0.cell? ⟨tb, 9, none⟩ = some (.func (.func 46) #[] #[]) := cell_of F0 9
  have HB := keepH hB
  have HH : Hid (Below W.heap.size W w0 ∧ w0.heap[B]? = some (.cells #[.int .i64 th, .int .u8 2, .int .u64 (ad : Int), .int .u64 (a : Int), .int .u64 (b : Int), .slice p n c, .int .u64 (got : Int), .bool ok] 44 (0, 0)) ∧ IsForms w0 tb ∧ tb < W.heap.size) := keepH ⟨B0, X0, F0, htb⟩
  clear hF htb B0 X0 F0
  go_enter Tryz.func50, Tryz.ntmps50
  go_upto_region 1 with fail
  rw [← hw0, ← hB]
  clear hw0 hB
  go_upto_region 3 with fail
  go_quiet (fail)
  obtain ⟨w1, hw1⟩ : ∃ w1, w1 = w0.drewN nq := ⟨_, rfl⟩
  have D : Below w0.heap.size w0 w1 := by rw [hw1]; exact below_drewN (Below.refl _ _) _
  have HH1 : Hid (Below W.heap.size W w1 ∧ w1.heap[B]? = some (.cells #[.int .i64 th, .int .u8 2, .int .u64 (ad : Int), .int .u64 (a : Int), .int .u64 (b : Int), .slice p n c, .int .u64 (got : Int), .bool ok] 44 (0, 0)) ∧ IsForms w1 tb ∧ tb < W.heap.size) := keepH ⟨below_chain HH.out.1 D, heap_below HH.out.2.1 D, HH.out.2.2.1.on D, HH.out.2.2.2⟩
  have hn := f_n2 B w1
  have fk : w1.cell? ⟨tb, 9, none⟩ = some (.func (.func 46) #[] #[]) := cell_of HH1.out.2.2.1 9
  clear x1 D
  rw [← hw1]
  clear hw1
  go_wp2_with fail
  refine hn.mono ?_
  rintro e w2 ⟨rfl, hN⟩
  have HI0 : Hid (RI W tb B w1.heap.size (z2 th ad a b got n c p ok 0) #[.pointer (some ⟨B, 2, none⟩), .pointer (some ⟨B, 3, none⟩)] w2) := keepH (RI.start HB.out HH1.out.1 HH1.out.2.1 HH1.out.2.2.1 HH1.out.2.2.2 hN)
  obtain ⟨nb, hnb⟩ : ∃ nb, nb = w1.heap.size := ⟨_, rfl⟩
  rw [← hnb] at HI0 ⊢
  clear hnb hN hn fk
  go_wp2_with fail
  go_loopw [7, 27] (fun s7 s27 wr => ∃ i : Nat, i ≤ 2 ∧ s27 = .int .i64 (i : Int) ∧ Hid (RI W tb B nb (z2 th ad a b got n c p ok i) #[.pointer (some ⟨B, 2, none⟩), .pointer (some ⟨B, 3, none⟩)] wr)) (fun _ s27 _ => 2 - (intOf s27).toNat)
  case atStart => exact ⟨0, by omega, rfl, HI0⟩
  case round =>
    obtain ⟨i, hi, rfl, HI⟩ := hrel
    by_cases hlt : i < 2
    · have hcase : i = 0 ∨ i = 1 := by omega
      clear hlt hi
      rcases hcase with rfl | rfl
      · have hS := HI.out.set 2 (.int .u64 0)
        have x0 : wr.cell? ⟨nb, 0, none⟩ = some (.pointer (some ⟨B, 2, none⟩)) := cell_of HI.out.row 0
        have x1 : wr.cell? ⟨B, 2, none⟩ = some (.int .u64 (ad : Int)) := cell_of HI.out.box 2
        have x2 := free_of HI.out.box 2
        have HS : Hid (RI W tb B nb (z2 th ad a b got n c p ok 1) #[.pointer (some ⟨B, 2, none⟩), .pointer (some ⟨B, 3, none⟩)] (wr.setCell ⟨B, 2, none⟩ (.int .u64 0))) := keepH hS
        clear hS
        go_wp2_with fail
        go_roundw
        case rel => exact ⟨1, by omega, by first | rfl | go_num, HS⟩
        case measure => simp [intOf]
      · have hS := HI.out.set 3 (.int .u64 0)
        have x0 : wr.cell? ⟨nb, 1, none⟩ = some (.pointer (some ⟨B, 3, none⟩)) := cell_of HI.out.row 1
        have x1 : wr.cell? ⟨B, 3, none⟩ = some (.int .u64 (a : Int)) := cell_of HI.out.box 3
        have x2 := free_of HI.out.box 3
        have HS : Hid (RI W tb B nb (z2 th ad a b got n c p ok 2) #[.pointer (some ⟨B, 2, none⟩), .pointer (some ⟨B, 3, none⟩)] (wr.setCell ⟨B, 3, none⟩ (.int .u64 0))) := keepH hS
        clear hS
        go_wp2_with fail
        go_roundw
        case rel => exact ⟨2, by omega, by first | rfl | go_num, HS⟩
        case measure => simp [intOf]
    · obtain rfl : i = 2 := by omega
      clear hlt hi
      have f2 : wr.cell? ⟨tb, 10, none⟩ = some (.bool false) := cell_of HI.out.frm 10
      have f3 : wr.cell? ⟨tb, 11, none⟩ = some (.bool false) := cell_of HI.out.frm 11
      have HE : Hid (RI W tb B nb #[.int .i64 th, .int .u8 2, .int .u64 0, .int .u64 0, .int .u64 (b : Int), .slice p n c, .int .u64 (got : Int), .bool ok] #[.pointer (some ⟨B, 2, none⟩), .pointer (some ⟨B, 3, none⟩)] wr) := HI
      have e2 : wr.cell? ⟨B, 2, none⟩ = some (.int .u64 0) := cell_of HE.out.box 2
      have e3 : wr.cell? ⟨B, 3, none⟩ = some (.int .u64 0) := cell_of HE.out.box 3
      have e4 : wr.cell? ⟨B, 4, none⟩ = some (.int .u64 (b : Int)) := cell_of HE.out.box 4
      have e5 : wr.cell? ⟨B, 5, none⟩ = some (.slice p n c) := cell_of HE.out.box 5
      have e6 : wr.cell? ⟨B, 6, none⟩ = some (.int .u64 (got : Int)) := cell_of HE.out.box 6
      have e7 : wr.cell? ⟨B, 7, none⟩ = some (.bool ok) := cell_of HE.out.box 7
      clear HI HI0 HH HH1 HB
      by_cases hz : zz3 = 0
      · have q0 : (zz3 : Int) = 0 := by omega
        obtain ⟨h2, h3, h4, h6⟩ := o4.mp hz
        have HZ := keepH (And.intro h2 (And.intro h3 (And.intro h4 h6)))
        clear h2 h3 h4 h6 o4 hz
        cases ok
        · by_cases hn0 : n = 0
          · subst hn0
            go_wp2_with fail
            go_ret
            exact ⟨by rw [show R = true from by rw [HR.out]; exact decide_eq_true (by have hz := HZ.out; simp [hz])]; first | rfl | simp, HE.out.bel⟩
          · have q1 : ((n : Int) == 0) = false := by simp; omega
            go_wp2_with fail
            go_ret
            exact ⟨by rw [show R = false from by rw [HR.out]; exact decide_eq_false (by have hz := HZ.out; first | simp [hz, hn0] | simp [hz])]; first | rfl | simp, HE.out.bel⟩
        · go_wp2_with fail
          go_ret
          exact ⟨by rw [show R = false from by rw [HR.out]; exact decide_eq_false (by have hz := HZ.out; first | simp [hz, hn0] | simp [hz])]; first | rfl | simp, HE.out.bel⟩
      · have q0 : ((zz3 : Int) == 0) = false := by simp; omega
        have q1 : ¬ (b = 0 ∧ got = 0 ∧ n = 0 ∧ ok = false) := fun h => hz (o4.mpr (by simp_all))
        have HZ := keepH q1
        clear o4 hz q1
        go_wp2_with fail
        go_ret
        exact ⟨by rw [show R = false from by rw [HR.out]; exact decide_eq_false HZ.out]; first | rfl | simp, HE.out.bel⟩

def z3 (th : Int) (ad a b got n c : Nat) (p : Option Addr) (ok : Bool) : Nat → Array Value
  | 0 => #[.int .i64 th, .int .u8 3, .int .u64 (ad : Int), .int .u64 (a : Int), .int .u64 (b : Int), .slice p n c, .int .u64 (got : Int), .bool ok]
  | 1 => #[.int .i64 th, .int .u8 3, .int .u64 0, .int .u64 (a : Int), .int .u64 (b : Int), .slice p n c, .int .u64 (got : Int), .bool ok]
  | 2 => #[.int .i64 th, .int .u8 3, .int .u64 0, .int .u64 0, .int .u64 (b : Int), .slice p n c, .int .u64 (got : Int), .bool ok]
  | _ => #[.int .i64 th, .int .u8 3, .int .u64 0, .int .u64 0, .int .u64 0, .slice p n c, .int .u64 (got : Int), .bool ok]

set_option maxRecDepth 100000 in
set_option maxHeartbeats 2000000 in
theorem right_3 (th : Int) (ad a b got n c tb : Nat) (p : Option Addr) (ok : Bool) (W : World) (hF : IsForms W tb) (had : isU ad) (ha : isU a) (hb : isU b) (hgot : isU got) :
    Calls Tryz.prog 50 #[.pointer (some ⟨tb, 0, none⟩), .agg #[.int .i64 th, .int .u8 3, .int .u64 (ad : Int), .int .u64 (a : Int), .int .u64 (b : Int), .slice p n c, .int .u64 (got : Int), .bool ok]] W fun e W' => e = .returned (.bool (decide (got = 0 ∧ n = 0))) ∧ Below W.heap.size W W' := by
  obtain ⟨zz1, zz2, zz3, o1, o2, o3, o4⟩ := or4 0 0 0 got (by first | exact okU0 | assumption) (by first | exact okU0 | assumption) (by first | exact okU0 | assumption) (by first | exact okU0 | assumption)
  simp only [show ((0 : Nat) : Int) = 0 from rfl] at o1 o2 o3
  obtain ⟨R, hR⟩ : ∃ R, R = decide (got = 0 ∧ n = 0) := ⟨_, rfl⟩
  rw [← hR]
  have HR := keepH hR
  clear hR
  have htb := lt_of hF
  obtain ⟨w0, hw0⟩ : ∃ w0, w0 = W.alloc (.cells #[.int .i64 th, .int .u8 3, .int .u64 (ad : Int), .int .u64 (a : Int), .int .u64 (b : Int), .slice p n c, .int .u64 (got : Int), .bool ok] 44) := ⟨_, rfl⟩
  obtain ⟨B, hB⟩ : ∃ B, B = W.heap.size := ⟨_, rfl⟩
  have B0 : Below W.heap.size W w0 := by rw [hw0]; exact below_alloc _ _
  have X0 : w0.heap[B]? = some (.cells #[.int .i64 th, .int .u8 3, .int .u64 (ad : Int), .int .u64 (a : Int), .int .u64 (b : Int), .slice p n c, .int .u64 (got : Int), .bool ok] 44 (0, 0)) := by rw [hw0, hB]; exact heap_alloc_new _ _
  have F0 := hF.on B0
  have hn := f_n3 B w0
  have x1 := cell_of X0 1
  have fk : w0.cell? ⟨tb, 13, none⟩ = some (.func (.func 47) #[] #[]) := cell_of F0 13
  have HB := keepH hB
  have HH : Hid (Below W.heap.size W w0 ∧ w0.heap[B]? = some (.cells #[.int .i64 th, .int .u8 3, .int .u64 (ad : Int), .int .u64 (a : Int), .int .u64 (b : Int), .slice p n c, .int .u64 (got : Int), .bool ok] 44 (0, 0)) ∧ IsForms w0 tb ∧ tb < W.heap.size) := keepH ⟨B0, X0, F0, htb⟩
  clear hF htb B0 X0 F0
  go_enter Tryz.func50, Tryz.ntmps50
  go_upto_region 1 with fail
  rw [← hw0, ← hB]
  clear hw0 hB
  go_upto_region 3 with fail
  go_quiet (fail)
  obtain ⟨w1, hw1⟩ : ∃ w1, w1 = w0.drewN nq := ⟨_, rfl⟩
  have D : Below w0.heap.size w0 w1 := by rw [hw1]; exact below_drewN (Below.refl _ _) _
  have HH1 : Hid (Below W.heap.size W w1 ∧ w1.heap[B]? = some (.cells #[.int .i64 th, .int .u8 3, .int .u64 (ad : Int), .int .u64 (a : Int), .int .u64 (b : Int), .slice p n c, .int .u64 (got : Int), .bool ok] 44 (0, 0)) ∧ IsForms w1 tb ∧ tb < W.heap.size) := keepH ⟨below_chain HH.out.1 D, heap_below HH.out.2.1 D, HH.out.2.2.1.on D, HH.out.2.2.2⟩
  have hn := f_n3 B w1
  have fk : w1.cell? ⟨tb, 13, none⟩ = some (.func (.func 47) #[] #[]) := cell_of HH1.out.2.2.1 13
  clear x1 D
  rw [← hw1]
  clear hw1
  go_wp2_with fail
  refine hn.mono ?_
  rintro e w2 ⟨rfl, hN⟩
  have HI0 : Hid (RI W tb B w1.heap.size (z3 th ad a b got n c p ok 0) #[.pointer (some ⟨B, 2, none⟩), .pointer (some ⟨B, 3, none⟩), .pointer (some ⟨B, 4, none⟩)] w2) := keepH (RI.start HB.out HH1.out.1 HH1.out.2.1 HH1.out.2.2.1 HH1.out.2.2.2 hN)
  obtain ⟨nb, hnb⟩ : ∃ nb, nb = w1.heap.size := ⟨_, rfl⟩
  rw [← hnb] at HI0 ⊢
  clear hnb hN hn fk
  go_wp2_with fail
  go_loopw [7, 27] (fun s7 s27 wr => ∃ i : Nat, i ≤ 3 ∧ s27 = .int .i64 (i : Int) ∧ Hid (RI W tb B nb (z3 th ad a b got n c p ok i) #[.pointer (some ⟨B, 2, none⟩), .pointer (some ⟨B, 3, none⟩), .pointer (some ⟨B, 4, none⟩)] wr)) (fun _ s27 _ => 3 - (intOf s27).toNat)
  case atStart => exact ⟨0, by omega, rfl, HI0⟩
  case round =>
    obtain ⟨i, hi, rfl, HI⟩ := hrel
    by_cases hlt : i < 3
    · have hcase : i = 0 ∨ i = 1 ∨ i = 2 := by omega
      clear hlt hi
      rcases hcase with rfl | rfl | rfl
      · have hS := HI.out.set 2 (.int .u64 0)
        have x0 : wr.cell? ⟨nb, 0, none⟩ = some (.pointer (some ⟨B, 2, none⟩)) := cell_of HI.out.row 0
        have x1 : wr.cell? ⟨B, 2, none⟩ = some (.int .u64 (ad : Int)) := cell_of HI.out.box 2
        have x2 := free_of HI.out.box 2
        have HS : Hid (RI W tb B nb (z3 th ad a b got n c p ok 1) #[.pointer (some ⟨B, 2, none⟩), .pointer (some ⟨B, 3, none⟩), .pointer (some ⟨B, 4, none⟩)] (wr.setCell ⟨B, 2, none⟩ (.int .u64 0))) := keepH hS
        clear hS
        go_wp2_with fail
        go_roundw
        case rel => exact ⟨1, by omega, by first | rfl | go_num, HS⟩
        case measure => simp [intOf]
      · have hS := HI.out.set 3 (.int .u64 0)
        have x0 : wr.cell? ⟨nb, 1, none⟩ = some (.pointer (some ⟨B, 3, none⟩)) := cell_of HI.out.row 1
        have x1 : wr.cell? ⟨B, 3, none⟩ = some (.int .u64 (a : Int)) := cell_of HI.out.box 3
        have x2 := free_of HI.out.box 3
        have HS : Hid (RI W tb B nb (z3 th ad a b got n c p ok 2) #[.pointer (some ⟨B, 2, none⟩), .pointer (some ⟨B, 3, none⟩), .pointer (some ⟨B, 4, none⟩)] (wr.setCell ⟨B, 3, none⟩ (.int .u64 0))) := keepH hS
        clear hS
        go_wp2_with fail
        go_roundw
        case rel => exact ⟨2, by omega, by first | rfl | go_num, HS⟩
        case measure => simp [intOf]
      · have hS := HI.out.set 4 (.int .u64 0)
        have x0 : wr.cell? ⟨nb, 2, none⟩ = some (.pointer (some ⟨B, 4, none⟩)) := cell_of HI.out.row 2
        have x1 : wr.cell? ⟨B, 4, none⟩ = some (.int .u64 (b : Int)) := cell_of HI.out.box 4
        have x2 := free_of HI.out.box 4
        have HS : Hid (RI W tb B nb (z3 th ad a b got n c p ok 3) #[.pointer (some ⟨B, 2, none⟩), .pointer (some ⟨B, 3, none⟩), .pointer (some ⟨B, 4, none⟩)] (wr.setCell ⟨B, 4, none⟩ (.int .u64 0))) := keepH hS
        clear hS
        go_wp2_with fail
        go_roundw
        case rel => exact ⟨3, by omega, by first | rfl | go_num, HS⟩
        case measure => simp [intOf]
    · obtain rfl : i = 3 := by omega
      clear hlt hi
      have f2 : wr.cell? ⟨tb, 14, none⟩ = some (.bool true) := cell_of HI.out.frm 14
      have f3 : wr.cell? ⟨tb, 15, none⟩ = some (.bool false) := cell_of HI.out.frm 15
      have x7 : wr.cell? ⟨B, 7, none⟩ = some (.bool ok) := cell_of HI.out.box 7
      have y7 := free_of HI.out.box 7
      have HE : Hid (RI W tb B nb #[.int .i64 th, .int .u8 3, .int .u64 0, .int .u64 0, .int .u64 0, .slice p n c, .int .u64 (got : Int), .bool false] #[.pointer (some ⟨B, 2, none⟩), .pointer (some ⟨B, 3, none⟩), .pointer (some ⟨B, 4, none⟩)] (wr.setCell ⟨B, 7, none⟩ (.bool false))) := keepH (HI.out.set 7 (.bool false))
      obtain ⟨we, hwe⟩ : ∃ we, we = wr.setCell ⟨B, 7, none⟩ (.bool false) := ⟨_, rfl⟩
      rw [← hwe] at HE
      have f3 : we.cell? ⟨tb, 15, none⟩ = some (.bool false) := cell_of HE.out.frm 15
      go_upto_region 11 with fail
      rw [← hwe]
      clear hwe x7 y7
      have e2 : we.cell? ⟨B, 2, none⟩ = some (.int .u64 0) := cell_of HE.out.box 2
      have e3 : we.cell? ⟨B, 3, none⟩ = some (.int .u64 0) := cell_of HE.out.box 3
      have e4 : we.cell? ⟨B, 4, none⟩ = some (.int .u64 0) := cell_of HE.out.box 4
      have e5 : we.cell? ⟨B, 5, none⟩ = some (.slice p n c) := cell_of HE.out.box 5
      have e6 : we.cell? ⟨B, 6, none⟩ = some (.int .u64 (got : Int)) := cell_of HE.out.box 6
      have e7 : we.cell? ⟨B, 7, none⟩ = some (.bool false) := cell_of HE.out.box 7
      clear HI HI0 HH HH1 HB
      by_cases hz : zz3 = 0
      · have q0 : (zz3 : Int) = 0 := by omega
        obtain ⟨h2, h3, h4, h6⟩ := o4.mp hz
        have HZ := keepH (And.intro h2 (And.intro h3 (And.intro h4 h6)))
        clear h2 h3 h4 h6 o4 hz
        by_cases hn0 : n = 0
        · subst hn0
          go_wp2_with fail
          go_ret
          exact ⟨by rw [show R = true from by rw [HR.out]; exact decide_eq_true (by have hz := HZ.out; simp [hz])]; first | rfl | simp, HE.out.bel⟩
        · have q1 : ((n : Int) == 0) = false := by simp; omega
          go_wp2_with fail
          go_ret
          exact ⟨by rw [show R = false from by rw [HR.out]; exact decide_eq_false (by have hz := HZ.out; first | simp [hz, hn0] | simp [hz])]; first | rfl | simp, HE.out.bel⟩
      · have q0 : ((zz3 : Int) == 0) = false := by simp; omega
        have q1 : ¬ (got = 0 ∧ n = 0) := fun h => hz (o4.mpr (by simp_all))
        have HZ := keepH q1
        clear o4 hz q1
        go_wp2_with fail
        go_ret
        exact ⟨by rw [show R = false from by rw [HR.out]; exact decide_eq_false HZ.out]; first | rfl | simp, HE.out.bel⟩

def z4 (th : Int) (ad a b got n c : Nat) (p : Option Addr) (ok : Bool) : Nat → Array Value
  | 0 => #[.int .i64 th, .int .u8 4, .int .u64 (ad : Int), .int .u64 (a : Int), .int .u64 (b : Int), .slice p n c, .int .u64 (got : Int), .bool ok]
  | 1 => #[.int .i64 th, .int .u8 4, .int .u64 0, .int .u64 (a : Int), .int .u64 (b : Int), .slice p n c, .int .u64 (got : Int), .bool ok]
  | 2 => #[.int .i64 th, .int .u8 4, .int .u64 0, .int .u64 0, .int .u64 (b : Int), .slice p n c, .int .u64 (got : Int), .bool ok]
  | _ => #[.int .i64 th, .int .u8 4, .int .u64 0, .int .u64 0, .int .u64 (b : Int), .slice p n c, .int .u64 0, .bool ok]

set_option maxRecDepth 100000 in
set_option maxHeartbeats 2000000 in
theorem right_4 (th : Int) (ad a b got n c tb : Nat) (p : Option Addr) (ok : Bool) (W : World) (hF : IsForms W tb) (had : isU ad) (ha : isU a) (hb : isU b) (hgot : isU got) :
    Calls Tryz.prog 50 #[.pointer (some ⟨tb, 0, none⟩), .agg #[.int .i64 th, .int .u8 4, .int .u64 (ad : Int), .int .u64 (a : Int), .int .u64 (b : Int), .slice p n c, .int .u64 (got : Int), .bool ok]] W fun e W' => e = .returned (.bool (decide (b = 0 ∧ n = 0 ∧ ok = false))) ∧ Below W.heap.size W W' := by
  obtain ⟨zz1, zz2, zz3, o1, o2, o3, o4⟩ := or4 0 0 b 0 (by first | exact okU0 | assumption) (by first | exact okU0 | assumption) (by first | exact okU0 | assumption) (by first | exact okU0 | assumption)
  simp only [show ((0 : Nat) : Int) = 0 from rfl] at o1 o2 o3
  obtain ⟨R, hR⟩ : ∃ R, R = decide (b = 0 ∧ n = 0 ∧ ok = false) := ⟨_, rfl⟩
  rw [← hR]
  have HR := keepH hR
  clear hR
  have htb := lt_of hF
  obtain ⟨w0, hw0⟩ : ∃ w0, w0 = W.alloc (.cells #[.int .i64 th, .int .u8 4, .int .u64 (ad : Int), .int .u64 (a : Int), .int .u64 (b : Int), .slice p n c, .int .u64 (got : Int), .bool ok] 44) := ⟨_, rfl⟩
  obtain ⟨B, hB⟩ : ∃ B, B = W.heap.size := ⟨_, rfl⟩
  have B0 : Below W.heap.size W w0 := by rw [hw0]; exact below_alloc _ _
  have X0 : w0.heap[B]? = some (.cells #[.int .i64 th, .int .u8 4, .int .u64 (ad : Int), .int .u64 (a : Int), .int .u64 (b : Int), .slice p n c, .int .u64 (got : Int), .bool ok] 44 (0, 0)) := by rw [hw0, hB]; exact heap_alloc_new _ _
  have F0 := hF.on B0
  have hn := f_n4 B w0
  have x1 := cell_of X0 1
  have fk : w0.cell? ⟨tb, 17, none⟩ = some (.func (.func 48) #[] #[]) := cell_of F0 17
  have HB := keepH hB
  have HH : Hid (Below W.heap.size W w0 ∧ w0.heap[B]? = some (.cells #[.int .i64 th, .int .u8 4, .int .u64 (ad : Int), .int .u64 (a : Int), .int .u64 (b : Int), .slice p n c, .int .u64 (got : Int), .bool ok] 44 (0, 0)) ∧ IsForms w0 tb ∧ tb < W.heap.size) := keepH ⟨B0, X0, F0, htb⟩
  clear hF htb B0 X0 F0
  go_enter Tryz.func50, Tryz.ntmps50
  go_upto_region 1 with fail
  rw [← hw0, ← hB]
  clear hw0 hB
  go_upto_region 3 with fail
  go_quiet (fail)
  obtain ⟨w1, hw1⟩ : ∃ w1, w1 = w0.drewN nq := ⟨_, rfl⟩
  have D : Below w0.heap.size w0 w1 := by rw [hw1]; exact below_drewN (Below.refl _ _) _
  have HH1 : Hid (Below W.heap.size W w1 ∧ w1.heap[B]? = some (.cells #[.int .i64 th, .int .u8 4, .int .u64 (ad : Int), .int .u64 (a : Int), .int .u64 (b : Int), .slice p n c, .int .u64 (got : Int), .bool ok] 44 (0, 0)) ∧ IsForms w1 tb ∧ tb < W.heap.size) := keepH ⟨below_chain HH.out.1 D, heap_below HH.out.2.1 D, HH.out.2.2.1.on D, HH.out.2.2.2⟩
  have hn := f_n4 B w1
  have fk : w1.cell? ⟨tb, 17, none⟩ = some (.func (.func 48) #[] #[]) := cell_of HH1.out.2.2.1 17
  clear x1 D
  rw [← hw1]
  clear hw1
  go_wp2_with fail
  refine hn.mono ?_
  rintro e w2 ⟨rfl, hN⟩
  have HI0 : Hid (RI W tb B w1.heap.size (z4 th ad a b got n c p ok 0) #[.pointer (some ⟨B, 2, none⟩), .pointer (some ⟨B, 3, none⟩), .pointer (some ⟨B, 6, none⟩)] w2) := keepH (RI.start HB.out HH1.out.1 HH1.out.2.1 HH1.out.2.2.1 HH1.out.2.2.2 hN)
  obtain ⟨nb, hnb⟩ : ∃ nb, nb = w1.heap.size := ⟨_, rfl⟩
  rw [← hnb] at HI0 ⊢
  clear hnb hN hn fk
  go_wp2_with fail
  go_loopw [7, 27] (fun s7 s27 wr => ∃ i : Nat, i ≤ 3 ∧ s27 = .int .i64 (i : Int) ∧ Hid (RI W tb B nb (z4 th ad a b got n c p ok i) #[.pointer (some ⟨B, 2, none⟩), .pointer (some ⟨B, 3, none⟩), .pointer (some ⟨B, 6, none⟩)] wr)) (fun _ s27 _ => 3 - (intOf s27).toNat)
  case atStart => exact ⟨0, by omega, rfl, HI0⟩
  case round =>
    obtain ⟨i, hi, rfl, HI⟩ := hrel
    by_cases hlt : i < 3
    · have hcase : i = 0 ∨ i = 1 ∨ i = 2 := by omega
      clear hlt hi
      rcases hcase with rfl | rfl | rfl
      · have hS := HI.out.set 2 (.int .u64 0)
        have x0 : wr.cell? ⟨nb, 0, none⟩ = some (.pointer (some ⟨B, 2, none⟩)) := cell_of HI.out.row 0
        have x1 : wr.cell? ⟨B, 2, none⟩ = some (.int .u64 (ad : Int)) := cell_of HI.out.box 2
        have x2 := free_of HI.out.box 2
        have HS : Hid (RI W tb B nb (z4 th ad a b got n c p ok 1) #[.pointer (some ⟨B, 2, none⟩), .pointer (some ⟨B, 3, none⟩), .pointer (some ⟨B, 6, none⟩)] (wr.setCell ⟨B, 2, none⟩ (.int .u64 0))) := keepH hS
        clear hS
        go_wp2_with fail
        go_roundw
        case rel => exact ⟨1, by omega, by first | rfl | go_num, HS⟩
        case measure => simp [intOf]
      · have hS := HI.out.set 3 (.int .u64 0)
        have x0 : wr.cell? ⟨nb, 1, none⟩ = some (.pointer (some ⟨B, 3, none⟩)) := cell_of HI.out.row 1
        have x1 : wr.cell? ⟨B, 3, none⟩ = some (.int .u64 (a : Int)) := cell_of HI.out.box 3
        have x2 := free_of HI.out.box 3
        have HS : Hid (RI W tb B nb (z4 th ad a b got n c p ok 2) #[.pointer (some ⟨B, 2, none⟩), .pointer (some ⟨B, 3, none⟩), .pointer (some ⟨B, 6, none⟩)] (wr.setCell ⟨B, 3, none⟩ (.int .u64 0))) := keepH hS
        clear hS
        go_wp2_with fail
        go_roundw
        case rel => exact ⟨2, by omega, by first | rfl | go_num, HS⟩
        case measure => simp [intOf]
      · have hS := HI.out.set 6 (.int .u64 0)
        have x0 : wr.cell? ⟨nb, 2, none⟩ = some (.pointer (some ⟨B, 6, none⟩)) := cell_of HI.out.row 2
        have x1 : wr.cell? ⟨B, 6, none⟩ = some (.int .u64 (got : Int)) := cell_of HI.out.box 6
        have x2 := free_of HI.out.box 6
        have HS : Hid (RI W tb B nb (z4 th ad a b got n c p ok 3) #[.pointer (some ⟨B, 2, none⟩), .pointer (some ⟨B, 3, none⟩), .pointer (some ⟨B, 6, none⟩)] (wr.setCell ⟨B, 6, none⟩ (.int .u64 0))) := keepH hS
        clear hS
        go_wp2_with fail
        go_roundw
        case rel => exact ⟨3, by omega, by first | rfl | go_num, HS⟩
        case measure => simp [intOf]
    · obtain rfl : i = 3 := by omega
      clear hlt hi
      have f2 : wr.cell? ⟨tb, 18, none⟩ = some (.bool false) := cell_of HI.out.frm 18
      have f3 : wr.cell? ⟨tb, 19, none⟩ = some (.bool false) := cell_of HI.out.frm 19
      have HE : Hid (RI W tb B nb #[.int .i64 th, .int .u8 4, .int .u64 0, .int .u64 0, .int .u64 (b : Int), .slice p n c, .int .u64 0, .bool ok] #[.pointer (some ⟨B, 2, none⟩), .pointer (some ⟨B, 3, none⟩), .pointer (some ⟨B, 6, none⟩)] wr) := HI
      have e2 : wr.cell? ⟨B, 2, none⟩ = some (.int .u64 0) := cell_of HE.out.box 2
      have e3 : wr.cell? ⟨B, 3, none⟩ = some (.int .u64 0) := cell_of HE.out.box 3
      have e4 : wr.cell? ⟨B, 4, none⟩ = some (.int .u64 (b : Int)) := cell_of HE.out.box 4
      have e5 : wr.cell? ⟨B, 5, none⟩ = some (.slice p n c) := cell_of HE.out.box 5
      have e6 : wr.cell? ⟨B, 6, none⟩ = some (.int .u64 0) := cell_of HE.out.box 6
      have e7 : wr.cell? ⟨B, 7, none⟩ = some (.bool ok) := cell_of HE.out.box 7
      clear HI HI0 HH HH1 HB
      by_cases hz : zz3 = 0
      · have q0 : (zz3 : Int) = 0 := by omega
        obtain ⟨h2, h3, h4, h6⟩ := o4.mp hz
        have HZ := keepH (And.intro h2 (And.intro h3 (And.intro h4 h6)))
        clear h2 h3 h4 h6 o4 hz
        cases ok
        · by_cases hn0 : n = 0
          · subst hn0
            go_wp2_with fail
            go_ret
            exact ⟨by rw [show R = true from by rw [HR.out]; exact decide_eq_true (by have hz := HZ.out; simp [hz])]; first | rfl | simp, HE.out.bel⟩
          · have q1 : ((n : Int) == 0) = false := by simp; omega
            go_wp2_with fail
            go_ret
            exact ⟨by rw [show R = false from by rw [HR.out]; exact decide_eq_false (by have hz := HZ.out; first | simp [hz, hn0] | simp [hz])]; first | rfl | simp, HE.out.bel⟩
        · go_wp2_with fail
          go_ret
          exact ⟨by rw [show R = false from by rw [HR.out]; exact decide_eq_false (by have hz := HZ.out; first | simp [hz, hn0] | simp [hz])]; first | rfl | simp, HE.out.bel⟩
      · have q0 : ((zz3 : Int) == 0) = false := by simp; omega
        have q1 : ¬ (b = 0 ∧ n = 0 ∧ ok = false) := fun h => hz (o4.mpr (by simp_all))
        have HZ := keepH q1
        clear o4 hz q1
        go_wp2_with fail
        go_ret
        exact ⟨by rw [show R = false from by rw [HR.out]; exact decide_eq_false HZ.out]; first | rfl | simp, HE.out.bel⟩

def z5 (th : Int) (ad a b got n c : Nat) (p : Option Addr) (ok : Bool) : Nat → Array Value
  | 0 => #[.int .i64 th, .int .u8 5, .int .u64 (ad : Int), .int .u64 (a : Int), .int .u64 (b : Int), .slice p n c, .int .u64 (got : Int), .bool ok]
  | _ => #[.int .i64 th, .int .u8 5, .int .u64 0, .int .u64 (a : Int), .int .u64 (b : Int), .slice p n c, .int .u64 (got : Int), .bool ok]

set_option maxRecDepth 100000 in
set_option maxHeartbeats 2000000 in
theorem right_5 (th : Int) (ad a b got n c tb : Nat) (p : Option Addr) (ok : Bool) (W : World) (hF : IsForms W tb) (had : isU ad) (ha : isU a) (hb : isU b) (hgot : isU got) :
    Calls Tryz.prog 50 #[.pointer (some ⟨tb, 0, none⟩), .agg #[.int .i64 th, .int .u8 5, .int .u64 (ad : Int), .int .u64 (a : Int), .int .u64 (b : Int), .slice p n c, .int .u64 (got : Int), .bool ok]] W fun e W' => e = .returned (.bool (decide (a = 0 ∧ b = 0 ∧ got = 0 ∧ ok = false))) ∧ Below W.heap.size W W' := by
  obtain ⟨zz1, zz2, zz3, o1, o2, o3, o4⟩ := or4 0 a b got (by first | exact okU0 | assumption) (by first | exact okU0 | assumption) (by first | exact okU0 | assumption) (by first | exact okU0 | assumption)
  simp only [show ((0 : Nat) : Int) = 0 from rfl] at o1 o2 o3
  obtain ⟨R, hR⟩ : ∃ R, R = decide (a = 0 ∧ b = 0 ∧ got = 0 ∧ ok = false) := ⟨_, rfl⟩
  rw [← hR]
  have HR := keepH hR
  clear hR
  have htb := lt_of hF
  obtain ⟨w0, hw0⟩ : ∃ w0, w0 = W.alloc (.cells #[.int .i64 th, .int .u8 5, .int .u64 (ad : Int), .int .u64 (a : Int), .int .u64 (b : Int), .slice p n c, .int .u64 (got : Int), .bool ok] 44) := ⟨_, rfl⟩
  obtain ⟨B, hB⟩ : ∃ B, B = W.heap.size := ⟨_, rfl⟩
  have B0 : Below W.heap.size W w0 := by rw [hw0]; exact below_alloc _ _
  have X0 : w0.heap[B]? = some (.cells #[.int .i64 th, .int .u8 5, .int .u64 (ad : Int), .int .u64 (a : Int), .int .u64 (b : Int), .slice p n c, .int .u64 (got : Int), .bool ok] 44 (0, 0)) := by rw [hw0, hB]; exact heap_alloc_new _ _
  have F0 := hF.on B0
  have hn := f_n5 B w0
  have x1 := cell_of X0 1
  have fk : w0.cell? ⟨tb, 21, none⟩ = some (.func (.func 49) #[] #[]) := cell_of F0 21
  have HB := keepH hB
  have HH : Hid (Below W.heap.size W w0 ∧ w0.heap[B]? = some (.cells #[.int .i64 th, .int .u8 5, .int .u64 (ad : Int), .int .u64 (a : Int), .int .u64 (b : Int), .slice p n c, .int .u64 (got : Int), .bool ok] 44 (0, 0)) ∧ IsForms w0 tb ∧ tb < W.heap.size) := keepH ⟨B0, X0, F0, htb⟩
  clear hF htb B0 X0 F0
  go_enter Tryz.func50, Tryz.ntmps50
  go_upto_region 1 with fail
  rw [← hw0, ← hB]
  clear hw0 hB
  go_upto_region 3 with fail
  go_quiet (fail)
  obtain ⟨w1, hw1⟩ : ∃ w1, w1 = w0.drewN nq := ⟨_, rfl⟩
  have D : Below w0.heap.size w0 w1 := by rw [hw1]; exact below_drewN (Below.refl _ _) _
  have HH1 : Hid (Below W.heap.size W w1 ∧ w1.heap[B]? = some (.cells #[.int .i64 th, .int .u8 5, .int .u64 (ad : Int), .int .u64 (a : Int), .int .u64 (b : Int), .slice p n c, .int .u64 (got : Int), .bool ok] 44 (0, 0)) ∧ IsForms w1 tb ∧ tb < W.heap.size) := keepH ⟨below_chain HH.out.1 D, heap_below HH.out.2.1 D, HH.out.2.2.1.on D, HH.out.2.2.2⟩
  have hn := f_n5 B w1
  have fk : w1.cell? ⟨tb, 21, none⟩ = some (.func (.func 49) #[] #[]) := cell_of HH1.out.2.2.1 21
  clear x1 D
  rw [← hw1]
  clear hw1
  go_wp2_with fail
  refine hn.mono ?_
  rintro e w2 ⟨rfl, hN⟩
  have HI0 : Hid (RI W tb B w1.heap.size (z5 th ad a b got n c p ok 0) #[.pointer (some ⟨B, 2, none⟩)] w2) := keepH (RI.start HB.out HH1.out.1 HH1.out.2.1 HH1.out.2.2.1 HH1.out.2.2.2 hN)
  obtain ⟨nb, hnb⟩ : ∃ nb, nb = w1.heap.size := ⟨_, rfl⟩
  rw [← hnb] at HI0 ⊢
  clear hnb hN hn fk
  go_wp2_with fail
  go_loopw [7, 27] (fun s7 s27 wr => ∃ i : Nat, i ≤ 1 ∧ s27 = .int .i64 (i : Int) ∧ Hid (RI W tb B nb (z5 th ad a b got n c p ok i) #[.pointer (some ⟨B, 2, none⟩)] wr)) (fun _ s27 _ => 1 - (intOf s27).toNat)
  case atStart => exact ⟨0, by omega, rfl, HI0⟩
  case round =>
    obtain ⟨i, hi, rfl, HI⟩ := hrel
    by_cases hlt : i < 1
    · have hcase : i = 0 := by omega
      clear hlt hi
      rcases hcase with rfl
      · have hS := HI.out.set 2 (.int .u64 0)
        have x0 : wr.cell? ⟨nb, 0, none⟩ = some (.pointer (some ⟨B, 2, none⟩)) := cell_of HI.out.row 0
        have x1 : wr.cell? ⟨B, 2, none⟩ = some (.int .u64 (ad : Int)) := cell_of HI.out.box 2
        have x2 := free_of HI.out.box 2
        have HS : Hid (RI W tb B nb (z5 th ad a b got n c p ok 1) #[.pointer (some ⟨B, 2, none⟩)] (wr.setCell ⟨B, 2, none⟩ (.int .u64 0))) := keepH hS
        clear hS
        go_wp2_with fail
        go_roundw
        case rel => exact ⟨1, by omega, by first | rfl | go_num, HS⟩
        case measure => simp [intOf]
    · obtain rfl : i = 1 := by omega
      clear hlt hi
      have f2 : wr.cell? ⟨tb, 22, none⟩ = some (.bool false) := cell_of HI.out.frm 22
      have f3 : wr.cell? ⟨tb, 23, none⟩ = some (.bool true) := cell_of HI.out.frm 23
      have x5 : wr.cell? ⟨B, 5, none⟩ = some (.slice p n c) := cell_of HI.out.box 5
      have y5 := free_of HI.out.box 5
      have HE : Hid (RI W tb B nb #[.int .i64 th, .int .u8 5, .int .u64 0, .int .u64 (a : Int), .int .u64 (b : Int), .slice none 0 0, .int .u64 (got : Int), .bool ok] #[.pointer (some ⟨B, 2, none⟩)] (wr.setCell ⟨B, 5, none⟩ (.slice none 0 0))) := keepH (HI.out.set 5 (.slice none 0 0))
      obtain ⟨we, hwe⟩ : ∃ we, we = wr.setCell ⟨B, 5, none⟩ (.slice none 0 0) := ⟨_, rfl⟩
      rw [← hwe] at HE
      go_upto_region 13 with fail
      rw [← hwe]
      clear hwe x5 y5
      have e2 : we.cell? ⟨B, 2, none⟩ = some (.int .u64 0) := cell_of HE.out.box 2
      have e3 : we.cell? ⟨B, 3, none⟩ = some (.int .u64 (a : Int)) := cell_of HE.out.box 3
      have e4 : we.cell? ⟨B, 4, none⟩ = some (.int .u64 (b : Int)) := cell_of HE.out.box 4
      have e5 : we.cell? ⟨B, 5, none⟩ = some (.slice none 0 0) := cell_of HE.out.box 5
      have e6 : we.cell? ⟨B, 6, none⟩ = some (.int .u64 (got : Int)) := cell_of HE.out.box 6
      have e7 : we.cell? ⟨B, 7, none⟩ = some (.bool ok) := cell_of HE.out.box 7
      clear HI HI0 HH HH1 HB
      by_cases hz : zz3 = 0
      · have q0 : (zz3 : Int) = 0 := by omega
        obtain ⟨h2, h3, h4, h6⟩ := o4.mp hz
        have HZ := keepH (And.intro h2 (And.intro h3 (And.intro h4 h6)))
        clear h2 h3 h4 h6 o4 hz
        cases ok
        · go_wp2_with fail
          go_ret
          exact ⟨by rw [show R = true from by rw [HR.out]; exact decide_eq_true (by have hz := HZ.out; simp [hz])]; first | rfl | simp, HE.out.bel⟩
        · go_wp2_with fail
          go_ret
          exact ⟨by rw [show R = false from by rw [HR.out]; exact decide_eq_false (by have hz := HZ.out; first | simp [hz, hn0] | simp [hz])]; first | rfl | simp, HE.out.bel⟩
      · have q0 : ((zz3 : Int) == 0) = false := by simp; omega
        have q1 : ¬ (a = 0 ∧ b = 0 ∧ got = 0 ∧ ok = false) := fun h => hz (o4.mpr (by simp_all))
        have HZ := keepH q1
        clear o4 hz q1
        go_wp2_with fail
        go_ret
        exact ⟨by rw [show R = false from by rw [HR.out]; exact decide_eq_false HZ.out]; first | rfl | simp, HE.out.bel⟩
end Go.Proofs.YtjodechhnobkhaaGreatDoor
