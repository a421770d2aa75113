/- Slots that are made. -/
import Derived.Test.YtlgkioaomcobdaaGreatAh
import Derived.Laws.MakeOwn
import Derived.Laws.OwnMore
namespace Go.Proofs.YtlgkioaomcobdaaGreat
open Go.RowKit Go.Shelf
set_option linter.unusedVariables false

theorem infoU2 : (Tryz.prog.info? 22).map (fun i => (i.zero, i.size, i.bytes)) = some (some (.int .u64 0), 1, 8) := by kernel_rfl
theorem make_u64 (n : Nat) (hn : n ≤ 1048576) (u : World) :
    (Instr.makeSlice 38 (.int .i64 (n : Int)) (.int .i64 (n : Int))).run Tryz.prog u = .ok (.slice (some ⟨u.heap.size, 0, none⟩) n n) (u.alloc (.cells ((List.replicate n 0).map u64V).toArray 22)) := by
  obtain ⟨i0, hi, hz0, hz1, hz2⟩ : ∃ i0, Tryz.prog.info? 22 = some i0 ∧ i0.zero = some (.int .u64 0) ∧ i0.size = 1 ∧ i0.bytes = 8 := by
    have h := infoU2
    cases e : Tryz.prog.info? 22 with
    | none => rw [e] at h; simp at h
    | some i0 => rw [e] at h; simp at h; exact ⟨i0, rfl, h.1, h.2.1, h.2.2⟩
  have h := run_make (P := Tryz.prog) u 38 22 i0 (.int .u64 0) Tryz.underlying38 hi hz0 .i64 .i64 (n : Int) (n : Int) (by omega) (Int.le_refl _) (by rw [hz2]; omega) (by omega)
  have e : madeCells #[.int .u64 0] n = ((List.replicate n 0).map u64V).toArray := by
    apply Array.ext'
    rw [toList_madeCells_one]
    simp [u64V]
  have hz : (Value.int .u64 0).cells = #[.int .u64 0] := rfl
  rw [← e]
  simpa [hz1, hz] using h
set_option maxRecDepth 100000 in
set_option maxHeartbeats 2000000 in
theorem a_make (V : Value) (vb : Nat) (hV : V = .pointer (some ⟨vb, 0, none⟩)) (cam n mst a : Nat) (h1 : 1 ≤ n) (h2 : n ≤ 256) (h3 : 1 ≤ mst) (h4 : mst ≤ 1099511627776) (ha : a ≠ 0) (W : World) (R : World → Prop)
    (hA : Calls Tryz.prog 32 #[.pointer (some ⟨vb, 0, none⟩), .slice (some ⟨W.heap.size + 1, 0, none⟩) n n] ((W.alloc (.cells #[.int .u64 0, .int .u64 0, .int .i64 0, .int .u64 0] 24)).alloc (.cells ((List.replicate n 0).map u64V).toArray 22)) fun e w' => e = .returned (.int .u64 (a : Int)) ∧ R w' ∧ w'.heap[W.heap.size]? = some (.cells #[.int .u64 0, .int .u64 0, .int .i64 0, .int .u64 0] 24 (0, 0))) :
    Calls Tryz.prog 19 #[.pointer (some ⟨vb, 0, none⟩), .int .u64 (cam : Int), .int .i64 (n : Int), .int .u64 (mst : Int)] W fun e W' => e = .returned (.tuple #[.agg #[.int .u64 (cam : Int), .int .u64 (a : Int), .int .i64 (n : Int), .int .u64 (mst : Int)], .int .i64 0]) ∧ ∃ w1, R w1 ∧ Chg (fun k => k = W.heap.size) w1 W' := by
  have t1 : ¬ (n : Int) < 1 := by omega
  have t2 : ¬ (256 : Int) < (n : Int) := by omega
  have t3 : ¬ (mst : Int) < 1 := by omega
  have t4 : ¬ (1099511627776 : Int) < (mst : Int) := by omega
  have t5 : ((a : Int) == 0) = false := beq_eq_false_iff_ne.2 (by omega)
  have eqv : ((List.replicate n 0).map u64V).toArray = Array.replicate n (u64V 0) := by simp
  rw [eqv] at hA
  clear eqv
  have HA := keepH hA
  have hmk := make_u64 n (by omega)
  clear hA hV
  go_enter Tryz.func19, Tryz.ntmps19
  go_wp2_with fail
  refine HA.out.mono ?_
  rintro e w1 ⟨rfl, hR, B1⟩
  have HR := keepH hR
  have HB := keepH B1
  have g0 := (cell_of B1 0).trans rfl
  have g1 := (cell_of B1 1).trans rfl
  have g2 := (cell_of B1 2).trans rfl
  have g3 := (cell_of B1 3).trans rfl
  have PB : Blk w1 W.heap.size 24 [.int .u64 0, .int .u64 0, .int .i64 0, .int .u64 0] := B1
  have f0 := PB.free 0
  have f1 := (PB.set 0 (.int .u64 (cam : Int))).free 1
  have f2 := ((PB.set 0 (.int .u64 (cam : Int))).set 1 (.int .u64 (a : Int))).free 2
  have f3 := (((PB.set 0 (.int .u64 (cam : Int))).set 1 (.int .u64 (a : Int))).set 2 (.int .i64 (n : Int))).free 3
  have j1 := PB.free 1
  have j2 := PB.free 2
  have j3 := PB.free 3
  clear hR B1 HA hmk PB
  go_wp2_with fail
  obtain ⟨w2, hw2⟩ : ∃ w2, w2 = ((((w1.setCell ⟨W.heap.size, 0, none⟩ (.int .u64 (cam : Int))).setCell ⟨W.heap.size, 1, none⟩ (.int .u64 (a : Int))).setCell ⟨W.heap.size, 2, none⟩ (.int .i64 (n : Int))).setCell ⟨W.heap.size, 3, none⟩ (.int .u64 (mst : Int))) := ⟨_, rfl⟩
  have Q : Blk w2 W.heap.size 24 [.int .u64 (cam : Int), .int .u64 (a : Int), .int .i64 (n : Int), .int .u64 (mst : Int)] := by
    rw [hw2]
    exact ((((show Blk w1 W.heap.size 24 [.int .u64 0, .int .u64 0, .int .i64 0, .int .u64 0] from HB.out).set 0 (.int .u64 (cam : Int))).set 1 (.int .u64 (a : Int))).set 2 (.int .i64 (n : Int))).set 3 (.int .u64 (mst : Int))
  have C : Chg (fun k => k = W.heap.size) w1 w2 := by rw [hw2]; exact (((setP _).p (setP _)).p (setP _)).p (setP _)
  rw [← hw2]
  have r0 : w2.cell? ⟨W.heap.size, 0, none⟩ = some (.int .u64 (cam : Int)) := Q.cell 0
  have r1 : w2.cell? ⟨W.heap.size, 1, none⟩ = some (.int .u64 (a : Int)) := Q.cell 1
  have r2 : w2.cell? ⟨W.heap.size, 2, none⟩ = some (.int .i64 (n : Int)) := Q.cell 2
  have r3 : w2.cell? ⟨W.heap.size, 3, none⟩ = some (.int .u64 (mst : Int)) := Q.cell 3
  clear hw2
  exact bodyPost_ret (v := .tuple #[.agg #[.int .u64 (cam : Int), .int .u64 (a : Int), .int .i64 (n : Int), .int .u64 (mst : Int)], .int .i64 0]) (by simp [results, Tryz.results19, go_sem, r0, r1, r2, r3]) rfl ⟨rfl, w1, HR.out, C⟩

/-- What a Snapshot alone, whose first slot is free, goes through. -/
def SnI (W : World) (m b v most : Nat) (th : Int) (p q t cam mst : Nat) (D : Nat → Prop) (fst cnt : Nat) (next made : Nat) (cs : List Nat) (n x g c1 c2 : Nat) (w0 : World) : Nat → World → Prop
  | 0, w => SnS W m b v most th p q t cam mst D w next made cs n (snL cam fst cnt mst 1 0 0 0 (.pointer (some ⟨q, 0, none⟩)) (.pointer (some ⟨t, 0, none⟩)) 0 0 0) 0 0 0 0 0 false ∧ Kept D w0 w
  | 1, w => SnS W m b v most th p q t cam mst D w next (made + 1) cs (n + 1) (snL cam fst cnt mst 2 0 x g (.pointer (some ⟨q, 0, none⟩)) (.pointer (some ⟨t, 0, none⟩)) 0 0 0) 0 0 0 0 0 false ∧ Kept D w0 w
  | 2, w => SnS W m b v most th p q t cam mst D w next (made + 2) (casN most cs (sumN fst 0) x (wordN 1 g 0)) (n + 2) (snL cam fst cnt mst 3 0 x g (.pointer (some ⟨q, 0, none⟩)) (.pointer (some ⟨t, 0, none⟩)) 0 0 0) 0 0 0 0 0 false ∧ Kept D w0 w
  | 3, w => SnS W m b v most th p q t cam mst D w next (made + 3) (casN most cs (sumN fst 0) x (wordN 1 g 0)) (n + 3) (snL cam fst cnt mst 4 0 x g (.pointer (some ⟨q, 0, none⟩)) (.pointer (some ⟨t, 0, none⟩)) 0 0 0) 2 c1 0 0 0 false ∧ Kept D w0 w
  | 4, w => SnS W m b v most th p q t cam mst D w next (made + 4) (stN most (casN most cs (sumN fst 0) x (wordN 1 g 0)) (sumN fst 0) (wordN 2 g c1)) (n + 4) (snL cam fst cnt mst 5 0 x g (.pointer (some ⟨q, 0, none⟩)) (.pointer (some ⟨t, 0, none⟩)) 0 0 0) 2 c1 0 0 0 false ∧ Kept D w0 w
  | 5, w => SnS W m b v most th p q t cam mst D w next (made + 5) (stN most (casN most cs (sumN fst 0) x (wordN 1 g 0)) (sumN fst 0) (wordN 2 g c1)) (n + 5) (snL cam fst cnt mst 5 0 x g (.pointer (some ⟨q, 0, none⟩)) (.pointer (some ⟨t, 0, none⟩)) 0 0 0) 2 c1 1 c2 0 false ∧ Kept D w0 w
  | 6, w => ∃ mv, SnS W m b v most th p q t cam mst D w next (made + 6) (casN most (stN most (casN most cs (sumN fst 0) x (wordN 1 g 0)) (sumN fst 0) (wordN 2 g c1)) cam c2 (c2 + 1)) (n + 6) (snL cam fst cnt mst 6 0 x g (.pointer (some ⟨q, 0, none⟩)) (.pointer (some ⟨t, 0, none⟩)) 0 0 0) 2 c1 2 c2 0 mv ∧ Kept D w0 w
  | _, w => ∃ mv, SnS W m b v most th p q t cam mst D w next (made + 7) (stN most (casN most (stN most (casN most cs (sumN fst 0) x (wordN 1 g 0)) (sumN fst 0) (wordN 2 g c1)) cam c2 (c2 + 1)) (sumN fst 0) (wordN 3 g c2)) (n + 7) (snL cam fst cnt mst 8 0 x g (.pointer (some ⟨q, 0, none⟩)) (.pointer (some ⟨t, 0, none⟩)) (0 + 1 + g * 65536) c2 0) 2 c1 2 c2 0 mv ∧ Kept D w0 w
theorem sni_step (W : World) (m b v most : Nat) (th : Int) (p q t cam mst : Nat) (D : Nat → Prop) (fst cnt : Nat) (next made : Nat) (cs : List Nat) (n x g c1 c2 : Nat) (w0 : World)
    (hx : cellN cs (sumN fst 0) = x) (hx2 : x < 18446744073709551616) (hk : x % 4 = 0) (hg : g = x / 4 % 1048576) (hg2 : g < 1048575) (ho : casOk most cs (sumN fst 0) x = true) (hc1 : cellN (casN most cs (sumN fst 0) x (wordN 1 g 0)) cam = c1) (hl1 : c1 < 18446744073709551616) (hc2 : cellN (stN most (casN most cs (sumN fst 0) x (wordN 1 g 0)) (sumN fst 0) (wordN 2 g c1)) cam = c2) (hm : c2 < mst) (hl2 : c2 + 1 < 18446744073709551616) (ha : cam < 18446744073709551616) (h1 : made + 7 < 1099511627776) (h2 : n + 7 < 1099511627776)
    (i : Nat) (w : World) (hi : i ≤ 6) (h : SnI W m b v most th p q t cam mst D fst cnt next made cs n x g c1 c2 w0 i w) : Calls Tryz.prog 36 #[.iface 52 (.pointer (some ⟨p, 0, none⟩)), .pointer (some ⟨v, 0, none⟩)] w fun e w' => e = .returned (.bool (decide (i = 6))) ∧ SnI W m b v most th p q t cam mst D fst cnt next made cs n x g c1 c2 w0 (i + 1) w' := by
  match i, hi, h with
  | 0, _, h =>
    refine (ss_so h.1 false (fun u E S => ss_look S (by omega) x hx hx2 hk (by omega) (by omega) (by omega))).mono ?_
    rintro e w' ⟨rfl, S, K⟩
    rw [← hg] at S
    exact ⟨rfl, S, h.2.trans K⟩
  | 1, _, h =>
    refine (ss_so h.1 false (fun u E S => ss_claim S (by omega) (by omega) ho (by omega) (by omega))).mono ?_
    rintro e w' ⟨rfl, S, K⟩
    exact ⟨rfl, S, h.2.trans K⟩
  | 2, _, h =>
    refine (ss_so h.1 false (fun u E S => ss_ask S ha (by omega) (by omega))).mono ?_
    rintro e w' ⟨rfl, S, K⟩
    rw [hc1] at S
    exact ⟨rfl, S, h.2.trans K⟩
  | 3, _, h =>
    refine (ss_so h.1 false (fun u E S => ss_early S (by omega) (by omega) hl1 (by omega) (by omega))).mono ?_
    rintro e w' ⟨rfl, S, K⟩
    exact ⟨rfl, S, h.2.trans K⟩
  | 4, _, h =>
    refine (ss_so h.1 false (fun u E S => ss_load S (by omega) ha (by omega) (by omega))).mono ?_
    rintro e w' ⟨rfl, S, K⟩
    rw [hc2] at S
    exact ⟨rfl, S, h.2.trans K⟩
  | 5, _, h =>
    refine (ss_so h.1 false (fun u E S => ss_cas S ha hl2 (by omega) (by omega))).mono ?_
    rintro e w' ⟨rfl, S, K⟩
    exact ⟨rfl, _, S, h.2.trans K⟩
  | 6, _, h =>
    obtain ⟨mv, S0, K0⟩ := h
    refine (ss_so S0 true (fun u E S => ss_exact S (by omega) (by omega) (by omega) (by omega) (by omega))).mono ?_
    rintro e w' ⟨rfl, S, K⟩
    exact ⟨rfl, mv, S, K0.trans K⟩
end Go.Proofs.YtlgkioaomcobdaaGreat
