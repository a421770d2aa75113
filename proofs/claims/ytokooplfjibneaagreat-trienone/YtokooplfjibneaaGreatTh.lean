/- The trie's procs that are made. -/
import Derived.Test.YtokooplfjibneaaGreatTe
namespace Go.Proofs.YtokooplfjibneaaGreat
open Go.RowKit Go.Shelf
set_option linter.unusedVariables false

set_option maxRecDepth 100000 in
set_option maxHeartbeats 4000000 in
theorem new_find (cam br key mixd dg obj : Nat) (W : World) (hk : key < 18446744073709551616) (hmx : mixd = mixN key) (hdg : (dg : Int) = dig mixd 0) (hdl : dg < 64) (ho : obj = (br + dg) % 18446744073709551616) :
    Calls Tryz.prog 5 #[.agg #[.int .u64 (cam : Int), .int .u64 (br : Int)], .int .u64 (key : Int)] W fun e W' => ∃ p q, e = .returned (.pointer (some ⟨p, 0, none⟩)) ∧ W.heap.size ≤ p ∧ p < q ∧ Blk W' p 51 (wayL cam key mixd obj 0 (.pointer (some ⟨q, 0, none⟩)) 0 0 0 false 0 (fnV 59 p) (fnV 20 p) (fnV 20 p) (fnV 20 p) false 0 []) ∧ Blk W' q 150 (r0L cam obj) ∧ Chg (fun _ => False) W W' := by
  have hmf : ∀ (fn : Fn) (first cap : Array Value) (w : World), (Instr.makeFunc fn first cap).run Tryz.prog w = .ok (.func fn first cap) w := fun _ _ _ _ => rfl
  obtain ⟨w0, hw0⟩ : ∃ w0, w0 = W.alloc (.cells #[.int .u64 (cam : Int), .int .u64 (br : Int)] 24) := ⟨_, rfl⟩
  have C0 : Chg (fun _ => False) W w0 := by rw [hw0]; exact (Chg.refl _ _).alloc _
  have B0 : Blk w0 W.heap.size 24 [.int .u64 (cam : Int), .int .u64 (br : Int)] := by rw [hw0]; exact heap_alloc_new _ _
  obtain ⟨p, hpp⟩ : ∃ p, p = w0.heap.size := ⟨_, rfl⟩
  have HPP := keepH hpp
  have HPW : Hid (W.heap.size < p) := by rw [hpp]; exact lt_of B0
  obtain ⟨w1, hw1⟩ : ∃ w1, w1 = w0.alloc (.cells #[.int .u64 0, .int .u64 0, .int .u64 0, .int .u64 0, .int .i64 0, .pointer none, .int .u64 0, .int .u64 0, .int .u64 0, .int .i64 0, .bool false, .int .u64 0, .bool false, .int .u64 0, .slice none 0 0, .int .u64 0, .nilFunc, .nilFunc, .nilFunc, .nilFunc, .int .i64 0, .bool false, .int .u64 0, .bool false, .int .u64 0, .slice none 0 0, .int .u64 0] 51) := ⟨_, rfl⟩
  have C1 : Chg (fun _ => False) W w1 := by rw [hw1]; exact C0.alloc _
  have P1 : Blk w1 p 51 (wayL 0 0 0 0 0 (.pointer none) 0 0 0 false 0 .nilFunc .nilFunc .nilFunc .nilFunc false 0 []) := by rw [hw1, hpp]; exact heap_alloc_new _ _
  have B1 : Blk w1 W.heap.size 24 [.int .u64 (cam : Int), .int .u64 (br : Int)] := by rw [hw1]; exact alloc_of B0 _
  have a17 : w1.cell? ⟨p, 17, none⟩ = some .nilFunc := P1.cell 17
  have b17 := P1.free 17
  have a18 : w1.cell? ⟨p, 18, none⟩ = some .nilFunc := P1.cell 18
  have b18 := P1.free 18
  have a19 : w1.cell? ⟨p, 19, none⟩ = some .nilFunc := P1.cell 19
  have b19 := P1.free 19
  have P2 := P1.set 17 (fnV 20 p)
  have P3 := P2.set 18 (fnV 20 p)
  have d18 : (w1.setCell ⟨p, 17, none⟩ (.func (.func 20) #[.pointer (some ⟨p, 0, none⟩)] #[])).cell? ⟨p, 18, none⟩ = some .nilFunc := P2.cell 18
  have g18 : (w1.setCell ⟨p, 17, none⟩ (.func (.func 20) #[.pointer (some ⟨p, 0, none⟩)] #[])).frozen? ⟨p, 18, none⟩ = false := P2.free 18
  have d19 : ((w1.setCell ⟨p, 17, none⟩ (.func (.func 20) #[.pointer (some ⟨p, 0, none⟩)] #[])).setCell ⟨p, 18, none⟩ (.func (.func 20) #[.pointer (some ⟨p, 0, none⟩)] #[])).cell? ⟨p, 19, none⟩ = some .nilFunc := P3.cell 19
  have g19 : ((w1.setCell ⟨p, 17, none⟩ (.func (.func 20) #[.pointer (some ⟨p, 0, none⟩)] #[])).setCell ⟨p, 18, none⟩ (.func (.func 20) #[.pointer (some ⟨p, 0, none⟩)] #[])).frozen? ⟨p, 19, none⟩ = false := P3.free 19
  have HP1 := keepH P1
  have HB1 := keepH B1
  have HC1 := keepH C1
  clear C0 B0 C1 P1 B1 P2 P3
  go_enter Tryz.func5, Tryz.ntmps5
  go_upto_region 1 with fail
  rw [← hw0]
  clear hw0
  go_upto_region 2 with fail
  rw [← hpp]
  rw [← hw1]
  clear hw1 hpp
  go_cut [] from 8 to 31 (fun wz => Hid (Blk wz p 51 (wayL 0 0 0 0 0 (.pointer none) 0 0 0 false 0 .nilFunc (fnV 20 p) (fnV 20 p) (fnV 20 p) false 0 []) ∧ Blk wz W.heap.size 24 [.int .u64 (cam : Int), .int .u64 (br : Int)] ∧ Chg (fun _ => False) W wz))
  case first =>
    go_region_held3 (fun _ => True) (trivial) (fail)
    all_goals (try go_wp2_with fail)
    all_goals go_meet
    all_goals (have hne : W.heap.size ≠ p := by have := HPW.out; omega)
    all_goals (have hge : ∀ k, k < W.heap.size → ¬ k = p := by have := HPW.out; intro k h1 h2; omega)
    all_goals (exact keepH ⟨((HP1.out.set 17 (fnV 20 p)).set 18 (fnV 20 p)).set 19 (fnV 20 p), (Below.heap_setCell _ _ _ _ hne).trans ((Below.heap_setCell _ _ _ _ hne).trans ((Below.heap_setCell _ _ _ _ hne).trans HB1.out)), ((HC1.out.trans (setP _) (fun _ _ x => x) hge).trans (setP _) (fun _ _ x => x) hge).trans (setP _) (fun _ _ x => x) hge |>.drew⟩)
  case rest =>
    obtain ⟨wz, hwz⟩ : ∃ wz, wz = wc := ⟨_, rfl⟩
    rw [← hwz] at hcut ⊢
    clear hwz
    obtain ⟨P4, B4, C4⟩ := hcut.out
    have HP4 := keepH P4
    have HB4 := keepH B4
    have HC4 := keepH C4
    have HG := keepH (begin_any (W := wz.drew) P4 cam br key mixd dg obj hk hmx hdg hdl ho)
    have t0 : wz.cell? ⟨W.heap.size, 0, none⟩ = some (.int .u64 (cam : Int)) := B4.cell 0
    have t1 : wz.cell? ⟨W.heap.size, 1, none⟩ = some (.int .u64 (br : Int)) := B4.cell 1
    have HS0 : Hid (wz.cell? ⟨W.heap.size, 0, none⟩ = some (.int .u64 (cam : Int)) ∧ wz.cell? ⟨W.heap.size, 1, none⟩ = some (.int .u64 (br : Int))) := ⟨t0, t1⟩
    have hge : ∀ k, k < W.heap.size → ¬ k = p := by have := HPW.out; intro k h1 h2; omega
    have HGE := keepH hge
    clear hcut P4 B4 C4 a17 b17 a18 b18 a19 b19 d18 g18 d19 g19 hge hdg ho hmx
    go_upto_region 3 with fail
    go_region_held3 (fun w' => w'.cell? ⟨W.heap.size, 0, none⟩ = some (.int .u64 (cam : Int)) ∧ w'.cell? ⟨W.heap.size, 1, none⟩ = some (.int .u64 (br : Int))) (first | exact HS0.out | exact hS5)
      (first | (go_at_call 21; refine HG.out.mono ?_; rintro e w5 ⟨rfl, q, hq, P5, B5, C5⟩; have hS5 : w5.cell? ⟨W.heap.size, 0, none⟩ = some (.int .u64 (cam : Int)) ∧ w5.cell? ⟨W.heap.size, 1, none⟩ = some (.int .u64 (br : Int)) := ⟨((show Blk wz.drew W.heap.size 24 _ from HB4.out).chg C5 (by have := HPW.out; omega)).cell 0, ((show Blk wz.drew W.heap.size 24 _ from HB4.out).chg C5 (by have := HPW.out; omega)).cell 1⟩; have HP5 := keepH P5; have HB5 := keepH B5; have HC5 : Hid (Chg (fun _ => False) W w5) := HC4.out.drew.trans C5 (fun _ _ x => x) HGE.out; have HQ : Hid (p < q) := Nat.lt_of_lt_of_le (lt_of HP4.out) hq; clear P5 B5 C5 hq))
    all_goals (try go_wp2_with fail)
    all_goals go_ret
    all_goals (exact ⟨p, q, by simp, Nat.le_of_lt HPW.out, HQ.out, HP5.out, HB5.out, HC5.out⟩)
end Go.Proofs.YtokooplfjibneaaGreat
