/- Two traces without values held against each other (the document's SameTrace). -/
import Derived.Deep.RegionHeld3
import Derived.Test.YtciohnfbjaglbaaKo
namespace Go.Proofs.Ytciohnfbjaglbaa
open Go.RowKit Go.Shelf
set_option linter.unusedVariables false

theorem acc_cell {W : World} {g n c : Nat} {lk : List Acc} (h : W.ownsRow 0 77 8 (.slice (some ⟨g, 0, none⟩) n c) n (accRow lk)) (j f : Nat) (x : Acc) (hj : lk[j]? = some x) (hn : j < n) (hf : f < 8) (v : Value) (hv : x.cells[f]? = some v) : W.cell? ⟨g, j * 8 + f, none⟩ = some v := by
  rw [World.ownsRow.cellAt h (j * 8 + f) (by omega), accRow_get lk j f hf, hj]
  exact hv
def Like (x y : Acc) : Prop := x.th = y.th ∧ x.kind = y.kind ∧ x.addr = y.addr ∧ x.a = y.a ∧ x.b = y.b ∧ x.got = y.got ∧ x.ok = y.ok ∧ (∃ p c, x.vs = .slice p 0 c) ∧ ∃ p c, y.vs = .slice p 0 c

set_option maxRecDepth 100000 in
set_option maxHeartbeats 4000000 in
theorem s_acc (th : Int) (kind addr a b got : Nat) (ok : Bool) (p q : Option Addr) (c d : Nat) (W : World) :
    Calls Try.prog 41 #[.agg #[.int .i64 th, .int .u8 (kind : Int), .int .u64 (addr : Int), .int .u64 (a : Int), .int .u64 (b : Int), .slice p 0 c, .int .u64 (got : Int), .bool ok], .agg #[.int .i64 th, .int .u8 (kind : Int), .int .u64 (addr : Int), .int .u64 (a : Int), .int .u64 (b : Int), .slice q 0 d, .int .u64 (got : Int), .bool ok]] W fun e W' => e = .returned (.bool true) ∧ Chg (fun _ => False) W W' := by
  obtain ⟨w0, hw0⟩ : ∃ w0, w0 = (W.alloc (.cells #[.int .i64 th, .int .u8 (kind : Int), .int .u64 (addr : Int), .int .u64 (a : Int), .int .u64 (b : Int), .slice p 0 c, .int .u64 (got : Int), .bool ok] 77)).alloc (.cells #[.int .i64 th, .int .u8 (kind : Int), .int .u64 (addr : Int), .int .u64 (a : Int), .int .u64 (b : Int), .slice q 0 d, .int .u64 (got : Int), .bool ok] 77) := ⟨_, rfl⟩
  have HC : Hid (Chg (fun _ => False) W w0) := by rw [hw0]; exact ((Chg.refl _ _).alloc _).alloc _
  have B1 : w0.heap[W.heap.size]? = some (.cells #[.int .i64 th, .int .u8 (kind : Int), .int .u64 (addr : Int), .int .u64 (a : Int), .int .u64 (b : Int), .slice p 0 c, .int .u64 (got : Int), .bool ok] 77 (0, 0)) := by rw [hw0]; exact alloc_of (heap_alloc_new _ _) _
  have B2 : w0.heap[W.heap.size + 1]? = some (.cells #[.int .i64 th, .int .u8 (kind : Int), .int .u64 (addr : Int), .int .u64 (a : Int), .int .u64 (b : Int), .slice q 0 d, .int .u64 (got : Int), .bool ok] 77 (0, 0)) := by
    rw [hw0]
    have e := heap_alloc_new (W.alloc (.cells #[.int .i64 th, .int .u8 (kind : Int), .int .u64 (addr : Int), .int .u64 (a : Int), .int .u64 (b : Int), .slice p 0 c, .int .u64 (got : Int), .bool ok] 77)) (.cells #[.int .i64 th, .int .u8 (kind : Int), .int .u64 (addr : Int), .int .u64 (a : Int), .int .u64 (b : Int), .slice q 0 d, .int .u64 (got : Int), .bool ok] 77)
    rw [World.size_alloc] at e
    exact e
  have a0 : w0.cell? ⟨W.heap.size, 0, none⟩ = some (.int .i64 th) := cell_of B1 0
  have a1 : w0.cell? ⟨W.heap.size, 1, none⟩ = some (.int .u8 (kind : Int)) := cell_of B1 1
  have a2 : w0.cell? ⟨W.heap.size, 2, none⟩ = some (.int .u64 (addr : Int)) := cell_of B1 2
  have a3 : w0.cell? ⟨W.heap.size, 3, none⟩ = some (.int .u64 (a : Int)) := cell_of B1 3
  have a4 : w0.cell? ⟨W.heap.size, 4, none⟩ = some (.int .u64 (b : Int)) := cell_of B1 4
  have a5 : w0.cell? ⟨W.heap.size, 5, none⟩ = some (.slice p 0 c) := cell_of B1 5
  have a6 : w0.cell? ⟨W.heap.size, 6, none⟩ = some (.int .u64 (got : Int)) := cell_of B1 6
  have a7 : w0.cell? ⟨W.heap.size, 7, none⟩ = some (.bool ok) := cell_of B1 7
  have b0 : w0.cell? ⟨W.heap.size + 1, 0, none⟩ = some (.int .i64 th) := cell_of B2 0
  have b1 : w0.cell? ⟨W.heap.size + 1, 1, none⟩ = some (.int .u8 (kind : Int)) := cell_of B2 1
  have b2 : w0.cell? ⟨W.heap.size + 1, 2, none⟩ = some (.int .u64 (addr : Int)) := cell_of B2 2
  have b3 : w0.cell? ⟨W.heap.size + 1, 3, none⟩ = some (.int .u64 (a : Int)) := cell_of B2 3
  have b4 : w0.cell? ⟨W.heap.size + 1, 4, none⟩ = some (.int .u64 (b : Int)) := cell_of B2 4
  have b5 : w0.cell? ⟨W.heap.size + 1, 5, none⟩ = some (.slice q 0 d) := cell_of B2 5
  have b6 : w0.cell? ⟨W.heap.size + 1, 6, none⟩ = some (.int .u64 (got : Int)) := cell_of B2 6
  have b7 : w0.cell? ⟨W.heap.size + 1, 7, none⟩ = some (.bool ok) := cell_of B2 7
  have HW0 := keepH hw0
  clear hw0 B1 B2
  go_enter Try.func41, Try.ntmps41
  go_upto_region 1 with fail
  rw [← HW0.out]
  clear HW0
  go_wp2_with fail
  go_loopw [5] (fun s wr => s = .int .i64 0 ∧ wr = w0) (fun s _ => 0)
  case atStart => exact ⟨rfl, rfl⟩
  case round =>
    obtain ⟨rfl, rfl⟩ := hrel
    go_wp2_with fail
    go_ret
    exact ⟨by simp, HC.out⟩

set_option maxRecDepth 100000 in
set_option maxHeartbeats 4000000 in
theorem s_trace (p q : Option Addr) (c d n : Nat) (la lb : List Acc) (W : World) (ha : W.ownsRow 0 77 8 (.slice p n c) n (accRow la)) (hb : W.ownsRow 0 77 8 (.slice q n d) n (accRow lb)) (hla : la.length = n) (hlb : lb.length = n) (hk : ∀ (i : Nat) (x y : Acc), la[i]? = some x → lb[i]? = some y → Like x y) (hn : n ≤ 1099511627776) :
    Calls Try.prog 19 #[.slice p n c, .slice q n d] W fun e W' => e = .returned (.bool true) ∧ Chg (fun _ => False) W W' := by
  have HA0 := keepH ha
  have HB0 := keepH hb
  have HLA := keepH hla
  have HLB := keepH hlb
  have HK := keepH hk
  clear ha hb hla hlb hk
  go_enter Try.func19, Try.ntmps19
  go_wp2_with fail
  go_loopw [5] (fun s wr => ∃ k : Nat, k ≤ n ∧ s = .int .i64 (k : Int) ∧ Hid (Chg (fun _ => False) W wr)) (fun s _ => n - (intOf s).toNat)
  case atStart => exact ⟨0, by omega, rfl, keepH (Chg.refl _ _)⟩
  case round =>
    obtain ⟨k, hkn, rfl, HQ⟩ := hrel
    by_cases hlt : k < n
    · have t1 : (k : Int) < (n : Int) := by omega
      obtain ⟨x, hx⟩ : ∃ x, la[k]? = some x := ⟨la[k]'(by have := HLA.out; omega), List.getElem?_eq_getElem _⟩
      obtain ⟨y, hy⟩ : ∃ y, lb[k]? = some y := ⟨lb[k]'(by have := HLB.out; omega), List.getElem?_eq_getElem _⟩
      obtain ⟨e0, e1, e2, e3, e4, e5, e6, ⟨xp, xc, e7⟩, yp, yc, e8⟩ := HK.out k x y hx hy
      obtain ⟨g1, c1, hg1⟩ := slice_pos HA0.out (by omega)
      obtain ⟨g2, c2, hg2⟩ := slice_pos HB0.out (by omega)
      simp only [Value.slice.injEq, true_and] at hg1 hg2
      obtain ⟨rfl, rfl⟩ := hg1
      obtain ⟨rfl, rfl⟩ := hg2
      obtain ⟨xth, xkind, xaddr, xa, xb, xvs, xvals, xgot, xok⟩ := x
      obtain ⟨yth, ykind, yaddr, ya, yb, yvs, yvals, ygot, yok⟩ := y
      simp only at e0 e1 e2 e3 e4 e5 e6 e7 e8
      subst e0 e1 e2 e3 e4 e5 e6 e7 e8
      have HSr : Hid (∀ z, Chg (fun _ => False) W z → (z.cell? ⟨g1, k * 8, none⟩ = some (.int .i64 xth) ∧ z.cell? ⟨g1, k * 8 + 1, none⟩ = some (.int .u8 (xkind : Int)) ∧ z.cell? ⟨g1, k * 8 + 2, none⟩ = some (.int .u64 (xaddr : Int)) ∧ z.cell? ⟨g1, k * 8 + 3, none⟩ = some (.int .u64 (xa : Int)) ∧ z.cell? ⟨g1, k * 8 + 4, none⟩ = some (.int .u64 (xb : Int)) ∧ z.cell? ⟨g1, k * 8 + 5, none⟩ = some (.slice xp 0 xc) ∧ z.cell? ⟨g1, k * 8 + 6, none⟩ = some (.int .u64 (xgot : Int)) ∧ z.cell? ⟨g1, k * 8 + 7, none⟩ = some (.bool xok) ∧ z.cell? ⟨g2, k * 8, none⟩ = some (.int .i64 xth) ∧ z.cell? ⟨g2, k * 8 + 1, none⟩ = some (.int .u8 (xkind : Int)) ∧ z.cell? ⟨g2, k * 8 + 2, none⟩ = some (.int .u64 (xaddr : Int)) ∧ z.cell? ⟨g2, k * 8 + 3, none⟩ = some (.int .u64 (xa : Int)) ∧ z.cell? ⟨g2, k * 8 + 4, none⟩ = some (.int .u64 (xb : Int)) ∧ z.cell? ⟨g2, k * 8 + 5, none⟩ = some (.slice yp 0 yc) ∧ z.cell? ⟨g2, k * 8 + 6, none⟩ = some (.int .u64 (xgot : Int)) ∧ z.cell? ⟨g2, k * 8 + 7, none⟩ = some (.bool xok))) := fun z hz => by
        have HA := row_kept HA0.out fun k e => hz.block k (row_lt HA0.out k e) (fun x => x)
        have HB := row_kept HB0.out fun k e => hz.block k (row_lt HB0.out k e) (fun x => x)
        exact ⟨acc_cell HA k 0 _ hx hlt (by decide) _ rfl, acc_cell HA k 1 _ hx hlt (by decide) _ rfl, acc_cell HA k 2 _ hx hlt (by decide) _ rfl, acc_cell HA k 3 _ hx hlt (by decide) _ rfl, acc_cell HA k 4 _ hx hlt (by decide) _ rfl, acc_cell HA k 5 _ hx hlt (by decide) _ rfl, acc_cell HA k 6 _ hx hlt (by decide) _ rfl, acc_cell HA k 7 _ hx hlt (by decide) _ rfl,
          acc_cell HB k 0 _ hy hlt (by decide) _ rfl, acc_cell HB k 1 _ hy hlt (by decide) _ rfl, acc_cell HB k 2 _ hy hlt (by decide) _ rfl, acc_cell HB k 3 _ hy hlt (by decide) _ rfl, acc_cell HB k 4 _ hy hlt (by decide) _ rfl, acc_cell HB k 5 _ hy hlt (by decide) _ rfl, acc_cell HB k 6 _ hy hlt (by decide) _ rfl, acc_cell HB k 7 _ hy hlt (by decide) _ rfl⟩
      have HS0 := keepH (HSr.out wr HQ.out)
      have HCr : Hid (Chg (fun _ => False) W wr.drew) := HQ.out.drew
      clear hx hy
      go_upto_region 6 with fail
      go_region_held3 (fun w' => w'.cell? ⟨g1, k * 8, none⟩ = some (.int .i64 xth) ∧ w'.cell? ⟨g1, k * 8 + 1, none⟩ = some (.int .u8 (xkind : Int)) ∧ w'.cell? ⟨g1, k * 8 + 2, none⟩ = some (.int .u64 (xaddr : Int)) ∧ w'.cell? ⟨g1, k * 8 + 3, none⟩ = some (.int .u64 (xa : Int)) ∧ w'.cell? ⟨g1, k * 8 + 4, none⟩ = some (.int .u64 (xb : Int)) ∧ w'.cell? ⟨g1, k * 8 + 5, none⟩ = some (.slice xp 0 xc) ∧ w'.cell? ⟨g1, k * 8 + 6, none⟩ = some (.int .u64 (xgot : Int)) ∧ w'.cell? ⟨g1, k * 8 + 7, none⟩ = some (.bool xok) ∧ w'.cell? ⟨g2, k * 8, none⟩ = some (.int .i64 xth) ∧ w'.cell? ⟨g2, k * 8 + 1, none⟩ = some (.int .u8 (xkind : Int)) ∧ w'.cell? ⟨g2, k * 8 + 2, none⟩ = some (.int .u64 (xaddr : Int)) ∧ w'.cell? ⟨g2, k * 8 + 3, none⟩ = some (.int .u64 (xa : Int)) ∧ w'.cell? ⟨g2, k * 8 + 4, none⟩ = some (.int .u64 (xb : Int)) ∧ w'.cell? ⟨g2, k * 8 + 5, none⟩ = some (.slice yp 0 yc) ∧ w'.cell? ⟨g2, k * 8 + 6, none⟩ = some (.int .u64 (xgot : Int)) ∧ w'.cell? ⟨g2, k * 8 + 7, none⟩ = some (.bool xok)) (first | exact HS0.out | exact hS5) (first | (go_at_call 41; refine (s_acc xth xkind xaddr xa xb xgot xok xp yp xc yc _).mono ?_; rintro e y1 ⟨rfl, C2⟩; replace HCr : Hid (Chg (fun _ => False) W y1) := HCr.out.falls C2; have hS5 := HSr.out y1 HCr.out; clear C2))
      all_goals (
        try go_wp2_with fail
        go_roundw
        case rel => exact ⟨k + 1, by omega, by go_num, HCr⟩
        case measure => simp [intOf]; omega)
    · obtain rfl : k = n := by omega
      go_wp2_with fail
      go_ret
      exact ⟨by simp, HQ.out⟩
end Go.Proofs.Ytciohnfbjaglbaa
