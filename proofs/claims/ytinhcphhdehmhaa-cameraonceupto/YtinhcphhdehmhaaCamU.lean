/- SameAccesses of two traces without values. -/
import Derived.Test.YtinhcphhdehmhaaLexA
import Derived.Test.YtinhcphhdehmhaaCamT
namespace Go.Proofs.Ytinhcphhdehmhaa
open Go.RowKit Go.Shelf
set_option linter.unusedVariables false

theorem acc_cell {W : World} {g n c : Nat} {lk : List Acc} (h : W.ownsRow 0 92 8 (.slice (some ⟨g, 0, none⟩) n c) n (accRow lk)) (j f : Nat) (x : Acc) (hj : lk[j]? = some x) (hn : j < n) (hf : f < 8) (v : Value) (hv : x.cells[f]? = some v) : W.cell? ⟨g, j * 8 + f, none⟩ = some v := by
  rw [World.ownsRow.cellAt h (j * 8 + f) (by omega), accRow_get lk j f hf, hj]
  exact hv

set_option maxRecDepth 100000 in
theorem s_sameU0 (p q : Option Addr) (c d : Nat) (W : World) : Calls Try.prog 39 #[.slice p 0 c, .slice q 0 d] W fun e W' => e = .returned (.bool true) ∧ W' = W := by
  go_enter Try.func39, Try.ntmps39
  go_wp2_with fail
  go_loopw [5] (fun s wr => s = .int .i64 0 ∧ wr = W) (fun s _ => 0)
  case atStart => exact ⟨rfl, rfl⟩
  case round =>
    obtain ⟨rfl, rfl⟩ := hrel
    go_wp2_with fail
    go_ret
    exact ⟨by simp, rfl⟩

theorem drewN_add (W : World) (a b : Nat) : W.drewN (a + b) = (W.drewN a).drewN b := by simp [World.drewN, Nat.add_assoc]
/-- Two accesses tell the same, and have no values. -/
def Like (x y : Acc) : Prop := x.th = y.th ∧ x.kind = y.kind ∧ x.addr = y.addr ∧ x.a = y.a ∧ x.b = y.b ∧ x.got = y.got ∧ x.ok = y.ok ∧ (∃ p c, x.vs = .slice p 0 c) ∧ ∃ p c, y.vs = .slice p 0 c

set_option maxRecDepth 100000 in
set_option maxHeartbeats 4000000 in
theorem s_sameA (p q : Option Addr) (c d n : Nat) (la lb : List Acc) (W : World) (ha : W.ownsRow 0 92 8 (.slice p n c) n (accRow la)) (hb : W.ownsRow 0 92 8 (.slice q n d) n (accRow lb)) (hla : la.length = n) (hlb : lb.length = n) (hk : ∀ (i : Nat) (x y : Acc), la[i]? = some x → lb[i]? = some y → Like x y) (hn : n ≤ 1099511627776) :
    Calls Try.prog 28 #[.slice p n c, .slice q n d] W fun e W' => e = .returned (.bool true) ∧ ∃ q, W' = W.drewN q := by
  have HA0 := keepH ha
  have HB0 := keepH hb
  have HLA := keepH hla
  have HLB := keepH hlb
  have HK := keepH hk
  clear ha hb hla hlb hk
  go_enter Try.func28, Try.ntmps28
  go_wp2_with fail
  go_loopw [5] (fun s wr => ∃ k : Nat, k ≤ n ∧ s = .int .i64 (k : Int) ∧ Hid (∃ q, wr = W.drewN q)) (fun s _ => n - (intOf s).toNat)
  case atStart => exact ⟨0, by omega, rfl, keepH ⟨0, rfl⟩⟩
  case round =>
    obtain ⟨k, hkn, rfl, HQ⟩ := hrel
    have HA : Hid (wr.ownsRow 0 92 8 (.slice p n c) n (accRow la)) := by obtain ⟨q, e⟩ := HQ.out; rw [e]; exact row_kept (W := W) HA0.out fun k _ => rfl
    have HB : Hid (wr.ownsRow 0 92 8 (.slice q n d) n (accRow lb)) := by obtain ⟨q, e⟩ := HQ.out; rw [e]; exact row_kept (W := W) HB0.out fun k _ => rfl
    by_cases hlt : k < n
    · have t1 : (k : Int) < (n : Int) := by omega
      obtain ⟨x, hx⟩ : ∃ x, la[k]? = some x := ⟨la[k]'(by have := HLA.out; omega), List.getElem?_eq_getElem _⟩
      obtain ⟨y, hy⟩ : ∃ y, lb[k]? = some y := ⟨lb[k]'(by have := HLB.out; omega), List.getElem?_eq_getElem _⟩
      obtain ⟨e0, e1, e2, e3, e4, e5, e6, ⟨xp, xc, e7⟩, yp, yc, e8⟩ := HK.out k x y hx hy
      obtain ⟨g1, c1, hg1⟩ := slice_pos HA.out (by omega)
      obtain ⟨g2, c2, hg2⟩ := slice_pos HB.out (by omega)
      simp only [Value.slice.injEq, true_and] at hg1 hg2
      obtain ⟨rfl, rfl⟩ := hg1
      obtain ⟨rfl, rfl⟩ := hg2
      have a0 : wr.cell? ⟨g1, k * 8, none⟩ = some (.int .i64 x.th) := acc_cell HA.out k 0 x hx hlt (by decide) _ rfl
      have a1 : wr.cell? ⟨g1, k * 8 + 1, none⟩ = some (.int .u8 (x.kind : Int)) := acc_cell HA.out k 1 x hx hlt (by decide) _ rfl
      have a2 : wr.cell? ⟨g1, k * 8 + 2, none⟩ = some (.int .u64 (x.addr : Int)) := acc_cell HA.out k 2 x hx hlt (by decide) _ rfl
      have a3 : wr.cell? ⟨g1, k * 8 + 3, none⟩ = some (.int .u64 (x.a : Int)) := acc_cell HA.out k 3 x hx hlt (by decide) _ rfl
      have a4 : wr.cell? ⟨g1, k * 8 + 4, none⟩ = some (.int .u64 (x.b : Int)) := acc_cell HA.out k 4 x hx hlt (by decide) _ rfl
      have a5 : wr.cell? ⟨g1, k * 8 + 5, none⟩ = some (.slice xp 0 xc) := acc_cell HA.out k 5 x hx hlt (by decide) _ (by rw [← e7]; rfl)
      have a6 : wr.cell? ⟨g1, k * 8 + 6, none⟩ = some (.int .u64 (x.got : Int)) := acc_cell HA.out k 6 x hx hlt (by decide) _ rfl
      have a7 : wr.cell? ⟨g1, k * 8 + 7, none⟩ = some (.bool x.ok) := acc_cell HA.out k 7 x hx hlt (by decide) _ rfl
      have b0 : wr.cell? ⟨g2, k * 8, none⟩ = some (.int .i64 x.th) := acc_cell HB.out k 0 y hy hlt (by decide) _ (by rw [e0]; rfl)
      have b1 : wr.cell? ⟨g2, k * 8 + 1, none⟩ = some (.int .u8 (x.kind : Int)) := acc_cell HB.out k 1 y hy hlt (by decide) _ (by rw [e1]; rfl)
      have b2 : wr.cell? ⟨g2, k * 8 + 2, none⟩ = some (.int .u64 (x.addr : Int)) := acc_cell HB.out k 2 y hy hlt (by decide) _ (by rw [e2]; rfl)
      have b3 : wr.cell? ⟨g2, k * 8 + 3, none⟩ = some (.int .u64 (x.a : Int)) := acc_cell HB.out k 3 y hy hlt (by decide) _ (by rw [e3]; rfl)
      have b4 : wr.cell? ⟨g2, k * 8 + 4, none⟩ = some (.int .u64 (x.b : Int)) := acc_cell HB.out k 4 y hy hlt (by decide) _ (by rw [e4]; rfl)
      have b5 : wr.cell? ⟨g2, k * 8 + 5, none⟩ = some (.slice yp 0 yc) := acc_cell HB.out k 5 y hy hlt (by decide) _ (by rw [← e8]; rfl)
      have b6 : wr.cell? ⟨g2, k * 8 + 6, none⟩ = some (.int .u64 (x.got : Int)) := acc_cell HB.out k 6 y hy hlt (by decide) _ (by rw [e5]; rfl)
      have b7 : wr.cell? ⟨g2, k * 8 + 7, none⟩ = some (.bool x.ok) := acc_cell HB.out k 7 y hy hlt (by decide) _ (by rw [e6]; rfl)
      obtain ⟨th, kind, addr, xa, xb, vs, vals, got, ok⟩ := x
      simp only at a0 a1 a2 a3 a4 a6 a7 b0 b1 b2 b3 b4 b6 b7
      clear e0 e1 e2 e3 e4 e5 e6 e7 e8 hx hy
      go_wp2_with fail
      dsimp only [List.append]
      refine wp_region_quiet_lit (by kernel_rfl) ((congrArg (Region.lexB .any) (a₂ := (opsIn 6 (Try.f28.body.getD .skip)).toArray) (by kernel_rfl)).trans lexA) ?_
      repeat (go_big_quiet_step (first | (go_at_call 39; refine (s_sameU0 xp yp xc yc _).mono ?_; rintro x y ⟨rfl, rfl⟩; exact ⟨rfl, _, rfl⟩)))
      refine wpQuiet_nil ?_
      intro _ hw'
      obtain ⟨nq, hw''⟩ := hw'
      subst hw''
      go_wp2_with fail
      go_roundw
      case rel => exact ⟨k + 1, by omega, by first | rfl | go_num, keepH (by obtain ⟨q, e⟩ := HQ.out; exact ⟨q + nq, by rw [e, drewN_add]⟩)⟩
      case measure => simp [intOf]; omega
    · obtain rfl : k = n := by omega
      have t1 : ¬ (k : Int) < (k : Int) := by omega
      go_wp2_with fail
      go_ret
      exact ⟨by simp, HQ.out⟩
end Go.Proofs.Ytinhcphhdehmhaa
