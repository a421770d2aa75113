/- Vcas's procs: what their inner steps do, whatever the view is. -/
import Derived.Test.YtadbgmcfjemkeaaCamA0
namespace Go.Proofs.Ytadbgmcfjemkeaa
open Go.RowKit Go.Shelf

def Blk (W : World) (p : Nat) (t : TypeId) (l : List Value) : Prop := W.heap[p]? = some (.cells l.toArray t (0, 0))
theorem Blk.cell {W : World} {p : Nat} {t : TypeId} {l : List Value} (h : Blk W p t l) (i : Nat) : W.cell? ⟨p, i, none⟩ = l[i]? := by rw [cell_of h i]; simp
theorem Blk.free {W : World} {p : Nat} {t : TypeId} {l : List Value} (h : Blk W p t l) (i : Nat) : W.frozen? ⟨p, i, none⟩ = false := free_of h i
theorem Blk.set {W : World} {p : Nat} {t : TypeId} {l : List Value} (h : Blk W p t l) (i : Nat) (v : Value) : Blk (W.setCell ⟨p, i, none⟩ v) p t (l.set i v) := by
  have e := set_of h i v
  rw [List.setIfInBounds_toArray] at e
  exact e
theorem Blk.chg {W W' : World} {F : Nat → Prop} {p : Nat} {t : TypeId} {l : List Value} (h : Blk W p t l) (hc : Chg F W W') (hn : ¬ F p) : Blk W' p t l := (hc.block p (lt_of h) hn).trans h
theorem setP {W : World} {p i : Nat} (u : Value) : Chg (fun k => k = p) W (W.setCell ⟨p, i, none⟩ u) := (Chg.refl (fun k => k = p) W).setCell (p := ⟨p, i, none⟩) (fun _ => rfl) u
def stpL (cam ver pos : Nat) (clk : Value) (rest : List Value) : List Value := .int .u64 (cam : Int) :: .int .u64 (ver : Int) :: .int .u8 (pos : Int) :: clk :: rest
def nowO (cam : Nat) : Obj := .cells #[.int .u64 (cam : Int), .int .u8 0, .int .u64 0] 177

set_option maxRecDepth 100000 in
theorem aim_any {W : World} {p : Nat} {t : TypeId} {cam ver pos : Nat} {clk : Value} {rest : List Value} (hp : Blk W p t (stpL cam ver pos clk rest)) (x : Nat) : Calls Try.prog 50 #[.pointer (some ⟨p, 0, none⟩), .int .u64 (x : Int)] W fun e W' => e = .returned (.tuple #[]) ∧ Blk W' p t (stpL cam x 0 clk rest) ∧ Chg (fun k => k = p) W W' := by
  have c1 : W.cell? ⟨p, 1, none⟩ = some (.int .u64 (ver : Int)) := hp.cell 1
  have f1 := hp.free 1
  have P2 := keepH (hp.set 1 (.int .u64 (x : Int)))
  have c2 : (W.setCell ⟨p, 1, none⟩ (.int .u64 (x : Int))).cell? ⟨p, 2, none⟩ = some (.int .u8 (pos : Int)) := P2.out.cell 2
  have c2' : W.cell? ⟨p, 2, none⟩ = some (.int .u8 (pos : Int)) := hp.cell 2
  have f2 := P2.out.free 2
  clear hp
  go_enter Try.func50, Try.ntmps50
  go_wp2_with fail
  go_end0
  exact ⟨rfl, P2.out.set 2 _, (setP _).trans (setP _) (fun _ _ x => x) (fun _ _ x => x)⟩

set_option maxRecDepth 100000 in
theorem tell_load0 {W : World} {p : Nat} {t : TypeId} {cam ver : Nat} {clk : Value} {rest : List Value} (hp : Blk W p t (stpL cam ver 0 clk rest)) (hclk : ∃ q, clk = .pointer q) (V : Value) (a : Nat) (ha : a = (ver + 1) % 18446744073709551616) (R : World → Prop) (hL : ∀ W1, W1 = W.setCell ⟨p, 2, none⟩ (.int .u8 3) → Calls Try.prog 75 #[V, .int .u64 (a : Int)] W1 fun e w => e = .returned (.int .u64 0) ∧ R w) (hK : ∀ w, R w → Blk w p t (stpL cam ver 3 clk rest)) :
    Calls Try.prog 76 #[.pointer (some ⟨p, 0, none⟩), V] W fun e W' => e = .returned (.bool false) ∧ ∃ w, R w ∧ W' = ((w.alloc (nowO cam)).setCell ⟨p, 3, none⟩ (.pointer (some ⟨w.heap.size, 0, none⟩))).setCell ⟨p, 2, none⟩ (.int .u8 1) := by
  obtain ⟨q, rfl⟩ := hclk
  have c2 : W.cell? ⟨p, 2, none⟩ = some (.int .u8 0) := hp.cell 2
  have f2 := hp.free 2
  obtain ⟨w1, hw1⟩ : ∃ w1, w1 = W.setCell ⟨p, 2, none⟩ (.int .u8 3) := ⟨_, rfl⟩
  have P1 : Hid (Blk w1 p t (stpL cam ver 3 (.pointer q) rest)) := by rw [hw1]; exact hp.set 2 _
  have d1 : w1.cell? ⟨p, 1, none⟩ = some (.int .u64 (ver : Int)) := P1.out.cell 1
  have k1 : IntKind.u64.wrap ((ver : Int) + 1) = (a : Int) := by rw [IntKind.wrap_u64]; omega
  have HL := keepH (hL w1 hw1)
  have HK := keepH hK
  clear hp ha hL hK
  go_enter Try.func76, Try.ntmps76
  go_upto_region 4 with fail
  rw [← hw1]
  clear hw1 c2 f2
  go_wp2_with fail
  refine HL.out.mono ?_
  rintro e w ⟨rfl, hr⟩
  have HR := keepH hr
  have P2 := keepH (HK.out w hr)
  have d0 : w.cell? ⟨p, 0, none⟩ = some (.int .u64 (cam : Int)) := P2.out.cell 0
  clear hr d1 P1
  go_wp2_with fail
  refine (n_new cam _).mono ?_
  rintro e w' ⟨rfl, rfl⟩
  obtain ⟨w2, hw2⟩ : ∃ w2, w2 = w.alloc (nowO cam) := ⟨_, rfl⟩
  have hw2' : w.alloc (.cells #[.int .u64 (cam : Int), .int .u8 0, .int .u64 0] 177) = w2 := hw2.symm
  have P3 : Hid (Blk w2 p t (stpL cam ver 3 (.pointer q) rest)) := by rw [hw2]; exact alloc_of P2.out _
  rw [hw2']
  have HW2 := keepH hw2
  clear hw2' P2 d0 hw2
  have d3 : w2.cell? ⟨p, 3, none⟩ = some (.pointer q) := P3.out.cell 3
  have f3 := P3.out.free 3
  have P4 := keepH (P3.out.set 3 (.pointer (some ⟨w.heap.size, 0, none⟩)))
  have e2 : (w2.setCell ⟨p, 3, none⟩ (.pointer (some ⟨w.heap.size, 0, none⟩))).cell? ⟨p, 2, none⟩ = some (.int .u8 3) := P4.out.cell 2
  have e2' : w2.cell? ⟨p, 2, none⟩ = some (.int .u8 3) := P3.out.cell 2
  have g2 := P4.out.free 2
  have e3 : ((w2.setCell ⟨p, 3, none⟩ (.pointer (some ⟨w.heap.size, 0, none⟩))).setCell ⟨p, 2, none⟩ (.int .u8 1)).cell? ⟨p, 2, none⟩ = some (.int .u8 1) := (P4.out.set 2 (.int .u8 1)).cell 2
  go_wp2_with fail
  go_ret
  exact ⟨by simp, w, HR.out, by rw [HW2.out]⟩

set_option maxRecDepth 100000 in
theorem tell_load1 {W : World} {p : Nat} {t : TypeId} {cam ver c : Nat} {clk : Value} {rest : List Value} (hp : Blk W p t (stpL cam ver 0 clk rest)) (V : Value) (a : Nat) (ha : a = (ver + 1) % 18446744073709551616) (hc : c ≠ 0) (R : World → Prop) (hL : ∀ W1, W1 = W.setCell ⟨p, 2, none⟩ (.int .u8 3) → Calls Try.prog 75 #[V, .int .u64 (a : Int)] W1 fun e w => e = .returned (.int .u64 (c : Int)) ∧ R w) (hK : ∀ w, R w → Blk w p t (stpL cam ver 3 clk rest)) :
    Calls Try.prog 76 #[.pointer (some ⟨p, 0, none⟩), V] W fun e W' => e = .returned (.bool true) ∧ R W' := by
  have c2 : W.cell? ⟨p, 2, none⟩ = some (.int .u8 0) := hp.cell 2
  have f2 := hp.free 2
  obtain ⟨w1, hw1⟩ : ∃ w1, w1 = W.setCell ⟨p, 2, none⟩ (.int .u8 3) := ⟨_, rfl⟩
  have P1 : Hid (Blk w1 p t (stpL cam ver 3 clk rest)) := by rw [hw1]; exact hp.set 2 _
  have d1 : w1.cell? ⟨p, 1, none⟩ = some (.int .u64 (ver : Int)) := P1.out.cell 1
  have k1 : IntKind.u64.wrap ((ver : Int) + 1) = (a : Int) := by rw [IntKind.wrap_u64]; omega
  have n1 : ((c : Int) == 0) = false := beq_eq_false_iff_ne.2 (by omega)
  have HL := keepH (hL w1 hw1)
  have HK := keepH hK
  clear hp ha hL hK hc
  go_enter Try.func76, Try.ntmps76
  go_upto_region 4 with fail
  rw [← hw1]
  clear hw1 c2 f2
  go_wp2_with fail
  refine HL.out.mono ?_
  rintro e w ⟨rfl, hr⟩
  have HR := keepH hr
  have P2 := keepH (HK.out w hr)
  have d2 : w.cell? ⟨p, 2, none⟩ = some (.int .u8 3) := P2.out.cell 2
  clear hr d1 P1
  go_wp2_with fail
  go_ret
  exact ⟨by simp, HR.out⟩

set_option maxRecDepth 100000 in
theorem tell_now {W : World} {p q : Nat} {t : TypeId} {cam ver : Nat} {rest : List Value} (hp : Blk W p t (stpL cam ver 1 (.pointer (some ⟨q, 0, none⟩)) rest)) (V : Value) (R : World → Prop) (hS : Calls Try.prog 78 #[.pointer (some ⟨q, 0, none⟩), V] W fun e w => e = .returned (.bool true) ∧ R w) (hK : ∀ w, R w → Blk w p t (stpL cam ver 1 (.pointer (some ⟨q, 0, none⟩)) rest)) :
    Calls Try.prog 76 #[.pointer (some ⟨p, 0, none⟩), V] W fun e W' => e = .returned (.bool false) ∧ ∃ w, R w ∧ W' = w.setCell ⟨p, 2, none⟩ (.int .u8 2) := by
  have c2 : W.cell? ⟨p, 2, none⟩ = some (.int .u8 1) := hp.cell 2
  have c3 : W.cell? ⟨p, 3, none⟩ = some (.pointer (some ⟨q, 0, none⟩)) := hp.cell 3
  have HS := keepH hS
  have HK := keepH hK
  clear hp hS hK
  go_enter Try.func76, Try.ntmps76
  go_wp2_with fail
  refine HS.out.mono ?_
  rintro e w ⟨rfl, hr⟩
  have HR := keepH hr
  have P2 := keepH (HK.out w hr)
  have d2 : w.cell? ⟨p, 2, none⟩ = some (.int .u8 1) := P2.out.cell 2
  have f2 := P2.out.free 2
  have e3 : (w.setCell ⟨p, 2, none⟩ (.int .u8 2)).cell? ⟨p, 2, none⟩ = some (.int .u8 2) := (P2.out.set 2 (.int .u8 2)).cell 2
  clear hr c2 c3
  go_wp2_with fail
  go_ret
  exact ⟨by simp, w, HR.out, rfl⟩

set_option maxRecDepth 100000 in
set_option maxHeartbeats 1000000 in
theorem tell_cas {W : World} {p q : Nat} {t : TypeId} {cam ver st : Nat} {rest : List Value} (hp : Blk W p t (stpL cam ver 2 (.pointer (some ⟨q, 0, none⟩)) rest)) (hq : IsNow W q cam 2 st) (V : Value) (a : Nat) (ha : a = (ver + 1) % 18446744073709551616) (R : World → Prop) (hC : Calls Try.prog 79 #[V, .int .u64 (a : Int), .int .u64 0, .int .u64 (st : Int)] W.drew fun e w => (∃ b, e = .returned (.bool b)) ∧ R w) (hK : ∀ w, R w → Blk w p t (stpL cam ver 2 (.pointer (some ⟨q, 0, none⟩)) rest)) :
    Calls Try.prog 76 #[.pointer (some ⟨p, 0, none⟩), V] W fun e W' => e = .returned (.bool true) ∧ ∃ w, R w ∧ W' = w.setCell ⟨p, 2, none⟩ (.int .u8 3) := by
  have c1 : W.cell? ⟨p, 1, none⟩ = some (.int .u64 (ver : Int)) := hp.cell 1
  have c2 : W.cell? ⟨p, 2, none⟩ = some (.int .u8 2) := hp.cell 2
  have c3 : W.cell? ⟨p, 3, none⟩ = some (.pointer (some ⟨q, 0, none⟩)) := hp.cell 3
  have k1 : IntKind.u64.wrap ((ver : Int) + 1) = (a : Int) := by rw [IntKind.wrap_u64]; omega
  have HQ := keepH hq
  have HC := keepH hC
  have HK := keepH hK
  clear hp hC hK hq ha
  go_enter Try.func76, Try.ntmps76
  go_upto_region 11 with fail
  go_cut [] from 46 to 57 (fun wz => Hid (R wz))
  case first =>
    go_region_with (first | (go_at_call 80; refine (n_stamp q cam 2 st W.drew HQ.out).mono ?_; rintro e w1 ⟨rfl, rfl⟩) | (go_at_call 79; refine HC.out.mono ?_; rintro e w2 ⟨⟨b, rfl⟩, hr⟩))
    all_goals (try go_wp2_with fail)
    all_goals go_meet
    all_goals (first | exact hr | exact keepH hr)
  case rest =>
    obtain ⟨wz, hwz⟩ : ∃ wz, wz = wc := ⟨_, rfl⟩
    rw [← hwz] at hcut ⊢
    clear hwz
    have HR := hcut
    have P2 := keepH (HK.out wz HR.out)
    have d2 : wz.cell? ⟨p, 2, none⟩ = some (.int .u8 2) := P2.out.cell 2
    have f2 := P2.out.free 2
    have e3 : (wz.setCell ⟨p, 2, none⟩ (.int .u8 3)).cell? ⟨p, 2, none⟩ = some (.int .u8 3) := (P2.out.set 2 (.int .u8 3)).cell 2
    clear hcut c1 c2 c3
    go_wp2_with fail
    go_ret
    exact ⟨by simp, wz, HR.out, rfl⟩
end Go.Proofs.Ytadbgmcfjemkeaa
