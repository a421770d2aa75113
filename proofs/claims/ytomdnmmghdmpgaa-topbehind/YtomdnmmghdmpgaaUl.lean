/- xorshift. -/
import Derived.Test.YtomdnmmghdmpgaaUk
import Derived.Laws.Closers25b
import Derived.Laws.Bits64b
namespace Go.Proofs.Ytomdnmmghdmpgaa
open Go.RowKit Go.Lib
set_option linter.unusedVariables false

theorem bits_is (op : BinOp) (a b : Int) : ∃ r : Nat, bits op .u64 a b = (r : Int) ∧ r < 18446744073709551616 := by
  have h1 := bits_lo_u64 op a b
  have h2 := bits_hi_u64 op a b
  exact ⟨(bits op .u64 a b).toNat, by omega, by omega⟩
set_option maxRecDepth 100000 in
set_option maxHeartbeats 4000000 in
theorem xor_s {W : World} {p x : Nat} (hp : Blk W p 105 [.int .u64 (x : Int)]) : Calls Try.prog 62 #[.pointer (some ⟨p, 0, none⟩)] W fun e W' => (∃ r : Nat, e = .returned (.int .u64 (r : Int)) ∧ r < 18446744073709551616 ∧ Blk W' p 105 [.int .u64 (r : Int)]) ∧ Chg (fun k => k = p) W W' := by
  obtain ⟨x1, e1, _⟩ := bits_is .xor (x : Int) (IntKind.u64.wrap ((x : Int) * 8192))
  obtain ⟨x2, e2, _⟩ := bits_is .xor (x1 : Int) ((x1 : Int) / 128)
  obtain ⟨x3, e3, h3⟩ := bits_is .xor (x2 : Int) (IntKind.u64.wrap ((x2 : Int) * 131072))
  have H3 := keepH h3
  have E2 := keepH e2
  have E3 := keepH e3
  have HP := keepH hp
  have HC : Hid (Chg (fun k => k = p) W W) := Chg.refl _ _
  have c0 : W.cell? ⟨p, 0, none⟩ = some (.int .u64 (x : Int)) := hp.cell 0
  have f0 := hp.free 0
  clear hp h3 e2 e3
  go_enter Try.func62, Try.ntmps62
  obtain ⟨w1, hw1⟩ : ∃ z : World, z = (W.setCell ⟨p, 0, none⟩ (.int .u64 (x1 : Int))).drew := ⟨_, rfl⟩
  have HB1 : Hid (Blk w1 p 105 [.int .u64 (x1 : Int)]) := by rw [hw1]; exact (HP.out.set 0 (.int .u64 (x1 : Int))).chg (F := fun _ => False) (Chg.refl _ _).drew (fun x => x)
  have HC1 : Hid (Chg (fun k => k = p) W w1) := by rw [hw1]; exact (HC.out.p (setP _)).pf (Chg.refl _ _).drew
  go_upto_region 1 with fail
  go_region
  all_goals (
  rw [← hw1]
  clear hw1 c0 f0 e1 HP
  have c0 : w1.cell? ⟨p, 0, none⟩ = some (.int .u64 (x1 : Int)) := HB1.out.cell 0
  have f0 := HB1.out.free 0
  have e1 := E2.out
  obtain ⟨w2, hw2⟩ : ∃ z : World, z = (w1.setCell ⟨p, 0, none⟩ (.int .u64 (x2 : Int))).drew := ⟨_, rfl⟩
  have HB2 : Hid (Blk w2 p 105 [.int .u64 (x2 : Int)]) := by rw [hw2]; exact (HB1.out.set 0 (.int .u64 (x2 : Int))).chg (F := fun _ => False) (Chg.refl _ _).drew (fun x => x)
  have HC2 : Hid (Chg (fun k => k = p) W w2) := by rw [hw2]; exact (HC1.out.p (setP _)).pf (Chg.refl _ _).drew
  go_upto_region 2 with fail
  go_region
  all_goals (
  rw [← hw2]
  clear hw2 c0 f0 e1 HB1
  have c0 : w2.cell? ⟨p, 0, none⟩ = some (.int .u64 (x2 : Int)) := HB2.out.cell 0
  have f0 := HB2.out.free 0
  have e1 := E3.out
  obtain ⟨w3, hw3⟩ : ∃ z : World, z = (w2.setCell ⟨p, 0, none⟩ (.int .u64 (x3 : Int))).drew := ⟨_, rfl⟩
  have HB3 : Hid (Blk w3 p 105 [.int .u64 (x3 : Int)]) := by rw [hw3]; exact (HB2.out.set 0 (.int .u64 (x3 : Int))).chg (F := fun _ => False) (Chg.refl _ _).drew (fun x => x)
  have HC3 : Hid (Chg (fun k => k = p) W w3) := by rw [hw3]; exact (HC2.out.p (setP _)).pf (Chg.refl _ _).drew
  go_upto_region 3 with fail
  go_region
  all_goals (
  rw [← hw3]
  clear hw3 c0 f0 e1 HB2
  have c0 : w3.cell? ⟨p, 0, none⟩ = some (.int .u64 (x3 : Int)) := HB3.out.cell 0
  have f0 := HB3.out.free 0
  go_wp2_with fail
  exact bodyPost_ret (results_tmp rfl _ _ _) rfl ⟨⟨x3, rfl, H3.out, HB3.out⟩, HC3.out⟩)))
end Go.Proofs.Ytomdnmmghdmpgaa
