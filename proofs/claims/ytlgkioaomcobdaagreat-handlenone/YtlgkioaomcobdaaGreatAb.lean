/- Slots: the small words of package announce. -/
import Derived.Test.YtlgkioaomcobdaaGreatAw
import Derived.Test.YtlgkioaomcobdaaGreatVu
import Derived.Deep.MidRow
import Derived.Deep.Cut
import Derived.Deep.CutBlock
import Derived.Deep.DeepCutAuto
import Derived.Deep.RegionHeld3
namespace Go.Proofs.YtlgkioaomcobdaaGreat
open Go.RowKit Go.Shelf
set_option linter.unusedVariables false

def slotsL (cam fst : Nat) (cnt : Int) (mst : Nat) : List Value := [.int .u64 (cam : Int), .int .u64 (fst : Int), .int .i64 cnt, .int .u64 (mst : Int)]
def sumN (x n : Nat) : Nat := (x + n) % 18446744073709551616
theorem sumN_lt (x n : Nat) : sumN x n < 18446744073709551616 := Nat.mod_lt _ (by decide)
theorem wrap_sum (a b : Nat) : IntKind.u64.wrap ((a : Int) + (b : Int)) = (sumN a b : Int) := by rw [IntKind.wrap_u64]; simp [sumN]
theorem wrap_u (a : Nat) (h : a < 18446744073709551616) : IntKind.u64.wrap (a : Int) = (a : Int) := by rw [IntKind.wrap_u64]; omega

set_option maxRecDepth 100000 in
theorem a_cellof (cam fst slot mst : Nat) (cnt : Int) (W : World) (hs : slot < 9223372036854775808) :
    Calls Tryz.prog 42 #[.agg #[.int .u64 (cam : Int), .int .u64 (fst : Int), .int .i64 cnt, .int .u64 (mst : Int)], .int .i64 (slot : Int)] W fun e W' => e = .returned (.int .u64 (sumN fst slot : Int)) ∧ Chg (fun _ => False) W W' := by
  have w1 := wrap_u slot (by omega)
  have w2 := wrap_sum fst slot
  go_enter Tryz.func42, Tryz.ntmps42
  go_wp2_with fail
  go_ret
  exact ⟨by simp, (Chg.refl _ _).alloc _⟩

/-- A slot is of a kind and a generation. -/
theorem beq_t {a b : Nat} (h : a = b) : ((a : Int) == (b : Int)) = true := by simp [h]
theorem beq_f {a b : Nat} (h : a ≠ b) : ((a : Int) == (b : Int)) = false := by simp; omega
set_option maxRecDepth 100000 in
theorem a_says (k g s k2 g2 : Nat) (W : World) :
    Calls Tryz.prog 96 #[.agg #[.int .u8 (k : Int), .int .u64 (g : Int), .int .u64 (s : Int)], .int .u8 (k2 : Int), .int .u64 (g2 : Int)] W fun e W' => e = .returned (.bool (decide (k = k2 ∧ g = g2))) ∧ Chg (fun _ => False) W W' := by
  have hs : ((s : Int) == (s : Int)) = true := by simp
  by_cases e1 : k = k2
  · have b1 := beq_t e1
    by_cases e2 : g = g2
    · have b2 := beq_t e2
      have r : decide (k = k2 ∧ g = g2) = true := by simp [e1, e2]
      rw [r]
      clear r e1 e2
      go_enter Tryz.func96, Tryz.ntmps96
      go_wp2_with fail
      go_ret
      exact ⟨by simp, (Chg.refl _ _).alloc _⟩
    · have b2 := beq_f e2
      have r : decide (k = k2 ∧ g = g2) = false := by simp [e2]
      rw [r]
      clear r e1 e2
      go_enter Tryz.func96, Tryz.ntmps96
      go_wp2_with fail
      go_ret
      exact ⟨by simp, (Chg.refl _ _).alloc _⟩
  · have b1 := beq_f e1
    have r : decide (k = k2 ∧ g = g2) = false := by simp [e1]
    rw [r]
    clear r e1
    go_enter Tryz.func96, Tryz.ntmps96
    go_wp2_with fail
    go_ret
    exact ⟨by simp, (Chg.refl _ _).alloc _⟩

theorem w_unpack (x k g s : Nat) (hx : x < 18446744073709551616) (hk : k = x % 4) (hg : g = x / 4 % 1048576) (hs : s = x / 4194304) (W : World) :
    Calls Tryz.prog 39 #[.int .u64 (x : Int)] W fun e W' => e = .returned (.agg #[.int .u8 (k : Int), .int .u64 (g : Int), .int .u64 (s : Int)]) ∧ Chg (fun _ => False) W W' := by
  refine (unpack_any x W (by omega) (by omega)).mono ?_
  rintro e W' ⟨rfl, rfl⟩
  refine ⟨?_, (Chg.refl _ _).alloc _⟩
  have q1 : (x : Int) % 4 = (k : Int) := by omega
  have q2 : (x : Int) / 4 % 1048576 = (g : Int) := by omega
  have q3 : (x : Int) / 4194304 = (s : Int) := by omega
  rw [q1, q2, q3]

/-- A slot's word. -/
def wordN (k g s : Nat) : Nat := (k + 4 * (g % 1048576) + s * 4194304) % 18446744073709551616
theorem wordN_lt (k g s : Nat) : wordN k g s < 18446744073709551616 := Nat.mod_lt _ (by decide)
theorem w_pack (k g s : Nat) (hk : k < 4) (hg : g < 1048576) (hs : s ≤ 1099511627776) (W : World) :
    Calls Tryz.prog 105 #[.agg #[.int .u8 (k : Int), .int .u64 (g : Int), .int .u64 (s : Int)]] W fun e W' => e = .returned (.tuple #[.int .u64 ((k + g * 4 + s * 4194304 : Nat) : Int), .int .i64 0]) ∧ Chg (fun _ => False) W W' := by
  refine (pack_any k g s W (by omega) (by omega) (by omega) (by omega) (by omega) (by omega)).mono ?_
  rintro e W' ⟨rfl, rfl⟩
  refine ⟨twoInts ?_ ?_, (Chg.refl _ _).alloc _⟩
  · unfold packW
    (repeat' split) <;> omega
  · unfold packE
    (repeat' split) <;> omega
set_option maxRecDepth 100000 in
set_option maxHeartbeats 1000000 in
theorem a_wordof (k g s : Nat) (hk : k < 4) (hg : g < 18446744073709551616) (hs : s < 18446744073709551616) (W : World) :
    Calls Tryz.prog 98 #[.agg #[.int .u8 (k : Int), .int .u64 (g : Int), .int .u64 (s : Int)]] W fun e W' => e = .returned (.int .u64 (wordN k g s : Int)) ∧ Chg (fun _ => False) W W' := by
  have C0 : Hid (Chg (fun _ => False) W (W.alloc (.cells #[.int .u8 (k : Int), .int .u64 (g : Int), .int .u64 (s : Int)] 46))) := (Chg.refl _ _).alloc _
  obtain ⟨w0, hw0⟩ : ∃ w0, w0 = W.alloc (.cells #[.int .u8 (k : Int), .int .u64 (g : Int), .int .u64 (s : Int)] 46) := ⟨_, rfl⟩
  have b0 : w0.heap[W.heap.size]? = some (.cells #[.int .u8 (k : Int), .int .u64 (g : Int), .int .u64 (s : Int)] 46 (0, 0)) := by rw [hw0]; exact heap_alloc_new _ _
  rw [← hw0] at C0
  have c0 : w0.cell? ⟨W.heap.size, 0, none⟩ = some (.int .u8 (k : Int)) := cell_of b0 0
  have c1 : w0.cell? ⟨W.heap.size, 1, none⟩ = some (.int .u64 (g : Int)) := cell_of b0 1
  have HB := keepH b0
  clear b0
  obtain ⟨gm, hgm⟩ : ∃ gm, gm = g % 1048576 := ⟨_, rfl⟩
  have m1 : (g : Int) % 1048576 = (gm : Int) := by omega
  have hgl : gm < 1048576 := by omega
  have HGM : Hid (gm = g % 1048576) := hgm
  clear hgm
  go_enter Tryz.func98, Tryz.ntmps98
  go_upto_region 1 with fail
  rw [← hw0]
  clear hw0
  go_wp2_with fail
  refine (w_pack k gm 0 hk hgl (by omega) _).mono ?_
  rintro e w1 ⟨rfl, C1⟩
  have HB1 := keepH ((C1.block _ (lt_of HB.out) (fun x => x)).trans HB.out)
  have HC1 := keepH (C0.out.trans C1 (H := fun _ => False) (fun _ _ x => x) (fun _ _ x => x))
  clear C1 HB C0 c0 c1
  go_wp2_with fail
  refine (w_pack 0 0 1 (by omega) (by omega) (by omega) _).mono ?_
  rintro e w2 ⟨rfl, C2⟩
  have HB2 := keepH ((C2.block _ (lt_of HB1.out) (fun x => x)).trans HB1.out)
  have HC2 := keepH (HC1.out.trans C2 (H := fun _ => False) (fun _ _ x => x) (fun _ _ x => x))
  clear C2 HB1 HC1
  have c2 : w2.cell? ⟨W.heap.size, 2, none⟩ = some (.int .u64 (s : Int)) := cell_of HB2.out 2
  obtain ⟨B, hB⟩ : ∃ B, B = (s * 4194304) % 18446744073709551616 := ⟨_, rfl⟩
  have t1 : IntKind.u64.wrap ((s : Int) * 4194304) = (B : Int) := by rw [IntKind.wrap_u64]; omega
  have t2 : IntKind.u64.wrap ((k : Int) + (gm : Int) * 4 + (B : Int)) = (wordN k g s : Int) := by
    have := HGM.out
    rw [IntKind.wrap_u64]
    unfold wordN
    omega
  clear m1 hB
  go_wp2_with fail
  go_ret
  exact ⟨by simp, HC2.out⟩

set_option maxRecDepth 100000 in
theorem sn_end {W : World} {p : Nat} {t : TypeId} {l : List Value} (hp : Blk W p t l) {a b : Value} (h4 : l[4]? = some a) (h12 : l[12]? = some b) (err : Int) :
    Calls Tryz.prog 95 #[.pointer (some ⟨p, 0, none⟩), .int .i64 err] W fun e W' => e = .returned (.tuple #[]) ∧ Blk W' p t ((l.set 12 (.int .i64 err)).set 4 (.int .u8 8)) ∧ Chg (fun k => k = p) W W' := by
  have c12 : W.cell? ⟨p, 12, none⟩ = some b := (hp.cell 12).trans h12
  have c4 : W.cell? ⟨p, 4, none⟩ = some a := (hp.cell 4).trans h4
  have f12 := hp.free 12
  have P1 := hp.set 12 (.int .i64 err)
  have c4' : (W.setCell ⟨p, 12, none⟩ (.int .i64 err)).cell? ⟨p, 4, none⟩ = some a := (P1.cell 4).trans (by simp [h4])
  have f4 := P1.free 4
  have HP := keepH (P1.set 4 (.int .u8 8))
  clear hp P1
  go_enter Tryz.func95, Tryz.ntmps95
  go_wp2_with fail
  go_end0
  exact ⟨rfl, HP.out, (setP _).trans (setP _) (fun _ _ x => x) (fun _ _ x => x)⟩
end Go.Proofs.YtlgkioaomcobdaaGreat
