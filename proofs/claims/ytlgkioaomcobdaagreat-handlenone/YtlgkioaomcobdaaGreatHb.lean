/- The handles that hold: of no memory, and of two slots the first of which holds. -/
import Derived.Test.YtlgkioaomcobdaaGreatHa
import Derived.Laws.MakeOwn
import Derived.Laws.OwnMore
namespace Go.Proofs.YtlgkioaomcobdaaGreat
open Go.RowKit Go.Shelf
set_option linter.unusedVariables false

set_option maxRecDepth 100000 in
theorem len64_0 (W : World) : Calls Tryz.prog 59 #[.int .u64 0] W fun e W' => (∃ k : Int, e = .returned (.int .i64 k)) ∧ W' = W := by
  go_enter Tryz.func59, Tryz.ntmps59
  go_wp2_with fail
  go_ret
  exact ⟨⟨_, rfl⟩, rfl⟩
set_option maxRecDepth 100000 in
theorem len64_1 (W : World) : Calls Tryz.prog 59 #[.int .u64 1] W fun e W' => (∃ k : Int, e = .returned (.int .i64 k)) ∧ W' = W := by
  go_enter Tryz.func59, Tryz.ntmps59
  go_wp2_with fail
  go_ret
  exact ⟨⟨_, rfl⟩, rfl⟩
set_option maxRecDepth 100000 in
theorem len_0 (W : World) : Calls Tryz.prog 44 #[.int .u64 0] W fun e W' => (∃ k : Int, e = .returned (.int .i64 k)) ∧ W' = W := by
  go_enter Tryz.func44, Tryz.ntmps44
  go_wp2_with fail
  refine (len64_0 _).mono ?_
  rintro e W' ⟨⟨k, rfl⟩, rfl⟩
  go_wp2_with fail
  go_ret
  exact ⟨⟨k, by simp⟩, rfl⟩
set_option maxRecDepth 100000 in
theorem len_1 (W : World) : Calls Tryz.prog 44 #[.int .u64 1] W fun e W' => (∃ k : Int, e = .returned (.int .i64 k)) ∧ W' = W := by
  go_enter Tryz.func44, Tryz.ntmps44
  go_wp2_with fail
  refine (len64_1 _).mono ?_
  rintro e W' ⟨⟨k, rfl⟩, rfl⟩
  go_wp2_with fail
  go_ret
  exact ⟨⟨k, by simp⟩, rfl⟩
set_option maxRecDepth 100000 in
theorem ins_le1 (v : Value) (n : Nat) (hn : n ≤ 1) (W : World) : Calls Tryz.prog 49 #[v, .int .i64 0, .int .i64 (n : Int)] W fun e W' => e = .returned (.tuple #[]) ∧ W' = W := by
  have t1 : ¬ (1 : Int) < (n : Int) := by omega
  go_enter Tryz.func49, Tryz.ntmps49
  go_wp2_with fail
  go_loopw [6] (fun s6 wr => s6 = .int .i64 1 ∧ wr = W) (fun _ _ => 0)
  case atStart => exact ⟨rfl, rfl⟩
  case round =>
    obtain ⟨rfl, rfl⟩ := hrel
    go_wp2_with fail
    go_end0
    exact ⟨rfl, rfl⟩
set_option maxRecDepth 100000 in
theorem pdq_le1 (v : Value) (n : Nat) (hn : n ≤ 1) (k : Int) (W : World) : Calls Tryz.prog 43 #[v, .int .i64 0, .int .i64 (n : Int), .int .i64 k] W fun e W' => e = .returned (.tuple #[]) ∧ W' = W := by
  have t1 : (n : Int) ≤ 12 := by omega
  go_enter Tryz.func43, Tryz.ntmps43
  go_wp2_with fail
  go_loopw [1, 2] (fun s1 s2 wr => s1 = .int .i64 0 ∧ s2 = .int .i64 (n : Int) ∧ wr = W) (fun _ _ _ => 0)
  case atStart => exact ⟨rfl, rfl, rfl⟩
  case round =>
    obtain ⟨rfl, rfl, rfl⟩ := hrel
    go_wp2_with fail
    refine (ins_le1 v n hn _).mono ?_
    rintro e W' ⟨rfl, rfl⟩
    go_wp2_with fail
    exact bodyPost_ret (results_none rfl _ _ _) rfl ⟨rfl, rfl⟩
set_option maxRecDepth 100000 in
theorem sort_0 (W : World) : Calls Tryz.prog 28 #[.slice none 0 0] W fun e W' => e = .returned (.tuple #[]) ∧ W' = W := by
  go_enter Tryz.func28, Tryz.ntmps28
  go_wp2_with fail
  refine (len_0 _).mono ?_
  rintro e W' ⟨⟨k, rfl⟩, rfl⟩
  go_wp2_with fail
  refine (pdq_le1 _ 0 (by omega) k _).mono ?_
  rintro e W' ⟨rfl, rfl⟩
  go_wp2_with fail
  go_end0
  exact ⟨rfl, rfl⟩
set_option maxRecDepth 100000 in
theorem sort_1 (p : Option Addr) (c : Nat) (W : World) : Calls Tryz.prog 28 #[.slice p 1 c] W fun e W' => e = .returned (.tuple #[]) ∧ W' = W := by
  go_enter Tryz.func28, Tryz.ntmps28
  go_wp2_with fail
  refine (len_1 _).mono ?_
  rintro e W' ⟨⟨k, rfl⟩, rfl⟩
  go_wp2_with fail
  refine (pdq_le1 _ 1 (by omega) k _).mono ?_
  rintro e W' ⟨rfl, rfl⟩
  go_wp2_with fail
  go_end0
  exact ⟨rfl, rfl⟩
set_option maxRecDepth 100000 in
theorem live_nil (a b c : Nat) (n : Int) (W : World) : Calls Tryz.prog 13 #[.pointer none, .agg #[.int .u64 (a : Int), .int .u64 (b : Int), .int .i64 n, .int .u64 (c : Int)]] W fun e W' => e = .returned (.slice none 0 0) ∧ Chg (fun _ => False) W W' := by
  go_enter Tryz.func13, Tryz.ntmps13
  go_wp2_with fail
  refine (slots_nil a b c n _).mono ?_
  rintro e w1 ⟨rfl, C1⟩
  have HC : Hid (Chg (fun _ => False) W w1) := ((Chg.refl _ W).alloc (.cells #[.int .u64 (a : Int), .int .u64 (b : Int), .int .i64 n, .int .u64 (c : Int)] 24)).f C1
  clear C1
  go_wp2_with fail
  go_loopw [5, 14] (fun s5 s14 wr => s5 = .slice none 0 0 ∧ s14 = .int .i64 0 ∧ wr = w1) (fun _ _ _ => 0)
  case atStart => exact ⟨rfl, rfl, rfl⟩
  case round =>
    obtain ⟨rfl, rfl, rfl⟩ := hrel
    go_wp2_with fail
    refine (sort_0 _).mono ?_
    rintro e W' ⟨rfl, rfl⟩
    go_wp2_with fail
    go_ret
    exact ⟨by simp, HC.out⟩
end Go.Proofs.YtlgkioaomcobdaaGreat
