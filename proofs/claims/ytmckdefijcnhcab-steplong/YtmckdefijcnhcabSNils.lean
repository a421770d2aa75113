/- Calls of no runner and of no proc. -/
import Derived.Test.YtmckdefijcnhcabNils
import Derived.Test.YtmckdefijcnhcabSLive
namespace Go.Proofs.Ytmckdefijcnhcab
open Go.RowKit Go.Shelf

set_option maxRecDepth 100000 in
theorem nil_pick (th : Int) (W : World) : Calls Try.prog 33 #[.pointer none, .int .i64 th] W fun e W' => e = .returned (.bool false) ∧ W' = W := by
  go_enter Try.func33, Try.ntmps33
  go_wp2_with fail
  go_ret
  exact ⟨by simp, rfl⟩
set_option maxRecDepth 100000 in
theorem nil_finish (th : Int) (W : World) : Calls Try.prog 10 #[.pointer none, .int .i64 th] W fun e W' => e = .returned (.bool false) ∧ W' = W := by
  go_enter Try.func10, Try.ntmps10
  go_wp2_with fail
  go_ret
  exact ⟨by simp, rfl⟩
set_option maxRecDepth 100000 in
theorem nil_steps (W : World) : Calls Try.prog 11 #[.pointer none] W fun e W' => e = .returned (.int .i64 0) ∧ W' = W := by
  go_enter Try.func11, Try.ntmps11
  go_wp2_with fail
  go_ret
  exact ⟨by simp, rfl⟩
set_option maxRecDepth 100000 in
theorem nil_events (W : World) : Calls Try.prog 30 #[.pointer none] W fun e W' => e = .returned (.slice none 0 0) ∧ W' = W := by
  go_enter Try.func30, Try.ntmps30
  go_wp2_with fail
  go_ret
  exact ⟨by simp, rfl⟩
set_option maxRecDepth 100000 in
theorem nil_at (W : World) : Calls Try.prog 31 #[.pointer none] W fun e W' => e = .returned (.slice none 0 0) ∧ W' = W := by
  go_enter Try.func31, Try.ntmps31
  go_wp2_with fail
  go_ret
  exact ⟨by simp, rfl⟩
set_option maxRecDepth 100000 in
theorem nil_pending (W : World) : Calls Try.prog 32 #[.pointer none] W fun e W' => e = .returned (.slice none 0 0) ∧ W' = W := by
  go_enter Try.func32, Try.ntmps32
  go_wp2_with fail
  go_ret
  exact ⟨by simp, rfl⟩
set_option maxRecDepth 100000 in
theorem nil_done (W : World) : Calls Try.prog 13 #[.pointer none] W fun e W' => e = .returned (.bool false) ∧ W' = W := by
  go_enter Try.func13, Try.ntmps13
  go_wp2_with fail
  go_ret
  exact ⟨by simp, rfl⟩
set_option maxRecDepth 100000 in
theorem nil_lstep (v : Value) (W : World) : Calls Try.prog 28 #[.pointer none, v] W fun e W' => e = .returned (.bool true) ∧ W' = W := by
  go_enter Try.func28, Try.ntmps28
  go_wp2_with fail
  go_ret
  exact ⟨by simp, rfl⟩
set_option maxRecDepth 100000 in
theorem nil_lvalue (W : World) : Calls Try.prog 27 #[.pointer none] W fun e W' => e = .returned (.int .u64 0) ∧ W' = W := by
  go_enter Try.func27, Try.ntmps27
  go_wp2_with fail
  go_ret
  exact ⟨by simp, rfl⟩
set_option maxRecDepth 100000 in
theorem nil_rstep (v : Value) (W : World) : Calls Try.prog 20 #[.pointer none, v] W fun e W' => e = .returned (.bool true) ∧ ∃ q, W' = W.drewN q := by
  go_enter Try.func20, Try.ntmps20
  go_wp2_with fail
  go_quiet (fail)
  go_wp2_with fail
  go_ret
  exact ⟨by simp, _, rfl⟩
/-- Numbers that came in. -/
def CameI (W : World) (p : Option Addr) (n : Nat) (zs : Nat → Int) : Prop := n = 0 ∨ ∃ b off, p = some ⟨b, off, none⟩ ∧ b < W.heap.size ∧ n ≤ 9223372036854775807 ∧ ∀ j, j < n → W.cell? ⟨b, off + j, none⟩ = some (.int .i64 (zs j))
theorem CameI.chg {W W' : World} {p : Option Addr} {n : Nat} {zs : Nat → Int} (h : CameI W p n zs) (hc : Chg (fun _ => False) W W') : CameI W' p n zs := by
  rcases h with h | ⟨b, off, e, hb, hn, h⟩
  · exact .inl h
  · exact .inr ⟨b, off, e, Nat.lt_of_lt_of_le hb hc.size, hn, fun j hj => cell_chg hc (h j hj) (fun h => h)⟩

set_option maxRecDepth 100000 in
theorem nil_run (p : Option Addr) (n c : Nat) (zs : Nat → Int) (W : World) (h : CameI W p n zs) : Calls Try.prog 29 #[.pointer none, .slice p n c] W fun e W' => e = .returned (.tuple #[]) ∧ W' = W := by
  have H := keepH h
  clear h
  go_enter Try.func29, Try.ntmps29
  go_wp2_with fail
  go_loopw [8] (fun s wr => ∃ k : Nat, k ≤ n ∧ s = .int .i64 (k : Int) ∧ wr = W) (fun s _ => n - (intOf s).toNat)
  case atStart => exact ⟨0, by omega, rfl, rfl⟩
  case round =>
    obtain ⟨k, hk, rfl, rfl⟩ := hrel
    by_cases hlt : k < n
    · have t1 : (k : Int) < (n : Int) := by omega
      rcases H.out with h0 | ⟨b, off, rfl, hb, hn, hc⟩
      · omega
      · have c1 := hc k hlt
        clear hc
        go_wp2_with fail
        refine (nil_pick _ _).mono ?_
        rintro e w' ⟨rfl, rfl⟩
        go_wp2_with fail
        go_roundw
        case rel => exact ⟨k + 1, by omega, by go_num, by first | trivial | rfl⟩
        case measure => simp [intOf]; omega
    · obtain rfl : n = k := by omega
      go_wp2_with fail
      go_end0
      exact ⟨rfl, rfl⟩

set_option maxRecDepth 100000 in
theorem alone_nil (v : Value) (most : Int) (W : World) : Calls Try.prog 18 #[v, .nilIface, .int .i64 most] W fun e W' => e = .returned (.bool (decide (1 ≤ most))) ∧ Chg (fun _ => False) W W' := by
  by_cases h : 1 ≤ most
  · have t1 : (0 : Int) < most := by omega
    go_enter Try.func18, Try.ntmps18
    go_wp2_with fail
    go_loopw [8] (fun s wr => s = .int .i64 0 ∧ wr = W) (fun _ _ => 0)
    case atStart => exact ⟨rfl, rfl⟩
    case round =>
      obtain ⟨rfl, rfl⟩ := hrel
      go_wp2_with fail
      refine (s_stepOf_nil v _).mono ?_
      rintro e w' ⟨rfl, hC⟩
      have HC := keepH hC
      clear hC
      go_wp2_with fail
      go_ret
      exact ⟨by simp [h], HC.out⟩
  · have t1 : ¬ (0 : Int) < most := by omega
    go_enter Try.func18, Try.ntmps18
    go_wp2_with fail
    go_loopw [8] (fun s wr => s = .int .i64 0 ∧ wr = W) (fun _ _ => 0)
    case atStart => exact ⟨rfl, rfl⟩
    case round =>
      obtain ⟨rfl, rfl⟩ := hrel
      go_wp2_with fail
      go_ret
      exact ⟨by simp [h], Chg.refl _ _⟩

set_option maxRecDepth 100000 in
theorem load_step_nil (p addr val : Nat) (W : World) (hp : IsLoad W p addr val false) : Calls Try.prog 28 #[.pointer (some ⟨p, 0, none⟩), .pointer none] W fun e W' => e = .returned (.bool true) ∧ IsLoad W' p addr 0 true ∧ Chg (fun k => k = p) W W' := by
  have c0 : W.cell? ⟨p, 0, none⟩ = some (.int .u64 (addr : Int)) := cell_of hp 0
  have c1 : W.cell? ⟨p, 1, none⟩ = some (.int .u64 (val : Int)) := cell_of hp 1
  have c2 : W.cell? ⟨p, 2, none⟩ = some (.bool false) := cell_of hp 2
  have f1 := free_of hp 1
  have f2 := free_of hp 2
  have HP := keepH hp
  clear hp
  go_enter Try.func28, Try.ntmps28
  go_wp2_with fail
  refine (nil_vload _ _).mono ?_
  rintro e w' ⟨rfl, rfl⟩
  go_wp2_with fail
  go_ret
  refine ⟨by simp, ?_, ((Chg.refl (fun k => k = p) w').setCell (p := ⟨p, 1, none⟩) (fun _ => rfl) _).setCell (p := ⟨p, 2, none⟩) (fun _ => rfl) _⟩
  have e := set_of (set_of HP.out 1 (.int .u64 0)) 2 (.bool true)
  exact e
end Go.Proofs.Ytmckdefijcnhcab
