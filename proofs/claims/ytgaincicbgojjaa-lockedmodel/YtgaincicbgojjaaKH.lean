/- The document's error for a config. -/
import Derived.Test.YtgaincicbgojjaaKG
namespace Go.Proofs.Ytgaincicbgojjaa
open Go.RowKit Go.Maps
set_option linter.unusedVariables false

set_option maxRecDepth 100000 in
theorem r25_no (a b c d : Int) (h : takesP a b c = false ∨ d < 1 ∨ 1024 < d) (W : World) : Calls Try.prog 10 #[.agg #[.int .i64 a, .int .i64 b, .int .u64 c, .int .i64 d]] W fun e W' => e = .returned (.tuple #[.pointer none, .int .i64 2]) ∧ Chg (fun _ => False) W W' := by
  by_cases h0 : a < 128
  · clear h
    go_enter Try.func10, Try.ntmps10
    go_wp2_with fail
    (try simp only [Exit.inBlock, Exit.then])
    go_ret2
    exact ⟨rfl, (Chg.refl _ _).alloc _⟩
  by_cases h1 : 4194304 < a
  · clear h
    go_enter Try.func10, Try.ntmps10
    go_wp2_with fail
    (try simp only [Exit.inBlock, Exit.then])
    go_ret2
    exact ⟨rfl, (Chg.refl _ _).alloc _⟩
  by_cases h2 : b < 1
  · clear h
    go_enter Try.func10, Try.ntmps10
    go_wp2_with fail
    (try simp only [Exit.inBlock, Exit.then])
    go_ret2
    exact ⟨rfl, (Chg.refl _ _).alloc _⟩
  by_cases h3 : 256 < b
  · clear h
    go_enter Try.func10, Try.ntmps10
    go_wp2_with fail
    (try simp only [Exit.inBlock, Exit.then])
    go_ret2
    exact ⟨rfl, (Chg.refl _ _).alloc _⟩
  by_cases h4 : c < 1
  · clear h
    go_enter Try.func10, Try.ntmps10
    go_wp2_with fail
    (try simp only [Exit.inBlock, Exit.then])
    go_ret2
    exact ⟨rfl, (Chg.refl _ _).alloc _⟩
  by_cases h5 : 1099511627776 < c
  · clear h
    go_enter Try.func10, Try.ntmps10
    go_wp2_with fail
    (try simp only [Exit.inBlock, Exit.then])
    go_ret2
    exact ⟨rfl, (Chg.refl _ _).alloc _⟩
  by_cases h6 : d < 1
  · clear h
    go_enter Try.func10, Try.ntmps10
    go_wp2_with fail
    (try simp only [Exit.inBlock, Exit.then])
    go_ret2
    exact ⟨rfl, (Chg.refl _ _).alloc _⟩
  by_cases h7 : 1024 < d
  · clear h
    go_enter Try.func10, Try.ntmps10
    go_wp2_with fail
    (try simp only [Exit.inBlock, Exit.then])
    go_ret2
    exact ⟨rfl, (Chg.refl _ _).alloc _⟩
  exfalso
  have : takesP a b c = true := by unfold takesP; simp; omega
  rw [this] at h
  rcases h with h | h | h
  · cases h
  · omega
  · omega
end Go.Proofs.Ytgaincicbgojjaa
