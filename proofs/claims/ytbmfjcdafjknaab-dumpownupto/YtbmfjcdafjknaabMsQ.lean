/- Two pairs held against each other. -/
import Derived.Test.YtbmfjcdafjknaabPrO
import Derived.MapViews
import Derived.DeepKeys4
namespace Go.Proofs.Ytbmfjcdafjknaab
open Go.RowKit Go.Joins
theorem wf_u64 {n : Nat} (h : n < 18446744073709551616) : (Lit.int .u64 (n : Int)).wf = true := by
  have e1 : IntKind.u64.min = 0 := by decide
  have e2 : IntKind.u64.max = 18446744073709551615 := by decide
  simp [Lit.wf, e1, e2]
  omega
theorem trod_u (n : Nat) (h : n < 18446744073709551616) (w : World) : ∃ m, DataW.trod (H := Unit) (fun _ => ()) Try.prog w 0 (fun _ => true) true m 57 [.int .u64 (n : Int)] = some (.lit (.int .u64 (n : Int)), []) :=
  ⟨1, by simp [DataW.trod, Try.underlying57, wf_u64 h]⟩
theorem pair_key (a b : Nat) (ha : a < 18446744073709551616) (hb : b < 18446744073709551616) (w : World) : ∃ l, keyOf Try.prog 59 (.agg #[.int .u64 (a : Int), .int .u64 (b : Int)]) = some l := by
  have t := shut_agg2 (enc := fun _ => ()) (P := Try.prog) (w := w) (base := 0) (spare := fun _ => true) (held := true) Try.underlying59 (by kernel_rfl) (by kernel_rfl) (trod_u a ha w) (trod_u b hb w)
  exact ⟨_, (keyOf_asKey (by kernel_rfl) (by kernel_rfl) (by kernel_rfl) t).1⟩
set_option maxRecDepth 100000 in
theorem pair_eql (a b c d : Nat) (ha : a < 18446744073709551616) (hb : b < 18446744073709551616) (hc : c < 18446744073709551616) (hd : d < 18446744073709551616) (w : World) :
    (Op.equal 59 (.agg #[.int .u64 (a : Int), .int .u64 (b : Int)]) (.agg #[.int .u64 (c : Int), .int .u64 (d : Int)])).run Try.prog w = .ok (decide ((a, b) = (c, d))) w := by
  obtain ⟨l, hl⟩ := pair_key a b ha hb w
  obtain ⟨l', hl'⟩ := pair_key c d hc hd w
  obtain ⟨r, hr, hi⟩ := run_equal_deep (P := Try.prog) w (m := 3) (by omega) (by kernel_rfl) (by kernel_rfl) hl hl'
  rw [hr]
  congr 1
  by_cases e : (a, b) = (c, d)
  · simp only [Prod.mk.injEq] at e
    obtain ⟨rfl, rfl⟩ := e
    rw [hl] at hl'
    simp only [Option.some.injEq] at hl'
    simp [hi.2 hl']
  · have h1 : ¬ r = true := fun h => by
      have h2 := hi.1 h
      subst h2
      have h3 := keyOf_inj_deep (P := Try.prog) (m := 3) (by kernel_rfl) (by kernel_rfl) hl hl'
      simp at h3
      exact e (by simp; omega)
    simp [e, h1]
set_option maxRecDepth 100000 in
theorem pair_neq (a b c d : Nat) (ha : a < 18446744073709551616) (hb : b < 18446744073709551616) (hc : c < 18446744073709551616) (hd : d < 18446744073709551616) (w : World) :
    (binOp .neq 59 (.agg #[.int .u64 (a : Int), .int .u64 (b : Int)]) (.agg #[.int .u64 (c : Int), .int .u64 (d : Int)])).run Try.prog w = .ok (.bool (!decide ((a, b) = (c, d)))) w := by
  have h := pair_eql a b c d ha hb hc hd w
  simp only [binOp, go_sem]
  simp [h, Result.andThen]
end Go.Proofs.Ytbmfjcdafjknaab
