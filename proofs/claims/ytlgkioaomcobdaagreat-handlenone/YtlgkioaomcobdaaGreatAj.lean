/- What must be whatever is asked (layer 13). -/
import Derived.Test.YtlgkioaomcobdaaGreatAi
namespace Go.Proofs.YtlgkioaomcobdaaGreat
open Go.RowKit Go.Shelf
set_option linter.unusedVariables false

theorem SR.new0 {W W1 : World} {most : Nat} {th : Int} (M1 : IsMem W1 (W.heap.size + 1) W.heap.size) (B1 : Bank W1 (fun k => k = W.heap.size) W.heap.size most 1 [] []) (C1 : Chg (fun _ => False) W W1) (S1 : W1.heap.size = W.heap.size + 2) :
    SR W (W.heap.size + 1) W.heap.size W1.heap.size th most (W1.alloc (.cells #[.iface 61 (.pointer (some ⟨W.heap.size, 0, none⟩)), .int .i64 th, .int .i64 0] 64)) 1 0 [] 0 (fun _ => False) :=
  ⟨_, _, St.new0 M1 B1 C1 S1, rfl, fun _ x => x.elim⟩
theorem SR.make {W : World} {m b v : Nat} {th : Int} {most : Nat} {w : World} {next made : Nat} {cs : List Nat} {k : Nat} {D : Nat → Prop} (h : SR W m b v th most w next made cs k D) (cam n mst : Nat) (h1 : 1 ≤ n) (h2 : n ≤ 256) (h3 : 1 ≤ mst) (h4 : mst ≤ 1099511627776) (ha : alAt most next n ≠ 0) (hm : made < 1099511627776) (hk : k < 1099511627776) :
    Calls Tryz.prog 19 #[.pointer (some ⟨v, 0, none⟩), .int .u64 (cam : Int), .int .i64 (n : Int), .int .u64 (mst : Int)] w fun e w' => e = .returned (.tuple #[.agg #[.int .u64 (cam : Int), .int .u64 (alAt most next n : Int), .int .i64 (n : Int), .int .u64 (mst : Int)], .int .i64 0]) ∧ SR W m b v th most w' (alNext most next n) (made + 1) (alN most next cs (List.replicate n 0)) (k + 1) D ∧ Kept D w w' := by
  have hl : (List.replicate n 0).length = n := by simp
  have c0 := h.alloc (.cells #[.int .u64 0, .int .u64 0, .int .i64 0, .int .u64 0] 24)
  refine (a_make _ v rfl cam n mst _ h1 h2 h3 h4 ha w (fun w1 => SR W m b v th most w1 (alNext most next n) (made + 1) (alN most next cs (List.replicate n 0)) (k + 1) (fun k => D k ∨ k = w.heap.size) ∧ Kept D w w1) ?_).mono ?_
  · have z := c0.aloc (List.replicate n 0) (w.heap.size + 1) n (by simp) (fun x hx => by rw [List.eq_of_mem_replicate hx]; omega) (by rw [hl]; omega) hm hk
    rw [hl] at z
    refine z.mono ?_
    rintro e w1 ⟨rfl, S, K⟩
    exact ⟨rfl, ⟨S, fun i hi => (K i (.inl hi)).trans (Below.heap_alloc _ _ _ (h.lt i hi))⟩, (K _ (.inr rfl)).trans (heap_alloc_new _ _)⟩
  · rintro e w2 ⟨rfl, w1, ⟨S, K⟩, C⟩
    refine ⟨rfl, (S.put C (fun i e => .inr e)).mono (fun i e => .inl e), fun i hi => (C.block i (S.lt i (.inl hi)) (fun e => ?_)).trans (K i hi)⟩
    have := h.lt i hi
    omega
end Go.Proofs.YtlgkioaomcobdaaGreat
