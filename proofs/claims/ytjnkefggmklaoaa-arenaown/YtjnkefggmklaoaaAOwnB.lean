/- The size of a list of uint64s that came in; the list. -/
import Derived.Test.YtjnkefggmklaoaaRows
import Derived.WalkKit
import Derived.ProofKit
import Derived.OpenShut
import Derived.SizedLaws
import Derived.Test.YtjnkefggmklaoaaArgs
namespace Go.Proofs.Ytjnkefggmklaoaa
open Go.RowKit Go.Joins Go.ChangeShapes Go.WideShapes Go.Deep

theorem slice_size {H : Type} {enc : TypeId × Value → H} {W : World} {sp : Nat → Bool} {held : Bool} {p : Option Addr} {n c : Nat} {d : DataW H} {ps : List MemPlace} {T E : TypeId} {ts : List TypeId} {ds : List (DataW H)} {j : Nat} (hT : Try.prog.underlying T = some (.slice E)) (h : DataW.Trod enc Try.prog W 0 sp held T (.slice p n c) d ps)
    (hsz : (DataW.weightsEach Try.prog ts ds).all (· ≤ reachBytes) = true) (ht : ts[j]? = some T) (hd : ds[j]? = some d) : n * Try.prog.bytesOf E ≤ reachBytes := by
  obtain ⟨fuel, hf⟩ := h
  rcases open_slice hT hf with ⟨hcs, _⟩ | ⟨a, len, cap, m, k, D, Pl, hcs, _, hl, hm, hme, hx, hi⟩
  · simp [Value.cells] at hcs
    obtain ⟨rfl, rfl, rfl⟩ := hcs
    simp
  · simp [Value.cells] at hcs
    obtain ⟨rfl, rfl, rfl⟩ := hcs
    simp only [Prod.mk.injEq] at hx
    rw [hx.1] at hd
    have sz := sized_slice hsz ht hd hT
    refine Nat.le_trans (Nat.mul_le_mul_right _ ?_) sz
    simp
theorem slice_cap {H : Type} {enc : TypeId × Value → H} {W : World} {sp : Nat → Bool} {held : Bool} {p : Option Addr} {n c : Nat} {d : DataW H} {ps : List MemPlace} {T E : TypeId} (hT : Try.prog.underlying T = some (.slice E)) (h : DataW.Trod enc Try.prog W 0 sp held T (.slice p n c) d ps) : n ≤ c := by
  obtain ⟨fuel, hf⟩ := h
  rcases open_slice hT hf with ⟨hcs, _⟩ | ⟨a, len, cap, m, k, D, Pl, hcs, _, hl, hm, hme, hx, hi⟩
  · simp [Value.cells] at hcs
    obtain ⟨rfl, rfl, rfl⟩ := hcs
    simp
  · simp [Value.cells] at hcs
    obtain ⟨rfl, rfl, rfl⟩ := hcs
    exact hl
theorem bytesU : Try.prog.bytesOf 28 = 8 := by kernel_rfl
theorem u64s_open {H : Type} {enc : TypeId × Value → H} {W : World} {sp : Nat → Bool} {held : Bool} {p : Option Addr} {n c : Nat} {d : DataW H} {ps : List MemPlace} (h : DataW.Trod enc Try.prog W 0 sp held 29 (.slice p n c) d ps) :
    ∃ vals : List Nat, vals.length = n ∧ Reads W p vals ∧ (∀ v ∈ vals, v < 18446744073709551616) ∧ ∀ q, p = some q → vals ≠ [] → q.block < W.heap.size := by
  obtain ⟨fuel, hf⟩ := h
  obtain ⟨p', c', vals, hcs, hr, hv, hl, _⟩ := u64s_cells hf
  simp [Value.cells] at hcs
  obtain ⟨rfl, rfl, rfl⟩ := hcs
  exact ⟨vals, rfl, hr, hv, hl⟩
end Go.Proofs.Ytjnkefggmklaoaa
