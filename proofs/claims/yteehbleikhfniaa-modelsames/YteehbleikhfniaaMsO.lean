/- An answer that comes in. -/
import Derived.Test.YteehbleikhfniaaMsY
import Derived.SizedLaws
namespace Go.Proofs.Yteehbleikhfniaa
open Go.RowKit Go.Joins Go.ChangeShapes Go.WideShapes Go.Deep
set_option linter.unusedVariables false

theorem slice_size {H : Type} {enc : TypeId × Value → H} {W : World} {sp : Nat → Bool} {held : Bool} {p : Option Addr} {n c : Nat} {d : DataW H} {ps : List MemPlace} {T E : TypeId} {ts : List TypeId} {ds : List (DataW H)} {j : Nat} (hT : Try.prog.underlying T = some (.slice E)) (h : DataW.Trod enc Try.prog W 0 sp held T (.slice p n c) d ps)
    (hsz : (DataW.weightsEach Try.prog ts ds).all (· ≤ reachBytes) = true) (ht : ts[j]? = some T) (hd : ds[j]? = some d) : n * Try.prog.bytesOf E ≤ reachBytes := by
  obtain ⟨fuel, hf⟩ := h
  rcases open_slice hT hf with ⟨hcs, _⟩ | ⟨a, len, cap, m, k, D, Pl, hcs, _, hl, hm, hme, hx, hi⟩
  · simp [Value.cells] at hcs
    obtain ⟨rfl, rfl, rfl⟩ := hcs
    simp
  · simp [Value.cells] at hcs
    obtain ⟨rfl, rfl, rfl⟩ := hcs
    simp only [Prod.mk.injEq] at hx
    rw [hx.1] at hd
    have sz := sized_slice hsz ht hd hT
    refine Nat.le_trans (Nat.mul_le_mul_right _ ?_) sz
    simp
theorem bytesPair : Try.prog.bytesOf 42 = 16 := by kernel_rfl
theorem list7 {α : Type} {cs : List α} (h : cs.length = 7) : ∃ c0 c1 c2 c3 c4 c5 c6, cs = [c0, c1, c2, c3, c4, c5, c6] := by
  match cs, h with
  | [c0, c1, c2, c3, c4, c5, c6], _ => exact ⟨c0, c1, c2, c3, c4, c5, c6, rfl⟩
theorem coA : Try.prog.cellsOf 26 = 7 := by kernel_rfl
theorem coB : Try.prog.cellsOf 4 = 1 := by kernel_rfl
theorem coE : Try.prog.cellsOf 22 = 1 := by kernel_rfl
theorem coPs : Try.prog.cellsOf 24 = 1 := by kernel_rfl
theorem pairs_cells {H : Type} {enc : TypeId × Value → H} {W : World} {sp : Nat → Bool} {held : Bool} {fuel : Nat} {c5 : Value} {y : DataW H × List MemPlace} (h : DataW.trod enc Try.prog W 0 sp held fuel 24 [c5] = some y) :
    ∃ (p : Option Addr) (c : Nat) (l : List (Nat × Nat)), c5 = .slice p l.length c ∧ PairsAt W p l ∧ l.length ≤ Rows.uptoBulk y.1 := by
  obtain ⟨p, n, c, hcs, hb, _⟩ := slice_rows (Q := fun cs => True) Try.underlying24 coPair (by decide) (fun fuel cs y hy => by
    obtain ⟨xs, n, rfl, rfl, hl, hlen, hh⟩ := DataW.trod_struct Try.underlying42 hy
    rw [coPair] at hl
    exact ⟨trivial, hl⟩) h
  simp at hcs
  subst hcs
  obtain ⟨l, hl, hP⟩ := pairs_open (d := y.1) (ps := y.2) ⟨fuel, by simpa [Value.cells] using h⟩
  subst hl
  exact ⟨p, c, l, rfl, hP, hb⟩
theorem ans_open {H : Type} {enc : TypeId × Value → H} {W : World} {sp : Nat → Bool} {held : Bool} {cs : Array Value} {d : DataW H} {ps : List MemPlace} (h : DataW.Trod enc Try.prog W 0 sp held 26 (.agg cs) d ps) :
    ∃ (e : Int) (f : Bool) (x : Nat) (dn : Bool) (hd : Nat) (p : Option Addr) (c : Nat) (l : List (Nat × Nat)) (n : Nat), cs = #[.int .i64 e, .bool f, .int .u64 (x : Int), .bool dn, .int .u64 (hd : Int), .slice p l.length c, .int .u64 (n : Int)] ∧ PairsAt W p l ∧ l.length ≤ Rows.uptoBulk d ∧ ((∀ m ∈ d.weights Try.prog 26, m ≤ reachBytes) → l.length * 16 ≤ reachBytes) := by
  obtain ⟨fuel, hf⟩ := h
  obtain ⟨xs, n, hn, hx, hl, hlen, hh⟩ := DataW.trod_struct Try.underlying26 hf
  subst hn
  rw [coA] at hl
  obtain ⟨c0, c1, c2, c3, c4, c5, c6, hc⟩ := list7 hl
  obtain ⟨y0, y1, y2, y3, y4, y5, y6, rfl⟩ := list7 (show xs.length = 7 from hlen)
  rw [hc] at hh
  have h0 : DataW.trod enc Try.prog W 0 sp held n 22 [c0] = some y0 := by have := hh 0 _ rfl; simpa [coE] using this
  have h1 : DataW.trod enc Try.prog W 0 sp held n 4 [c1] = some y1 := by have := hh 1 _ rfl; simpa [coB] using this
  have h2 : DataW.trod enc Try.prog W 0 sp held n 23 [c2] = some y2 := by have := hh 2 _ rfl; simpa [coU] using this
  have h3 : DataW.trod enc Try.prog W 0 sp held n 4 [c3] = some y3 := by have := hh 3 _ rfl; simpa [coB] using this
  have h4 : DataW.trod enc Try.prog W 0 sp held n 23 [c4] = some y4 := by have := hh 4 _ rfl; simpa [coU] using this
  have h5 : DataW.trod enc Try.prog W 0 sp held n 24 [c5] = some y5 := by have := hh 5 _ rfl; simpa [coPs] using this
  have h6 : DataW.trod enc Try.prog W 0 sp held n 23 [c6] = some y6 := by have := hh 6 _ rfl; simpa [coU] using this
  obtain ⟨e, e0, _, _⟩ := DataW.trod_int Try.underlying22 h0
  obtain ⟨f, e1, _⟩ := DataW.trod_bool Try.underlying4 h1
  obtain ⟨z2, e2, _, w2⟩ := DataW.trod_int Try.underlying23 h2
  obtain ⟨dn, e3, _⟩ := DataW.trod_bool Try.underlying4 h3
  obtain ⟨z4, e4, _, w4⟩ := DataW.trod_int Try.underlying23 h4
  obtain ⟨p, c, l, e5, hP, hb⟩ := pairs_cells h5
  obtain ⟨z6, e6, _, w6⟩ := DataW.trod_int Try.underlying23 h6
  obtain ⟨x, rfl, _⟩ := nat_u64 w2
  obtain ⟨hd, rfl, _⟩ := nat_u64 w4
  obtain ⟨nn, rfl, _⟩ := nat_u64 w6
  simp at e0 e1 e2 e3 e4 e6
  subst e0 e1 e2 e3 e4 e5 e6
  simp only [Prod.mk.injEq] at hx
  have q := bulk_mem (d := y5.1) (l := [y0.1, y1.1, y2.1, y3.1, y4.1, y5.1, y6.1]) (by simp)
  refine ⟨e, f, x, dn, hd, p, c, l, nn, ?_, hP, ?_, fun hw => ?_⟩
  · apply Array.ext'
    simpa [Value.cells] using hc
  · rw [hx.1]
    simp only [Rows.uptoBulk]
    simp at q ⊢
    omega
  · rw [← bytesPair]
    refine slice_size (d := y5.1) (ps := y5.2) (p := p) (c := c) (T := 24) (ts := [22, 4, 23, 4, 23, 24, 23]) (ds := [y0.1, y1.1, y2.1, y3.1, y4.1, y5.1, y6.1]) (j := 5) Try.underlying24 ⟨n, by simpa [Value.cells] using h5⟩ (List.all_eq_true.2 (fun m hm => ?_)) rfl rfl
    have q2 := hw m (by rw [hx.1]; simpa [DataW.weights, Try.underlying26] using hm)
    simpa using q2
end Go.Proofs.Yteehbleikhfniaa
