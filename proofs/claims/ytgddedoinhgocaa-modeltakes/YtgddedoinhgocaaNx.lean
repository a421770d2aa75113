/- What comes in: calls, an operation, a handle, answers. -/
import Derived.Test.YtgddedoinhgocaaNw
import Derived.Test.YtgddedoinhgocaaNs
namespace Go.Proofs.Ytgddedoinhgocaa
open Go.RowKit Go.Joins Go.ChangeShapes Go.WideShapes Go.Deep
set_option linter.unusedVariables false

/-- An answer as it lies in memory. -/
structure AnsI where
  A : Ans
  p : Option Addr
  c : Nat
def AnsI.cs (y : AnsI) : List Value := [.int .i64 y.A.e, .bool y.A.f, .int .u64 (y.A.x : Int), .bool y.A.d, .int .u64 (y.A.h : Int), .slice y.p y.A.l.length y.c, .int .u64 (y.A.n : Int)]
structure AnsI.Ok (W : World) (y : AnsI) : Prop where
  ps : PairsAt W y.p y.A.l
  pl : y.A.l.length ≤ 9223372036854775807
  h : y.A.h < 18446744073709551616
def AnsAt (W : World) (p : Option Addr) (l : List AnsI) : Prop := l = [] ∨ ∃ bk off, p = some ⟨bk, off, none⟩ ∧ bk < W.heap.size ∧ ∀ (i : Nat) (y : AnsI), l[i]? = some y → y.Ok W ∧ ∀ j v, y.cs[j]? = some v → W.cell? ⟨bk, off + i * 7 + j, none⟩ = some v
theorem answer_open {H : Type} {enc : TypeId × Value → H} {W : World} {sp : Nat → Bool} {held : Bool} {fuel : Nat} {cs : List Value} {x : DataW H × List MemPlace} (hf : DataW.trod enc Try.prog W 0 sp held fuel 40 cs = some x) : (∃ y : AnsI, cs = y.cs ∧ y.Ok W) ∧ cs.length = 7 := by
  obtain ⟨er, fo, av, dn, ah, lp, lc, l, co, e, f_av, f_ah, f_l, f_co⟩ := open_40 hf
  exact ⟨⟨⟨⟨er, fo, av, dn, ah, l, co⟩, lp, lc⟩, e, ⟨f_l.1, by have := f_l.2; unfold maxLen at this; simp only; omega, f_ah⟩⟩, by rw [e]; rfl⟩
theorem answers_open {H : Type} {enc : TypeId × Value → H} {W : World} {sp : Nat → Bool} {held : Bool} {fuel : Nat} {cs : List Value} {x : DataW H × List MemPlace} (hf : DataW.trod enc Try.prog W 0 sp held fuel 30 cs = some x) : ∃ (p : Option Addr) (c : Nat) (l : List AnsI), cs = [.slice p l.length c] ∧ AnsAt W p l ∧ l.length ≤ 9223372036854775807 := by
  obtain ⟨p, n, c, hcs, _, hr⟩ := slice_rows (s := 7) (Q := fun cs => ∃ y : AnsI, cs = y.cs ∧ y.Ok W) Try.underlying30 co_40 (by decide) (fun fuel cs y hy => answer_open hy) hf
  have hl0 := slice_len Try.underlying30 hf hcs
  unfold maxLen at hl0
  rcases hr with rfl | ⟨bk, off, rfl, hb, hr⟩
  · exact ⟨p, c, [], hcs, .inl rfl, by simp⟩
  · obtain ⟨l, hl, hp⟩ := choose_list (P := fun i y => AnsI.Ok W y ∧ ∀ j v, y.cs[j]? = some v → W.cell? ⟨bk, off + i * 7 + j, none⟩ = some v) n (fun i hi => by
      obtain ⟨cs', ⟨y, rfl, hy⟩, hc⟩ := hr i hi
      exact ⟨y, hy, fun j v hj => by rw [Nat.add_assoc]; exact hc j v hj⟩)
    subst hl
    exact ⟨_, c, l, hcs, .inr ⟨bk, off, rfl, hb, hp⟩, by omega⟩
theorem AnsAt.get {W wr : World} {p : Option Addr} {l : List AnsI} (h : AnsAt W p l) (c : Chg (fun _ => False) W wr) {i : Nat} {y : AnsI} (hy : l[i]? = some y) : ∃ bk off, p = some ⟨bk, off, none⟩ ∧ y.Ok W ∧ ∀ j v, y.cs[j]? = some v → wr.cell? ⟨bk, off + i * 7 + j, none⟩ = some v := by
  rcases h with rfl | ⟨bk, off, rfl, hb, h⟩
  · simp at hy
  · obtain ⟨h1, h2⟩ := h i y hy
    exact ⟨bk, off, rfl, h1, fun j v hj => cell_chg c (h2 j v hj) (fun x => x)⟩
theorem co_22 : Try.prog.cellsOf 22 = 1 := by kernel_rfl
theorem co_30 : Try.prog.cellsOf 30 = 1 := by kernel_rfl
theorem co_32 : Try.prog.cellsOf 32 = 14 := by kernel_rfl
theorem asked_open {H : Type} {enc : TypeId × Value → H} {W : World} {sp : Nat → Bool} {held : Bool} {cs : Array Value} {d : DataW H} {ps : List MemPlace} (h : DataW.Trod enc Try.prog W 0 sp held 32 (.agg cs) d ps) (hw : ∀ m ∈ DataW.weights Try.prog 32 d, m ≤ reachBytes) :
    ∃ (Lp : Option Addr) (Lc : Nat) (L : List CallI) (y : OpI) (hn : Nat) (Xp : Option Addr) (Xc : Nat) (X : List AnsI), cs.toList = .slice Lp L.length Lc :: y.cs ++ [.int .u64 (hn : Int), .slice Xp X.length Xc] ∧ CallsAt W Lp L ∧ y.Ok W ∧ hn < 18446744073709551616 ∧ AnsAt W Xp X ∧ X.length ≤ 9223372036854775807 ∧ L.length * 192 ≤ reachBytes := by
  obtain ⟨fuel, hf⟩ := h
  obtain ⟨xs, n, hn', hx, hl, hlen, hh⟩ := DataW.trod_struct Try.underlying32 hf
  rw [co_32] at hl
  obtain ⟨y0, y1, y2, y3, rfl⟩ : ∃ y0 y1 y2 y3, xs = [y0, y1, y2, y3] := by
    match xs, (show xs.length = 4 from hlen) with
    | [a, b, c, d], _ => exact ⟨a, b, c, d, rfl⟩
  have h0 : DataW.trod enc Try.prog W 0 sp held n 22 ((cs.toList.drop 0).take (Try.prog.cellsOf 22)) = some y0 := hh 0 _ rfl
  have h1 : DataW.trod enc Try.prog W 0 sp held n 29 ((cs.toList.drop 1).take (Try.prog.cellsOf 29)) = some y1 := hh 1 _ rfl
  have h2 : DataW.trod enc Try.prog W 0 sp held n 24 ((cs.toList.drop 12).take (Try.prog.cellsOf 24)) = some y2 := hh 2 _ rfl
  have h3 : DataW.trod enc Try.prog W 0 sp held n 30 ((cs.toList.drop 13).take (Try.prog.cellsOf 30)) = some y3 := hh 3 _ rfl
  rw [co_22] at h0
  rw [co_29] at h1
  rw [co_24] at h2
  rw [co_30] at h3
  obtain ⟨Lp, Lc, L, e0, fL⟩ := calls_open h0
  obtain ⟨⟨y, e1, fy⟩, _⟩ := op_open h1
  obtain ⟨z, e2, _, wz⟩ := DataW.trod_int Try.underlying24 h2
  obtain ⟨hn, rfl, fh⟩ := nat_u64 wz
  obtain ⟨Xp, Xc, X, e3, fX, fl⟩ := answers_open h3
  have s0 := cut_next e0
  have s1 := cut_next e1
  have s2 := cut_next e2
  have s3 := cut_next e3
  have z : cs.toList.drop (13 + 1) = [] := List.drop_eq_nil_of_le (by have : cs.toList.length = 14 := hl; omega)
  rw [z] at s3
  rw [s3] at s2
  rw [s2] at s1
  rw [s1] at s0
  have ec : cs.toList = _ := (List.drop_zero (l := cs.toList)).symm.trans s0
  simp only [Prod.mk.injEq] at hx
  have HW : (DataW.weightsEach Try.prog [22, 29, 24, 30] [y0.1, y1.1, y2.1, y3.1]).all (· ≤ reachBytes) = true := by
    rw [List.all_eq_true]
    intro m hm
    have q := hw m (by rw [hx.1]; simpa [DataW.weights, Try.underlying32] using hm)
    simpa using q
  have z0 := slice_size (j := 0) Try.underlying22 (show DataW.Trod enc Try.prog W 0 sp held 22 (.slice Lp L.length Lc) y0.1 y0.2 from ⟨n, by rw [e0] at h0; simpa [Value.cells] using h0⟩) HW rfl rfl
  rw [bytesCall] at z0
  exact ⟨Lp, Lc, L, y, hn, Xp, Xc, X, by rw [ec]; simp, fL, fy, fh, fX, fl, z0⟩
end Go.Proofs.Ytgddedoinhgocaa
