/- What a run leaves, as its laws ask for it. -/
import Derived.Test.YtinhcphhdehmhaaCamX
namespace Go.Proofs.Ytinhcphhdehmhaa
open Go.RowKit Go.Shelf
set_option linter.unusedVariables false

theorem CallsAt.chg {W W' : World} {p : Option Addr} {c : List (Bool × Nat)} (h : CallsAt W p c) (hc : Chg (fun _ => False) W W') : CallsAt W' p c := by
  rcases h with h | ⟨bk, off, e, hb, h⟩
  · exact .inl h
  · refine .inr ⟨bk, off, e, Nat.lt_of_lt_of_le hb hc.size, fun i b m hi => ?_⟩
    obtain ⟨h1, h2, h3⟩ := h i b m hi
    exact ⟨h1, cell_chg hc h2 (fun x => x), cell_chg hc h3 (fun x => x)⟩
theorem ThsAt.chg {W W' : World} {p : Option Addr} {c : List ThR} (h : ThsAt W p c) (hc : Chg (fun _ => False) W W') : ThsAt W' p c := by
  rcases h with h | ⟨bk, off, e, hb, h⟩
  · exact .inl h
  · refine .inr ⟨bk, off, e, Nat.lt_of_lt_of_le hb hc.size, fun i t hi => ?_⟩
    obtain ⟨h1, h2⟩ := h i t hi
    exact ⟨cell_chg hc h1 (fun x => x), h2.chg hc⟩
theorem PicksAt.chg {W W' : World} {p : Option Addr} {c : List Int} (h : PicksAt W p c) (hc : Chg (fun _ => False) W W') : PicksAt W' p c := by
  rcases h with h | ⟨bk, off, e, hb, h⟩
  · exact .inl h
  · refine .inr ⟨bk, off, e, Nat.lt_of_lt_of_le hb hc.size, fun i z hi => ?_⟩
    obtain ⟨h1, h2⟩ := h i z hi
    exact ⟨cell_chg hc h1 (fun x => x), h2⟩

/-- What the laws see of a run. -/
structure Seen (W : World) (cell m : Nat) (al : Value) (pcs : List PC) (pb nb tb : Nat → Nat) (c : Nat) : Prop where
  all : W.ownsRow 0 44 1 al pcs.length (rowF pcs.length fun j => ptrO (some (pb j)))
  pj : ∀ (j : Nat) (x : PC), pcs[j]? = some x → PJ W cell (pb j) (nb j) (tb j) x
  peek : Calls Try.prog 11 #[.pointer (some ⟨m, 0, none⟩), .int .u64 (cell : Int)] W fun e W' => e = .returned (.int .u64 (c : Int)) ∧ W' = W
  peeks : ∀ q, Calls Try.prog 11 #[.pointer (some ⟨m, 0, none⟩), .int .u64 (cell : Int)] (W.drewN q) fun e W' => e = .returned (.int .u64 (c : Int)) ∧ W' = W.drewN q
theorem RS.seen {w X : World} {cell nt m b nm nB aB vB : Nat} {F R : Nat → Prop} {cs : List Nat} {l : List Acc} {al : Value} {pcs : List PC} {pb nb tb : Nat → Nat} {cur : Nat → Option Nat} {ats : Nat → Nat} {vw : Nat → Option Nat} {tg : Nat → Nat × Nat} (h : RS w X cell nt m b nm nB aB vB F R cs l al pcs pb nb tb cur ats vw tg) (hc : cell < 18446744073709551616) : Seen X cell m al pcs pb nb tb (cellN cs cell) :=
  ⟨h.all, h.pj, m_peek m b 128 1 cell F cs l X h.mem h.bank hc, fun q => m_peek m b 128 1 cell F cs l _ (h.mem.chg (Goes.drewN X (fun _ => False) q).chg (fun x => x)) (h.bank.chg (Goes.drewN X (fun _ => False) q).chg (fun _ _ x => x)) hc⟩
theorem RS.small {w X : World} {cell nt m b nm nB aB vB : Nat} {F R : Nat → Prop} {cs : List Nat} {l : List Acc} {al : Value} {pcs : List PC} {pb nb tb : Nat → Nat} {cur : Nat → Option Nat} {ats : Nat → Nat} {vw : Nat → Option Nat} {tg : Nat → Nat × Nat} (h : RS w X cell nt m b nm nB aB vB F R cs l al pcs pb nb tb cur ats vw tg) : cellN cs cell < 18446744073709551616 := h.bank.cell_lt cell
/-- The cells of a call, which the laws read. -/
theorem Seen.cells {W : World} {cell m : Nat} {al : Value} {pcs : List PC} {pb nb tb : Nat → Nat} {c : Nat} (h : Seen W cell m al pcs pb nb tb c) {i : Nat} {x : PC} (hi : pcs[i]? = some x) : ∃ g cp, al = .slice (some ⟨g, 0, none⟩) pcs.length cp ∧ W.cell? ⟨g, i, none⟩ = some (.pointer (some ⟨pb i, 0, none⟩)) ∧ W.cell? ⟨pb i, 0, none⟩ = some (.bool x.isNow) ∧ W.cell? ⟨pb i, 1, none⟩ = some (.int .u64 (x.most : Int)) ∧ W.cell? ⟨pb i, 2, none⟩ = some (.pointer (some ⟨nb i, 0, none⟩)) ∧ W.cell? ⟨pb i, 3, none⟩ = some (.pointer (some ⟨tb i, 0, none⟩)) ∧ W.cell? ⟨pb i, 14, none⟩ = some (.int .i64 x.fr) ∧ W.cell? ⟨pb i, 15, none⟩ = some (.int .i64 x.tz) := by
  have hl := (List.getElem?_eq_some_iff.1 hi).1
  obtain ⟨g, cp, e⟩ := slice_pos h.all (by omega)
  have J := h.pj i x hi
  have r := h.all
  rw [e] at r
  have c0 := World.ownsRow.cellAt r i (by omega)
  rw [rowF_get _ _ _ hl] at c0
  refine ⟨g, cp, e, c0, ?_, ?_, ?_, ?_, J.at14, J.at15⟩
  · have e := cell_of J.proc 0
    cases hN : x.isNow <;> simpa [hN, nowCells, takeCells] using e
  · have e := cell_of J.proc 1
    cases hN : x.isNow <;> simpa [hN, nowCells, takeCells] using e
  · have e := cell_of J.proc 2
    cases hN : x.isNow <;> simpa [hN, nowCells, takeCells] using e
  · have e := cell_of J.proc 3
    cases hN : x.isNow <;> simpa [hN, nowCells, takeCells] using e
theorem Seen.drewN {W : World} {cell m : Nat} {al : Value} {pcs : List PC} {pb nb tb : Nat → Nat} {c : Nat} (h : Seen W cell m al pcs pb nb tb c) (q : Nat) : Seen (W.drewN q) cell m al pcs pb nb tb c :=
  ⟨row_kept h.all fun k e => rfl, fun j x e => (h.pj j x e).chg (Goes.drewN W (fun _ => False) q).chg (fun x => x) (fun x => x) (fun x => x), h.peeks q, fun q' => by rw [← drewN_add]; exact h.peeks (q + q')⟩
theorem Seen.take {W : World} {cell m : Nat} {al : Value} {pcs : List PC} {pb nb tb : Nat → Nat} {c : Nat} (h : Seen W cell m al pcs pb nb tb c) {i : Nat} {x : PC} (hi : pcs[i]? = some x) (hn : x.isNow = false) : IsTake W (tb i) cell x.most x.pos x.stamp x.err x.moved := by
  have e := (h.pj i x hi).take
  simpa [hn] using e
theorem Seen.now {W : World} {cell m : Nat} {al : Value} {pcs : List PC} {pb nb tb : Nat → Nat} {c : Nat} (h : Seen W cell m al pcs pb nb tb c) {i : Nat} {x : PC} (hi : pcs[i]? = some x) : IsNow W (nb i) cell (if x.isNow then x.pos else 0) (if x.isNow then x.stamp else 0) := (h.pj i x hi).now

def mxOf (f : Nat) (l : List PC) : Nat := l.foldl (fun m x => if x.isNow then m else if m < x.most then x.most else m) f
theorem mxOf_snoc (f : Nat) (l : List PC) (x : PC) : mxOf f (l ++ [x]) = if x.isNow then mxOf f l else if mxOf f l < x.most then x.most else mxOf f l := by unfold mxOf; rw [List.foldl_append]; rfl
theorem mxOf_le (l : List PC) : ∀ f, f ≤ mxOf f l ∧ ∀ x ∈ l, x.isNow = false → x.most ≤ mxOf f l := by
  induction l with
  | nil => exact fun f => ⟨Nat.le_refl _, fun x hx => by simp at hx⟩
  | cons x r ih =>
    intro f
    obtain ⟨s, hs⟩ : ∃ s, s = (if x.isNow then f else if f < x.most then x.most else f) := ⟨_, rfl⟩
    have e : mxOf f (x :: r) = mxOf s r := by rw [hs]; rfl
    rw [e]
    obtain ⟨i1, i2⟩ := ih s
    have hf : f ≤ s := by
      rw [hs]
      split
      · exact Nat.le_refl _
      · split <;> omega
    refine ⟨by omega, fun y hy hm => ?_⟩
    rcases List.mem_cons.1 hy with rfl | q
    · have : y.most ≤ s := by
        rw [hs]
        simp only [hm, Bool.false_eq_true, if_false]
        split <;> omega
      omega
    · exact i2 y q hm
theorem take_snoc {α : Type} {l : List α} {k : Nat} {x : α} (h : l[k]? = some x) : l.take (k + 1) = l.take k ++ [x] := by
  rw [List.take_add_one, h]
  rfl
end Go.Proofs.Ytinhcphhdehmhaa
