/- What a run of adders tells at its end. -/
import Derived.Test.YtmckdefijcnhcacSAddB
namespace Go.Proofs.Ytmckdefijcnhcac
open Go.RowKit Go.Shelf

theorem infoPs : (Try.prog.info? 72).map (fun i => (i.zero, i.size, i.bytes)) = some (some (.slice none 0 0), 1, 24) := by kernel_rfl

theorem acc_cell {W : World} {g n c : Nat} {lk : List Acc} (h : W.ownsRow 0 76 8 (.slice (some ⟨g, 0, none⟩) n c) n (accRow lk)) (j f : Nat) (x : Acc) (hj : lk[j]? = some x) (hn : j < n) (hf : f < 8) (v : Value) (hv : x.cells[f]? = some v) : W.cell? ⟨g, j * 8 + f, none⟩ = some v := by
  rw [World.ownsRow.cellAt h (j * 8 + f) (by omega), accRow_get lk j f hf, hj]
  exact hv
theorem int_cell {W : World} {g n c : Nat} {xs : List Int} (h : W.ownsRow 0 3 1 (.slice (some ⟨g, 0, none⟩) n c) n (xs.map i64V)) (j : Nat) (x : Int) (hj : xs[j]? = some x) (hn : j < n) : W.cell? ⟨g, j, none⟩ = some (.int .i64 x) := by
  rw [World.ownsRow.cellAt h j (by omega)]
  simp [i64V, hj]
theorem adds_take (l : List Acc) (i : Nat) (x : Acc) (h : l[i]? = some x) : adds (l.take (i + 1)) = adds (l.take i) + (if x.kind = 4 then 1 else 0) := by
  rw [List.take_add_one, h]
  exact adds_more _ _

/-- The trace and the steps, as they are read. -/
structure AEnd (W : World) (g6 g7 L n : Nat) (l : List Acc) (A : List Int) (pp : Option Addr) : Prop where
  kind : ∀ i x, l[i]? = some x → W.cell? ⟨g6, i * 8 + 1, none⟩ = some (.int .u8 (x.kind : Int))
  thr : ∀ i x, l[i]? = some x → W.cell? ⟨g6, i * 8, none⟩ = some (.int .i64 x.th)
  at' : ∀ i a, A[i]? = some a → W.cell? ⟨g7, i, none⟩ = some (.int .i64 a)
  st : ∀ i, 0 < i → i < L → ∃ (a : Nat) (x : Acc) (bk off : Nat), pp = some ⟨bk, off, none⟩ ∧ A[i]? = some (a : Int) ∧ a < n ∧ l[i]? = some x ∧ W.cell? ⟨bk, off + a, none⟩ = some (.int .i64 x.th)
  up : ∀ (j : Nat) (a a' : Int), 1 < j → A[j - 1]? = some a → A[j]? = some a' → a < a'
theorem AEnd.chg {W X : World} {g6 g7 L n : Nat} {l : List Acc} {A : List Int} {pp : Option Addr} (h : AEnd W g6 g7 L n l A pp) (hc : Chg (fun _ => False) W X) : AEnd X g6 g7 L n l A pp :=
  ⟨fun i x hx => cell_chg hc (h.kind i x hx) (fun h => h), fun i x hx => cell_chg hc (h.thr i x hx) (fun h => h), fun i x hx => cell_chg hc (h.at' i x hx) (fun h => h),
   fun i h0 h1 => by obtain ⟨a, x, bk, off, q0, q1, q2, q3, q4⟩ := h.st i h0 h1; exact ⟨a, x, bk, off, q0, q1, q2, q3, cell_chg hc q4 (fun h => h)⟩, h.up⟩

theorem ARunAt.ends {W W5 W6 W7 : World} {G K : Nat → Prop} {r m b T g6 c6 g7 c7 : Nat} {vb ps : Nat → Nat} {picks : List Int} {vw : List Value} {tv ev av : Value} {ths : List Thr} {evs : List Ev} {ats : List Int} {s : AS} {lk : List Acc} {pp : Option Addr}
    (h : ARunAt W W5 G K r m b T vb ps picks picks.length vw tv ev av ths evs ats s) (T6 : Traced W5 W6 (.slice (some ⟨g6, 0, none⟩) s.l.length c6) s.l lk s.l.length) (R7 : W7.ownsRow 0 3 1 (.slice (some ⟨g7, 0, none⟩) s.l.length c7) s.l.length ((extN ats s.l.length (-1)).map i64V)) (C7 : Chg (fun _ => False) W6 W7) (hP : IReads W pp picks) :
    AEnd W7 g6 g7 s.l.length picks.length s.l (extN ats s.l.length (-1)) pp := by
  have hAl : (extN ats s.l.length (-1)).length = s.l.length := by rw [extN_length]; have := h.pure.al; omega
  have r6 := row_kept T6.row fun k e => C7.block k (row_lt T6.row k e) (fun h => h)
  have hP7 := ((hP.chg h.chg).chg T6.chg).chg C7
  refine ⟨fun i x hx => ?_, fun i x hx => ?_, fun i a ha => ?_, fun i h0 h1 => ?_, h.pure.up⟩
  · obtain ⟨vs, hy⟩ := T6.same i x hx
    exact acc_cell r6 i 1 _ hy (List.getElem?_eq_some_iff.1 hx).1 (by omega) _ rfl
  · obtain ⟨vs, hy⟩ := T6.same i x hx
    exact acc_cell r6 i 0 _ hy (List.getElem?_eq_some_iff.1 hx).1 (by omega) _ rfl
  · exact int_cell R7 i a ha (by have := (List.getElem?_eq_some_iff.1 ha).1; omega)
  · obtain ⟨a, ha⟩ : ∃ a, (extN ats s.l.length (-1))[i]? = some a := ⟨_, List.getElem?_eq_getElem (by omega)⟩
    obtain ⟨q1, q2, x, q3, q4⟩ := h.pure.st i a h0 ha
    obtain ⟨n, rfl⟩ : ∃ n : Nat, a = (n : Int) := ⟨a.toNat, by omega⟩
    obtain ⟨bk, off, q5, _, q6⟩ := hP7.get n _ q4
    exact ⟨n, x, bk, off, q5, ha, by omega, q3, q6⟩
end Go.Proofs.Ytmckdefijcnhcac
