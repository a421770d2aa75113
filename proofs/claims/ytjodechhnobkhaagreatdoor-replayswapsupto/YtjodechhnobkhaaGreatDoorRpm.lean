/- Parse of the program, at every text. -/
import Derived.Test.YtjodechhnobkhaaGreatDoorRpl
namespace Go.Proofs.YtjodechhnobkhaaGreatDoor
open Go.RowKit Go.Shelf
set_option linter.unusedVariables false

/-- accesses, each with the slice of its values, as cells in a row -/
def accsRow (ys : List (Ax × Value)) : List Value := ys.flatMap (fun y => (bxA y.1 y.2).toList)
theorem accsRow_snoc (ys : List (Ax × Value)) (y : Ax × Value) : accsRow (ys ++ [y]) = accsRow ys ++ (bxA y.1 y.2).toList := by simp [accsRow]
theorem accsRow_length (l : List (Ax × Value)) : (accsRow l).length = l.length * 8 := by
  induction l with
  | nil => rfl
  | cons x r ih => simp only [accsRow, List.flatMap_cons, List.length_append, List.length_cons] at ih ⊢; rw [ih]; simp; omega
theorem accsRow_get (l : List (Ax × Value)) (j f : Nat) (hf : f < 8) : (accsRow l)[j * 8 + f]? = (l[j]?).bind fun x => (bxA x.1 x.2)[f]? := by
  induction l generalizing j with
  | nil => simp [accsRow]
  | cons x r ih =>
    have hx : (bxA x.1 x.2).toList.length = 8 := rfl
    cases j with
    | zero => simp only [accsRow, List.flatMap_cons]; rw [List.getElem?_append_left (by rw [hx]; omega)]; simp
    | succ j =>
      have e := ih j
      simp only [accsRow, List.flatMap_cons] at e ⊢
      rw [List.getElem?_append_right (by rw [hx]; omega), hx, show (j + 1) * 8 + f - 8 = j * 8 + f by omega, e]
      simp
theorem infoAx : (Tryz.prog.info? 44).map (fun i => (i.zero, i.size, i.bytes)) = some (some (.agg (bxA ax0 (.slice none 0 0))), 8, 80) := by kernel_rfl
/-- a row of accesses of one's own -/
structure AR (W wr : World) (v : Value) (ys : List (Ax × Value)) : Prop where
  bel : Below W.heap.size W wr
  row : wr.ownsRow 0 44 8 v ys.length (accsRow ys)
  new : ∀ b, v.ownBlock = some b → W.heap.size ≤ b
  vals : ∀ (i : Nat) y, ys[i]? = some y → wr.ownsRow 0 42 1 y.2 y.1.vals.length (u64L y.1.vals) ∧ ∀ g, y.2.ownBlock = some g → W.heap.size ≤ g
theorem AR.on {W wr w2 : World} {v : Value} {ys : List (Ax × Value)} (h : AR W wr v ys) (hb : Below wr.heap.size wr w2) : AR W w2 v ys :=
  ⟨below_chain h.bel hb, row_kept h.row (fun k hk => hb.block k (row_lt h.row k hk)), h.new, fun i y hy => ⟨row_kept (h.vals i y hy).1 (fun k hk => hb.block k (row_lt (h.vals i y hy).1 k hk)), (h.vals i y hy).2⟩⟩
theorem AR.more {W wr w2 : World} {v v' : Value} {ys : List (Ax × Value)} {y : Ax × Value} {o : Obj} (h : AR W wr v ys) (hy : wr.ownsRow 0 42 1 y.2 y.1.vals.length (u64L y.1.vals) ∧ ∀ g, y.2.ownBlock = some g → W.heap.size ≤ g)
    (hr : w2.ownsRow 0 44 8 v' (ys.length + 1) (accsRow ys ++ (bxA y.1 y.2).toList)) (hg : (wr.alloc o).grownBy w2 v.ownBlock) (hw : v'.ownBlock = v.ownBlock ∨ v'.ownBlock = some (wr.alloc o).heap.size) : AR W w2 v' (ys ++ [y]) := by
  have h1 := h.on (below_alloc wr o)
  have keep : ∀ (u : Value) (n : Nat) (l : List Value), (wr.alloc o).ownsRow 0 42 1 u n l → w2.ownsRow 0 42 1 u n l := fun u n l hu =>
    row_kept hu (fun k hk => hg.block k (row_lt hu k hk) (fun e => by
      obtain ⟨cur, hcur⟩ := row_block hu k hk
      exact block_apart h1.row hcur (by decide) e.symm))
  have hy' : (wr.alloc o).ownsRow 0 42 1 y.2 y.1.vals.length (u64L y.1.vals) := hy.1.alloc o
  refine ⟨h1.bel.grown hg h1.bel.size (fun b e => h.new b e), by rw [accsRow_snoc, List.length_append]; exact hr, ?_, ?_⟩
  · intro b hb
    rcases hw with e1 | e1
    · rw [e1] at hb; exact h.new b hb
    · rw [e1] at hb
      simp at hb
      have := h.bel.size
      omega
  · intro i z hz
    by_cases c : i < ys.length
    · rw [List.getElem?_append_left c] at hz
      exact ⟨keep _ _ _ (h1.vals i z hz).1, (h.vals i z hz).2⟩
    · have hi : i = ys.length := by
        have := (List.getElem?_eq_some_iff.1 hz).1
        simp at this
        omega
      subst hi
      simp at hz
      subst hz
      exact ⟨keep _ _ _ hy', hy.2⟩
theorem AR.start (W : World) : AR W W (.slice none 0 0) [] := ⟨Below.refl _ _, World.ownsRow_nil _ _ _ _, fun b e => by simp [Value.ownBlock] at e, fun i y h => by simp at h⟩
theorem URd.of_row {W : World} {p : Option Addr} {n c : Nat} {us : List Nat} (h : W.ownsRow 0 42 1 (.slice p n c) us.length (u64L us)) : URd W p us := by
  have hc := fun g (hg : (Value.slice p n c).ownBlock = some g) => h.cells (g := g) hg
  have hl := fun k hk => row_lt h k hk
  rcases h.2 with ⟨hv, h0⟩ | ⟨g, cap, cur, hv, _⟩
  · exact Or.inl (List.eq_nil_of_length_eq_zero (by simpa using h0))
  · injection hv with e1 e2 e3
    subst e1
    refine Or.inr ⟨g, 0, rfl, hl g rfl, fun i x hx => ?_⟩
    have e := hc g rfl i (.int .u64 (x : Int)) (by unfold u64L; rw [List.getElem?_map, hx]; rfl)
    rw [show (⟨g, 0, none⟩ : Addr).add i = ⟨g, i, none⟩ by unfold Addr.add; split <;> simp_all] at e
    rw [Nat.zero_add]
    exact e
theorem row_u_slice {W : World} {v : Value} {us : List Nat} (h : W.ownsRow 0 42 1 v us.length (u64L us)) : ∃ p c, v = .slice p us.length c := by
  rcases h.2 with ⟨hv, h0⟩ | ⟨g, cap, cur, hv, _⟩
  · exact ⟨none, 0, by rw [hv, h0]⟩
  · exact ⟨_, _, hv⟩
theorem row_a_slice {W : World} {v : Value} {ys : List (Ax × Value)} (h : W.ownsRow 0 44 8 v ys.length (accsRow ys)) : ∃ p c, v = .slice p ys.length c := by
  rcases h.2 with ⟨hv, h0⟩ | ⟨g, cap, cur, hv, _⟩
  · exact ⟨none, 0, by rw [hv, h0]⟩
  · exact ⟨_, _, hv⟩
theorem AR.reads {W wr : World} {p : Option Addr} {n c : Nat} {ys : List (Ax × Value)} (h : AR W wr (.slice p n c) ys) : ARd wr p (ys.map Prod.fst) := by
  have hr := h.row
  have hc := fun g (hg : (Value.slice p n c).ownBlock = some g) => hr.cells (g := g) hg
  have hl := fun k hk => row_lt hr k hk
  rcases hr.2 with ⟨hv, h0⟩ | ⟨g, cap, cur, hv, _⟩
  · refine Or.inl ?_
    rw [List.eq_nil_of_length_eq_zero (show ys.length = 0 by simpa using h0)]
    rfl
  · injection hv with e1 e2 e3
    subst e1
    refine Or.inr ⟨g, 0, rfl, hl g rfl, fun i x hx => ?_⟩
    rw [List.getElem?_map] at hx
    obtain ⟨y, hy, rfl⟩ := Option.map_eq_some_iff.mp hx
    obtain ⟨hv1, _⟩ := h.vals i y hy
    obtain ⟨vp, vc, hvs⟩ := row_u_slice hv1
    refine ⟨vp, vc, fun j u hj => ?_, ?_⟩
    · have hj8 : j < 8 := by
        have := (Array.getElem?_eq_some_iff.1 hj).1
        simpa using this
      have e := hc g rfl (i * 8 + j) u (by rw [accsRow_get _ _ _ hj8, hy]; simp only [Option.bind_some]; rw [hvs]; exact hj)
      rw [show (⟨g, 0, none⟩ : Addr).add (i * 8 + j) = ⟨g, i * 8 + j, none⟩ by unfold Addr.add; split <;> simp_all] at e
      rw [Nat.zero_add]
      exact e
    · rw [hvs] at hv1
      exact URd.of_row hv1

def Bad (r : List UInt8) : Prop := r ≠ [] ∧ (noB 10 r ∨ ∃ l r', noB 10 l ∧ r = l ++ 10 :: r' ∧ lineP l = none)
def Good (xs : List Ax) : Prop := ∀ x ∈ xs, RightA x ∧ x.Ok
/-- how the reading of a text ends -/
def PH (t : List UInt8) (xs : List Ax) (er ln : Nat) : Prop :=
  (er = 0 ∧ ln = 0 ∧ t = printA xs ∧ Good xs) ∨ (er = 52 ∧ xs = [] ∧ ∃ ys r, ln = ys.length + 1 ∧ t = printA ys ++ r ∧ Good ys ∧ Bad r)
theorem printA_ge (l : List Ax) : l.length ≤ (printA l).length := by
  induction l with
  | nil => simp
  | cons s l ih =>
    rw [printA_cons, List.length_append, List.length_cons, List.length_cons]
    omega
def strN : Value → Nat
  | .string s => s.size
  | _ => 0
/-- what lies in memory while Parse goes on -/
structure PM (W : World) (tb : Nat) (t : List UInt8) (v : Value) (ys : List (Ax × Value)) (r : List UInt8) (wr : World) : Prop where
  ar : AR W wr v ys
  frm : IsForms wr tb
  txt : t = printA (ys.map Prod.fst) ++ r
  good : Good (ys.map Prod.fst)
  nt : W.heap.size ≤ tb
theorem PM.on {W : World} {tb : Nat} {t : List UInt8} {v : Value} {ys : List (Ax × Value)} {r : List UInt8} {wr w2 : World} (h : PM W tb t v ys r wr) (hb : Below wr.heap.size wr w2) : PM W tb t v ys r w2 := ⟨h.ar.on hb, h.frm.on hb, h.txt, h.good, h.nt⟩
theorem PM.len {W : World} {tb : Nat} {t : List UInt8} {v : Value} {ys : List (Ax × Value)} {r : List UInt8} {wr : World} (h : PM W tb t v ys r wr) : ys.length ≤ t.length := by
  have a := printA_ge (ys.map Prod.fst)
  have b := congrArg List.length h.txt
  rw [List.length_append] at b
  rw [List.length_map] at a
  omega
theorem PM.more {W wr w2 : World} {tb : Nat} {t : List UInt8} {v v' : Value} {ys : List (Ax × Value)} {x : Ax} {vs : Value} {l r : List UInt8} {o : Obj} (h : PM W tb t v ys (l ++ 10 :: r) wr) (hx : lineP l = some x) (hv : wr.ownsRow 0 42 1 vs x.vals.length (u64L x.vals)) (hn : ∀ g, vs.ownBlock = some g → W.heap.size ≤ g)
    (hr : w2.ownsRow 0 44 8 v' (ys.length + 1) (accsRow ys ++ (bxA x vs).toList)) (hg : (wr.alloc o).grownBy w2 v.ownBlock) (hw : v'.ownBlock = v.ownBlock ∨ v'.ownBlock = some (wr.alloc o).heap.size) : PM W tb t v' (ys ++ [(x, vs)]) r w2 := by
  obtain ⟨a1, a2, a3⟩ := lineP_some hx
  have hf := h.frm.on (below_alloc wr o)
  refine ⟨h.ar.more ⟨hv, hn⟩ hr hg hw, (hg.block tb (lt_of hf) (fun e => block_apart (h.ar.on (below_alloc wr o)).row hf (by decide) e.symm)).trans hf, ?_, ?_, h.nt⟩
  · rw [h.txt, List.map_append, List.map_cons, List.map_nil, printA_snoc, a3]
    simp
  · intro z hz
    rw [List.map_append] at hz
    rcases List.mem_append.mp hz with q | q
    · exact h.good z q
    · simp at q
      subst q
      exact ⟨a1, a2⟩

end Go.Proofs.YtjodechhnobkhaaGreatDoor
