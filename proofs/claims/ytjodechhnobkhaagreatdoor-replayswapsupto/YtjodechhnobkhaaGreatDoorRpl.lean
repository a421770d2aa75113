/- parse: the access with a text; Parse: all lines of a text. -/
import Derived.Test.YtjodechhnobkhaaGreatDoorRpk
import Derived.Laws.Tables
namespace Go.Proofs.YtjodechhnobkhaaGreatDoor
open Go.RowKit Go.Shelf
set_option linter.unusedVariables false

abbrev ax0 : Ax := ⟨0, 0, 0, 0, 0, [], 0, false⟩
/-- what parse tells of a line: the cells of its access, or none -/
structure PaP (W : World) (t : List UInt8) (cs : Array Value) (r : Bool) (W' : World) : Prop where
  bel : Below W.heap.size W W'
  yes : ∀ x, lineP t = some x → r = true ∧ ∃ vs, cs = bxA x vs ∧ W'.ownsRow 0 42 1 vs x.vals.length (u64L x.vals) ∧ ∀ g, vs.ownBlock = some g → W.heap.size ≤ g
  no : lineP t = none → r = false
  ex : ∃ (x : Ax) (vp : Option Addr) (vn vc : Nat), cs = bxA x (.slice vp vn vc)
def PaQ (W : World) (t : List UInt8) (v : Value) (W' : World) : Prop := ∃ cs r, v = .tuple #[.agg cs, .bool r] ∧ PaP W t cs r W'
theorem split_le (s f : List UInt8) (h : f ∈ Lib.split s [32]) : f.length ≤ s.length := by
  have key : ∀ (k : Nat) (s f : List UInt8), f ∈ Lib.splitK [32] 0 k s → f.length ≤ s.length := by
    intro k
    induction k with
    | zero =>
      intro s f h
      simp [Lib.splitK] at h
      subst h; exact Nat.le_refl _
    | succ k ih =>
      intro s f h
      rw [Lib.splitK] at h
      split at h
      · simp at h; subst h; exact Nat.le_refl _
      · rcases List.mem_cons.mp h with rfl | h
        · rw [List.length_take]; omega
        · have := ih _ f h
          rw [List.length_drop] at this
          omega
  exact key _ s f h
theorem splitK_cnt : ∀ (k : Nat) (s : List UInt8), (Lib.splitK [32] 0 k s).length ≤ s.length + 1
  | 0, s => by simp [Lib.splitK]
  | k + 1, s => by
    rcases ix_cases 32 s with h | ⟨a, r, ha, rfl⟩
    · rw [Lib.splitK, ix_sub, ix_none h, if_pos (by decide)]
      simp
    · rw [split_step _ _ _ ha]
      have := splitK_cnt k r
      simp only [List.length_cons, List.length_append]
      omega
theorem split_cnt (s : List UInt8) : (Lib.split s [32]).length ≤ s.length + 1 := splitK_cnt _ s
theorem below_row {W w : World} {g : Nat} {cs : Array Value} (h : Below W.heap.size W w) (hg : W.heap.size ≤ g) : Below W.heap.size W (w.setRow g cs) :=
  h.trans ⟨rfl, rfl, rfl, by simp, fun i hi => by rw [setRow_other _ _ _ _ (by omega)]⟩
theorem zero_one : (bxA ax0 (.slice none 0 0)).all (·.oneCell') = true := by simp [Value.oneCell']
theorem acc_one (x : Ax) (p : Option Addr) (n c : Nat) : (bxA x (.slice p n c)).all (·.oneCell') = true := by simp [Value.oneCell']
theorem acc_cells {W : World} {b : Nat} {x : Ax} {vs : Value} (h : W.heap[b]? = some (.cells (bxA x vs) 44 (0, 0))) : W.cell? ⟨b, 0, none⟩ = some (.int .i64 x.th) ∧ W.cell? ⟨b, 1, none⟩ = some (.int .u8 (x.kind : Int)) ∧ W.cell? ⟨b, 2, none⟩ = some (.int .u64 (x.addr : Int)) ∧ W.cell? ⟨b, 3, none⟩ = some (.int .u64 (x.a : Int)) ∧ W.cell? ⟨b, 4, none⟩ = some (.int .u64 (x.b : Int)) ∧ W.cell? ⟨b, 5, none⟩ = some vs ∧ W.cell? ⟨b, 6, none⟩ = some (.int .u64 (x.got : Int)) ∧ W.cell? ⟨b, 7, none⟩ = some (.bool x.ok) :=
  ⟨cell_of h 0, cell_of h 1, cell_of h 2, cell_of h 3, cell_of h 4, cell_of h 5, cell_of h 6, cell_of h 7⟩
theorem zero_cells {W : World} {b : Nat} (h : W.heap[b]? = some (.cells #[.int .i64 0, .int .u8 0, .int .u64 0, .int .u64 0, .int .u64 0, .slice none 0 0, .int .u64 0, .bool false] 44 (0, 0))) : W.cell? ⟨b, 0, none⟩ = some (.int .i64 0) ∧ W.cell? ⟨b, 1, none⟩ = some (.int .u8 0) ∧ W.cell? ⟨b, 2, none⟩ = some (.int .u64 0) ∧ W.cell? ⟨b, 3, none⟩ = some (.int .u64 0) ∧ W.cell? ⟨b, 4, none⟩ = some (.int .u64 0) ∧ W.cell? ⟨b, 5, none⟩ = some (.slice none 0 0) ∧ W.cell? ⟨b, 6, none⟩ = some (.int .u64 0) ∧ W.cell? ⟨b, 7, none⟩ = some (.bool false) :=
  ⟨cell_of h 0, cell_of h 1, cell_of h 2, cell_of h 3, cell_of h 4, cell_of h 5, cell_of h 6, cell_of h 7⟩
theorem PaP.bad {W W' : World} {t : List UInt8} (hn : lineP t = none) (hb : Below W.heap.size W W') : PaP W t (bxA ax0 (.slice none 0 0)) false W' :=
  ⟨hb, (fun x e => by rw [hn] at e; cases e), fun _ => rfl, ⟨ax0, none, 0, 0, rfl⟩⟩
theorem few_none {t : List UInt8} (h : (Lib.split t [32]).length < 2) : lineP t = none := by
  unfold lineP accP
  split
  · rename_i f0 f1 r e
    rw [e] at h
    simp only [List.length_cons] at h
    omega
  · rfl
theorem line_eq {t f0 f1 : List UInt8} {r : List (List UInt8)} (h : Lib.split t [32] = f0 :: f1 :: r) : lineP t = match intP f0 with | none => none | some th => match kindP f1 with | none => none | some k => fillP th k r := by
  unfold lineP
  rw [h]
  unfold accP
  simp only
  cases intP f0 with
  | none => rfl
  | some th =>
    cases kindP f1 with
    | none => rfl
    | some k => rfl

end Go.Proofs.YtjodechhnobkhaaGreatDoor
