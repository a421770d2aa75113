/- What stands behind the numbers of an access's text: yes or no, or any number of values. -/
import Derived.Test.YtjodechhnobkhaaGreatDoorRpi
namespace Go.Proofs.YtjodechhnobkhaaGreatDoor
open Go.RowKit Go.Shelf
set_option linter.unusedVariables false

/-- texts that lie in a row -/
def SRd (W : World) (q : Option Addr) (fs : List (List UInt8)) : Prop :=
  ∃ fb off, q = some ⟨fb, off, none⟩ ∧ fb < W.heap.size ∧ ∀ (j : Nat) f, fs[j]? = some f → W.cell? ⟨fb, off + j, none⟩ = some (.string (mkS f))
theorem SRd.on {W X : World} {q : Option Addr} {fs : List (List UInt8)} (h : SRd W q fs) (hb : Below W.heap.size W X) : SRd X q fs := by
  obtain ⟨fb, off, rfl, hl, h⟩ := h
  exact ⟨fb, off, rfl, Nat.lt_of_lt_of_le hl hb.size, fun i x hx => cell_below (h i x hx) hb⟩
theorem SRd.chg {W X : World} {F : Nat → Prop} {q : Option Addr} {fs : List (List UInt8)} (h : SRd W q fs) (hc : Chg F W X) (hF : ∀ a, q = some a → ¬ F a.block) : SRd X q fs := by
  obtain ⟨fb, off, rfl, hl, h⟩ := h
  refine ⟨fb, off, rfl, Nat.lt_of_lt_of_le hl hc.size, fun i x hx => ?_⟩
  have e := h i x hx
  simp only [World.cell?] at e ⊢
  rw [hc.block fb hl (hF _ rfl)]
  exact e
theorem slice_strs {W : World} {q : Option Addr} {fs : List (List UInt8)} (h : SRd W q fs) {n cap i : Nat} (hn : n = fs.length) (hcap : n ≤ cap) (hi : i ≤ n) :
    ∃ ad : Addr, (∀ w, (Instr.slice 136 (.slice q n cap) (some (.int .i64 (i : Int))) none none).run Tryz.prog w = .ok (.slice (some ad) (n - i) (cap - i)) w) ∧ SRd W (some ad) (fs.drop i) ∧ (∀ a, q = some a → ad.block = a.block) := by
  obtain ⟨fb, off, rfl, hl, h⟩ := h
  by_cases e : cap = i
  · refine ⟨⟨fb, off, none⟩, fun w => ?_, ⟨fb, off, rfl, hl, fun j f hf => ?_⟩, fun a ha => by injection ha with ha; rw [← ha]⟩
    · have hn : n = i := by omega
      have hb := run_sliceBound (P := Tryz.prog) (w := w) .i64 (i : Int) i .sliceB (by omega) (by omega)
      simp [Instr.slice, run_underlying Tryz.underlying136, Instr.sliceBounds, Result.andThen, e, hn, hb]
    · rw [List.drop_eq_nil_of_le (by omega)] at hf
      simp at hf
  · refine ⟨⟨fb, off + i, none⟩, fun w => ?_, ⟨fb, off + i, rfl, hl, fun j f hf => ?_⟩, fun a ha => by injection ha with ha; rw [← ha]⟩
    · have hb := run_sliceBound (P := Tryz.prog) (w := w) .i64 (i : Int) n .sliceB (by omega) (by omega)
      simp [Instr.slice, run_underlying Tryz.underlying136, Instr.sliceBounds, Result.andThen, e, hb, Addr.add]
    · rw [List.getElem?_drop] at hf
      rw [Nat.add_assoc]
      exact h _ f hf

/-- readOk: what it tells, and what it leaves -/
structure OkP (W : World) (B : Nat) (th : Int) (k ad a b : Nat) (vs : Value) (got : Nat) (fs : List (List UInt8)) (r : Bool) (W' : World) : Prop where
  chg : Chg (fun x => x = B) W W'
  yes : ∀ q, tailP 3 fs = some q → r = true ∧ W'.heap[B]? = some (.cells (accC th k ad a b vs got q.1) 44 (0, 0))
  no : tailP 3 fs = none → r = false
def OkQ (W : World) (B : Nat) (th : Int) (k ad a b : Nat) (vs : Value) (got : Nat) (fs : List (List UInt8)) (v : Value) (W' : World) : Prop := ∃ r, v = .bool r ∧ OkP W B th k ad a b vs got fs r W'
/-- readValues: what it tells, and what it leaves -/
structure VaP (W : World) (B : Nat) (th : Int) (k ad a b got : Nat) (ok : Bool) (fs : List (List UInt8)) (r : Bool) (W' : World) : Prop where
  chg : Chg (fun x => x = B) W W'
  yes : ∀ us, natsP fs = some us → r = true ∧ ∃ vs, W'.heap[B]? = some (.cells (accC th k ad a b vs got ok) 44 (0, 0)) ∧ W'.ownsRow 0 42 1 vs us.length (us.map fun (x : Nat) => Value.int .u64 (x : Int)) ∧ ∀ g, vs.ownBlock = some g → W.heap.size ≤ g
  no : natsP fs = none → r = false
def VaQ (W : World) (B : Nat) (th : Int) (k ad a b got : Nat) (ok : Bool) (fs : List (List UInt8)) (v : Value) (W' : World) : Prop := ∃ r, v = .bool r ∧ VaP W B th k ad a b got ok fs r W'
theorem infoUx : (Tryz.prog.info? 42).map (fun i => (i.zero, i.size, i.bytes)) = some (some (.int .u64 0), 1, 8) := by kernel_rfl
abbrev u64L (us : List Nat) : List Value := us.map fun (x : Nat) => Value.int .u64 (x : Int)
theorem natsP_take {fs : List (List UInt8)} {i u : Nat} {us : List Nat} {f : List UInt8} (h : natsP (fs.take i) = some us) (hf : fs[i]? = some f) (hu : natP f = some u) : natsP (fs.take (i + 1)) = some (us ++ [u]) := by
  obtain ⟨e, o⟩ := natsP_some h
  rw [List.take_add_one, hf, e]
  simp only [Option.toList]
  obtain ⟨e1, o1⟩ := natP_some hu
  rw [e1, show us.map Lib.decDigits ++ [Lib.decDigits u] = (us ++ [u]).map Lib.decDigits by simp]
  refine natsP_dec _ (fun v hv => ?_)
  rcases List.mem_append.mp hv with q | q
  · exact o v q
  · simp at q; subst q; exact o1
theorem natsP_none : ∀ {fs : List (List UInt8)} {f : List UInt8}, f ∈ fs → natP f = none → natsP fs = none
  | [], f, h, _ => by simp at h
  | x :: r, f, h, hn => by
    rcases List.mem_cons.mp h with rfl | h
    · simp [natsP, hn]
    · simp only [natsP]
      rw [natsP_none h hn]
      split <;> rfl
structure VI (W : World) (B : Nat) (th : Int) (k ad a b got : Nat) (ok : Bool) (fs : List (List UInt8)) (i : Nat) (us : List Nat) (vs : Value) (wr : World) : Prop where
  chg : Chg (fun x => x = B) W wr
  box : wr.heap[B]? = some (.cells (accC th k ad a b vs got ok) 44 (0, 0))
  row : wr.ownsRow 0 42 1 vs us.length (u64L us)
  new : ∀ g, vs.ownBlock = some g → W.heap.size ≤ g
  ns : natsP (fs.take i) = some us
  bl : B < W.heap.size
theorem VI.on {W : World} {B : Nat} {th : Int} {k ad a b got : Nat} {ok : Bool} {fs : List (List UInt8)} {i : Nat} {us : List Nat} {vs : Value} {wr w2 : World} (h : VI W B th k ad a b got ok fs i us vs wr) (hb : Below wr.heap.size wr w2) : VI W B th k ad a b got ok fs i us vs w2 :=
  ⟨h.chg.trans (belowC hb) (fun _ _ x => x) (fun _ _ x => x.elim), heap_below h.box hb, row_kept h.row (fun k hk => hb.block k (row_lt h.row k hk)), h.new, h.ns, h.bl⟩
theorem VI.more {W : World} {B : Nat} {th : Int} {k ad a b got : Nat} {ok : Bool} {fs : List (List UInt8)} {i : Nat} {us : List Nat} {vs vs' : Value} {wr w2 : World} {f : List UInt8} {u : Nat} {o : Obj} (h : VI W B th k ad a b got ok fs i us vs wr) (hf : fs[i]? = some f) (hu : natP f = some u)
    (hr : w2.ownsRow 0 42 1 vs' (us.length + 1) (u64L us ++ [.int .u64 (u : Int)])) (hg : (wr.alloc o).grownBy w2 vs.ownBlock) (hw : vs'.ownBlock = vs.ownBlock ∨ vs'.ownBlock = some (wr.alloc o).heap.size) :
    VI W B th k ad a b got ok fs (i + 1) (us ++ [u]) vs' (w2.setCell ⟨B, 5, none⟩ vs') := by
  have h1 := h.on (below_alloc wr o)
  have hbn : vs.ownBlock ≠ some B := fun e => block_apart h1.row h1.box (by decide) e
  have hb2 : w2.heap[B]? = some (.cells (accC th k ad a b vs got ok) 44 (0, 0)) := (hg.block B (lt_of h1.box) (Ne.symm hbn)).trans h1.box
  have hz := h1.chg.size
  refine ⟨?_, set_of hb2 5 vs', ?_, ?_, natsP_take h.ns hf hu, h.bl⟩
  · have c1 : Chg (fun x => x = B) W w2 := h1.chg.grown hg (fun k e hk => by have := h.new k e; omega)
    exact Chg.setCell c1 (p := ⟨B, 5, none⟩) (fun _ => rfl) _
  · rw [List.length_append, show u64L (us ++ [u]) = u64L us ++ [.int .u64 (u : Int)] by simp [u64L]]
    refine row_kept hr (fun g hgg => ?_)
    refine Below.heap_setCell _ _ _ _ (fun e => ?_)
    have e' : g = B := e
    subst e'
    obtain ⟨cur, hcur⟩ := row_block hr g hgg
    rw [hb2] at hcur
    injection hcur with hcur
    injection hcur with _ ht
    revert ht; decide
  · intro g hgg
    rcases hw with e | e
    · rw [e] at hgg; exact h.new g hgg
    · rw [e] at hgg
      simp at hgg
      have := h.chg.size
      omega

theorem va_end {W : World} {B : Nat} {th : Int} {k ad a b got : Nat} {ok : Bool} {fs : List (List UInt8)} {i nl : Nat} {us : List Nat} {vs v2 : Value} {w2 w3 w5 : World} {f : List UInt8} {u : Nat} (h : VI W B th k ad a b got ok fs i us vs w2) (hw : w3 = w2.alloc (.cells #[.int .u64 (u : Int)] 42)) (hf : fs[i]? = some f) (hu : natP f = some u) (hnl : nl = us.length)
    (r1 : w5.ownsRow 0 42 1 v2 (nl + 1) (u64L us ++ [.int .u64 (u : Int)])) (r2 : w3.grownBy w5 vs.ownBlock) (r4 : v2.ownBlock = vs.ownBlock ∨ v2.ownBlock = some w3.heap.size) :
    ∃ ao an ac, v2 = .slice ao an ac ∧ VI W B th k ad a b got ok fs (i + 1) (us ++ [u]) v2 (w5.setCell ⟨B, 5, none⟩ v2) ∧ w5.cell? ⟨B, 5, none⟩ = some vs ∧ w5.frozen? ⟨B, 5, none⟩ = false := by
  subst hw
  subst hnl
  have hb : w5.heap[B]? = some (.cells (accC th k ad a b vs got ok) 44 (0, 0)) := by
    have hbn : vs.ownBlock ≠ some B := fun e => block_apart h.row h.box (by decide) e
    have h3 := alloc_of h.box (.cells #[.int .u64 (u : Int)] 42)
    exact (r2.block B (lt_of h3) (Ne.symm hbn)).trans h3
  obtain ⟨ao, an, ac, e⟩ : ∃ vp vn vc, v2 = .slice vp vn vc := by
    rcases r1.2 with ⟨hv, _⟩ | ⟨g, cap, cur, hv, _⟩
    · exact ⟨_, _, _, hv⟩
    · exact ⟨_, _, _, hv⟩
  exact ⟨ao, an, ac, e, h.more hf hu r1 r2 r4, cell_of hb 5, free_of hb 5⟩

end Go.Proofs.YtjodechhnobkhaaGreatDoor
