/- Taking one that stands first away each time: rows and lists. -/
import Derived.Test.YtmdeodijcmeflaaHSomeP
import Derived.Test.YtmdeodijcmeflaaHKeeps
import Derived.Test.YtmdeodijcmeflaaHFirst
namespace Go.Proofs.Ytmdeodijcmeflaa
open Go.RowKit Go.Maps

def lenV : Value → Nat
  | .slice _ n _ => n
  | _ => 0
def fillN (n : Nat) : Nat → List Bool
  | 0 => List.replicate n false
  | k + 1 => (fillN n k).set k true
theorem fillN_length (n k : Nat) : (fillN n k).length = n := by
  induction k with
  | zero => simp [fillN]
  | succ k ih => rw [fillN, List.length_set]; exact ih
theorem fillN_get (n k i : Nat) (hi : i < n) : (fillN n k)[i]? = some (decide (i < k)) := by
  induction k with
  | zero => simp [fillN, hi]
  | succ k ih =>
    rw [fillN, List.getElem?_set, fillN_length]
    by_cases c : k = i
    · subst c
      rw [if_pos rfl, if_pos hi]
      simp
    · rw [if_neg c, ih]
      congr 1
      by_cases c2 : i < k
      · simp [c2]; omega
      · simp [c2]; omega
theorem fillN_full (n : Nat) : fillN n n = List.replicate n true := by
  apply List.ext_getElem?
  intro i
  by_cases c : i < n
  · rw [fillN_get n n i c, List.getElem?_replicate, if_pos c]
    simp [c]
  · rw [List.getElem?_eq_none (by rw [fillN_length]; omega), List.getElem?_eq_none (by simp; omega)]
theorem IReads.of_row {W : World} {p : Option Addr} {c : Nat} {o : List Nat} (h : W.ownsRow 0 3 1 (.slice p o.length c) o.length (iRow o)) : IReads W p (oInts o) := by
  rcases h.2 with ⟨h2, h3⟩ | ⟨g, cap, cur, h2, _⟩
  · exact .inl (by rw [List.eq_nil_of_length_eq_zero h3]; rfl)
  · simp only [Value.slice.injEq] at h2
    obtain ⟨rfl, _, rfl⟩ := h2
    rcases Nat.eq_zero_or_pos o.length with h0 | h0
    · exact .inl (by rw [List.eq_nil_of_length_eq_zero h0]; rfl)
    · refine .inr ⟨g, 0, rfl, row_lt h g rfl, fun i x hx => ?_⟩
      obtain ⟨n, hn, rfl⟩ := oInts_get hx
      have hi := (List.getElem?_eq_some_iff.1 hn).1
      rw [Nat.zero_add, World.ownsRow.cellAt h i (by omega), iRow, List.getElem?_map, hn]
      rfl
structure SB (l : List Sp) (W wr : World) (g : Nat) (bs : List Bool) (o : List Nat) (v : Value) : Prop where
  tak : Tak l bs o
  pl : BAt wr g bs
  row : wr.ownsRow 0 3 1 v o.length (iRow o)
  chg : Chg (fun _ => False) W wr
  new : ∀ b, v.ownBlock = some b → W.heap.size ≤ b
theorem SB.next {l : List Sp} {W wr w1 w2 : World} {g m : Nat} {bs : List Bool} {o : List Nat} {v v' : Value} {ob : Obj} (h : SB l W wr g bs o v) (hg : W.heap.size ≤ g) (hm : m < l.length) (hf : FirstP l bs m) (hc : Chg (fun _ => False) wr w1)
    (hr : w2.ownsRow 0 3 1 v' (o.length + 1) (iRow o ++ [.int .i64 (m : Int)])) (hgr : ((w1.setCell ⟨g, m, none⟩ (.bool false)).alloc ob).grownBy w2 v.ownBlock) (hw : v'.ownBlock = v.ownBlock ∨ v'.ownBlock = some ((w1.setCell ⟨g, m, none⟩ (.bool false)).alloc ob).heap.size) : SB l W w2 g (bs.set m false) (o ++ [m]) v' := by
  have hv : v.ownBlock ≠ some g := block_apart h.row h.pl (by decide)
  have c1 : Chg (fun b => b = g) w1 (w1.setCell ⟨g, m, none⟩ (.bool false)) := (Chg.refl (fun b => b = g) w1).setCell (fun _ => rfl) _
  have c2 : Chg (fun b => v.ownBlock = some b) (w1.setCell ⟨g, m, none⟩ (.bool false)) w2 := ((Chg.refl (fun b => v.ownBlock = some b) _).alloc ob).grown hgr (fun k e _ => e)
  have c3 := h.chg.trans hc (H := fun _ => False) (fun _ _ x => x) (fun _ _ x => x)
  have c4 := c3.trans c1 (H := fun _ => False) (fun _ _ x => x) (fun i hi x => by omega)
  refine ⟨h.tak.next hm hf, ?_, ?_, c4.trans c2 (fun _ _ x => x) (fun i hi x => by have := h.new _ x; omega), ?_⟩
  · exact ((h.pl.chg hc (fun x => x)).set m false).chg c2 hv
  · rw [List.length_append]
    unfold iRow at *
    rw [List.map_append]
    exact hr
  · intro b hb
    have hs := c4.size
    rcases hw with e1 | e1
    · rw [e1] at hb
      exact h.new b hb
    · rw [e1] at hb
      simp only [Option.some.injEq, World.size_alloc] at hb
      omega
end Go.Proofs.Ytmdeodijcmeflaa
