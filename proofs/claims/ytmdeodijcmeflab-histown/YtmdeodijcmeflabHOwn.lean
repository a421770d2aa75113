/- What stays while a book takes what First tells, and what Cut tells is marked. -/
import Derived.Test.YtmdeodijcmeflabBkA
import Derived.Test.YtmdeodijcmeflabHLent
import Derived.Test.YtmdeodijcmeflabHCut
namespace Go.Proofs.Ytmdeodijcmeflab
open Go.RowKit Go.Maps

theorem SReads.up {W X : World} {p : Option Addr} {l : List Sp} {F : Nat → Prop} (h : SReads W p l) (hc : Chg F W X) (hF : ∀ b, F b → W.heap.size ≤ b) : SReads X p l := by
  rcases h with rfl | ⟨bk, off, rfl, hb, h⟩
  · exact .inl rfl
  · exact SReads.chg (.inr ⟨bk, off, rfl, hb, h⟩) hc (fun q hq x => by
      cases hq
      have := hF _ x
      simp at this
      omega)
theorem BReads.up {W X : World} {p : Option Addr} {l : List Bool} {F : Nat → Prop} (h : BReads W p l) (hc : Chg F W X) (hF : ∀ b, F b → W.heap.size ≤ b) : BReads X p l := by
  rcases h with rfl | ⟨bk, off, rfl, hb, h⟩
  · exact .inl rfl
  · exact BReads.chg (.inr ⟨bk, off, rfl, hb, h⟩) hc (fun q hq x => by
      cases hq
      have := hF _ x
      simp at this
      omega)
structure OI (base : Nat) (W0 wr : World) (g cap Bk m i fl : Nat) (a : Value) (l : List Sp) : Prop where
  book : ∃ v len sv, BKept base wr Bk i v len sv ∧ ∀ j, j < i → len j = fl
  lent : Lent wr g cap l
  row : ∃ xs, wr.ownsRow 0 63 4 a m xs
  chg : Chg (fun b => base ≤ b) W0 wr
theorem OI.quiet {base : Nat} {W0 wr wx : World} {g cap Bk m i fl : Nat} {a : Value} {l : List Sp} (h : OI base W0 wr g cap Bk m i fl a l) (hc : Chg (fun _ => False) wr wx) : OI base W0 wx g cap Bk m i fl a l := by
  obtain ⟨⟨v, len, sv, hb, hl⟩, h2, ⟨xs, h3⟩, h4⟩ := h
  exact ⟨⟨v, len, sv, hb.quiet hc, hl⟩, h2.chg hc (fun x => x), ⟨xs, row_kept h3 fun b hb => hc.block b (row_lt h3 b hb) (fun x => x)⟩, h4.trans hc (fun _ _ x => x) (fun _ _ x => x.elim)⟩
theorem OI.took {base : Nat} {W0 wr wx : World} {g cap Bk m i fl : Nat} {a : Value} {l : List Sp} {v : Nat → Value} {len : Nat → Nat} {sv sv' x : Value} (h : OI base W0 wr g cap Bk m i fl a l) (hg : g < base) (hb : BKept base wr Bk i v len sv) (hl : ∀ j, j < i → len j = fl)
    (hb' : BKept base wx Bk (i + 1) (fun j => if j = i then x else v j) (fun j => if j = i then fl else len j) sv') (hc : Chg (fun b => b = Bk ∨ sv.ownBlock = some b) wr wx) : OI base W0 wx g cap Bk m (i + 1) fl a l := by
  obtain ⟨_, h2, ⟨xs, h3⟩, h4⟩ := h
  have hbn := hb.bn
  refine ⟨⟨_, _, sv', hb', fun j hj => ?_⟩, h2.chg hc (fun e => ?_), ⟨xs, row_kept h3 fun b hb2 => hc.block b (row_lt h3 b hb2) (fun e => ?_)⟩, h4.trans hc (fun _ _ x => x) (fun b _ e => ?_)⟩
  · by_cases e : j = i
    · simp only [if_pos e]
    · simp only [if_neg e]
      exact hl j (by omega)
  · rcases e with e | e
    · omega
    · have := hb.sn _ e
      omega
  · rcases e with e | e
    · rw [e] at hb2
      exact block_apart h3 hb.blk (by decide) hb2
    · exact rows_apart h3 hb.outer (by decide) b hb2 e
  · rcases e with e | e
    · omega
    · exact hb.sn _ e
theorem OI.put {base : Nat} {W0 wr : World} {g cap Bk m i fl ga ca k : Nat} {l : List Sp} (h : OI base W0 wr g cap Bk m i fl (.slice (some ⟨ga, 0, none⟩) m ca) l) (hg : g < base) (ha : base ≤ ga) (u : Value) : OI base W0 (wr.setCell ⟨ga, k, none⟩ u) g cap Bk m i fl (.slice (some ⟨ga, 0, none⟩) m ca) l := by
  obtain ⟨⟨v, len, sv, hb, hl⟩, h2, ⟨xs, h3⟩, h4⟩ := h
  have hc : Chg (fun b => b = ga) wr (wr.setCell ⟨ga, k, none⟩ u) := (Chg.refl (fun b => b = ga) wr).setCell (fun _ => rfl) u
  refine ⟨⟨v, len, sv, hb.chg hc (fun e => ?_) (fun b h1 e => ?_) (fun j b hj h1 e => ?_), hl⟩, h2.chg hc (fun e => by omega), ⟨_, (World.ownsRow.stored h3 k u).1⟩, h4.trans hc (fun _ _ x => x) (fun b _ e => by omega)⟩
  · exact block_apart h3 hb.blk (by decide) (by rw [e]; rfl)
  · exact rows_apart h3 hb.outer (by decide) b (by rw [e]; rfl) h1
  · obtain ⟨ys, hy⟩ := hb.rows j hj
    exact rows_apart h3 hy (by decide) b (by rw [e]; rfl) h1
end Go.Proofs.Ytmdeodijcmeflab
