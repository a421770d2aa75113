/- The lines of a text, read one behind the other: pure, and the iterator. -/
import Derived.RangeFuncNested
import Derived.RangeFuncBox
import Derived.RangeFuncBound
import Derived.RangeFuncCalls
import Derived.RangeFuncLeaves
import Derived.Shelf.Abstract
import Derived.Shelf.AbstractIn
import Derived.WalkKit
import Derived.OwnWalkIn
import Derived.TacticsInMore
import Derived.RegionIn
import Derived.LoopNIn
import Derived.LoopIn
import Derived.Lib.QuietBelowIn
import Derived.Test.YtfohpbpekdcneaaDoorHtg
namespace Go.Proofs.YtfohpbpekdcneaaDoor
open Go.RowKit Go.Shelf
set_option linter.unusedVariables false
attribute [local go_sem] Oper.semAt_some

/-- the first line of a text -/
def Piece (t p r : List UInt8) : Prop := t = p ++ r ∧ t ≠ [] ∧ ((∃ a, noB 10 a ∧ p = a ++ [10]) ∨ (noB 10 t ∧ r = []))
theorem piece_of (t : List UInt8) (h : t ≠ []) : ∃ p r, Piece t p r ∧ p.length = (if Lib.indexByte t 10 + 1 = 0 then t.length else (Lib.indexByte t 10 + 1).toNat) ∧ p ≠ [] := by
  rcases ix_cases 10 t with h1 | ⟨a, r, ha, rfl⟩
  · refine ⟨t, [], ⟨by simp, h, Or.inr ⟨h1, rfl⟩⟩, ?_, h⟩
    rw [ix_none h1]; rfl
  · refine ⟨a ++ [10], r, ⟨by simp, h, Or.inl ⟨a, ha, rfl⟩⟩, ?_, by simp⟩
    rw [ix_at ha, if_neg (by omega)]
    simp
theorem line_piece (s : Sp) : ∃ a, noB 10 a ∧ lineL s = a ++ [10] := by
  refine ⟨Lib.itoa s.th ++ 32 :: (Lib.itoa s.ix ++ 32 :: (Lib.itoa s.fr ++ 32 :: toL s.to)), ?_, by unfold lineL; simp⟩
  exact (itoa_no _ _ (by decide)).append ((noB.cons (by decide)) ((itoa_no _ _ (by decide)).append ((noB.cons (by decide)) ((itoa_no _ _ (by decide)).append ((noB.cons (by decide)) (toL_no _ _ (by decide)))))))
theorem noB_cut {a b r r' : List UInt8} (ha : noB 10 a) (hb : noB 10 b) (e : a ++ 10 :: r = b ++ 10 :: r') : a = b ∧ r = r' := by
  have h1 := ix_at (r := r) ha
  rw [e, ix_at hb] at h1
  have hl : b.length = a.length := by omega
  have := List.append_inj e hl.symm
  exact ⟨this.1, by injection this.2⟩
theorem Piece.line {t p r : List UInt8} (h : Piece t p r) {s : Sp} {q : List UInt8} (e : t = lineL s ++ q) : p = lineL s ∧ r = q := by
  obtain ⟨a, ha, hl⟩ := line_piece s
  rw [hl] at e ⊢
  obtain ⟨h1, h2, h3⟩ := h
  rcases h3 with ⟨b, hb, rfl⟩ | ⟨hb, rfl⟩
  · rw [h1] at e
    have e' : b ++ 10 :: r = a ++ 10 :: q := by simpa using e
    obtain ⟨rfl, rfl⟩ := noB_cut hb ha e'
    exact ⟨rfl, rfl⟩
  · exfalso
    rw [e] at hb
    exact hb 10 (by simp) rfl

def RdP : List (Sp × Bool) → List UInt8 → List UInt8 → Prop
  | [], t, r => t = r
  | x :: xs, t, r => ∃ p t', Piece t p t' ∧ SpR p x.1 x.2 ∧ RdP xs t' r
theorem RdP.snoc : ∀ {xs : List (Sp × Bool)} {t r p r' : List UInt8} {x : Sp × Bool}, RdP xs t r → Piece r p r' → SpR p x.1 x.2 → RdP (xs ++ [x]) t r'
  | [], t, r, p, r', x, h, hp, hs => by
    have h : t = r := h
    subst h
    exact ⟨p, r', hp, hs, rfl⟩
  | y :: ys, t, r, p, r', x, h, hp, hs => by
    obtain ⟨p0, t0, h1, h2, h3⟩ := h
    exact ⟨p0, t0, h1, h2, h3.snoc hp hs⟩
theorem piece_ne {t p r : List UInt8} (h : Piece t p r) : 1 ≤ p.length := by
  obtain ⟨h1, h2, h3⟩ := h
  rcases h3 with ⟨b, hb, rfl⟩ | ⟨hb, rfl⟩
  · simp
  · rcases p with _ | ⟨x, p⟩
    · simp at h1; exact absurd h1 h2
    · simp
theorem RdP.len : ∀ {xs : List (Sp × Bool)} {t r : List UInt8}, RdP xs t r → xs.length + r.length ≤ t.length
  | [], t, r, h => by
    have h : t = r := h
    subst h; simp
  | y :: ys, t, r, h => by
    obtain ⟨p0, t0, h1, h2, h3⟩ := h
    have a := h3.len
    have b := piece_ne h1
    have c := congrArg List.length h1.1
    simp at c ⊢
    omega
theorem RdP.all : ∀ {xs : List (Sp × Bool)} {t r : List UInt8}, RdP xs t r → (∀ x ∈ xs, x.2 = true) → t = printL (xs.map Prod.fst) ++ r ∧ (∀ x ∈ xs, x.1.Ok) ∧ (∀ l : List Sp, (∀ s ∈ l, Gd s) → t = printL l → ∃ l', l = xs.map Prod.fst ++ l' ∧ r = printL l')
  | [], t, r, h, _ => by
    have h : t = r := h
    subst h
    exact ⟨by simp [printL], (fun x hx => by simp at hx), fun l _ e => ⟨l, by simp, e⟩⟩
  | y :: ys, t, r, h, hb => by
    obtain ⟨p0, t0, h1, h2, h3⟩ := h
    obtain ⟨a, b, c⟩ := h3.all (fun x hx => hb x (by simp [hx]))
    have hy := hb y (by simp)
    have e1 := h2.yes hy
    refine ⟨?_, ?_, ?_⟩
    · rw [h1.1, List.map_cons, printL_cons, e1, a]; simp
    · intro x hx
      rcases List.mem_cons.mp hx with rfl | hx
      · exact h2.ok
      · exact b x hx
    · intro l hl e
      cases l with
      | nil => exact absurd e h1.2.1
      | cons s l =>
        rw [printL_cons] at e
        obtain ⟨e2, e3⟩ := h1.line e
        obtain ⟨_, e4⟩ := h2.all s (hl s (by simp)) e2
        obtain ⟨l', e5, e6⟩ := c l (fun x hx => hl x (by simp [hx])) e3
        exact ⟨l', by rw [List.map_cons, e4, e5]; rfl, e6⟩
theorem RdP.no {xs : List (Sp × Bool)} {t r p r' : List UInt8} {sp : Sp} (h : RdP xs t r) (hb : ∀ x ∈ xs, x.2 = true) (hp : Piece r p r') (hs : SpR p sp false) : ∀ l : List Sp, (∀ s ∈ l, Gd s) → t ≠ printL l := by
  intro l hl e
  obtain ⟨_, _, c⟩ := h.all hb
  obtain ⟨l', e1, e2⟩ := c l hl e
  cases l' with
  | nil => exact absurd e2 hp.2.1
  | cons s l' =>
    rw [printL_cons] at e2
    obtain ⟨e3, _⟩ := hp.line e2
    have := (hs.all s (hl s (by rw [e1]; simp)) e3).1
    cases this
/-- as far as it came: each line but the last was one -/
def RdX (xs : List (Sp × Bool)) (t : List UInt8) : Prop := ∃ r, RdP xs t r

theorem splitK_le : ∀ (k : Nat) (s f : List UInt8), f ∈ Lib.splitK [32] 0 k s → f.length ≤ s.length
  | 0, s, f, h => by
    simp [Lib.splitK] at h
    subst h; exact Nat.le_refl _
  | k + 1, s, f, h => by
    rw [Lib.splitK] at h
    split at h
    · simp at h; subst h; exact Nat.le_refl _
    · rcases List.mem_cons.mp h with rfl | h
      · rw [List.length_take]; omega
      · have := splitK_le k _ f h
        rw [List.length_drop] at this
        omega
theorem split_le (s f : List UInt8) (h : f ∈ Lib.split s [32]) : f.length ≤ s.length := splitK_le _ s f h
theorem span_any (t : List UInt8) (ht : t.length ≤ 200000000) (w : World) (T : Tb w) :
    Calls Tryd.prog 34 #[.string (mkS t)] w fun e w' => (∃ (sp : Sp) (b : Bool), e = .returned (.tuple #[.agg #[.int .i64 sp.th, .int .i64 sp.ix, .int .i64 sp.fr, .int .i64 sp.to], .bool b]) ∧ SpR t sp b) ∧ Below w.heap.size w w' := by
  by_cases h : (fieldsL t).length = 4
  · obtain ⟨f0, f1, f2, f3, hf⟩ : ∃ a b c d, fieldsL t = [a, b, c, d] := by
      match hq : fieldsL t, h with
      | [a, b, c, d], _ => exact ⟨a, b, c, d, rfl⟩
    have hfl : ∀ f ∈ [f0, f1, f2, f3], f.length ≤ 200000000 := by
      intro f hm
      rw [← hf] at hm
      have := split_le (Lib.trimSuffix t [10]) f hm
      have := trim_len t
      omega
    by_cases hd : f3 = [45]
    · exact span_dash t ht w T f0 f1 f2 f3 hf hd hfl
    · exact span_plain t ht w T f0 f1 f2 f3 hf hd hfl
  · refine (span_few t ht w T h).mono ?_
    rintro e w' ⟨rfl, hb⟩
    exact ⟨⟨sp0, false, rfl, SpR.few h⟩, hb⟩
theorem ib_any (t : List UInt8) (w : World) :
    Calls Tryd.prog 33 #[.string (mkS t), .int .u8 10] w fun e w' => e = .returned (.int .i64 (Lib.indexByte t 10)) ∧ w' = w := Any.strings_IndexByte Tryd.lays137 (mkS t) 10 w
end Go.Proofs.YtfohpbpekdcneaaDoor
