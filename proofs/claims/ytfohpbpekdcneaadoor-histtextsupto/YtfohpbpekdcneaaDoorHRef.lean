/- The document's small calls: Ahead, apart, place, isLeft; lists of ints and of bools. -/
import Derived.Test.YtfohpbpekdcneaaDoorHEvP
namespace Go.Proofs.YtfohpbpekdcneaaDoor
open Go.RowKit

def IReads (W : World) (p : Option Addr) (xs : List Int) : Prop :=
  xs = [] ∨ ∃ bk off, p = some ⟨bk, off, none⟩ ∧ bk < W.heap.size ∧ ∀ (i : Nat) x, xs[i]? = some x → W.cell? ⟨bk, off + i, none⟩ = some (.int .i64 x)
theorem IReads.get {W : World} {p : Option Addr} {xs : List Int} (h : IReads W p xs) (i : Nat) (x : Int) (hx : xs[i]? = some x) : ∃ bk off, p = some ⟨bk, off, none⟩ ∧ bk < W.heap.size ∧ W.cell? ⟨bk, off + i, none⟩ = some (.int .i64 x) := by
  rcases h with rfl | ⟨bk, off, rfl, hb, h⟩
  · simp at hx
  · exact ⟨bk, off, rfl, hb, h i x hx⟩
theorem IReads.chg {W X : World} {p : Option Addr} {xs : List Int} {F : Nat → Prop} (h : IReads W p xs) (hc : Chg F W X) (hF : ∀ q, p = some q → ¬ F q.block) : IReads X p xs := by
  rcases h with rfl | ⟨bk, off, rfl, hb, h⟩
  · exact .inl rfl
  · exact .inr ⟨bk, off, rfl, Nat.lt_of_lt_of_le hb hc.size, fun i x hx => cell_chg hc (h i x hx) (fun x => hF _ rfl x)⟩
def BReads (W : World) (p : Option Addr) (xs : List Bool) : Prop :=
  xs = [] ∨ ∃ bk off, p = some ⟨bk, off, none⟩ ∧ bk < W.heap.size ∧ ∀ (i : Nat) x, xs[i]? = some x → W.cell? ⟨bk, off + i, none⟩ = some (.bool x)
theorem BReads.get {W : World} {p : Option Addr} {xs : List Bool} (h : BReads W p xs) (i : Nat) (x : Bool) (hx : xs[i]? = some x) : ∃ bk off, p = some ⟨bk, off, none⟩ ∧ bk < W.heap.size ∧ W.cell? ⟨bk, off + i, none⟩ = some (.bool x) := by
  rcases h with rfl | ⟨bk, off, rfl, hb, h⟩
  · simp at hx
  · exact ⟨bk, off, rfl, hb, h i x hx⟩
theorem BReads.chg {W X : World} {p : Option Addr} {xs : List Bool} {F : Nat → Prop} (h : BReads W p xs) (hc : Chg F W X) (hF : ∀ q, p = some q → ¬ F q.block) : BReads X p xs := by
  rcases h with rfl | ⟨bk, off, rfl, hb, h⟩
  · exact .inl rfl
  · exact .inr ⟨bk, off, rfl, Nat.lt_of_lt_of_le hb hc.size, fun i x hx => cell_chg hc (h i x hx) (fun x => hF _ rfl x)⟩

def apartB (a b : Sp) : Bool := decide (a.fr ≠ b.fr) && (decide (a.fr ≠ b.to) && (decide (b.fr ≠ a.to) && (decide (a.to ≠ b.to) || decide (a.to = -1))))
theorem apartB_iff {a b : Sp} : apartB a b = true ↔ apartP a b := by
  unfold apartB apartP
  simp
set_option maxRecDepth 100000 in
set_option maxHeartbeats 1000000 in
theorem r_apart (s t : Sp) (W : World) : Calls Tryd.prog 30 #[.agg #[.int .i64 s.th, .int .i64 s.ix, .int .i64 s.fr, .int .i64 s.to], .agg #[.int .i64 t.th, .int .i64 t.ix, .int .i64 t.fr, .int .i64 t.to]] W fun e W' => e = .returned (.bool (apartB s t)) ∧ Chg (fun _ => False) W W' := by
  obtain ⟨a, b, c, d⟩ := s
  obtain ⟨a', b', c', d'⟩ := t
  by_cases h1 : c = c'
  · subst h1
    go_enter Tryd.func30, Tryd.ntmps30
    go_wp2_with fail
    go_ret
    exact ⟨by simp [apartB], ((Chg.refl _ _).alloc _).alloc _⟩
  · by_cases h2 : c = d'
    · subst h2
      go_enter Tryd.func30, Tryd.ntmps30
      go_wp2_with fail
      go_ret
      exact ⟨by simp [apartB], ((Chg.refl _ _).alloc _).alloc _⟩
    · by_cases h3 : c' = d
      · subst h3
        go_enter Tryd.func30, Tryd.ntmps30
        go_wp2_with fail
        go_ret
        exact ⟨by simp [apartB], ((Chg.refl _ _).alloc _).alloc _⟩
      · by_cases h4 : d = d'
        · subst h4
          go_enter Tryd.func30, Tryd.ntmps30
          go_wp2_with fail
          go_ret
          exact ⟨by rw [bne_iff_ne.2 h1, bne_iff_ne.2 h2, bne_iff_ne.2 h3]; simp [apartB, h1, h2, h3]; by_cases h5 : d = -1 <;> simp [h5], ((Chg.refl _ _).alloc _).alloc _⟩
        · skip
          go_enter Tryd.func30, Tryd.ntmps30
          go_wp2_with fail
          go_ret
          exact ⟨by simp [apartB, h1, h2, h3, h4], ((Chg.refl _ _).alloc _).alloc _⟩
theorem r_apart_b {s t : Sp} {B : Bool} (h : apartB s t = B) (W : World) : Calls Tryd.prog 30 #[.agg #[.int .i64 s.th, .int .i64 s.ix, .int .i64 s.fr, .int .i64 s.to], .agg #[.int .i64 t.th, .int .i64 t.ix, .int .i64 t.fr, .int .i64 t.to]] W fun e W' => e = .returned (.bool B) ∧ Chg (fun _ => False) W W' := by
  rw [← h]
  exact r_apart s t W
end Go.Proofs.YtfohpbpekdcneaaDoor
