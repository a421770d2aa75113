/- The reader of bytes: at its end; a byte that may stand; a number. -/
import Derived.Test.YtbmfjcdafjknaaaEK
import Derived.Test.YtbmfjcdafjknaaaEt
namespace Go.Proofs.Ytbmfjcdafjknaaa
open Go.RowKit
set_option linter.unusedVariables false

theorem chg_drewL {F : Nat → Prop} {a b : World} (h : Chg F a b) (n : Nat) : Chg F a (b.drewN n) := ⟨h.os, h.tape, h.output, h.size, h.block⟩
/-- Where bytes lie, if there are any. -/
def pB (bs : List Nat) (p : Option Addr) : Option Addr := if bs = [] then none else p
theorem BytesAt.chgB {F : Nat → Prop} {W W' : World} {p : Option Addr} {l : List Nat} (h : BytesAt W p l) (c : Chg F W W') (hn : ∀ b o, pB l p = some ⟨b, o, none⟩ → ¬ F b) : BytesAt W' p l := by
  by_cases e : l = []
  · exact .inl e
  · exact h.chg c (fun b o hp => hn b o (by unfold pB; rw [if_neg e]; exact hp))
theorem BytesAt.ltB {W : World} {p : Option Addr} {l : List Nat} (h : BytesAt W p l) : ∀ b o, pB l p = some ⟨b, o, none⟩ → b < W.heap.size := by
  intro b o e
  rcases h with rfl | ⟨bk, off, rfl, hb, _⟩
  · simp [pB] at e
  · unfold pB at e
    split at e
    · cases e
    · injection e with e
      injection e with e
      omega
/-- A reader: its bytes, and where it stands. -/
structure Rd (W : World) (R : Nat) (p : Option Addr) (bs : List Nat) (c i : Nat) : Prop where
  blk : W.heap[R]? = some (.cells #[.slice p bs.length c, .int .i64 (i : Int)] 79 (0, 0))
  hb : BytesAt W p bs
  hi : i ≤ bs.length
  hn : bs.length ≤ 1000000000
  ne : ∀ b o, pB bs p = some ⟨b, o, none⟩ → b ≠ R
theorem Rd.c0 {W : World} {R : Nat} {p : Option Addr} {bs : List Nat} {c i : Nat} (h : Rd W R p bs c i) : W.cell? ⟨R, 0, none⟩ = some (.slice p bs.length c) := by rw [cell_of h.blk]; rfl
theorem Rd.c1 {W : World} {R : Nat} {p : Option Addr} {bs : List Nat} {c i : Nat} (h : Rd W R p bs c i) : W.cell? ⟨R, 1, none⟩ = some (.int .i64 (i : Int)) := by rw [cell_of h.blk]; rfl
theorem Rd.free {W : World} {R : Nat} {p : Option Addr} {bs : List Nat} {c i : Nat} (h : Rd W R p bs c i) : W.frozen? ⟨R, 1, none⟩ = false := free_of h.blk 1
theorem Rd.lt {W : World} {R : Nat} {p : Option Addr} {bs : List Nat} {c i : Nat} (h : Rd W R p bs c i) : R < W.heap.size := lt_of h.blk
theorem Rd.on {W X : World} {R : Nat} {p : Option Addr} {bs : List Nat} {c i : Nat} {F : Nat → Prop} (h : Rd W R p bs c i) (hX : Chg F W X) (hR : ¬ F R) (hp : ∀ b o, pB bs p = some ⟨b, o, none⟩ → ¬ F b) : Rd X R p bs c i :=
  ⟨(hX.block R h.lt hR).trans h.blk, h.hb.chgB hX hp, h.hi, h.hn, h.ne⟩
theorem Rd.set {W X : World} {R : Nat} {p : Option Addr} {bs : List Nat} {c i : Nat} (h : Rd W R p bs c i) (hX : Chg (fun _ => False) W X) (j : Nat) (hj : j ≤ bs.length) : Rd (X.setCell ⟨R, 1, none⟩ (.int .i64 (j : Int))) R p bs c j ∧ Chg (fun k => k = R) W (X.setCell ⟨R, 1, none⟩ (.int .i64 (j : Int))) := by
  have h2 := h.on hX (fun x => x) (fun _ _ _ x => x)
  have hc : Chg (fun k => k = R) W (X.setCell ⟨R, 1, none⟩ (.int .i64 (j : Int))) := Chg.setCell (F := fun k => k = R) (p := ⟨R, 1, none⟩) (hX.mono (fun _ _ x => x.elim)) (fun _ => rfl) _
  refine ⟨⟨?_, h.hb.chgB hc (fun b o e x => h.ne b o e x), hj, h.hn, h.ne⟩, hc⟩
  rw [set_of h2.blk]
  rfl
def atOf (w : World) (R : Nat) : Nat := (intOf ((w.cell? ⟨R, 1, none⟩).getD (.int .i64 0))).toNat
theorem Rd.at {W : World} {R : Nat} {p : Option Addr} {bs : List Nat} {c i : Nat} (h : Rd W R p bs c i) : atOf W R = i := by
  unfold atOf
  rw [h.c1]
  simp [intOf]
theorem at_end {W : World} {R : Nat} {p : Option Addr} {bs : List Nat} {c i : Nat} (H : Rd W R p bs c i) : Calls Try.prog 64 #[.pointer (some ⟨R, 0, none⟩)] W fun e W' => e = .returned (.bool (decide (i = bs.length))) ∧ Chg (fun _ => False) W W' := by
  have c0 := H.c0
  have c1 := H.c1
  clear H
  have hz : ((i : Int) == (bs.length : Int)) = decide (i = bs.length) := by
    by_cases h : i = bs.length
    · subst h; simp
    · simp [h]; omega
  go_enter Try.func64, Try.ntmps64
  go_wp2_with fail
  go_quiet (fail)
  go_wp2_with fail
  go_ret
  refine ⟨?_, ?_⟩
  · simp
  · repeat' (first | refine Chg.setCell ?_ (fun h => absurd h (Nat.lt_irrefl _)) _ | refine Chg.alloc ?_ _ | refine chg_drewL ?_ _ | refine Chg.drew ?_ | exact Chg.refl _ _)
theorem may_stand (q n : Nat) (w : World) : Calls Try.prog 79 #[.int .u8 (q : Int), .int .i64 (n : Int)] w fun e w' => e = .returned (.bool (mayS q n)) ∧ w' = w := by
  unfold mayS
  by_cases h1 : n = 0
  · have e1 : ((n : Int) == 0) = true := by simp [h1]
    by_cases h2 : n < 9
    · have e2 : decide ((n : Int) < 9) = true := by simp; omega
      go_enter Try.func79, Try.ntmps79
      go_wp2_with fail
      go_ret
      exact ⟨by simp [h1], rfl⟩
    · exact absurd h1 (by omega)
  · have e1 : ((n : Int) == 0) = false := by simp [h1]
    by_cases h3 : q = 0
    · have e3 : ((q : Int) != 0) = false := by simp [h3]
      go_enter Try.func79, Try.ntmps79
      go_wp2_with fail
      go_ret
      exact ⟨by simp [h1, h3], rfl⟩
    · have e3 : ((q : Int) != 0) = true := by simp [h3]
      by_cases h2 : n < 9
      · have e2 : decide ((n : Int) < 9) = true := by simp; omega
        go_enter Try.func79, Try.ntmps79
        go_wp2_with fail
        go_ret
        exact ⟨by simp [h1, h2, h3], rfl⟩
      · have e2 : decide ((n : Int) < 9) = false := by simp; omega
        by_cases h4 : q ≤ 1
        · have e4 : decide ((q : Int) ≤ 1) = true := by simp; omega
          go_enter Try.func79, Try.ntmps79
          go_wp2_with fail
          go_ret
          exact ⟨by simp [h1, h2, h3, h4], rfl⟩
        · have e4 : decide ((q : Int) ≤ 1) = false := by simp; omega
          go_enter Try.func79, Try.ntmps79
          go_wp2_with fail
          go_ret
          exact ⟨by simp [h1, h2, h3, h4], rfl⟩
end Go.Proofs.Ytbmfjcdafjknaaa
