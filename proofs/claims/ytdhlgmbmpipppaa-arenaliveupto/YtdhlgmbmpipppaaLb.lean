/- A live memory's bank, used by one goroutine. -/
import Derived.Test.YtdhlgmbmpipppaaLa
namespace Go.Proofs.Ytdhlgmbmpipppaa
open Go.RowKit Go.Shelf
set_option linter.unusedVariables false

def lbL (gc gf nx : Nat) : Array Value := #[.slice (some ⟨gc, 0, none⟩) 256 256, .slice (some ⟨gf, 0, none⟩) 4 4, .int .u64 (nx : Int)]
/-- The bank: its cells, its marks, and how many cells were handed out. -/
structure LB (W : World) (lb gc gf : Nat) (next : Nat) (cs : List Nat) : Prop where
  blk : W.heap[lb]? = some (.cells (lbL gc gf next) 65 (0, 0))
  row : IsR W gc 256 (fun i => .int .u64 (cellN cs i : Int)) 63
  fil : IsR W gf 4 (fun j => .int .u64 (FW next j : Int)) 63
  nx : 1 ≤ next ∧ next ≤ 256
  out : ∀ i, 256 ≤ i → cellN cs i = 0
  sm : ∀ i, cellN cs i < 18446744073709551616
section
variable {W X : World} {lb gc gf next : Nat} {cs : List Nat}
theorem LB.ne (h : LB W lb gc gf next cs) : lb ≠ gc ∧ lb ≠ gf ∧ gc ≠ gf := by
  refine ⟨fun e => ?_, fun e => ?_, fun e => ?_⟩
  · have a := h.blk; have b := h.row; unfold IsR at b; rw [e, b] at a; simp at a
  · have a := h.blk; have b := h.fil; unfold IsR at b; rw [e, b] at a; simp at a
  · have a := h.row; have b := h.fil; unfold IsR at a b; rw [e, b] at a
    have := congrArg (fun o => match o with | some (.cells c _ _) => c.size | _ => 0) a
    simp [rowV] at this
theorem LB.chg {S : Nat → Prop} (h : LB W lb gc gf next cs) (c : Chg S W X) (h1 : ¬ S lb) (h2 : ¬ S gc) (h3 : ¬ S gf) : LB X lb gc gf next cs :=
  ⟨(c.block lb (lt_of h.blk) h1).trans h.blk, (c.block gc (lt_of h.row) h2).trans h.row, (c.block gf (lt_of h.fil) h3).trans h.fil, h.nx, h.out, h.sm⟩
theorem LB.put (h : LB W lb gc gf next cs) {a x : Nat} (ha : a < 256) (hx : x < 18446744073709551616) : LB (W.setCell ⟨gc, a, none⟩ (.int .u64 (x : Int))) lb gc gf next (stN 256 cs a x) := by
  obtain ⟨n1, n2, n3⟩ := h.ne
  refine ⟨other_of h.blk n1 _, (h.row.set a ha _).congr (fun i hi => ?_), other_of h.fil (fun e => n3 e.symm) _, h.nx, fun i hi => ?_, fun i => ?_⟩
  · rw [stN_cell]
    by_cases e : i = a
    · subst e; rw [updV_same, if_pos ⟨rfl, ha⟩]
    · rw [updV_other _ _ _ _ e, if_neg (fun z => e z.1)]
  · rw [stN_cell, if_neg (by omega)]; exact h.out i hi
  · rw [stN_cell]; split
    · exact hx
    · exact h.sm i
theorem LB.filled (h : LB W lb gc gf next cs) {a : Nat} (ha : a < 256) : Calls Try.prog 56 #[.pointer (some ⟨lb, 0, none⟩), .int .u64 (a : Int)] W fun e w => e = .returned (.bool (decide (a < next))) ∧ w = W := by
  have q := t_filled (a / 64) (a % 64) rfl rfl ha (fw_lt next (a / 64)) h.blk (h.fil.cell (a / 64) (by omega))
  rw [fw_bit] at q
  exact q
set_option maxRecDepth 100000 in
theorem LB.cell (h : LB W lb gc gf next cs) (a : Nat) (ha : a < 18446744073709551616) : Calls Try.prog 51 #[.pointer (some ⟨lb, 0, none⟩), .int .u64 (a : Int)] W fun e w => e = .returned (.pointer (if a < 256 then some ⟨gc, a, none⟩ else none)) ∧ w = W := by
  have c0 : W.cell? ⟨lb, 0, none⟩ = some (.slice (some ⟨gc, 0, none⟩) 256 256) := cell_of h.blk 0
  have c2 : W.cell? ⟨lb, 2, none⟩ = some (.int .u64 (next : Int)) := cell_of h.blk 2
  have w256 : IntKind.u64.wrap 256 = 256 := by decide
  by_cases hlt : a < 256
  · rw [if_pos hlt]
    have t1 : ¬ (256 : Int) ≤ (a : Int) := by omega
    have t1' : (a : Int) < 256 := by omega
    have HF := keepH (h.filled hlt)
    clear h
    go_enter Try.func51, Try.ntmps51
    go_wp2_with fail
    go_loopw [] (fun wr => wr = W) (fun _ => 0)
    case atStart => rfl
    case round =>
      subst hrel
      go_wp2_with fail
      refine HF.out.mono ?_
      rintro e w ⟨rfl, rfl⟩
      by_cases hn : a < next
      · rw [decide_eq_true hn]
        go_wp2_with fail
        go_ret
        exact ⟨by simp, rfl⟩
      · rw [decide_eq_false hn]
        have t2 : ¬ (a : Int) < (next : Int) := by omega
        go_wp2_with fail
        refine (a_load c2).mono ?_
        rintro e w' ⟨rfl, rfl⟩
        go_wp2_with fail
        go_ret
        exact ⟨by simp, rfl⟩
  · rw [if_neg hlt]
    have t1 : (256 : Int) ≤ (a : Int) := by omega
    clear h
    go_enter Try.func51, Try.ntmps51
    go_wp2_with fail
    go_ret
    exact ⟨by simp, rfl⟩
set_option maxRecDepth 100000 in
theorem LB.load (h : LB W lb gc gf next cs) (a : Nat) (ha : a < 18446744073709551616) : Calls Try.prog 47 #[.pointer (some ⟨lb, 0, none⟩), .int .u64 (a : Int)] W fun e w => e = .returned (.int .u64 (cellN cs a : Int)) ∧ w = W := by
  have HC := keepH (h.cell a ha)
  by_cases hlt : a < 256
  · rw [if_pos hlt] at HC
    have hc := h.row.cell a hlt
    clear h
    go_enter Try.func47, Try.ntmps47
    go_wp2_with fail
    refine HC.out.mono ?_
    rintro e w ⟨rfl, rfl⟩
    go_wp2_with fail
    refine (a_load hc).mono ?_
    rintro e w' ⟨rfl, rfl⟩
    go_wp2_with fail
    go_ret
    exact ⟨by simp, rfl⟩
  · rw [if_neg hlt] at HC
    rw [h.out a (by omega)]
    clear h
    go_enter Try.func47, Try.ntmps47
    go_wp2_with fail
    refine HC.out.mono ?_
    rintro e w ⟨rfl, rfl⟩
    go_wp2_with fail
    go_ret
    exact ⟨by simp, rfl⟩
set_option maxRecDepth 100000 in
theorem LB.store (h : LB W lb gc gf next cs) (a x : Nat) (ha : a < 18446744073709551616) (hx : x < 18446744073709551616) : Calls Try.prog 49 #[.pointer (some ⟨lb, 0, none⟩), .int .u64 (a : Int), .int .u64 (x : Int)] W fun e w => e = .returned (.tuple #[]) ∧ LB w lb gc gf next (stN 256 cs a x) ∧ Chg (fun k => k = gc) W w := by
  have HC := keepH (h.cell a ha)
  by_cases hlt : a < 256
  · rw [if_pos hlt] at HC
    have hc := h.row.cell a hlt
    have hz := free_of h.row a
    have HP := keepH (h.put hlt hx)
    clear h
    go_enter Try.func49, Try.ntmps49
    go_wp2_with fail
    refine HC.out.mono ?_
    rintro e w ⟨rfl, rfl⟩
    go_wp2_with fail
    refine (a_store (x : Int) hc hz).mono ?_
    rintro e w' ⟨rfl, rfl⟩
    go_wp2_with fail
    go_end0
    exact ⟨rfl, HP.out, (Chg.refl (fun k => k = gc) w).setCell (p := ⟨gc, a, none⟩) (fun _ => rfl) _⟩
  · rw [if_neg hlt] at HC
    have HP : Hid (LB W lb gc gf next (stN 256 cs a x)) := by unfold stN; rw [if_neg hlt]; exact h
    clear h
    go_enter Try.func49, Try.ntmps49
    go_wp2_with fail
    refine HC.out.mono ?_
    rintro e w ⟨rfl, rfl⟩
    go_wp2_with fail
    go_end0
    exact ⟨rfl, HP.out, Chg.refl _ _⟩
set_option maxRecDepth 100000 in
theorem LB.cas (h : LB W lb gc gf next cs) (a o x : Nat) (ha : a < 18446744073709551616) (hx : x < 18446744073709551616) : Calls Try.prog 45 #[.pointer (some ⟨lb, 0, none⟩), .int .u64 (a : Int), .int .u64 (o : Int), .int .u64 (x : Int)] W fun e w => e = .returned (.bool (casOk 256 cs a o)) ∧ LB w lb gc gf next (casN 256 cs a o x) ∧ Chg (fun k => k = gc) W w := by
  have HC := keepH (h.cell a ha)
  by_cases hlt : a < 256
  · rw [if_pos hlt] at HC
    have hc := h.row.cell a hlt
    have hz := free_of h.row a
    have HP := keepH (h.put hlt hx)
    by_cases e : cellN cs a = o
    · have e1 : casOk 256 cs a o = true := decide_eq_true ⟨hlt, e⟩
      have e2 : casN 256 cs a o x = stN 256 cs a x := by unfold casN stN; rw [if_pos ⟨hlt, e⟩, if_pos hlt]
      rw [e1, e2]
      subst e
      clear h e1 e2
      go_enter Try.func45, Try.ntmps45
      go_wp2_with fail
      refine HC.out.mono ?_
      rintro e w ⟨rfl, rfl⟩
      go_wp2_with fail
      refine (a_cas (cellN cs a : Int) (x : Int) hc hz).mono ?_
      rintro e w' ⟨rfl, hw⟩
      rw [if_pos rfl] at hw
      subst hw
      rw [decide_eq_true rfl]
      go_wp2_with fail
      go_ret
      exact ⟨by simp, HP.out, (Chg.refl (fun k => k = gc) w).setCell (p := ⟨gc, a, none⟩) (fun _ => rfl) _⟩
    · have e1 : casOk 256 cs a o = false := decide_eq_false (fun z => e z.2)
      have e2 : casN 256 cs a o x = cs := by unfold casN; rw [if_neg (fun z => e z.2)]
      have ne : ¬ (cellN cs a : Int) = (o : Int) := by omega
      rw [e1, e2]
      have H := keepH h
      clear h e1 e2
      go_enter Try.func45, Try.ntmps45
      go_wp2_with fail
      refine HC.out.mono ?_
      rintro e w ⟨rfl, rfl⟩
      go_wp2_with fail
      refine (a_cas (o : Int) (x : Int) hc hz).mono ?_
      rintro e w' ⟨rfl, hw⟩
      rw [if_neg ne] at hw
      subst hw
      rw [decide_eq_false ne]
      go_wp2_with fail
      go_ret
      exact ⟨by simp, H.out, Chg.refl _ _⟩
  · rw [if_neg hlt] at HC
    have e1 : casOk 256 cs a o = false := decide_eq_false (fun z => hlt z.1)
    have e2 : casN 256 cs a o x = cs := by unfold casN; rw [if_neg (fun z => hlt z.1)]
    rw [e1, e2]
    have H := keepH h
    clear h e1 e2
    go_enter Try.func45, Try.ntmps45
    go_wp2_with fail
    refine HC.out.mono ?_
    rintro e w ⟨rfl, rfl⟩
    go_wp2_with fail
    go_ret
    exact ⟨by simp, H.out, Chg.refl _ _⟩
set_option maxRecDepth 100000 in
theorem LB.add (h : LB W lb gc gf next cs) (a x : Nat) (ha : a < 18446744073709551616) (hx : x < 18446744073709551616) : Calls Try.prog 43 #[.pointer (some ⟨lb, 0, none⟩), .int .u64 (a : Int), .int .u64 (x : Int)] W fun e w => e = .returned (.int .u64 (cellN cs a : Int)) ∧ LB w lb gc gf next (stN 256 cs a (addN (cellN cs a) x)) ∧ Chg (fun k => k = gc) W w := by
  have HC := keepH (h.cell a ha)
  by_cases hlt : a < 256
  · rw [if_pos hlt] at HC
    have hc := h.row.cell a hlt
    have hz := free_of h.row a
    obtain ⟨s, hs⟩ : ∃ s, s = addN (cellN cs a) x := ⟨_, rfl⟩
    have hsl : s < 18446744073709551616 := by rw [hs]; exact Nat.mod_lt _ (by omega)
    obtain ⟨y, hy⟩ : ∃ y, y = cellN cs a := ⟨_, rfl⟩
    have hyl : y < 18446744073709551616 := by rw [hy]; exact h.sm a
    rw [← hs]
    rw [← hy] at hc hs ⊢
    have ew : IntKind.u64.wrap ((y : Int) + (x : Int)) = (s : Int) := by rw [hs, IntKind.wrap_u64]; unfold addN; omega
    have es : IntKind.u64.wrap ((s : Int) - (x : Int)) = (y : Int) := by rw [IntKind.wrap_u64, hs]; unfold addN; omega
    have HP := keepH (h.put hlt hsl)
    clear h hs hy
    go_enter Try.func43, Try.ntmps43
    go_wp2_with fail
    refine HC.out.mono ?_
    rintro e w ⟨rfl, rfl⟩
    go_wp2_with fail
    refine (a_add (x : Int) hc hz).mono ?_
    rintro e w' ⟨rfl, rfl⟩
    rw [ew]
    go_wp2_with fail
    go_ret
    exact ⟨by simp, HP.out, (Chg.refl (fun k => k = gc) w).setCell (p := ⟨gc, a, none⟩) (fun _ => rfl) _⟩
  · rw [if_neg hlt] at HC
    have HP : Hid (LB W lb gc gf next (stN 256 cs a (addN (cellN cs a) x))) := by unfold stN; rw [if_neg hlt]; exact h
    rw [h.out a (by omega)] at HP ⊢
    clear h
    go_enter Try.func43, Try.ntmps43
    go_wp2_with fail
    refine HC.out.mono ?_
    rintro e w ⟨rfl, rfl⟩
    go_wp2_with fail
    go_ret
    exact ⟨by simp, HP.out, Chg.refl _ _⟩
end
end Go.Proofs.Ytdhlgmbmpipppaa
