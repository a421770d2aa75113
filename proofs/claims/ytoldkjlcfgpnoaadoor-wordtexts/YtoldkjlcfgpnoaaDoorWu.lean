/- Parse of the program, at every text. -/
import Derived.Test.YtoldkjlcfgpnoaaDoorWt
namespace Go.Proofs.YtoldkjlcfgpnoaaDoor
open Go.RowKit Go.Shelf
set_option linter.unusedVariables false

theorem pu_any (l : List UInt8) (hl : l.length ≤ 281474976710656) (w : World) (T : Tb w) :
    Calls Tryd.prog 16 #[.string (mkS l), .int .i64 10, .int .i64 64] w fun e w' => (∃ (u : Nat) (ev : Value), u < 18446744073709551616 ∧ e = .returned (.tuple #[.int .u64 u, ev]) ∧ (Lib.parseUintB 64 l = .ok u ∨ ∀ u', Lib.parseUintB 64 l ≠ .ok u')) ∧ Below w.heap.size w w' := by
  by_cases h : ∃ u, Lib.parseUintB 64 l = .ok u
  · obtain ⟨u, h⟩ := h
    refine (pu_ok l hl u h w).mono ?_
    rintro e w' ⟨rfl, hb⟩
    have hu : u ≤ 18446744073709551615 := Lib.parseUintB_le h
    exact ⟨⟨u, _, by omega, rfl, Or.inl h⟩, hb⟩
  · have h' : ∀ u, Lib.parseUintB 64 l ≠ .ok u := fun u hu => h ⟨u, hu⟩
    refine (pu_no l hl h' w T).mono ?_
    rintro e w' ⟨⟨u, t, p, hu, rfl⟩, hb⟩
    exact ⟨⟨u, _, hu, rfl, Or.inr h'⟩, hb⟩

/-- a box of three cells, written over at once -/
theorem box3 {W w : World} {b : Nat} {y0 y1 y2 : Value} (h : w.heap[b]? = some (.cells #[y0, y1, y2] 25 (0, 0))) (c : Below W.heap.size W w) (hb : W.heap.size ≤ b) (x0 x1 x2 : Value) :
    w.cell? ⟨b, 0, none⟩ = some y0 ∧ w.frozen? ⟨b, 0, none⟩ = false ∧ (w.setCell ⟨b, 0, none⟩ x0).cell? ⟨b, 1, none⟩ = some y1 ∧ (w.setCell ⟨b, 0, none⟩ x0).frozen? ⟨b, 1, none⟩ = false ∧
    ((w.setCell ⟨b, 0, none⟩ x0).setCell ⟨b, 1, none⟩ x1).cell? ⟨b, 2, none⟩ = some y2 ∧ ((w.setCell ⟨b, 0, none⟩ x0).setCell ⟨b, 1, none⟩ x1).frozen? ⟨b, 2, none⟩ = false ∧
    (((w.setCell ⟨b, 0, none⟩ x0).setCell ⟨b, 1, none⟩ x1).setCell ⟨b, 2, none⟩ x2).heap[b]? = some (.cells #[x0, x1, x2] 25 (0, 0)) ∧
    Below W.heap.size W (((w.setCell ⟨b, 0, none⟩ x0).setCell ⟨b, 1, none⟩ x1).setCell ⟨b, 2, none⟩ x2) := by
  have h1 : (w.setCell ⟨b, 0, none⟩ x0).heap[b]? = some (.cells #[x0, y1, y2] 25 (0, 0)) := set_of h 0 x0
  have h2 : ((w.setCell ⟨b, 0, none⟩ x0).setCell ⟨b, 1, none⟩ x1).heap[b]? = some (.cells #[x0, x1, y2] 25 (0, 0)) := set_of h1 1 x1
  have h3 : (((w.setCell ⟨b, 0, none⟩ x0).setCell ⟨b, 1, none⟩ x1).setCell ⟨b, 2, none⟩ x2).heap[b]? = some (.cells #[x0, x1, x2] 25 (0, 0)) := set_of h2 2 x2
  exact ⟨cell_of h 0, free_of h 0, cell_of h1 1, free_of h1 1, cell_of h2 2, free_of h2 2, h3, ((c.setCell hb _).setCell hb _).setCell hb _⟩

theorem c1_len (l : List UInt8) : (c1 l).length ≤ l.length := (List.takeWhile_prefix _).length_le
theorem c2_len (l : List UInt8) : (c2 l).length ≤ l.length := by
  unfold c2
  rw [List.length_tail]
  have := (List.dropWhile_suffix (· != (32 : UInt8)) (l := l)).length_le
  omega

theorem no_kind {l : List UInt8} (h : ¬ ktk (c1 l) ≤ 3) : ∀ a b c, okS a b c → l ≠ prL a b c := by
  intro a b c ho e
  apply h
  rw [e, pr_c1, ktk_of ho.1]
  exact ho.1
theorem no_gen {l : List UInt8} (h : ∀ u, Lib.parseUintB 64 (c1 (c2 l)) ≠ .ok u) : ∀ a b c, okS a b c → l ≠ prL a b c := by
  intro a b c ho e
  apply h b
  rw [e, pr_g]
  exact pu_dec b (by have := ho.2.1; omega)
theorem no_stamp {l : List UInt8} (h : ∀ u, Lib.parseUintB 64 (c2 (c2 l)) ≠ .ok u) : ∀ a b c, okS a b c → l ≠ prL a b c := by
  intro a b c ho e
  apply h c
  rw [e, pr_m]
  exact pu_dec c (by have := ho.2.2; omega)
theorem no_print {l : List UInt8} {u v : Nat} (hg : Lib.parseUintB 64 (c1 (c2 l)) = .ok u) (hm : Lib.parseUintB 64 (c2 (c2 l)) = .ok v) (h : prT (ktk (c1 l)) u v ≠ l) : ∀ a b c, okS a b c → l ≠ prL a b c := by
  intro a b c ho e
  apply h
  have e1 : ktk (c1 l) = a := by rw [e, pr_c1, ktk_of ho.1]
  have e2 : u = b := by
    rw [e, pr_g, pu_dec b (by have := ho.2.1; omega)] at hg
    injection hg with q; exact q.symm
  have e3 : v = c := by
    rw [e, pr_m, pu_dec c (by have := ho.2.2; omega)] at hm
    injection hm with q; exact q.symm
  rw [e1, e2, e3, e]
  unfold prT
  rw [if_pos ho]

set_option maxHeartbeats 2000000 in
theorem parse_nk (l : List UInt8) (hl : l.length ≤ 281474976710656) (w : World) (T : Tb w) (h : ¬ ktk (c1 l) ≤ 3) :
    Calls Tryd.prog 5 #[.string (mkS l)] w fun e w' => e = .returned (.tuple #[.agg #[.int .u8 0, .int .u64 0, .int .u64 0], .int .i64 52]) ∧ Below w.heap.size w w' := by
  have l1 := c1_len l
  have l2 := c2_len l
  have l3 := c1_len (c2 l)
  have l4 := c2_len (c2 l)
  obtain ⟨w0, hw0⟩ : ∃ w0, w0 = w.alloc (.cells #[.int .u8 0, .int .u64 0, .int .u64 0] 25) := ⟨_, rfl⟩
  have B0 : Below w.heap.size w w0 := by rw [hw0]; exact below_alloc _ _
  have X0 : w0.heap[w.heap.size]? = some (.cells #[.int .u8 0, .int .u64 0, .int .u64 0] 25 (0, 0)) := by rw [hw0]; exact heap_alloc_new _ _
  go_enter Tryd.func5, Tryd.ntmps5
  go_upto_region 1 with fail
  rw [← hw0]
  clear hw0
  go_wp2_with fail
  refine (cut_any l hl w0).mono ?_
  rintro e w1 ⟨⟨b1, rfl⟩, C1⟩
  go_wp2_with fail
  refine (cut_any (c2 l) (by omega) w1).mono ?_
  rintro e w2 ⟨⟨b2, rfl⟩, C2⟩
  have B1 := below_chain B0 C1
  have B2 := below_chain B1 C2
  have X2 := heap_below (heap_below X0 C1) C2
  have T2 := T.on B2
  have hkd := kindOf_any (c1 l) w2 T2
  rw [decide_eq_false h] at hkd
  obtain ⟨kk, hkk⟩ : ∃ kk : Int, kk = (if ktk (c1 l) ≤ 3 then (ktk (c1 l) : Int) else 0) := ⟨_, rfl⟩
  rw [← hkk] at hkd
  clear hkk
  go_wp2_with fail
  refine hkd.mono ?_
  rintro e w3 ⟨rfl, hw3⟩
  subst hw3
  go_wp2_with fail
  refine (pu_any (c1 (c2 l)) (by omega) w3 T2).mono ?_
  rintro e w4 ⟨⟨u, ev, hu, rfl, -⟩, C4⟩
  have B4 := below_chain B2 C4
  have X4 := heap_below X2 C4
  have T4 := T.on B4
  go_wp2_with fail
  refine (pu_any (c2 (c2 l)) (by omega) w4 T4).mono ?_
  rintro e w5 ⟨⟨v, ev2, hv, rfl, -⟩, C5⟩
  have B5 := below_chain B4 C5
  have X5 := heap_below X4 C5
  obtain ⟨q1, q2, q3, q4, q5, q6, q7, q8⟩ := box3 X5 B5 (Nat.le_refl _) (.int .u8 0) (.int .u64 0) (.int .u64 0)
  obtain ⟨w6, hw6⟩ : ∃ w6, w6 = ((w5.setCell ⟨w.heap.size, 0, none⟩ (.int .u8 0)).setCell ⟨w.heap.size, 1, none⟩ (.int .u64 0)).setCell ⟨w.heap.size, 2, none⟩ (.int .u64 0) := ⟨_, rfl⟩
  go_wp2_with fail
  rw [← hw6] at q7 q8 ⊢
  have z0 := cell_of q7 0
  have z1 := cell_of q7 1
  have z2 := cell_of q7 2
  clear hw6
  refine bodyPost_ret (v := .tuple #[.agg #[.int .u8 0, .int .u64 0, .int .u64 0], .int .i64 52]) (by simp [results, Tryd.results5, go_sem, z0, z1, z2]) rfl ⟨rfl, q8⟩
end Go.Proofs.YtoldkjlcfgpnoaaDoor
