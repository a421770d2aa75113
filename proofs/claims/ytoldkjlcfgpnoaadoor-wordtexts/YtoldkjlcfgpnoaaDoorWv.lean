/- Parse of the program: the other ways. -/
import Derived.Test.YtoldkjlcfgpnoaaDoorWu
namespace Go.Proofs.YtoldkjlcfgpnoaaDoor
open Go.RowKit Go.Shelf
set_option linter.unusedVariables false

set_option maxHeartbeats 2000000 in
theorem parse_ng (l : List UInt8) (hl : l.length ≤ 281474976710656) (w : World) (T : Tb w) (h : ktk (c1 l) ≤ 3) (hg : ∀ u, Lib.parseUintB 64 (c1 (c2 l)) ≠ .ok u) :
    Calls Tryd.prog 5 #[.string (mkS l)] w fun e w' => e = .returned (.tuple #[.agg #[.int .u8 0, .int .u64 0, .int .u64 0], .int .i64 52]) ∧ Below w.heap.size w w' := by
  have l1 := c1_len l
  have l2 := c2_len l
  have l3 := c1_len (c2 l)
  have l4 := c2_len (c2 l)
  obtain ⟨w0, hw0⟩ : ∃ w0, w0 = w.alloc (.cells #[.int .u8 0, .int .u64 0, .int .u64 0] 25) := ⟨_, rfl⟩
  have B0 : Below w.heap.size w w0 := by rw [hw0]; exact below_alloc _ _
  have X0 : w0.heap[w.heap.size]? = some (.cells #[.int .u8 0, .int .u64 0, .int .u64 0] 25 (0, 0)) := by rw [hw0]; exact heap_alloc_new _ _
  go_enter Tryd.func5, Tryd.ntmps5
  go_upto_region 1 with fail
  rw [← hw0]
  clear hw0
  go_wp2_with fail
  refine (cut_any l hl w0).mono ?_
  rintro e w1 ⟨⟨b1, rfl⟩, C1⟩
  go_wp2_with fail
  refine (cut_any (c2 l) (by omega) w1).mono ?_
  rintro e w2 ⟨⟨b2, rfl⟩, C2⟩
  have B1 := below_chain B0 C1
  have B2 := below_chain B1 C2
  have X2 := heap_below (heap_below X0 C1) C2
  have T2 := T.on B2
  have hkd := kindOf_any (c1 l) w2 T2
  rw [decide_eq_true h, if_pos h] at hkd
  go_wp2_with fail
  refine hkd.mono ?_
  rintro e w3 ⟨rfl, hw3⟩
  subst hw3
  go_wp2_with fail
  refine (pu_no (c1 (c2 l)) (by omega) hg w3 T2).mono ?_
  rintro e w4 ⟨⟨u, tg, pg, hu, rfl⟩, C4⟩
  have B4 := below_chain B2 C4
  have X4 := heap_below X2 C4
  have T4 := T.on B4
  go_wp2_with fail
  refine (pu_any (c2 (c2 l)) (by omega) w4 T4).mono ?_
  rintro e w5 ⟨⟨v, ev2, hv, rfl, -⟩, C5⟩
  have B5 := below_chain B4 C5
  have X5 := heap_below X4 C5
  obtain ⟨q1, q2, q3, q4, q5, q6, q7, q8⟩ := box3 X5 B5 (Nat.le_refl _) (.int .u8 0) (.int .u64 0) (.int .u64 0)
  obtain ⟨w6, hw6⟩ : ∃ w6, w6 = ((w5.setCell ⟨w.heap.size, 0, none⟩ (.int .u8 0)).setCell ⟨w.heap.size, 1, none⟩ (.int .u64 0)).setCell ⟨w.heap.size, 2, none⟩ (.int .u64 0) := ⟨_, rfl⟩
  go_wp2_with fail
  rw [← hw6] at q7 q8 ⊢
  have z0 := cell_of q7 0
  have z1 := cell_of q7 1
  have z2 := cell_of q7 2
  clear hw6
  refine bodyPost_ret (v := .tuple #[.agg #[.int .u8 0, .int .u64 0, .int .u64 0], .int .i64 52]) (by simp [results, Tryd.results5, go_sem, z0, z1, z2]) rfl ⟨rfl, q8⟩
set_option maxHeartbeats 2000000 in
theorem parse_nm (l : List UInt8) (hl : l.length ≤ 281474976710656) (w : World) (T : Tb w) (h : ktk (c1 l) ≤ 3) (u : Nat) (hg : Lib.parseUintB 64 (c1 (c2 l)) = .ok u) (hm : ∀ u, Lib.parseUintB 64 (c2 (c2 l)) ≠ .ok u) :
    Calls Tryd.prog 5 #[.string (mkS l)] w fun e w' => e = .returned (.tuple #[.agg #[.int .u8 0, .int .u64 0, .int .u64 0], .int .i64 52]) ∧ Below w.heap.size w w' := by
  have l1 := c1_len l
  have l2 := c2_len l
  have l3 := c1_len (c2 l)
  have l4 := c2_len (c2 l)
  obtain ⟨w0, hw0⟩ : ∃ w0, w0 = w.alloc (.cells #[.int .u8 0, .int .u64 0, .int .u64 0] 25) := ⟨_, rfl⟩
  have B0 : Below w.heap.size w w0 := by rw [hw0]; exact below_alloc _ _
  have X0 : w0.heap[w.heap.size]? = some (.cells #[.int .u8 0, .int .u64 0, .int .u64 0] 25 (0, 0)) := by rw [hw0]; exact heap_alloc_new _ _
  go_enter Tryd.func5, Tryd.ntmps5
  go_upto_region 1 with fail
  rw [← hw0]
  clear hw0
  go_wp2_with fail
  refine (cut_any l hl w0).mono ?_
  rintro e w1 ⟨⟨b1, rfl⟩, C1⟩
  go_wp2_with fail
  refine (cut_any (c2 l) (by omega) w1).mono ?_
  rintro e w2 ⟨⟨b2, rfl⟩, C2⟩
  have B1 := below_chain B0 C1
  have B2 := below_chain B1 C2
  have X2 := heap_below (heap_below X0 C1) C2
  have T2 := T.on B2
  have hkd := kindOf_any (c1 l) w2 T2
  rw [decide_eq_true h, if_pos h] at hkd
  go_wp2_with fail
  refine hkd.mono ?_
  rintro e w3 ⟨rfl, hw3⟩
  subst hw3
  go_wp2_with fail
  refine (pu_ok (c1 (c2 l)) (by omega) u hg w3).mono ?_
  rintro e w4 ⟨rfl, C4⟩
  have B4 := below_chain B2 C4
  have X4 := heap_below X2 C4
  have T4 := T.on B4
  go_wp2_with fail
  refine (pu_no (c2 (c2 l)) (by omega) hm w4 T4).mono ?_
  rintro e w5 ⟨⟨v, tm, pm, hv, rfl⟩, C5⟩
  have B5 := below_chain B4 C5
  have X5 := heap_below X4 C5
  obtain ⟨q1, q2, q3, q4, q5, q6, q7, q8⟩ := box3 X5 B5 (Nat.le_refl _) (.int .u8 0) (.int .u64 0) (.int .u64 0)
  obtain ⟨w6, hw6⟩ : ∃ w6, w6 = ((w5.setCell ⟨w.heap.size, 0, none⟩ (.int .u8 0)).setCell ⟨w.heap.size, 1, none⟩ (.int .u64 0)).setCell ⟨w.heap.size, 2, none⟩ (.int .u64 0) := ⟨_, rfl⟩
  go_wp2_with fail
  rw [← hw6] at q7 q8 ⊢
  have z0 := cell_of q7 0
  have z1 := cell_of q7 1
  have z2 := cell_of q7 2
  clear hw6
  refine bodyPost_ret (v := .tuple #[.agg #[.int .u8 0, .int .u64 0, .int .u64 0], .int .i64 52]) (by simp [results, Tryd.results5, go_sem, z0, z1, z2]) rfl ⟨rfl, q8⟩
set_option maxHeartbeats 2000000 in
theorem parse_np (l : List UInt8) (hl : l.length ≤ 281474976710656) (w : World) (T : Tb w) (h : ktk (c1 l) ≤ 3) (u v : Nat) (hg : Lib.parseUintB 64 (c1 (c2 l)) = .ok u) (hm : Lib.parseUintB 64 (c2 (c2 l)) = .ok v) (hp : prT (ktk (c1 l)) u v ≠ l) :
    Calls Tryd.prog 5 #[.string (mkS l)] w fun e w' => e = .returned (.tuple #[.agg #[.int .u8 0, .int .u64 0, .int .u64 0], .int .i64 52]) ∧ Below w.heap.size w w' := by
  have l1 := c1_len l
  have l2 := c2_len l
  have l3 := c1_len (c2 l)
  have l4 := c2_len (c2 l)
  obtain ⟨w0, hw0⟩ : ∃ w0, w0 = w.alloc (.cells #[.int .u8 0, .int .u64 0, .int .u64 0] 25) := ⟨_, rfl⟩
  have B0 : Below w.heap.size w w0 := by rw [hw0]; exact below_alloc _ _
  have X0 : w0.heap[w.heap.size]? = some (.cells #[.int .u8 0, .int .u64 0, .int .u64 0] 25 (0, 0)) := by rw [hw0]; exact heap_alloc_new _ _
  go_enter Tryd.func5, Tryd.ntmps5
  go_upto_region 1 with fail
  rw [← hw0]
  clear hw0
  go_wp2_with fail
  refine (cut_any l hl w0).mono ?_
  rintro e w1 ⟨⟨b1, rfl⟩, C1⟩
  go_wp2_with fail
  refine (cut_any (c2 l) (by omega) w1).mono ?_
  rintro e w2 ⟨⟨b2, rfl⟩, C2⟩
  have B1 := below_chain B0 C1
  have B2 := below_chain B1 C2
  have X2 := heap_below (heap_below X0 C1) C2
  have T2 := T.on B2
  have hkd := kindOf_any (c1 l) w2 T2
  rw [decide_eq_true h, if_pos h] at hkd
  go_wp2_with fail
  refine hkd.mono ?_
  rintro e w3 ⟨rfl, hw3⟩
  subst hw3
  go_wp2_with fail
  refine (pu_ok (c1 (c2 l)) (by omega) u hg w3).mono ?_
  rintro e w4 ⟨rfl, C4⟩
  have B4 := below_chain B2 C4
  have X4 := heap_below X2 C4
  have T4 := T.on B4
  go_wp2_with fail
  refine (pu_ok (c2 (c2 l)) (by omega) v hm w4).mono ?_
  rintro e w5 ⟨rfl, C5⟩
  have B5 := below_chain B4 C5
  have X5 := heap_below X4 C5
  have T5 := T.on B5
  have hu : u ≤ 18446744073709551615 := Lib.parseUintB_le hg
  have hv : v ≤ 18446744073709551615 := Lib.parseUintB_le hm
  obtain ⟨kk, hkk⟩ : ∃ kk, kk = ktk (c1 l) := ⟨_, rfl⟩
  rw [← hkk] at h hp ⊢
  obtain ⟨w6, hw6⟩ : ∃ w6, w6 = w5.alloc (.cells #[.int .u8 kk, .int .u64 u, .int .u64 v] 25) := ⟨_, rfl⟩
  have C6 : Below w5.heap.size w5 w6 := by rw [hw6]; exact below_alloc _ _
  have Y6 : w6.heap[w5.heap.size]? = some (.cells #[.int .u8 kk, .int .u64 u, .int .u64 v] 25 (0, 0)) := by rw [hw6]; exact heap_alloc_new _ _
  have B6 := below_chain B5 C6
  have X6 := heap_below X5 C6
  have T6 := T.on B6
  have a0 := cell_of Y6 0
  have a1 := cell_of Y6 1
  have a2 := cell_of Y6 2
  have hpr := print_any kk u v (by omega) (by omega) (by omega) w6 T6
  have hcmp : ((mkS (prT kk u v)).toList == (mkS l).toList) = false := by rw [beq_mkS]; simpa using hp
  have hcmp2 : (prT kk u v == l) = false := by simpa using hp
  have HKK := keepH hkk
  clear hkk hg hm T T2 T4 T5 hkd
  go_upto_region 9 with fail
  rw [← hw6]
  obtain ⟨sb, hsb⟩ : ∃ sb, sb = w5.heap.size := ⟨_, rfl⟩
  rw [← hsb] at Y6 a0 a1 a2 ⊢
  clear hw6 hsb
  go_wp2_with fail
  refine hpr.mono ?_
  rintro e w7 ⟨rfl, C7⟩
  have B7 := below_chain B6 C7
  have X7 := heap_below X6 C7
  have Y7 := heap_below Y6 C7
  have d0 := cell_of Y7 0
  have d1 := cell_of Y7 1
  have d2 := cell_of Y7 2
  obtain ⟨q1, q2, q3, q4, q5, q6, q7, q8⟩ := box3 X7 B7 (Nat.le_refl _) (.int .u8 0) (.int .u64 0) (.int .u64 0)
  obtain ⟨w8, hw8⟩ : ∃ w8, w8 = ((w7.setCell ⟨w.heap.size, 0, none⟩ (.int .u8 0)).setCell ⟨w.heap.size, 1, none⟩ (.int .u64 0)).setCell ⟨w.heap.size, 2, none⟩ (.int .u64 0) := ⟨_, rfl⟩
  go_wp2_with fail
  rw [← hw8] at q7 q8 ⊢
  have z0 := cell_of q7 0
  have z1 := cell_of q7 1
  have z2 := cell_of q7 2
  clear hw8
  refine bodyPost_ret (v := .tuple #[.agg #[.int .u8 0, .int .u64 0, .int .u64 0], .int .i64 52]) (by simp [results, Tryd.results5, go_sem, z0, z1, z2]) rfl ⟨rfl, q8⟩
set_option maxHeartbeats 2000000 in
theorem parse_yes (l : List UInt8) (hl : l.length ≤ 281474976710656) (w : World) (T : Tb w) (h : ktk (c1 l) ≤ 3) (u v : Nat) (hg : Lib.parseUintB 64 (c1 (c2 l)) = .ok u) (hm : Lib.parseUintB 64 (c2 (c2 l)) = .ok v) (hp : prT (ktk (c1 l)) u v = l) :
    Calls Tryd.prog 5 #[.string (mkS l)] w fun e w' => e = .returned (.tuple #[.agg #[.int .u8 (ktk (c1 l) : Int), .int .u64 u, .int .u64 v], .int .i64 0]) ∧ Below w.heap.size w w' := by
  have l1 := c1_len l
  have l2 := c2_len l
  have l3 := c1_len (c2 l)
  have l4 := c2_len (c2 l)
  obtain ⟨w0, hw0⟩ : ∃ w0, w0 = w.alloc (.cells #[.int .u8 0, .int .u64 0, .int .u64 0] 25) := ⟨_, rfl⟩
  have B0 : Below w.heap.size w w0 := by rw [hw0]; exact below_alloc _ _
  have X0 : w0.heap[w.heap.size]? = some (.cells #[.int .u8 0, .int .u64 0, .int .u64 0] 25 (0, 0)) := by rw [hw0]; exact heap_alloc_new _ _
  go_enter Tryd.func5, Tryd.ntmps5
  go_upto_region 1 with fail
  rw [← hw0]
  clear hw0
  go_wp2_with fail
  refine (cut_any l hl w0).mono ?_
  rintro e w1 ⟨⟨b1, rfl⟩, C1⟩
  go_wp2_with fail
  refine (cut_any (c2 l) (by omega) w1).mono ?_
  rintro e w2 ⟨⟨b2, rfl⟩, C2⟩
  have B1 := below_chain B0 C1
  have B2 := below_chain B1 C2
  have X2 := heap_below (heap_below X0 C1) C2
  have T2 := T.on B2
  have hkd := kindOf_any (c1 l) w2 T2
  rw [decide_eq_true h, if_pos h] at hkd
  go_wp2_with fail
  refine hkd.mono ?_
  rintro e w3 ⟨rfl, hw3⟩
  subst hw3
  go_wp2_with fail
  refine (pu_ok (c1 (c2 l)) (by omega) u hg w3).mono ?_
  rintro e w4 ⟨rfl, C4⟩
  have B4 := below_chain B2 C4
  have X4 := heap_below X2 C4
  have T4 := T.on B4
  go_wp2_with fail
  refine (pu_ok (c2 (c2 l)) (by omega) v hm w4).mono ?_
  rintro e w5 ⟨rfl, C5⟩
  have B5 := below_chain B4 C5
  have X5 := heap_below X4 C5
  have T5 := T.on B5
  have hu : u ≤ 18446744073709551615 := Lib.parseUintB_le hg
  have hv : v ≤ 18446744073709551615 := Lib.parseUintB_le hm
  obtain ⟨kk, hkk⟩ : ∃ kk, kk = ktk (c1 l) := ⟨_, rfl⟩
  rw [← hkk] at h hp ⊢
  obtain ⟨w6, hw6⟩ : ∃ w6, w6 = w5.alloc (.cells #[.int .u8 kk, .int .u64 u, .int .u64 v] 25) := ⟨_, rfl⟩
  have C6 : Below w5.heap.size w5 w6 := by rw [hw6]; exact below_alloc _ _
  have Y6 : w6.heap[w5.heap.size]? = some (.cells #[.int .u8 kk, .int .u64 u, .int .u64 v] 25 (0, 0)) := by rw [hw6]; exact heap_alloc_new _ _
  have B6 := below_chain B5 C6
  have X6 := heap_below X5 C6
  have T6 := T.on B6
  have a0 := cell_of Y6 0
  have a1 := cell_of Y6 1
  have a2 := cell_of Y6 2
  have hpr := print_any kk u v (by omega) (by omega) (by omega) w6 T6
  have hcmp : ((mkS (prT kk u v)).toList == (mkS l).toList) = true := by rw [beq_mkS]; simpa using hp
  have hcmp2 : (prT kk u v == l) = true := by simpa using hp
  have HKK := keepH hkk
  clear hkk hg hm T T2 T4 T5 hkd
  go_upto_region 9 with fail
  rw [← hw6]
  obtain ⟨sb, hsb⟩ : ∃ sb, sb = w5.heap.size := ⟨_, rfl⟩
  rw [← hsb] at Y6 a0 a1 a2 ⊢
  clear hw6 hsb
  go_wp2_with fail
  refine hpr.mono ?_
  rintro e w7 ⟨rfl, C7⟩
  have B7 := below_chain B6 C7
  have X7 := heap_below X6 C7
  have Y7 := heap_below Y6 C7
  have d0 := cell_of Y7 0
  have d1 := cell_of Y7 1
  have d2 := cell_of Y7 2
  obtain ⟨q1, q2, q3, q4, q5, q6, q7, q8⟩ := box3 X7 B7 (Nat.le_refl _) (.int .u8 kk) (.int .u64 u) (.int .u64 v)
  obtain ⟨w8, hw8⟩ : ∃ w8, w8 = ((w7.setCell ⟨w.heap.size, 0, none⟩ (.int .u8 kk)).setCell ⟨w.heap.size, 1, none⟩ (.int .u64 u)).setCell ⟨w.heap.size, 2, none⟩ (.int .u64 v) := ⟨_, rfl⟩
  go_wp2_with fail
  rw [← hw8] at q7 q8 ⊢
  have z0 := cell_of q7 0
  have z1 := cell_of q7 1
  have z2 := cell_of q7 2
  clear hw8
  refine bodyPost_ret (v := .tuple #[.agg #[.int .u8 kk, .int .u64 u, .int .u64 v], .int .i64 0]) (by simp [results, Tryd.results5, go_sem, z0, z1, z2]) rfl ⟨by rw [HKK.out], q8⟩

theorem parse_any (l : List UInt8) (hl : l.length ≤ 281474976710656) (w : World) (T : Tb w) :
    Calls Tryd.prog 5 #[.string (mkS l)] w fun e w' => (∃ (k g m : Nat) (er : Int), e = .returned (.tuple #[.agg #[.int .u8 k, .int .u64 g, .int .u64 m], .int .i64 er]) ∧ PRes l k g m er) ∧ Below w.heap.size w w' := by
  have bad : (∀ a b c, okS a b c → l ≠ prL a b c) → (Calls Tryd.prog 5 #[.string (mkS l)] w fun e w' => e = .returned (.tuple #[.agg #[.int .u8 0, .int .u64 0, .int .u64 0], .int .i64 52]) ∧ Below w.heap.size w w') →
      Calls Tryd.prog 5 #[.string (mkS l)] w fun e w' => (∃ (k g m : Nat) (er : Int), e = .returned (.tuple #[.agg #[.int .u8 k, .int .u64 g, .int .u64 m], .int .i64 er]) ∧ PRes l k g m er) ∧ Below w.heap.size w w' := by
    intro hn hc
    refine hc.mono ?_
    rintro e w' ⟨rfl, hb⟩
    exact ⟨⟨0, 0, 0, 52, rfl, Or.inr ⟨rfl, rfl, rfl, rfl, hn⟩⟩, hb⟩
  by_cases h : ktk (c1 l) ≤ 3
  · by_cases hg : ∃ u, Lib.parseUintB 64 (c1 (c2 l)) = .ok u
    · obtain ⟨u, hg⟩ := hg
      by_cases hm : ∃ v, Lib.parseUintB 64 (c2 (c2 l)) = .ok v
      · obtain ⟨v, hm⟩ := hm
        by_cases hp : prT (ktk (c1 l)) u v = l
        · refine (parse_yes l hl w T h u v hg hm hp).mono ?_
          rintro e w' ⟨rfl, hb⟩
          refine ⟨⟨_, u, v, 0, rfl, PRes.yes hp ?_⟩, hb⟩
          intro e0
          subst e0
          revert h
          decide
        · exact bad (no_print hg hm hp) (parse_np l hl w T h u v hg hm hp)
      · have hm' : ∀ u, Lib.parseUintB 64 (c2 (c2 l)) ≠ .ok u := fun u hu => hm ⟨u, hu⟩
        exact bad (no_stamp hm') (parse_nm l hl w T h u hg hm')
    · have hg' : ∀ u, Lib.parseUintB 64 (c1 (c2 l)) ≠ .ok u := fun u hu => hg ⟨u, hu⟩
      exact bad (no_gen hg') (parse_ng l hl w T h hg')
  · exact bad (no_kind h) (parse_nk l hl w T h)
end Go.Proofs.YtoldkjlcfgpnoaaDoor
