/- The law WordBack, walked. -/
import Derived.Test.YtoldkjlcfgpnoaaDoorWv
import Derived.Lib.QuietBelow
namespace Go.Proofs.YtoldkjlcfgpnoaaDoor
open Go.RowKit Go.Shelf
set_option linter.unusedVariables false

theorem prT_len (k g m : Nat) : (prT k g m).length ≤ 281474976710656 := by
  unfold prT
  split
  · rename_i h
    obtain ⟨h1, h2, h3⟩ := h
    have a := kt_len k
    have b := dec_len (u := g) (by omega)
    have c := dec_len (u := m) (by omega)
    unfold prL
    simp only [List.length_append, List.length_cons]
    omega
  · simp
theorem back_yes (k g m : Nat) (w : World) (T : Tb w) (h : okS k g m) :
    Calls Tryd.prog 5 #[.string (mkS (prT k g m))] w fun e w' => e = .returned (.tuple #[.agg #[.int .u8 k, .int .u64 g, .int .u64 m], .int .i64 0]) ∧ Below w.heap.size w w' := by
  refine (parse_any _ (prT_len k g m) w T).mono ?_
  rintro e w' ⟨⟨k', g', m', er, rfl, hr⟩, hb⟩
  have hy : PRes (prT k g m) k g m 0 := Or.inl ⟨rfl, h, by unfold prT; rw [if_pos h]⟩
  obtain ⟨rfl, rfl, rfl, rfl⟩ := hr.one hy
  exact ⟨rfl, hb⟩
theorem back_no (k g m : Nat) (w : World) (T : Tb w) (h : ¬ okS k g m) :
    Calls Tryd.prog 5 #[.string (mkS (prT k g m))] w fun e w' => e = .returned (.tuple #[.agg #[.int .u8 0, .int .u64 0, .int .u64 0], .int .i64 52]) ∧ Below w.heap.size w w' := by
  refine (parse_any _ (prT_len k g m) w T).mono ?_
  rintro e w' ⟨⟨k', g', m', er, rfl, hr⟩, hb⟩
  have hy : PRes (prT k g m) 0 0 0 52 := Or.inr ⟨rfl, rfl, rfl, rfl, fun a b c _ e => by
    unfold prT at e; rw [if_neg h] at e; exact pr_ne a b c e.symm⟩
  obtain ⟨rfl, rfl, rfl, rfl⟩ := hr.one hy
  exact ⟨rfl, hb⟩
theorem unpack_back (k g m : Nat) (w : World) (h : okS k g m) :
    Calls Tryd.prog 13 #[.int .u64 (packW k g m)] w fun e w' => e = .returned (.agg #[.int .u8 k, .int .u64 g, .int .u64 m]) ∧ Below w.heap.size w w' := by
  obtain ⟨h1, h2, h3⟩ := h
  have hp : packW k g m = (k : Int) + g * 4 + m * 4194304 := by
    unfold packW
    rw [if_neg (by omega), if_neg (by omega), if_neg (by omega)]
  rw [hp]
  refine (unpack_any _ w (by omega) (by omega)).mono ?_
  rintro e w' ⟨rfl, rfl⟩
  have e1 : ((k : Int) + g * 4 + m * 4194304) % 4 = k := by omega
  have e2 : ((k : Int) + g * 4 + m * 4194304) / 4 % 1048576 = g := by omega
  have e3 : ((k : Int) + g * 4 + m * 4194304) / 4194304 = m := by omega
  rw [e1, e2, e3]
  exact ⟨rfl, below_alloc _ _⟩

structure PX (w : World) (b k g m nb : Nat) (cs : Array Value) (w' : World) : Prop where
  ps : PS w b k g m w'
  nm : w'.heap[nb]? = some (.cells cs 25 (0, 0))
theorem PX.on {w w' w'' : World} {b k g m nb : Nat} {cs : Array Value} (h : PX w b k g m nb cs w') (hb : Below w'.heap.size w' w'') : PX w b k g m nb cs w'' := ⟨h.ps.on hb, heap_below h.nm hb⟩
theorem PX.drew {w w' : World} {b k g m nb : Nat} {cs : Array Value} (h : PX w b k g m nb cs w') : PX w b k g m nb cs w'.drew := h.on (below_drewN (Below.refl _ _) 1)

set_option maxHeartbeats 4000000 in
theorem back_A_y  (k g m : Nat) (hk : k < 256) (hg : g < 18446744073709551616) (hm : m < 18446744073709551616) (w : World) (T : Tb w) (ho : okS k g m) :
    Calls Tryd.prog 4 #[.int .u8 (0 : Int), .int .u64 (0 : Int), .agg #[.int .u8 k, .int .u64 g, .int .u64 m]] w fun e w' => e = .returned (.bool true) ∧ Below w.heap.size w w' := by
  have hpk := packE_ok (k := k) (g := g) (m := m) ho
  have hch : ∀ W, Calls Tryd.prog 10 #[.int .u8 (0 : Int), .int .u64 (0 : Int)] W fun e w' => e = .returned (.tuple #[.int .u64 (childW (0 : Int) (0 : Int)), .int .i64 (childE (0 : Int) (0 : Int))]) ∧ w' = W := fun W => child_any (0 : Int) (0 : Int) W (by omega) (by omega)
  have ecw : childW (0 : Int) (0 : Int) = (0 : Int) := by unfold childW; (repeat' split) <;> omega
  have ece : childE (0 : Int) (0 : Int) = 0 := by unfold childE; (repeat' split) <;> omega
  rw [ecw, ece] at hch
  have hsp : ∀ W, Calls Tryd.prog 11 #[.int .u64 ((0 : Int))] W fun e w' => e = .returned (.tuple #[.int .u8 (0 : Int), .int .u64 (0 : Int)]) ∧ w' = W := fun W => by
    have h := split_any ((0 : Int)) W (by omega) (by omega)
    have e1 : splitK ((0 : Int)) = (0 : Int) := by unfold splitK; (repeat' split) <;> omega
    have e2 : ((0 : Int)) / 2 = (0 : Int) := by omega
    rw [e1, e2] at h
    exact h
  obtain ⟨w0, hw0⟩ : ∃ w0, w0 = w.alloc (.cells #[.int .u8 k, .int .u64 g, .int .u64 m] 25) := ⟨_, rfl⟩
  have P0 : PS w w.heap.size k g m w0 := by rw [hw0]; exact PS.start T
  clear T
  go_enter Tryd.func4, Tryd.ntmps4
  go_upto_region 1 with fail
  rw [← hw0]
  clear hw0
  have b0 := P0.c0
  have b1 := P0.c1
  have b2 := P0.c2
  go_wp2_with fail
  refine (hch w0).mono ?_
  rintro e w1 ⟨rfl, hw1⟩
  rw [hw1]
  clear hw1 w1
  go_wp2_with fail
  refine (hsp w0).mono ?_
  rintro e w1 ⟨rfl, hw1⟩
  rw [hw1]
  clear hw1 w1
  go_upto_region 5 with fail
  go_wp2_with fail
  refine (pack_any k g m _ (by omega) (by omega) (by omega) (by omega) (by omega) (by omega)).mono ?_
  rintro e w1 ⟨rfl, hw1⟩
  have C1 : Below w0.heap.size w0 w1 := by rw [hw1]; exact below_alloc _ _
  clear hw1
  rw [hpk]
  have P1 := P0.on C1
  have a0 := P1.c0
  have a1 := P1.c1
  have a2 := P1.c2
  have hpr := print_any k g m (by omega) (by omega) (by omega) w1 P1.tb
  go_wp2_with fail
  refine hpr.mono ?_
  rintro e w2 ⟨rfl, C2⟩
  have P2 := P1.on C2
  go_wp2_with fail
  refine (back_yes k g m w2 P2.tb ho).mono ?_
  rintro e w3 ⟨rfl, C3⟩
  have P3 := P2.on C3
  obtain ⟨w4, hw4⟩ : ∃ w4, w4 = w3.alloc (.cells #[.int .u8 k, .int .u64 g, .int .u64 m] 25) := ⟨_, rfl⟩
  have P4 : PX w w.heap.size k g m w3.heap.size #[.int .u8 k, .int .u64 g, .int .u64 m] w4 := by rw [hw4]; exact ⟨P3.on (below_alloc _ _), heap_alloc_new _ _⟩
  go_upto_region 7 with fail
  rw [← hw4]
  clear hw4
  obtain ⟨nb, hnb⟩ : ∃ nb, nb = w3.heap.size := ⟨_, rfl⟩
  rw [← hnb] at P4 ⊢
  clear hnb a0 a1 a2 P3 P2 P1 P0
  have e0 := cell_regrown P4.ps.c0
  have e1 := cell_regrown P4.ps.c1
  have e2 := cell_regrown P4.ps.c2
  have KL := fun dd os => Calls.regrown_of (w := w4) (d := dd) (os := os) ((live_any _).mono (fun e z h => ⟨h.1, by rw [h.2]; exact Below.refl _ _⟩))
  replace KL := keepH KL
  have f0 := cell_regrown (cell_of P4.nm 0)
  have f1 := cell_regrown (cell_of P4.nm 1)
  have f2 := cell_regrown (cell_of P4.nm 2)
  have KU := fun dd os => Calls.regrown_of (w := w4) (d := dd) (os := os) (unpack_back k g m _ ho)
  replace KU := keepH KU
  have HB : Hid (∀ dq osq, Below w.heap.size w (Sort.grow (redrawn w4 dq) osq)) := keepH (fun dq osq => below_chain P4.ps.bel (below_regrown w4 dq osq))
  have HB4' : Below w.heap.size w w4 := P4.ps.bel
  clear P4
  refine wp_region_quiet_below (by kernel_rfl) (by kernel_rfl) ?_
  repeat (go_big_quiet_step (first | exact KL.out _ _ | exact KU.out _ _))
  refine wpQuiet_nil ?_
  intro _ hw'
  obtain ⟨⟨dq, osq⟩, hw''⟩ := hw'
  subst hw''
  go_wp2
  go_ret
  exact ⟨by first | rfl | simp, HB.out _ _⟩
set_option maxHeartbeats 4000000 in
theorem back_A_n  (k g m : Nat) (hk : k < 256) (hg : g < 18446744073709551616) (hm : m < 18446744073709551616) (w : World) (T : Tb w) (ho : ¬ okS k g m) :
    Calls Tryd.prog 4 #[.int .u8 (0 : Int), .int .u64 (0 : Int), .agg #[.int .u8 k, .int .u64 g, .int .u64 m]] w fun e w' => e = .returned (.bool true) ∧ Below w.heap.size w w' := by
  have hpk := packE_no (k := k) (g := g) (m := m) ho
  have hch : ∀ W, Calls Tryd.prog 10 #[.int .u8 (0 : Int), .int .u64 (0 : Int)] W fun e w' => e = .returned (.tuple #[.int .u64 (childW (0 : Int) (0 : Int)), .int .i64 (childE (0 : Int) (0 : Int))]) ∧ w' = W := fun W => child_any (0 : Int) (0 : Int) W (by omega) (by omega)
  have ecw : childW (0 : Int) (0 : Int) = (0 : Int) := by unfold childW; (repeat' split) <;> omega
  have ece : childE (0 : Int) (0 : Int) = 0 := by unfold childE; (repeat' split) <;> omega
  rw [ecw, ece] at hch
  have hsp : ∀ W, Calls Tryd.prog 11 #[.int .u64 ((0 : Int))] W fun e w' => e = .returned (.tuple #[.int .u8 (0 : Int), .int .u64 (0 : Int)]) ∧ w' = W := fun W => by
    have h := split_any ((0 : Int)) W (by omega) (by omega)
    have e1 : splitK ((0 : Int)) = (0 : Int) := by unfold splitK; (repeat' split) <;> omega
    have e2 : ((0 : Int)) / 2 = (0 : Int) := by omega
    rw [e1, e2] at h
    exact h
  obtain ⟨w0, hw0⟩ : ∃ w0, w0 = w.alloc (.cells #[.int .u8 k, .int .u64 g, .int .u64 m] 25) := ⟨_, rfl⟩
  have P0 : PS w w.heap.size k g m w0 := by rw [hw0]; exact PS.start T
  clear T
  go_enter Tryd.func4, Tryd.ntmps4
  go_upto_region 1 with fail
  rw [← hw0]
  clear hw0
  have b0 := P0.c0
  have b1 := P0.c1
  have b2 := P0.c2
  go_wp2_with fail
  refine (hch w0).mono ?_
  rintro e w1 ⟨rfl, hw1⟩
  rw [hw1]
  clear hw1 w1
  go_wp2_with fail
  refine (hsp w0).mono ?_
  rintro e w1 ⟨rfl, hw1⟩
  rw [hw1]
  clear hw1 w1
  go_upto_region 5 with fail
  go_wp2_with fail
  refine (pack_any k g m _ (by omega) (by omega) (by omega) (by omega) (by omega) (by omega)).mono ?_
  rintro e w1 ⟨rfl, hw1⟩
  have C1 : Below w0.heap.size w0 w1 := by rw [hw1]; exact below_alloc _ _
  clear hw1
  rw [hpk]
  have P1 := P0.on C1
  have a0 := P1.c0
  have a1 := P1.c1
  have a2 := P1.c2
  have hpr := print_any k g m (by omega) (by omega) (by omega) w1 P1.tb
  go_wp2_with fail
  refine hpr.mono ?_
  rintro e w2 ⟨rfl, C2⟩
  have P2 := P1.on C2
  go_wp2_with fail
  refine (back_no k g m w2 P2.tb ho).mono ?_
  rintro e w3 ⟨rfl, C3⟩
  have P3 := P2.on C3
  obtain ⟨w4, hw4⟩ : ∃ w4, w4 = w3.alloc (.cells #[.int .u8 0, .int .u64 0, .int .u64 0] 25) := ⟨_, rfl⟩
  have P4 : PX w w.heap.size k g m w3.heap.size #[.int .u8 0, .int .u64 0, .int .u64 0] w4 := by rw [hw4]; exact ⟨P3.on (below_alloc _ _), heap_alloc_new _ _⟩
  go_upto_region 7 with fail
  rw [← hw4]
  clear hw4
  obtain ⟨nb, hnb⟩ : ∃ nb, nb = w3.heap.size := ⟨_, rfl⟩
  rw [← hnb] at P4 ⊢
  clear hnb a0 a1 a2 P3 P2 P1 P0
  have e0 := cell_regrown P4.ps.c0
  have e1 := cell_regrown P4.ps.c1
  have e2 := cell_regrown P4.ps.c2
  have KL := fun dd os => Calls.regrown_of (w := w4) (d := dd) (os := os) ((live_any _).mono (fun e z h => ⟨h.1, by rw [h.2]; exact Below.refl _ _⟩))
  replace KL := keepH KL
  have HB : Hid (∀ dq osq, Below w.heap.size w (Sort.grow (redrawn w4 dq) osq)) := keepH (fun dq osq => below_chain P4.ps.bel (below_regrown w4 dq osq))
  have HB4' : Below w.heap.size w w4 := P4.ps.bel
  clear P4
  have HB4 : Below w.heap.size w w4 := HB4'
  clear HB HB4'
  go_quiet (first | (go_at_call 7; exact Calls.quiet_of_same (live_any _)))
  go_wp2
  go_ret
  exact ⟨by first | rfl | simp, below_drewN HB4 _⟩
set_option maxHeartbeats 4000000 in
theorem back_B_y (a : Int) (h1 : 1 ≤ a) (h2 : a < 18446744073709551616) (k g m : Nat) (hk : k < 256) (hg : g < 18446744073709551616) (hm : m < 18446744073709551616) (w : World) (T : Tb w) (ho : okS k g m) :
    Calls Tryd.prog 4 #[.int .u8 (0 : Int), .int .u64 a, .agg #[.int .u8 k, .int .u64 g, .int .u64 m]] w fun e w' => e = .returned (.bool true) ∧ Below w.heap.size w w' := by
  have hpk := packE_ok (k := k) (g := g) (m := m) ho
  have hch : ∀ W, Calls Tryd.prog 10 #[.int .u8 (0 : Int), .int .u64 a] W fun e w' => e = .returned (.tuple #[.int .u64 (childW (0 : Int) a), .int .i64 (childE (0 : Int) a)]) ∧ w' = W := fun W => child_any (0 : Int) a W (by omega) (by omega)
  have ecw : childW 0 a = 0 := by unfold childW; (repeat' split) <;> omega
  have ece : childE 0 a = 2 := by unfold childE; (repeat' split) <;> omega
  rw [ecw, ece] at hch
  have hsp : ∀ W, Calls Tryd.prog 11 #[.int .u64 0] W fun e w' => e = .returned (.tuple #[.int .u8 0, .int .u64 0]) ∧ w' = W := fun W => by
    have h := split_any 0 W (by omega) (by omega)
    exact h
  have q1 : (a == 0) = false := by simp; omega
  obtain ⟨w0, hw0⟩ : ∃ w0, w0 = w.alloc (.cells #[.int .u8 k, .int .u64 g, .int .u64 m] 25) := ⟨_, rfl⟩
  have P0 : PS w w.heap.size k g m w0 := by rw [hw0]; exact PS.start T
  clear T
  go_enter Tryd.func4, Tryd.ntmps4
  go_upto_region 1 with fail
  rw [← hw0]
  clear hw0
  have b0 := P0.c0
  have b1 := P0.c1
  have b2 := P0.c2
  go_wp2_with fail
  refine (hch w0).mono ?_
  rintro e w1 ⟨rfl, hw1⟩
  rw [hw1]
  clear hw1 w1
  go_wp2_with fail
  refine (hsp w0).mono ?_
  rintro e w1 ⟨rfl, hw1⟩
  rw [hw1]
  clear hw1 w1
  go_upto_region 5 with fail
  go_wp2_with fail
  refine (pack_any k g m _ (by omega) (by omega) (by omega) (by omega) (by omega) (by omega)).mono ?_
  rintro e w1 ⟨rfl, hw1⟩
  have C1 : Below w0.heap.size w0 w1 := by rw [hw1]; exact below_alloc _ _
  clear hw1
  rw [hpk]
  have P1 := P0.on C1
  have a0 := P1.c0
  have a1 := P1.c1
  have a2 := P1.c2
  have hpr := print_any k g m (by omega) (by omega) (by omega) w1 P1.tb
  go_wp2_with fail
  refine hpr.mono ?_
  rintro e w2 ⟨rfl, C2⟩
  have P2 := P1.on C2
  go_wp2_with fail
  refine (back_yes k g m w2 P2.tb ho).mono ?_
  rintro e w3 ⟨rfl, C3⟩
  have P3 := P2.on C3
  obtain ⟨w4, hw4⟩ : ∃ w4, w4 = w3.alloc (.cells #[.int .u8 k, .int .u64 g, .int .u64 m] 25) := ⟨_, rfl⟩
  have P4 : PX w w.heap.size k g m w3.heap.size #[.int .u8 k, .int .u64 g, .int .u64 m] w4 := by rw [hw4]; exact ⟨P3.on (below_alloc _ _), heap_alloc_new _ _⟩
  go_upto_region 7 with fail
  rw [← hw4]
  clear hw4
  obtain ⟨nb, hnb⟩ : ∃ nb, nb = w3.heap.size := ⟨_, rfl⟩
  rw [← hnb] at P4 ⊢
  clear hnb a0 a1 a2 P3 P2 P1 P0
  have e0 := cell_regrown P4.ps.c0
  have e1 := cell_regrown P4.ps.c1
  have e2 := cell_regrown P4.ps.c2
  have KL := fun dd os => Calls.regrown_of (w := w4) (d := dd) (os := os) ((live_any _).mono (fun e z h => ⟨h.1, by rw [h.2]; exact Below.refl _ _⟩))
  replace KL := keepH KL
  have f0 := cell_regrown (cell_of P4.nm 0)
  have f1 := cell_regrown (cell_of P4.nm 1)
  have f2 := cell_regrown (cell_of P4.nm 2)
  have KU := fun dd os => Calls.regrown_of (w := w4) (d := dd) (os := os) (unpack_back k g m _ ho)
  replace KU := keepH KU
  have HB : Hid (∀ dq osq, Below w.heap.size w (Sort.grow (redrawn w4 dq) osq)) := keepH (fun dq osq => below_chain P4.ps.bel (below_regrown w4 dq osq))
  have HB4' : Below w.heap.size w w4 := P4.ps.bel
  clear P4
  refine wp_region_quiet_below (by kernel_rfl) (by kernel_rfl) ?_
  repeat (go_big_quiet_step (first | exact KL.out _ _ | exact KU.out _ _))
  refine wpQuiet_nil ?_
  intro _ hw'
  obtain ⟨⟨dq, osq⟩, hw''⟩ := hw'
  subst hw''
  go_wp2
  go_ret
  exact ⟨by first | rfl | simp, HB.out _ _⟩
set_option maxHeartbeats 4000000 in
theorem back_B_n (a : Int) (h1 : 1 ≤ a) (h2 : a < 18446744073709551616) (k g m : Nat) (hk : k < 256) (hg : g < 18446744073709551616) (hm : m < 18446744073709551616) (w : World) (T : Tb w) (ho : ¬ okS k g m) :
    Calls Tryd.prog 4 #[.int .u8 (0 : Int), .int .u64 a, .agg #[.int .u8 k, .int .u64 g, .int .u64 m]] w fun e w' => e = .returned (.bool true) ∧ Below w.heap.size w w' := by
  have hpk := packE_no (k := k) (g := g) (m := m) ho
  have hch : ∀ W, Calls Tryd.prog 10 #[.int .u8 (0 : Int), .int .u64 a] W fun e w' => e = .returned (.tuple #[.int .u64 (childW (0 : Int) a), .int .i64 (childE (0 : Int) a)]) ∧ w' = W := fun W => child_any (0 : Int) a W (by omega) (by omega)
  have ecw : childW 0 a = 0 := by unfold childW; (repeat' split) <;> omega
  have ece : childE 0 a = 2 := by unfold childE; (repeat' split) <;> omega
  rw [ecw, ece] at hch
  have hsp : ∀ W, Calls Tryd.prog 11 #[.int .u64 0] W fun e w' => e = .returned (.tuple #[.int .u8 0, .int .u64 0]) ∧ w' = W := fun W => by
    have h := split_any 0 W (by omega) (by omega)
    exact h
  have q1 : (a == 0) = false := by simp; omega
  obtain ⟨w0, hw0⟩ : ∃ w0, w0 = w.alloc (.cells #[.int .u8 k, .int .u64 g, .int .u64 m] 25) := ⟨_, rfl⟩
  have P0 : PS w w.heap.size k g m w0 := by rw [hw0]; exact PS.start T
  clear T
  go_enter Tryd.func4, Tryd.ntmps4
  go_upto_region 1 with fail
  rw [← hw0]
  clear hw0
  have b0 := P0.c0
  have b1 := P0.c1
  have b2 := P0.c2
  go_wp2_with fail
  refine (hch w0).mono ?_
  rintro e w1 ⟨rfl, hw1⟩
  rw [hw1]
  clear hw1 w1
  go_wp2_with fail
  refine (hsp w0).mono ?_
  rintro e w1 ⟨rfl, hw1⟩
  rw [hw1]
  clear hw1 w1
  go_upto_region 5 with fail
  go_wp2_with fail
  refine (pack_any k g m _ (by omega) (by omega) (by omega) (by omega) (by omega) (by omega)).mono ?_
  rintro e w1 ⟨rfl, hw1⟩
  have C1 : Below w0.heap.size w0 w1 := by rw [hw1]; exact below_alloc _ _
  clear hw1
  rw [hpk]
  have P1 := P0.on C1
  have a0 := P1.c0
  have a1 := P1.c1
  have a2 := P1.c2
  have hpr := print_any k g m (by omega) (by omega) (by omega) w1 P1.tb
  go_wp2_with fail
  refine hpr.mono ?_
  rintro e w2 ⟨rfl, C2⟩
  have P2 := P1.on C2
  go_wp2_with fail
  refine (back_no k g m w2 P2.tb ho).mono ?_
  rintro e w3 ⟨rfl, C3⟩
  have P3 := P2.on C3
  obtain ⟨w4, hw4⟩ : ∃ w4, w4 = w3.alloc (.cells #[.int .u8 0, .int .u64 0, .int .u64 0] 25) := ⟨_, rfl⟩
  have P4 : PX w w.heap.size k g m w3.heap.size #[.int .u8 0, .int .u64 0, .int .u64 0] w4 := by rw [hw4]; exact ⟨P3.on (below_alloc _ _), heap_alloc_new _ _⟩
  go_upto_region 7 with fail
  rw [← hw4]
  clear hw4
  obtain ⟨nb, hnb⟩ : ∃ nb, nb = w3.heap.size := ⟨_, rfl⟩
  rw [← hnb] at P4 ⊢
  clear hnb a0 a1 a2 P3 P2 P1 P0
  have e0 := cell_regrown P4.ps.c0
  have e1 := cell_regrown P4.ps.c1
  have e2 := cell_regrown P4.ps.c2
  have KL := fun dd os => Calls.regrown_of (w := w4) (d := dd) (os := os) ((live_any _).mono (fun e z h => ⟨h.1, by rw [h.2]; exact Below.refl _ _⟩))
  replace KL := keepH KL
  have HB : Hid (∀ dq osq, Below w.heap.size w (Sort.grow (redrawn w4 dq) osq)) := keepH (fun dq osq => below_chain P4.ps.bel (below_regrown w4 dq osq))
  have HB4' : Below w.heap.size w w4 := P4.ps.bel
  clear P4
  have HB4 : Below w.heap.size w w4 := HB4'
  clear HB HB4'
  go_quiet (first | (go_at_call 7; exact Calls.quiet_of_same (live_any _)))
  go_wp2
  go_ret
  exact ⟨by first | rfl | simp, below_drewN HB4 _⟩
set_option maxHeartbeats 4000000 in
theorem back_C1_y  (k g m : Nat) (hk : k < 256) (hg : g < 18446744073709551616) (hm : m < 18446744073709551616) (w : World) (T : Tb w) (ho : okS k g m) :
    Calls Tryd.prog 4 #[.int .u8 (1 : Int), .int .u64 (0 : Int), .agg #[.int .u8 k, .int .u64 g, .int .u64 m]] w fun e w' => e = .returned (.bool true) ∧ Below w.heap.size w w' := by
  have hpk := packE_ok (k := k) (g := g) (m := m) ho
  have hch : ∀ W, Calls Tryd.prog 10 #[.int .u8 (1 : Int), .int .u64 (0 : Int)] W fun e w' => e = .returned (.tuple #[.int .u64 (childW (1 : Int) (0 : Int)), .int .i64 (childE (1 : Int) (0 : Int))]) ∧ w' = W := fun W => child_any (1 : Int) (0 : Int) W (by omega) (by omega)
  have ecw : childW 1 0 = 0 := by unfold childW; (repeat' split) <;> omega
  have ece : childE 1 0 = 2 := by unfold childE; (repeat' split) <;> omega
  rw [ecw, ece] at hch
  have hsp : ∀ W, Calls Tryd.prog 11 #[.int .u64 0] W fun e w' => e = .returned (.tuple #[.int .u8 0, .int .u64 0]) ∧ w' = W := fun W => by
    have h := split_any 0 W (by omega) (by omega)
    exact h
  obtain ⟨w0, hw0⟩ : ∃ w0, w0 = w.alloc (.cells #[.int .u8 k, .int .u64 g, .int .u64 m] 25) := ⟨_, rfl⟩
  have P0 : PS w w.heap.size k g m w0 := by rw [hw0]; exact PS.start T
  clear T
  go_enter Tryd.func4, Tryd.ntmps4
  go_upto_region 1 with fail
  rw [← hw0]
  clear hw0
  have b0 := P0.c0
  have b1 := P0.c1
  have b2 := P0.c2
  go_wp2_with fail
  refine (hch w0).mono ?_
  rintro e w1 ⟨rfl, hw1⟩
  rw [hw1]
  clear hw1 w1
  go_wp2_with fail
  refine (hsp w0).mono ?_
  rintro e w1 ⟨rfl, hw1⟩
  rw [hw1]
  clear hw1 w1
  go_upto_region 5 with fail
  go_wp2_with fail
  refine (pack_any k g m _ (by omega) (by omega) (by omega) (by omega) (by omega) (by omega)).mono ?_
  rintro e w1 ⟨rfl, hw1⟩
  have C1 : Below w0.heap.size w0 w1 := by rw [hw1]; exact below_alloc _ _
  clear hw1
  rw [hpk]
  have P1 := P0.on C1
  have a0 := P1.c0
  have a1 := P1.c1
  have a2 := P1.c2
  have hpr := print_any k g m (by omega) (by omega) (by omega) w1 P1.tb
  go_wp2_with fail
  refine hpr.mono ?_
  rintro e w2 ⟨rfl, C2⟩
  have P2 := P1.on C2
  go_wp2_with fail
  refine (back_yes k g m w2 P2.tb ho).mono ?_
  rintro e w3 ⟨rfl, C3⟩
  have P3 := P2.on C3
  obtain ⟨w4, hw4⟩ : ∃ w4, w4 = w3.alloc (.cells #[.int .u8 k, .int .u64 g, .int .u64 m] 25) := ⟨_, rfl⟩
  have P4 : PX w w.heap.size k g m w3.heap.size #[.int .u8 k, .int .u64 g, .int .u64 m] w4 := by rw [hw4]; exact ⟨P3.on (below_alloc _ _), heap_alloc_new _ _⟩
  go_upto_region 7 with fail
  rw [← hw4]
  clear hw4
  obtain ⟨nb, hnb⟩ : ∃ nb, nb = w3.heap.size := ⟨_, rfl⟩
  rw [← hnb] at P4 ⊢
  clear hnb a0 a1 a2 P3 P2 P1 P0
  have e0 := cell_regrown P4.ps.c0
  have e1 := cell_regrown P4.ps.c1
  have e2 := cell_regrown P4.ps.c2
  have KL := fun dd os => Calls.regrown_of (w := w4) (d := dd) (os := os) ((live_any _).mono (fun e z h => ⟨h.1, by rw [h.2]; exact Below.refl _ _⟩))
  replace KL := keepH KL
  have f0 := cell_regrown (cell_of P4.nm 0)
  have f1 := cell_regrown (cell_of P4.nm 1)
  have f2 := cell_regrown (cell_of P4.nm 2)
  have KU := fun dd os => Calls.regrown_of (w := w4) (d := dd) (os := os) (unpack_back k g m _ ho)
  replace KU := keepH KU
  have HB : Hid (∀ dq osq, Below w.heap.size w (Sort.grow (redrawn w4 dq) osq)) := keepH (fun dq osq => below_chain P4.ps.bel (below_regrown w4 dq osq))
  have HB4' : Below w.heap.size w w4 := P4.ps.bel
  clear P4
  refine wp_region_quiet_below (by kernel_rfl) (by kernel_rfl) ?_
  repeat (go_big_quiet_step (first | exact KL.out _ _ | exact KU.out _ _))
  refine wpQuiet_nil ?_
  intro _ hw'
  obtain ⟨⟨dq, osq⟩, hw''⟩ := hw'
  subst hw''
  go_wp2
  go_ret
  exact ⟨by first | rfl | simp, HB.out _ _⟩
set_option maxHeartbeats 4000000 in
theorem back_C1_n  (k g m : Nat) (hk : k < 256) (hg : g < 18446744073709551616) (hm : m < 18446744073709551616) (w : World) (T : Tb w) (ho : ¬ okS k g m) :
    Calls Tryd.prog 4 #[.int .u8 (1 : Int), .int .u64 (0 : Int), .agg #[.int .u8 k, .int .u64 g, .int .u64 m]] w fun e w' => e = .returned (.bool true) ∧ Below w.heap.size w w' := by
  have hpk := packE_no (k := k) (g := g) (m := m) ho
  have hch : ∀ W, Calls Tryd.prog 10 #[.int .u8 (1 : Int), .int .u64 (0 : Int)] W fun e w' => e = .returned (.tuple #[.int .u64 (childW (1 : Int) (0 : Int)), .int .i64 (childE (1 : Int) (0 : Int))]) ∧ w' = W := fun W => child_any (1 : Int) (0 : Int) W (by omega) (by omega)
  have ecw : childW 1 0 = 0 := by unfold childW; (repeat' split) <;> omega
  have ece : childE 1 0 = 2 := by unfold childE; (repeat' split) <;> omega
  rw [ecw, ece] at hch
  have hsp : ∀ W, Calls Tryd.prog 11 #[.int .u64 0] W fun e w' => e = .returned (.tuple #[.int .u8 0, .int .u64 0]) ∧ w' = W := fun W => by
    have h := split_any 0 W (by omega) (by omega)
    exact h
  obtain ⟨w0, hw0⟩ : ∃ w0, w0 = w.alloc (.cells #[.int .u8 k, .int .u64 g, .int .u64 m] 25) := ⟨_, rfl⟩
  have P0 : PS w w.heap.size k g m w0 := by rw [hw0]; exact PS.start T
  clear T
  go_enter Tryd.func4, Tryd.ntmps4
  go_upto_region 1 with fail
  rw [← hw0]
  clear hw0
  have b0 := P0.c0
  have b1 := P0.c1
  have b2 := P0.c2
  go_wp2_with fail
  refine (hch w0).mono ?_
  rintro e w1 ⟨rfl, hw1⟩
  rw [hw1]
  clear hw1 w1
  go_wp2_with fail
  refine (hsp w0).mono ?_
  rintro e w1 ⟨rfl, hw1⟩
  rw [hw1]
  clear hw1 w1
  go_upto_region 5 with fail
  go_wp2_with fail
  refine (pack_any k g m _ (by omega) (by omega) (by omega) (by omega) (by omega) (by omega)).mono ?_
  rintro e w1 ⟨rfl, hw1⟩
  have C1 : Below w0.heap.size w0 w1 := by rw [hw1]; exact below_alloc _ _
  clear hw1
  rw [hpk]
  have P1 := P0.on C1
  have a0 := P1.c0
  have a1 := P1.c1
  have a2 := P1.c2
  have hpr := print_any k g m (by omega) (by omega) (by omega) w1 P1.tb
  go_wp2_with fail
  refine hpr.mono ?_
  rintro e w2 ⟨rfl, C2⟩
  have P2 := P1.on C2
  go_wp2_with fail
  refine (back_no k g m w2 P2.tb ho).mono ?_
  rintro e w3 ⟨rfl, C3⟩
  have P3 := P2.on C3
  obtain ⟨w4, hw4⟩ : ∃ w4, w4 = w3.alloc (.cells #[.int .u8 0, .int .u64 0, .int .u64 0] 25) := ⟨_, rfl⟩
  have P4 : PX w w.heap.size k g m w3.heap.size #[.int .u8 0, .int .u64 0, .int .u64 0] w4 := by rw [hw4]; exact ⟨P3.on (below_alloc _ _), heap_alloc_new _ _⟩
  go_upto_region 7 with fail
  rw [← hw4]
  clear hw4
  obtain ⟨nb, hnb⟩ : ∃ nb, nb = w3.heap.size := ⟨_, rfl⟩
  rw [← hnb] at P4 ⊢
  clear hnb a0 a1 a2 P3 P2 P1 P0
  have e0 := cell_regrown P4.ps.c0
  have e1 := cell_regrown P4.ps.c1
  have e2 := cell_regrown P4.ps.c2
  have KL := fun dd os => Calls.regrown_of (w := w4) (d := dd) (os := os) ((live_any _).mono (fun e z h => ⟨h.1, by rw [h.2]; exact Below.refl _ _⟩))
  replace KL := keepH KL
  have HB : Hid (∀ dq osq, Below w.heap.size w (Sort.grow (redrawn w4 dq) osq)) := keepH (fun dq osq => below_chain P4.ps.bel (below_regrown w4 dq osq))
  have HB4' : Below w.heap.size w w4 := P4.ps.bel
  clear P4
  have HB4 : Below w.heap.size w w4 := HB4'
  clear HB HB4'
  go_quiet (first | (go_at_call 7; exact Calls.quiet_of_same (live_any _)))
  go_wp2
  go_ret
  exact ⟨by first | rfl | simp, below_drewN HB4 _⟩
set_option maxHeartbeats 4000000 in
theorem back_C2_y  (k g m : Nat) (hk : k < 256) (hg : g < 18446744073709551616) (hm : m < 18446744073709551616) (w : World) (T : Tb w) (ho : okS k g m) :
    Calls Tryd.prog 4 #[.int .u8 (2 : Int), .int .u64 (0 : Int), .agg #[.int .u8 k, .int .u64 g, .int .u64 m]] w fun e w' => e = .returned (.bool true) ∧ Below w.heap.size w w' := by
  have hpk := packE_ok (k := k) (g := g) (m := m) ho
  have hch : ∀ W, Calls Tryd.prog 10 #[.int .u8 (2 : Int), .int .u64 (0 : Int)] W fun e w' => e = .returned (.tuple #[.int .u64 (childW (2 : Int) (0 : Int)), .int .i64 (childE (2 : Int) (0 : Int))]) ∧ w' = W := fun W => child_any (2 : Int) (0 : Int) W (by omega) (by omega)
  have ecw : childW 2 0 = 0 := by unfold childW; (repeat' split) <;> omega
  have ece : childE 2 0 = 2 := by unfold childE; (repeat' split) <;> omega
  rw [ecw, ece] at hch
  have hsp : ∀ W, Calls Tryd.prog 11 #[.int .u64 0] W fun e w' => e = .returned (.tuple #[.int .u8 0, .int .u64 0]) ∧ w' = W := fun W => by
    have h := split_any 0 W (by omega) (by omega)
    exact h
  obtain ⟨w0, hw0⟩ : ∃ w0, w0 = w.alloc (.cells #[.int .u8 k, .int .u64 g, .int .u64 m] 25) := ⟨_, rfl⟩
  have P0 : PS w w.heap.size k g m w0 := by rw [hw0]; exact PS.start T
  clear T
  go_enter Tryd.func4, Tryd.ntmps4
  go_upto_region 1 with fail
  rw [← hw0]
  clear hw0
  have b0 := P0.c0
  have b1 := P0.c1
  have b2 := P0.c2
  go_wp2_with fail
  refine (hch w0).mono ?_
  rintro e w1 ⟨rfl, hw1⟩
  rw [hw1]
  clear hw1 w1
  go_wp2_with fail
  refine (hsp w0).mono ?_
  rintro e w1 ⟨rfl, hw1⟩
  rw [hw1]
  clear hw1 w1
  go_upto_region 5 with fail
  go_wp2_with fail
  refine (pack_any k g m _ (by omega) (by omega) (by omega) (by omega) (by omega) (by omega)).mono ?_
  rintro e w1 ⟨rfl, hw1⟩
  have C1 : Below w0.heap.size w0 w1 := by rw [hw1]; exact below_alloc _ _
  clear hw1
  rw [hpk]
  have P1 := P0.on C1
  have a0 := P1.c0
  have a1 := P1.c1
  have a2 := P1.c2
  have hpr := print_any k g m (by omega) (by omega) (by omega) w1 P1.tb
  go_wp2_with fail
  refine hpr.mono ?_
  rintro e w2 ⟨rfl, C2⟩
  have P2 := P1.on C2
  go_wp2_with fail
  refine (back_yes k g m w2 P2.tb ho).mono ?_
  rintro e w3 ⟨rfl, C3⟩
  have P3 := P2.on C3
  obtain ⟨w4, hw4⟩ : ∃ w4, w4 = w3.alloc (.cells #[.int .u8 k, .int .u64 g, .int .u64 m] 25) := ⟨_, rfl⟩
  have P4 : PX w w.heap.size k g m w3.heap.size #[.int .u8 k, .int .u64 g, .int .u64 m] w4 := by rw [hw4]; exact ⟨P3.on (below_alloc _ _), heap_alloc_new _ _⟩
  go_upto_region 7 with fail
  rw [← hw4]
  clear hw4
  obtain ⟨nb, hnb⟩ : ∃ nb, nb = w3.heap.size := ⟨_, rfl⟩
  rw [← hnb] at P4 ⊢
  clear hnb a0 a1 a2 P3 P2 P1 P0
  have e0 := cell_regrown P4.ps.c0
  have e1 := cell_regrown P4.ps.c1
  have e2 := cell_regrown P4.ps.c2
  have KL := fun dd os => Calls.regrown_of (w := w4) (d := dd) (os := os) ((live_any _).mono (fun e z h => ⟨h.1, by rw [h.2]; exact Below.refl _ _⟩))
  replace KL := keepH KL
  have f0 := cell_regrown (cell_of P4.nm 0)
  have f1 := cell_regrown (cell_of P4.nm 1)
  have f2 := cell_regrown (cell_of P4.nm 2)
  have KU := fun dd os => Calls.regrown_of (w := w4) (d := dd) (os := os) (unpack_back k g m _ ho)
  replace KU := keepH KU
  have HB : Hid (∀ dq osq, Below w.heap.size w (Sort.grow (redrawn w4 dq) osq)) := keepH (fun dq osq => below_chain P4.ps.bel (below_regrown w4 dq osq))
  have HB4' : Below w.heap.size w w4 := P4.ps.bel
  clear P4
  refine wp_region_quiet_below (by kernel_rfl) (by kernel_rfl) ?_
  repeat (go_big_quiet_step (first | exact KL.out _ _ | exact KU.out _ _))
  refine wpQuiet_nil ?_
  intro _ hw'
  obtain ⟨⟨dq, osq⟩, hw''⟩ := hw'
  subst hw''
  go_wp2
  go_ret
  exact ⟨by first | rfl | simp, HB.out _ _⟩
set_option maxHeartbeats 4000000 in
theorem back_C2_n  (k g m : Nat) (hk : k < 256) (hg : g < 18446744073709551616) (hm : m < 18446744073709551616) (w : World) (T : Tb w) (ho : ¬ okS k g m) :
    Calls Tryd.prog 4 #[.int .u8 (2 : Int), .int .u64 (0 : Int), .agg #[.int .u8 k, .int .u64 g, .int .u64 m]] w fun e w' => e = .returned (.bool true) ∧ Below w.heap.size w w' := by
  have hpk := packE_no (k := k) (g := g) (m := m) ho
  have hch : ∀ W, Calls Tryd.prog 10 #[.int .u8 (2 : Int), .int .u64 (0 : Int)] W fun e w' => e = .returned (.tuple #[.int .u64 (childW (2 : Int) (0 : Int)), .int .i64 (childE (2 : Int) (0 : Int))]) ∧ w' = W := fun W => child_any (2 : Int) (0 : Int) W (by omega) (by omega)
  have ecw : childW 2 0 = 0 := by unfold childW; (repeat' split) <;> omega
  have ece : childE 2 0 = 2 := by unfold childE; (repeat' split) <;> omega
  rw [ecw, ece] at hch
  have hsp : ∀ W, Calls Tryd.prog 11 #[.int .u64 0] W fun e w' => e = .returned (.tuple #[.int .u8 0, .int .u64 0]) ∧ w' = W := fun W => by
    have h := split_any 0 W (by omega) (by omega)
    exact h
  obtain ⟨w0, hw0⟩ : ∃ w0, w0 = w.alloc (.cells #[.int .u8 k, .int .u64 g, .int .u64 m] 25) := ⟨_, rfl⟩
  have P0 : PS w w.heap.size k g m w0 := by rw [hw0]; exact PS.start T
  clear T
  go_enter Tryd.func4, Tryd.ntmps4
  go_upto_region 1 with fail
  rw [← hw0]
  clear hw0
  have b0 := P0.c0
  have b1 := P0.c1
  have b2 := P0.c2
  go_wp2_with fail
  refine (hch w0).mono ?_
  rintro e w1 ⟨rfl, hw1⟩
  rw [hw1]
  clear hw1 w1
  go_wp2_with fail
  refine (hsp w0).mono ?_
  rintro e w1 ⟨rfl, hw1⟩
  rw [hw1]
  clear hw1 w1
  go_upto_region 5 with fail
  go_wp2_with fail
  refine (pack_any k g m _ (by omega) (by omega) (by omega) (by omega) (by omega) (by omega)).mono ?_
  rintro e w1 ⟨rfl, hw1⟩
  have C1 : Below w0.heap.size w0 w1 := by rw [hw1]; exact below_alloc _ _
  clear hw1
  rw [hpk]
  have P1 := P0.on C1
  have a0 := P1.c0
  have a1 := P1.c1
  have a2 := P1.c2
  have hpr := print_any k g m (by omega) (by omega) (by omega) w1 P1.tb
  go_wp2_with fail
  refine hpr.mono ?_
  rintro e w2 ⟨rfl, C2⟩
  have P2 := P1.on C2
  go_wp2_with fail
  refine (back_no k g m w2 P2.tb ho).mono ?_
  rintro e w3 ⟨rfl, C3⟩
  have P3 := P2.on C3
  obtain ⟨w4, hw4⟩ : ∃ w4, w4 = w3.alloc (.cells #[.int .u8 0, .int .u64 0, .int .u64 0] 25) := ⟨_, rfl⟩
  have P4 : PX w w.heap.size k g m w3.heap.size #[.int .u8 0, .int .u64 0, .int .u64 0] w4 := by rw [hw4]; exact ⟨P3.on (below_alloc _ _), heap_alloc_new _ _⟩
  go_upto_region 7 with fail
  rw [← hw4]
  clear hw4
  obtain ⟨nb, hnb⟩ : ∃ nb, nb = w3.heap.size := ⟨_, rfl⟩
  rw [← hnb] at P4 ⊢
  clear hnb a0 a1 a2 P3 P2 P1 P0
  have e0 := cell_regrown P4.ps.c0
  have e1 := cell_regrown P4.ps.c1
  have e2 := cell_regrown P4.ps.c2
  have KL := fun dd os => Calls.regrown_of (w := w4) (d := dd) (os := os) ((live_any _).mono (fun e z h => ⟨h.1, by rw [h.2]; exact Below.refl _ _⟩))
  replace KL := keepH KL
  have HB : Hid (∀ dq osq, Below w.heap.size w (Sort.grow (redrawn w4 dq) osq)) := keepH (fun dq osq => below_chain P4.ps.bel (below_regrown w4 dq osq))
  have HB4' : Below w.heap.size w w4 := P4.ps.bel
  clear P4
  have HB4 : Below w.heap.size w w4 := HB4'
  clear HB HB4'
  go_quiet (first | (go_at_call 7; exact Calls.quiet_of_same (live_any _)))
  go_wp2
  go_ret
  exact ⟨by first | rfl | simp, below_drewN HB4 _⟩
set_option maxHeartbeats 4000000 in
theorem back_D1_y (a : Int) (h1 : 1 ≤ a) (h2 : a ≤ 4611686018427387904) (k g m : Nat) (hk : k < 256) (hg : g < 18446744073709551616) (hm : m < 18446744073709551616) (w : World) (T : Tb w) (ho : okS k g m) :
    Calls Tryd.prog 4 #[.int .u8 (1 : Int), .int .u64 a, .agg #[.int .u8 k, .int .u64 g, .int .u64 m]] w fun e w' => e = .returned (.bool true) ∧ Below w.heap.size w w' := by
  have hpk := packE_ok (k := k) (g := g) (m := m) ho
  have hch : ∀ W, Calls Tryd.prog 10 #[.int .u8 (1 : Int), .int .u64 a] W fun e w' => e = .returned (.tuple #[.int .u64 (childW (1 : Int) a), .int .i64 (childE (1 : Int) a)]) ∧ w' = W := fun W => child_any (1 : Int) a W (by omega) (by omega)
  have ecw : childW 1 a = 2 * a + 1 := by unfold childW; (repeat' split) <;> omega
  have ece : childE 1 a = 0 := by unfold childE; (repeat' split) <;> omega
  rw [ecw, ece] at hch
  have hsp : ∀ W, Calls Tryd.prog 11 #[.int .u64 (2 * a + 1)] W fun e w' => e = .returned (.tuple #[.int .u8 1, .int .u64 a]) ∧ w' = W := fun W => by
    have h := split_any (2 * a + 1) W (by omega) (by omega)
    have e1 : splitK (2 * a + 1) = 1 := by unfold splitK; (repeat' split) <;> omega
    have e2 : (2 * a + 1) / 2 = a := by omega
    rw [e1, e2] at h
    exact h
  have q1 : (a == 0) = false := by simp; omega
  obtain ⟨w0, hw0⟩ : ∃ w0, w0 = w.alloc (.cells #[.int .u8 k, .int .u64 g, .int .u64 m] 25) := ⟨_, rfl⟩
  have P0 : PS w w.heap.size k g m w0 := by rw [hw0]; exact PS.start T
  clear T
  go_enter Tryd.func4, Tryd.ntmps4
  go_upto_region 1 with fail
  rw [← hw0]
  clear hw0
  have b0 := P0.c0
  have b1 := P0.c1
  have b2 := P0.c2
  go_wp2_with fail
  refine (hch w0).mono ?_
  rintro e w1 ⟨rfl, hw1⟩
  rw [hw1]
  clear hw1 w1
  go_wp2_with fail
  refine (hsp w0).mono ?_
  rintro e w1 ⟨rfl, hw1⟩
  rw [hw1]
  clear hw1 w1
  go_upto_region 5 with fail
  go_wp2_with fail
  refine (pack_any k g m _ (by omega) (by omega) (by omega) (by omega) (by omega) (by omega)).mono ?_
  rintro e w1 ⟨rfl, hw1⟩
  have C1 : Below w0.heap.size w0 w1 := by rw [hw1]; exact below_alloc _ _
  clear hw1
  rw [hpk]
  have P1 := P0.on C1
  have a0 := P1.c0
  have a1 := P1.c1
  have a2 := P1.c2
  have hpr := print_any k g m (by omega) (by omega) (by omega) w1 P1.tb
  go_wp2_with fail
  refine hpr.mono ?_
  rintro e w2 ⟨rfl, C2⟩
  have P2 := P1.on C2
  go_wp2_with fail
  refine (back_yes k g m w2 P2.tb ho).mono ?_
  rintro e w3 ⟨rfl, C3⟩
  have P3 := P2.on C3
  obtain ⟨w4, hw4⟩ : ∃ w4, w4 = w3.alloc (.cells #[.int .u8 k, .int .u64 g, .int .u64 m] 25) := ⟨_, rfl⟩
  have P4 : PX w w.heap.size k g m w3.heap.size #[.int .u8 k, .int .u64 g, .int .u64 m] w4 := by rw [hw4]; exact ⟨P3.on (below_alloc _ _), heap_alloc_new _ _⟩
  go_upto_region 7 with fail
  rw [← hw4]
  clear hw4
  obtain ⟨nb, hnb⟩ : ∃ nb, nb = w3.heap.size := ⟨_, rfl⟩
  rw [← hnb] at P4 ⊢
  clear hnb a0 a1 a2 P3 P2 P1 P0
  have e0 := cell_regrown P4.ps.c0
  have e1 := cell_regrown P4.ps.c1
  have e2 := cell_regrown P4.ps.c2
  have KL := fun dd os => Calls.regrown_of (w := w4) (d := dd) (os := os) ((live_any _).mono (fun e z h => ⟨h.1, by rw [h.2]; exact Below.refl _ _⟩))
  replace KL := keepH KL
  have f0 := cell_regrown (cell_of P4.nm 0)
  have f1 := cell_regrown (cell_of P4.nm 1)
  have f2 := cell_regrown (cell_of P4.nm 2)
  have KU := fun dd os => Calls.regrown_of (w := w4) (d := dd) (os := os) (unpack_back k g m _ ho)
  replace KU := keepH KU
  have HB : Hid (∀ dq osq, Below w.heap.size w (Sort.grow (redrawn w4 dq) osq)) := keepH (fun dq osq => below_chain P4.ps.bel (below_regrown w4 dq osq))
  have HB4' : Below w.heap.size w w4 := P4.ps.bel
  clear P4
  refine wp_region_quiet_below (by kernel_rfl) (by kernel_rfl) ?_
  repeat (go_big_quiet_step (first | exact KL.out _ _ | exact KU.out _ _))
  refine wpQuiet_nil ?_
  intro _ hw'
  obtain ⟨⟨dq, osq⟩, hw''⟩ := hw'
  subst hw''
  go_wp2
  go_ret
  exact ⟨by first | rfl | simp, HB.out _ _⟩
set_option maxHeartbeats 4000000 in
theorem back_D1_n (a : Int) (h1 : 1 ≤ a) (h2 : a ≤ 4611686018427387904) (k g m : Nat) (hk : k < 256) (hg : g < 18446744073709551616) (hm : m < 18446744073709551616) (w : World) (T : Tb w) (ho : ¬ okS k g m) :
    Calls Tryd.prog 4 #[.int .u8 (1 : Int), .int .u64 a, .agg #[.int .u8 k, .int .u64 g, .int .u64 m]] w fun e w' => e = .returned (.bool true) ∧ Below w.heap.size w w' := by
  have hpk := packE_no (k := k) (g := g) (m := m) ho
  have hch : ∀ W, Calls Tryd.prog 10 #[.int .u8 (1 : Int), .int .u64 a] W fun e w' => e = .returned (.tuple #[.int .u64 (childW (1 : Int) a), .int .i64 (childE (1 : Int) a)]) ∧ w' = W := fun W => child_any (1 : Int) a W (by omega) (by omega)
  have ecw : childW 1 a = 2 * a + 1 := by unfold childW; (repeat' split) <;> omega
  have ece : childE 1 a = 0 := by unfold childE; (repeat' split) <;> omega
  rw [ecw, ece] at hch
  have hsp : ∀ W, Calls Tryd.prog 11 #[.int .u64 (2 * a + 1)] W fun e w' => e = .returned (.tuple #[.int .u8 1, .int .u64 a]) ∧ w' = W := fun W => by
    have h := split_any (2 * a + 1) W (by omega) (by omega)
    have e1 : splitK (2 * a + 1) = 1 := by unfold splitK; (repeat' split) <;> omega
    have e2 : (2 * a + 1) / 2 = a := by omega
    rw [e1, e2] at h
    exact h
  have q1 : (a == 0) = false := by simp; omega
  obtain ⟨w0, hw0⟩ : ∃ w0, w0 = w.alloc (.cells #[.int .u8 k, .int .u64 g, .int .u64 m] 25) := ⟨_, rfl⟩
  have P0 : PS w w.heap.size k g m w0 := by rw [hw0]; exact PS.start T
  clear T
  go_enter Tryd.func4, Tryd.ntmps4
  go_upto_region 1 with fail
  rw [← hw0]
  clear hw0
  have b0 := P0.c0
  have b1 := P0.c1
  have b2 := P0.c2
  go_wp2_with fail
  refine (hch w0).mono ?_
  rintro e w1 ⟨rfl, hw1⟩
  rw [hw1]
  clear hw1 w1
  go_wp2_with fail
  refine (hsp w0).mono ?_
  rintro e w1 ⟨rfl, hw1⟩
  rw [hw1]
  clear hw1 w1
  go_upto_region 5 with fail
  go_wp2_with fail
  refine (pack_any k g m _ (by omega) (by omega) (by omega) (by omega) (by omega) (by omega)).mono ?_
  rintro e w1 ⟨rfl, hw1⟩
  have C1 : Below w0.heap.size w0 w1 := by rw [hw1]; exact below_alloc _ _
  clear hw1
  rw [hpk]
  have P1 := P0.on C1
  have a0 := P1.c0
  have a1 := P1.c1
  have a2 := P1.c2
  have hpr := print_any k g m (by omega) (by omega) (by omega) w1 P1.tb
  go_wp2_with fail
  refine hpr.mono ?_
  rintro e w2 ⟨rfl, C2⟩
  have P2 := P1.on C2
  go_wp2_with fail
  refine (back_no k g m w2 P2.tb ho).mono ?_
  rintro e w3 ⟨rfl, C3⟩
  have P3 := P2.on C3
  obtain ⟨w4, hw4⟩ : ∃ w4, w4 = w3.alloc (.cells #[.int .u8 0, .int .u64 0, .int .u64 0] 25) := ⟨_, rfl⟩
  have P4 : PX w w.heap.size k g m w3.heap.size #[.int .u8 0, .int .u64 0, .int .u64 0] w4 := by rw [hw4]; exact ⟨P3.on (below_alloc _ _), heap_alloc_new _ _⟩
  go_upto_region 7 with fail
  rw [← hw4]
  clear hw4
  obtain ⟨nb, hnb⟩ : ∃ nb, nb = w3.heap.size := ⟨_, rfl⟩
  rw [← hnb] at P4 ⊢
  clear hnb a0 a1 a2 P3 P2 P1 P0
  have e0 := cell_regrown P4.ps.c0
  have e1 := cell_regrown P4.ps.c1
  have e2 := cell_regrown P4.ps.c2
  have KL := fun dd os => Calls.regrown_of (w := w4) (d := dd) (os := os) ((live_any _).mono (fun e z h => ⟨h.1, by rw [h.2]; exact Below.refl _ _⟩))
  replace KL := keepH KL
  have HB : Hid (∀ dq osq, Below w.heap.size w (Sort.grow (redrawn w4 dq) osq)) := keepH (fun dq osq => below_chain P4.ps.bel (below_regrown w4 dq osq))
  have HB4' : Below w.heap.size w w4 := P4.ps.bel
  clear P4
  have HB4 : Below w.heap.size w w4 := HB4'
  clear HB HB4'
  go_quiet (first | (go_at_call 7; exact Calls.quiet_of_same (live_any _)))
  go_wp2
  go_ret
  exact ⟨by first | rfl | simp, below_drewN HB4 _⟩
set_option maxHeartbeats 4000000 in
theorem back_D2_y (a : Int) (h1 : 1 ≤ a) (h2 : a ≤ 4611686018427387904) (k g m : Nat) (hk : k < 256) (hg : g < 18446744073709551616) (hm : m < 18446744073709551616) (w : World) (T : Tb w) (ho : okS k g m) :
    Calls Tryd.prog 4 #[.int .u8 (2 : Int), .int .u64 a, .agg #[.int .u8 k, .int .u64 g, .int .u64 m]] w fun e w' => e = .returned (.bool true) ∧ Below w.heap.size w w' := by
  have hpk := packE_ok (k := k) (g := g) (m := m) ho
  have hch : ∀ W, Calls Tryd.prog 10 #[.int .u8 (2 : Int), .int .u64 a] W fun e w' => e = .returned (.tuple #[.int .u64 (childW (2 : Int) a), .int .i64 (childE (2 : Int) a)]) ∧ w' = W := fun W => child_any (2 : Int) a W (by omega) (by omega)
  have ecw : childW 2 a = 2 * a := by unfold childW; (repeat' split) <;> omega
  have ece : childE 2 a = 0 := by unfold childE; (repeat' split) <;> omega
  rw [ecw, ece] at hch
  have hsp : ∀ W, Calls Tryd.prog 11 #[.int .u64 (2 * a)] W fun e w' => e = .returned (.tuple #[.int .u8 2, .int .u64 a]) ∧ w' = W := fun W => by
    have h := split_any (2 * a) W (by omega) (by omega)
    have e1 : splitK (2 * a) = 2 := by unfold splitK; (repeat' split) <;> omega
    have e2 : (2 * a) / 2 = a := by omega
    rw [e1, e2] at h
    exact h
  have q1 : (a == 0) = false := by simp; omega
  obtain ⟨w0, hw0⟩ : ∃ w0, w0 = w.alloc (.cells #[.int .u8 k, .int .u64 g, .int .u64 m] 25) := ⟨_, rfl⟩
  have P0 : PS w w.heap.size k g m w0 := by rw [hw0]; exact PS.start T
  clear T
  go_enter Tryd.func4, Tryd.ntmps4
  go_upto_region 1 with fail
  rw [← hw0]
  clear hw0
  have b0 := P0.c0
  have b1 := P0.c1
  have b2 := P0.c2
  go_wp2_with fail
  refine (hch w0).mono ?_
  rintro e w1 ⟨rfl, hw1⟩
  rw [hw1]
  clear hw1 w1
  go_wp2_with fail
  refine (hsp w0).mono ?_
  rintro e w1 ⟨rfl, hw1⟩
  rw [hw1]
  clear hw1 w1
  go_upto_region 5 with fail
  go_wp2_with fail
  refine (pack_any k g m _ (by omega) (by omega) (by omega) (by omega) (by omega) (by omega)).mono ?_
  rintro e w1 ⟨rfl, hw1⟩
  have C1 : Below w0.heap.size w0 w1 := by rw [hw1]; exact below_alloc _ _
  clear hw1
  rw [hpk]
  have P1 := P0.on C1
  have a0 := P1.c0
  have a1 := P1.c1
  have a2 := P1.c2
  have hpr := print_any k g m (by omega) (by omega) (by omega) w1 P1.tb
  go_wp2_with fail
  refine hpr.mono ?_
  rintro e w2 ⟨rfl, C2⟩
  have P2 := P1.on C2
  go_wp2_with fail
  refine (back_yes k g m w2 P2.tb ho).mono ?_
  rintro e w3 ⟨rfl, C3⟩
  have P3 := P2.on C3
  obtain ⟨w4, hw4⟩ : ∃ w4, w4 = w3.alloc (.cells #[.int .u8 k, .int .u64 g, .int .u64 m] 25) := ⟨_, rfl⟩
  have P4 : PX w w.heap.size k g m w3.heap.size #[.int .u8 k, .int .u64 g, .int .u64 m] w4 := by rw [hw4]; exact ⟨P3.on (below_alloc _ _), heap_alloc_new _ _⟩
  go_upto_region 7 with fail
  rw [← hw4]
  clear hw4
  obtain ⟨nb, hnb⟩ : ∃ nb, nb = w3.heap.size := ⟨_, rfl⟩
  rw [← hnb] at P4 ⊢
  clear hnb a0 a1 a2 P3 P2 P1 P0
  have e0 := cell_regrown P4.ps.c0
  have e1 := cell_regrown P4.ps.c1
  have e2 := cell_regrown P4.ps.c2
  have KL := fun dd os => Calls.regrown_of (w := w4) (d := dd) (os := os) ((live_any _).mono (fun e z h => ⟨h.1, by rw [h.2]; exact Below.refl _ _⟩))
  replace KL := keepH KL
  have f0 := cell_regrown (cell_of P4.nm 0)
  have f1 := cell_regrown (cell_of P4.nm 1)
  have f2 := cell_regrown (cell_of P4.nm 2)
  have KU := fun dd os => Calls.regrown_of (w := w4) (d := dd) (os := os) (unpack_back k g m _ ho)
  replace KU := keepH KU
  have HB : Hid (∀ dq osq, Below w.heap.size w (Sort.grow (redrawn w4 dq) osq)) := keepH (fun dq osq => below_chain P4.ps.bel (below_regrown w4 dq osq))
  have HB4' : Below w.heap.size w w4 := P4.ps.bel
  clear P4
  refine wp_region_quiet_below (by kernel_rfl) (by kernel_rfl) ?_
  repeat (go_big_quiet_step (first | exact KL.out _ _ | exact KU.out _ _))
  refine wpQuiet_nil ?_
  intro _ hw'
  obtain ⟨⟨dq, osq⟩, hw''⟩ := hw'
  subst hw''
  go_wp2
  go_ret
  exact ⟨by first | rfl | simp, HB.out _ _⟩
set_option maxHeartbeats 4000000 in
theorem back_D2_n (a : Int) (h1 : 1 ≤ a) (h2 : a ≤ 4611686018427387904) (k g m : Nat) (hk : k < 256) (hg : g < 18446744073709551616) (hm : m < 18446744073709551616) (w : World) (T : Tb w) (ho : ¬ okS k g m) :
    Calls Tryd.prog 4 #[.int .u8 (2 : Int), .int .u64 a, .agg #[.int .u8 k, .int .u64 g, .int .u64 m]] w fun e w' => e = .returned (.bool true) ∧ Below w.heap.size w w' := by
  have hpk := packE_no (k := k) (g := g) (m := m) ho
  have hch : ∀ W, Calls Tryd.prog 10 #[.int .u8 (2 : Int), .int .u64 a] W fun e w' => e = .returned (.tuple #[.int .u64 (childW (2 : Int) a), .int .i64 (childE (2 : Int) a)]) ∧ w' = W := fun W => child_any (2 : Int) a W (by omega) (by omega)
  have ecw : childW 2 a = 2 * a := by unfold childW; (repeat' split) <;> omega
  have ece : childE 2 a = 0 := by unfold childE; (repeat' split) <;> omega
  rw [ecw, ece] at hch
  have hsp : ∀ W, Calls Tryd.prog 11 #[.int .u64 (2 * a)] W fun e w' => e = .returned (.tuple #[.int .u8 2, .int .u64 a]) ∧ w' = W := fun W => by
    have h := split_any (2 * a) W (by omega) (by omega)
    have e1 : splitK (2 * a) = 2 := by unfold splitK; (repeat' split) <;> omega
    have e2 : (2 * a) / 2 = a := by omega
    rw [e1, e2] at h
    exact h
  have q1 : (a == 0) = false := by simp; omega
  obtain ⟨w0, hw0⟩ : ∃ w0, w0 = w.alloc (.cells #[.int .u8 k, .int .u64 g, .int .u64 m] 25) := ⟨_, rfl⟩
  have P0 : PS w w.heap.size k g m w0 := by rw [hw0]; exact PS.start T
  clear T
  go_enter Tryd.func4, Tryd.ntmps4
  go_upto_region 1 with fail
  rw [← hw0]
  clear hw0
  have b0 := P0.c0
  have b1 := P0.c1
  have b2 := P0.c2
  go_wp2_with fail
  refine (hch w0).mono ?_
  rintro e w1 ⟨rfl, hw1⟩
  rw [hw1]
  clear hw1 w1
  go_wp2_with fail
  refine (hsp w0).mono ?_
  rintro e w1 ⟨rfl, hw1⟩
  rw [hw1]
  clear hw1 w1
  go_upto_region 5 with fail
  go_wp2_with fail
  refine (pack_any k g m _ (by omega) (by omega) (by omega) (by omega) (by omega) (by omega)).mono ?_
  rintro e w1 ⟨rfl, hw1⟩
  have C1 : Below w0.heap.size w0 w1 := by rw [hw1]; exact below_alloc _ _
  clear hw1
  rw [hpk]
  have P1 := P0.on C1
  have a0 := P1.c0
  have a1 := P1.c1
  have a2 := P1.c2
  have hpr := print_any k g m (by omega) (by omega) (by omega) w1 P1.tb
  go_wp2_with fail
  refine hpr.mono ?_
  rintro e w2 ⟨rfl, C2⟩
  have P2 := P1.on C2
  go_wp2_with fail
  refine (back_no k g m w2 P2.tb ho).mono ?_
  rintro e w3 ⟨rfl, C3⟩
  have P3 := P2.on C3
  obtain ⟨w4, hw4⟩ : ∃ w4, w4 = w3.alloc (.cells #[.int .u8 0, .int .u64 0, .int .u64 0] 25) := ⟨_, rfl⟩
  have P4 : PX w w.heap.size k g m w3.heap.size #[.int .u8 0, .int .u64 0, .int .u64 0] w4 := by rw [hw4]; exact ⟨P3.on (below_alloc _ _), heap_alloc_new _ _⟩
  go_upto_region 7 with fail
  rw [← hw4]
  clear hw4
  obtain ⟨nb, hnb⟩ : ∃ nb, nb = w3.heap.size := ⟨_, rfl⟩
  rw [← hnb] at P4 ⊢
  clear hnb a0 a1 a2 P3 P2 P1 P0
  have e0 := cell_regrown P4.ps.c0
  have e1 := cell_regrown P4.ps.c1
  have e2 := cell_regrown P4.ps.c2
  have KL := fun dd os => Calls.regrown_of (w := w4) (d := dd) (os := os) ((live_any _).mono (fun e z h => ⟨h.1, by rw [h.2]; exact Below.refl _ _⟩))
  replace KL := keepH KL
  have HB : Hid (∀ dq osq, Below w.heap.size w (Sort.grow (redrawn w4 dq) osq)) := keepH (fun dq osq => below_chain P4.ps.bel (below_regrown w4 dq osq))
  have HB4' : Below w.heap.size w w4 := P4.ps.bel
  clear P4
  have HB4 : Below w.heap.size w w4 := HB4'
  clear HB HB4'
  go_quiet (first | (go_at_call 7; exact Calls.quiet_of_same (live_any _)))
  go_wp2
  go_ret
  exact ⟨by first | rfl | simp, below_drewN HB4 _⟩
set_option maxHeartbeats 4000000 in
theorem back_E1_y (a : Int) (h1 : 4611686018427387904 < a) (h2 : a < 18446744073709551616) (k g m : Nat) (hk : k < 256) (hg : g < 18446744073709551616) (hm : m < 18446744073709551616) (w : World) (T : Tb w) (ho : okS k g m) :
    Calls Tryd.prog 4 #[.int .u8 (1 : Int), .int .u64 a, .agg #[.int .u8 k, .int .u64 g, .int .u64 m]] w fun e w' => e = .returned (.bool true) ∧ Below w.heap.size w w' := by
  have hpk := packE_ok (k := k) (g := g) (m := m) ho
  have hch : ∀ W, Calls Tryd.prog 10 #[.int .u8 (1 : Int), .int .u64 a] W fun e w' => e = .returned (.tuple #[.int .u64 (childW (1 : Int) a), .int .i64 (childE (1 : Int) a)]) ∧ w' = W := fun W => child_any (1 : Int) a W (by omega) (by omega)
  have ecw : childW 1 a = 0 := by unfold childW; (repeat' split) <;> omega
  have ece : childE 1 a = 2 := by unfold childE; (repeat' split) <;> omega
  rw [ecw, ece] at hch
  have hsp : ∀ W, Calls Tryd.prog 11 #[.int .u64 0] W fun e w' => e = .returned (.tuple #[.int .u8 0, .int .u64 0]) ∧ w' = W := fun W => by
    have h := split_any 0 W (by omega) (by omega)
    exact h
  have q1 : (a == 0) = false := by simp; omega
  obtain ⟨w0, hw0⟩ : ∃ w0, w0 = w.alloc (.cells #[.int .u8 k, .int .u64 g, .int .u64 m] 25) := ⟨_, rfl⟩
  have P0 : PS w w.heap.size k g m w0 := by rw [hw0]; exact PS.start T
  clear T
  go_enter Tryd.func4, Tryd.ntmps4
  go_upto_region 1 with fail
  rw [← hw0]
  clear hw0
  have b0 := P0.c0
  have b1 := P0.c1
  have b2 := P0.c2
  go_wp2_with fail
  refine (hch w0).mono ?_
  rintro e w1 ⟨rfl, hw1⟩
  rw [hw1]
  clear hw1 w1
  go_wp2_with fail
  refine (hsp w0).mono ?_
  rintro e w1 ⟨rfl, hw1⟩
  rw [hw1]
  clear hw1 w1
  go_upto_region 5 with fail
  go_wp2_with fail
  refine (pack_any k g m _ (by omega) (by omega) (by omega) (by omega) (by omega) (by omega)).mono ?_
  rintro e w1 ⟨rfl, hw1⟩
  have C1 : Below w0.heap.size w0 w1 := by rw [hw1]; exact below_alloc _ _
  clear hw1
  rw [hpk]
  have P1 := P0.on C1
  have a0 := P1.c0
  have a1 := P1.c1
  have a2 := P1.c2
  have hpr := print_any k g m (by omega) (by omega) (by omega) w1 P1.tb
  go_wp2_with fail
  refine hpr.mono ?_
  rintro e w2 ⟨rfl, C2⟩
  have P2 := P1.on C2
  go_wp2_with fail
  refine (back_yes k g m w2 P2.tb ho).mono ?_
  rintro e w3 ⟨rfl, C3⟩
  have P3 := P2.on C3
  obtain ⟨w4, hw4⟩ : ∃ w4, w4 = w3.alloc (.cells #[.int .u8 k, .int .u64 g, .int .u64 m] 25) := ⟨_, rfl⟩
  have P4 : PX w w.heap.size k g m w3.heap.size #[.int .u8 k, .int .u64 g, .int .u64 m] w4 := by rw [hw4]; exact ⟨P3.on (below_alloc _ _), heap_alloc_new _ _⟩
  go_upto_region 7 with fail
  rw [← hw4]
  clear hw4
  obtain ⟨nb, hnb⟩ : ∃ nb, nb = w3.heap.size := ⟨_, rfl⟩
  rw [← hnb] at P4 ⊢
  clear hnb a0 a1 a2 P3 P2 P1 P0
  have e0 := cell_regrown P4.ps.c0
  have e1 := cell_regrown P4.ps.c1
  have e2 := cell_regrown P4.ps.c2
  have KL := fun dd os => Calls.regrown_of (w := w4) (d := dd) (os := os) ((live_any _).mono (fun e z h => ⟨h.1, by rw [h.2]; exact Below.refl _ _⟩))
  replace KL := keepH KL
  have f0 := cell_regrown (cell_of P4.nm 0)
  have f1 := cell_regrown (cell_of P4.nm 1)
  have f2 := cell_regrown (cell_of P4.nm 2)
  have KU := fun dd os => Calls.regrown_of (w := w4) (d := dd) (os := os) (unpack_back k g m _ ho)
  replace KU := keepH KU
  have HB : Hid (∀ dq osq, Below w.heap.size w (Sort.grow (redrawn w4 dq) osq)) := keepH (fun dq osq => below_chain P4.ps.bel (below_regrown w4 dq osq))
  have HB4' : Below w.heap.size w w4 := P4.ps.bel
  clear P4
  refine wp_region_quiet_below (by kernel_rfl) (by kernel_rfl) ?_
  repeat (go_big_quiet_step (first | exact KL.out _ _ | exact KU.out _ _))
  refine wpQuiet_nil ?_
  intro _ hw'
  obtain ⟨⟨dq, osq⟩, hw''⟩ := hw'
  subst hw''
  go_wp2
  go_ret
  exact ⟨by first | rfl | simp, HB.out _ _⟩
set_option maxHeartbeats 4000000 in
theorem back_E1_n (a : Int) (h1 : 4611686018427387904 < a) (h2 : a < 18446744073709551616) (k g m : Nat) (hk : k < 256) (hg : g < 18446744073709551616) (hm : m < 18446744073709551616) (w : World) (T : Tb w) (ho : ¬ okS k g m) :
    Calls Tryd.prog 4 #[.int .u8 (1 : Int), .int .u64 a, .agg #[.int .u8 k, .int .u64 g, .int .u64 m]] w fun e w' => e = .returned (.bool true) ∧ Below w.heap.size w w' := by
  have hpk := packE_no (k := k) (g := g) (m := m) ho
  have hch : ∀ W, Calls Tryd.prog 10 #[.int .u8 (1 : Int), .int .u64 a] W fun e w' => e = .returned (.tuple #[.int .u64 (childW (1 : Int) a), .int .i64 (childE (1 : Int) a)]) ∧ w' = W := fun W => child_any (1 : Int) a W (by omega) (by omega)
  have ecw : childW 1 a = 0 := by unfold childW; (repeat' split) <;> omega
  have ece : childE 1 a = 2 := by unfold childE; (repeat' split) <;> omega
  rw [ecw, ece] at hch
  have hsp : ∀ W, Calls Tryd.prog 11 #[.int .u64 0] W fun e w' => e = .returned (.tuple #[.int .u8 0, .int .u64 0]) ∧ w' = W := fun W => by
    have h := split_any 0 W (by omega) (by omega)
    exact h
  have q1 : (a == 0) = false := by simp; omega
  obtain ⟨w0, hw0⟩ : ∃ w0, w0 = w.alloc (.cells #[.int .u8 k, .int .u64 g, .int .u64 m] 25) := ⟨_, rfl⟩
  have P0 : PS w w.heap.size k g m w0 := by rw [hw0]; exact PS.start T
  clear T
  go_enter Tryd.func4, Tryd.ntmps4
  go_upto_region 1 with fail
  rw [← hw0]
  clear hw0
  have b0 := P0.c0
  have b1 := P0.c1
  have b2 := P0.c2
  go_wp2_with fail
  refine (hch w0).mono ?_
  rintro e w1 ⟨rfl, hw1⟩
  rw [hw1]
  clear hw1 w1
  go_wp2_with fail
  refine (hsp w0).mono ?_
  rintro e w1 ⟨rfl, hw1⟩
  rw [hw1]
  clear hw1 w1
  go_upto_region 5 with fail
  go_wp2_with fail
  refine (pack_any k g m _ (by omega) (by omega) (by omega) (by omega) (by omega) (by omega)).mono ?_
  rintro e w1 ⟨rfl, hw1⟩
  have C1 : Below w0.heap.size w0 w1 := by rw [hw1]; exact below_alloc _ _
  clear hw1
  rw [hpk]
  have P1 := P0.on C1
  have a0 := P1.c0
  have a1 := P1.c1
  have a2 := P1.c2
  have hpr := print_any k g m (by omega) (by omega) (by omega) w1 P1.tb
  go_wp2_with fail
  refine hpr.mono ?_
  rintro e w2 ⟨rfl, C2⟩
  have P2 := P1.on C2
  go_wp2_with fail
  refine (back_no k g m w2 P2.tb ho).mono ?_
  rintro e w3 ⟨rfl, C3⟩
  have P3 := P2.on C3
  obtain ⟨w4, hw4⟩ : ∃ w4, w4 = w3.alloc (.cells #[.int .u8 0, .int .u64 0, .int .u64 0] 25) := ⟨_, rfl⟩
  have P4 : PX w w.heap.size k g m w3.heap.size #[.int .u8 0, .int .u64 0, .int .u64 0] w4 := by rw [hw4]; exact ⟨P3.on (below_alloc _ _), heap_alloc_new _ _⟩
  go_upto_region 7 with fail
  rw [← hw4]
  clear hw4
  obtain ⟨nb, hnb⟩ : ∃ nb, nb = w3.heap.size := ⟨_, rfl⟩
  rw [← hnb] at P4 ⊢
  clear hnb a0 a1 a2 P3 P2 P1 P0
  have e0 := cell_regrown P4.ps.c0
  have e1 := cell_regrown P4.ps.c1
  have e2 := cell_regrown P4.ps.c2
  have KL := fun dd os => Calls.regrown_of (w := w4) (d := dd) (os := os) ((live_any _).mono (fun e z h => ⟨h.1, by rw [h.2]; exact Below.refl _ _⟩))
  replace KL := keepH KL
  have HB : Hid (∀ dq osq, Below w.heap.size w (Sort.grow (redrawn w4 dq) osq)) := keepH (fun dq osq => below_chain P4.ps.bel (below_regrown w4 dq osq))
  have HB4' : Below w.heap.size w w4 := P4.ps.bel
  clear P4
  have HB4 : Below w.heap.size w w4 := HB4'
  clear HB HB4'
  go_quiet (first | (go_at_call 7; exact Calls.quiet_of_same (live_any _)))
  go_wp2
  go_ret
  exact ⟨by first | rfl | simp, below_drewN HB4 _⟩
set_option maxHeartbeats 4000000 in
theorem back_E2_y (a : Int) (h1 : 4611686018427387904 < a) (h2 : a < 18446744073709551616) (k g m : Nat) (hk : k < 256) (hg : g < 18446744073709551616) (hm : m < 18446744073709551616) (w : World) (T : Tb w) (ho : okS k g m) :
    Calls Tryd.prog 4 #[.int .u8 (2 : Int), .int .u64 a, .agg #[.int .u8 k, .int .u64 g, .int .u64 m]] w fun e w' => e = .returned (.bool true) ∧ Below w.heap.size w w' := by
  have hpk := packE_ok (k := k) (g := g) (m := m) ho
  have hch : ∀ W, Calls Tryd.prog 10 #[.int .u8 (2 : Int), .int .u64 a] W fun e w' => e = .returned (.tuple #[.int .u64 (childW (2 : Int) a), .int .i64 (childE (2 : Int) a)]) ∧ w' = W := fun W => child_any (2 : Int) a W (by omega) (by omega)
  have ecw : childW 2 a = 0 := by unfold childW; (repeat' split) <;> omega
  have ece : childE 2 a = 2 := by unfold childE; (repeat' split) <;> omega
  rw [ecw, ece] at hch
  have hsp : ∀ W, Calls Tryd.prog 11 #[.int .u64 0] W fun e w' => e = .returned (.tuple #[.int .u8 0, .int .u64 0]) ∧ w' = W := fun W => by
    have h := split_any 0 W (by omega) (by omega)
    exact h
  have q1 : (a == 0) = false := by simp; omega
  obtain ⟨w0, hw0⟩ : ∃ w0, w0 = w.alloc (.cells #[.int .u8 k, .int .u64 g, .int .u64 m] 25) := ⟨_, rfl⟩
  have P0 : PS w w.heap.size k g m w0 := by rw [hw0]; exact PS.start T
  clear T
  go_enter Tryd.func4, Tryd.ntmps4
  go_upto_region 1 with fail
  rw [← hw0]
  clear hw0
  have b0 := P0.c0
  have b1 := P0.c1
  have b2 := P0.c2
  go_wp2_with fail
  refine (hch w0).mono ?_
  rintro e w1 ⟨rfl, hw1⟩
  rw [hw1]
  clear hw1 w1
  go_wp2_with fail
  refine (hsp w0).mono ?_
  rintro e w1 ⟨rfl, hw1⟩
  rw [hw1]
  clear hw1 w1
  go_upto_region 5 with fail
  go_wp2_with fail
  refine (pack_any k g m _ (by omega) (by omega) (by omega) (by omega) (by omega) (by omega)).mono ?_
  rintro e w1 ⟨rfl, hw1⟩
  have C1 : Below w0.heap.size w0 w1 := by rw [hw1]; exact below_alloc _ _
  clear hw1
  rw [hpk]
  have P1 := P0.on C1
  have a0 := P1.c0
  have a1 := P1.c1
  have a2 := P1.c2
  have hpr := print_any k g m (by omega) (by omega) (by omega) w1 P1.tb
  go_wp2_with fail
  refine hpr.mono ?_
  rintro e w2 ⟨rfl, C2⟩
  have P2 := P1.on C2
  go_wp2_with fail
  refine (back_yes k g m w2 P2.tb ho).mono ?_
  rintro e w3 ⟨rfl, C3⟩
  have P3 := P2.on C3
  obtain ⟨w4, hw4⟩ : ∃ w4, w4 = w3.alloc (.cells #[.int .u8 k, .int .u64 g, .int .u64 m] 25) := ⟨_, rfl⟩
  have P4 : PX w w.heap.size k g m w3.heap.size #[.int .u8 k, .int .u64 g, .int .u64 m] w4 := by rw [hw4]; exact ⟨P3.on (below_alloc _ _), heap_alloc_new _ _⟩
  go_upto_region 7 with fail
  rw [← hw4]
  clear hw4
  obtain ⟨nb, hnb⟩ : ∃ nb, nb = w3.heap.size := ⟨_, rfl⟩
  rw [← hnb] at P4 ⊢
  clear hnb a0 a1 a2 P3 P2 P1 P0
  have e0 := cell_regrown P4.ps.c0
  have e1 := cell_regrown P4.ps.c1
  have e2 := cell_regrown P4.ps.c2
  have KL := fun dd os => Calls.regrown_of (w := w4) (d := dd) (os := os) ((live_any _).mono (fun e z h => ⟨h.1, by rw [h.2]; exact Below.refl _ _⟩))
  replace KL := keepH KL
  have f0 := cell_regrown (cell_of P4.nm 0)
  have f1 := cell_regrown (cell_of P4.nm 1)
  have f2 := cell_regrown (cell_of P4.nm 2)
  have KU := fun dd os => Calls.regrown_of (w := w4) (d := dd) (os := os) (unpack_back k g m _ ho)
  replace KU := keepH KU
  have HB : Hid (∀ dq osq, Below w.heap.size w (Sort.grow (redrawn w4 dq) osq)) := keepH (fun dq osq => below_chain P4.ps.bel (below_regrown w4 dq osq))
  have HB4' : Below w.heap.size w w4 := P4.ps.bel
  clear P4
  refine wp_region_quiet_below (by kernel_rfl) (by kernel_rfl) ?_
  repeat (go_big_quiet_step (first | exact KL.out _ _ | exact KU.out _ _))
  refine wpQuiet_nil ?_
  intro _ hw'
  obtain ⟨⟨dq, osq⟩, hw''⟩ := hw'
  subst hw''
  go_wp2
  go_ret
  exact ⟨by first | rfl | simp, HB.out _ _⟩
set_option maxHeartbeats 4000000 in
theorem back_E2_n (a : Int) (h1 : 4611686018427387904 < a) (h2 : a < 18446744073709551616) (k g m : Nat) (hk : k < 256) (hg : g < 18446744073709551616) (hm : m < 18446744073709551616) (w : World) (T : Tb w) (ho : ¬ okS k g m) :
    Calls Tryd.prog 4 #[.int .u8 (2 : Int), .int .u64 a, .agg #[.int .u8 k, .int .u64 g, .int .u64 m]] w fun e w' => e = .returned (.bool true) ∧ Below w.heap.size w w' := by
  have hpk := packE_no (k := k) (g := g) (m := m) ho
  have hch : ∀ W, Calls Tryd.prog 10 #[.int .u8 (2 : Int), .int .u64 a] W fun e w' => e = .returned (.tuple #[.int .u64 (childW (2 : Int) a), .int .i64 (childE (2 : Int) a)]) ∧ w' = W := fun W => child_any (2 : Int) a W (by omega) (by omega)
  have ecw : childW 2 a = 0 := by unfold childW; (repeat' split) <;> omega
  have ece : childE 2 a = 2 := by unfold childE; (repeat' split) <;> omega
  rw [ecw, ece] at hch
  have hsp : ∀ W, Calls Tryd.prog 11 #[.int .u64 0] W fun e w' => e = .returned (.tuple #[.int .u8 0, .int .u64 0]) ∧ w' = W := fun W => by
    have h := split_any 0 W (by omega) (by omega)
    exact h
  have q1 : (a == 0) = false := by simp; omega
  obtain ⟨w0, hw0⟩ : ∃ w0, w0 = w.alloc (.cells #[.int .u8 k, .int .u64 g, .int .u64 m] 25) := ⟨_, rfl⟩
  have P0 : PS w w.heap.size k g m w0 := by rw [hw0]; exact PS.start T
  clear T
  go_enter Tryd.func4, Tryd.ntmps4
  go_upto_region 1 with fail
  rw [← hw0]
  clear hw0
  have b0 := P0.c0
  have b1 := P0.c1
  have b2 := P0.c2
  go_wp2_with fail
  refine (hch w0).mono ?_
  rintro e w1 ⟨rfl, hw1⟩
  rw [hw1]
  clear hw1 w1
  go_wp2_with fail
  refine (hsp w0).mono ?_
  rintro e w1 ⟨rfl, hw1⟩
  rw [hw1]
  clear hw1 w1
  go_upto_region 5 with fail
  go_wp2_with fail
  refine (pack_any k g m _ (by omega) (by omega) (by omega) (by omega) (by omega) (by omega)).mono ?_
  rintro e w1 ⟨rfl, hw1⟩
  have C1 : Below w0.heap.size w0 w1 := by rw [hw1]; exact below_alloc _ _
  clear hw1
  rw [hpk]
  have P1 := P0.on C1
  have a0 := P1.c0
  have a1 := P1.c1
  have a2 := P1.c2
  have hpr := print_any k g m (by omega) (by omega) (by omega) w1 P1.tb
  go_wp2_with fail
  refine hpr.mono ?_
  rintro e w2 ⟨rfl, C2⟩
  have P2 := P1.on C2
  go_wp2_with fail
  refine (back_no k g m w2 P2.tb ho).mono ?_
  rintro e w3 ⟨rfl, C3⟩
  have P3 := P2.on C3
  obtain ⟨w4, hw4⟩ : ∃ w4, w4 = w3.alloc (.cells #[.int .u8 0, .int .u64 0, .int .u64 0] 25) := ⟨_, rfl⟩
  have P4 : PX w w.heap.size k g m w3.heap.size #[.int .u8 0, .int .u64 0, .int .u64 0] w4 := by rw [hw4]; exact ⟨P3.on (below_alloc _ _), heap_alloc_new _ _⟩
  go_upto_region 7 with fail
  rw [← hw4]
  clear hw4
  obtain ⟨nb, hnb⟩ : ∃ nb, nb = w3.heap.size := ⟨_, rfl⟩
  rw [← hnb] at P4 ⊢
  clear hnb a0 a1 a2 P3 P2 P1 P0
  have e0 := cell_regrown P4.ps.c0
  have e1 := cell_regrown P4.ps.c1
  have e2 := cell_regrown P4.ps.c2
  have KL := fun dd os => Calls.regrown_of (w := w4) (d := dd) (os := os) ((live_any _).mono (fun e z h => ⟨h.1, by rw [h.2]; exact Below.refl _ _⟩))
  replace KL := keepH KL
  have HB : Hid (∀ dq osq, Below w.heap.size w (Sort.grow (redrawn w4 dq) osq)) := keepH (fun dq osq => below_chain P4.ps.bel (below_regrown w4 dq osq))
  have HB4' : Below w.heap.size w w4 := P4.ps.bel
  clear P4
  have HB4 : Below w.heap.size w w4 := HB4'
  clear HB HB4'
  go_quiet (first | (go_at_call 7; exact Calls.quiet_of_same (live_any _)))
  go_wp2
  go_ret
  exact ⟨by first | rfl | simp, below_drewN HB4 _⟩
set_option maxHeartbeats 4000000 in
theorem back_F_y (kd a : Int) (h1 : 3 ≤ kd) (h2 : kd < 256) (h3 : 0 ≤ a) (h4 : a < 18446744073709551616) (k g m : Nat) (hk : k < 256) (hg : g < 18446744073709551616) (hm : m < 18446744073709551616) (w : World) (T : Tb w) (ho : okS k g m) :
    Calls Tryd.prog 4 #[.int .u8 kd, .int .u64 a, .agg #[.int .u8 k, .int .u64 g, .int .u64 m]] w fun e w' => e = .returned (.bool true) ∧ Below w.heap.size w w' := by
  have hpk := packE_ok (k := k) (g := g) (m := m) ho
  have hch : ∀ W, Calls Tryd.prog 10 #[.int .u8 kd, .int .u64 a] W fun e w' => e = .returned (.tuple #[.int .u64 (childW kd a), .int .i64 (childE kd a)]) ∧ w' = W := fun W => child_any kd a W (by omega) (by omega)
  have ecw : childW kd a = 0 := by unfold childW; (repeat' split) <;> omega
  have ece : childE kd a = 2 := by unfold childE; (repeat' split) <;> omega
  rw [ecw, ece] at hch
  have hsp : ∀ W, Calls Tryd.prog 11 #[.int .u64 0] W fun e w' => e = .returned (.tuple #[.int .u8 0, .int .u64 0]) ∧ w' = W := fun W => by
    have h := split_any 0 W (by omega) (by omega)
    exact h
  have q1 : (kd == 0) = false := by simp; omega
  obtain ⟨w0, hw0⟩ : ∃ w0, w0 = w.alloc (.cells #[.int .u8 k, .int .u64 g, .int .u64 m] 25) := ⟨_, rfl⟩
  have P0 : PS w w.heap.size k g m w0 := by rw [hw0]; exact PS.start T
  clear T
  go_enter Tryd.func4, Tryd.ntmps4
  go_upto_region 1 with fail
  rw [← hw0]
  clear hw0
  have b0 := P0.c0
  have b1 := P0.c1
  have b2 := P0.c2
  go_wp2_with fail
  refine (hch w0).mono ?_
  rintro e w1 ⟨rfl, hw1⟩
  rw [hw1]
  clear hw1 w1
  go_wp2_with fail
  refine (hsp w0).mono ?_
  rintro e w1 ⟨rfl, hw1⟩
  rw [hw1]
  clear hw1 w1
  go_upto_region 5 with fail
  go_wp2_with fail
  refine (pack_any k g m _ (by omega) (by omega) (by omega) (by omega) (by omega) (by omega)).mono ?_
  rintro e w1 ⟨rfl, hw1⟩
  have C1 : Below w0.heap.size w0 w1 := by rw [hw1]; exact below_alloc _ _
  clear hw1
  rw [hpk]
  have P1 := P0.on C1
  have a0 := P1.c0
  have a1 := P1.c1
  have a2 := P1.c2
  have hpr := print_any k g m (by omega) (by omega) (by omega) w1 P1.tb
  go_wp2_with fail
  refine hpr.mono ?_
  rintro e w2 ⟨rfl, C2⟩
  have P2 := P1.on C2
  go_wp2_with fail
  refine (back_yes k g m w2 P2.tb ho).mono ?_
  rintro e w3 ⟨rfl, C3⟩
  have P3 := P2.on C3
  obtain ⟨w4, hw4⟩ : ∃ w4, w4 = w3.alloc (.cells #[.int .u8 k, .int .u64 g, .int .u64 m] 25) := ⟨_, rfl⟩
  have P4 : PX w w.heap.size k g m w3.heap.size #[.int .u8 k, .int .u64 g, .int .u64 m] w4 := by rw [hw4]; exact ⟨P3.on (below_alloc _ _), heap_alloc_new _ _⟩
  go_upto_region 7 with fail
  rw [← hw4]
  clear hw4
  obtain ⟨nb, hnb⟩ : ∃ nb, nb = w3.heap.size := ⟨_, rfl⟩
  rw [← hnb] at P4 ⊢
  clear hnb a0 a1 a2 P3 P2 P1 P0
  have e0 := cell_regrown P4.ps.c0
  have e1 := cell_regrown P4.ps.c1
  have e2 := cell_regrown P4.ps.c2
  have KL := fun dd os => Calls.regrown_of (w := w4) (d := dd) (os := os) ((live_any _).mono (fun e z h => ⟨h.1, by rw [h.2]; exact Below.refl _ _⟩))
  replace KL := keepH KL
  have f0 := cell_regrown (cell_of P4.nm 0)
  have f1 := cell_regrown (cell_of P4.nm 1)
  have f2 := cell_regrown (cell_of P4.nm 2)
  have KU := fun dd os => Calls.regrown_of (w := w4) (d := dd) (os := os) (unpack_back k g m _ ho)
  replace KU := keepH KU
  have HB : Hid (∀ dq osq, Below w.heap.size w (Sort.grow (redrawn w4 dq) osq)) := keepH (fun dq osq => below_chain P4.ps.bel (below_regrown w4 dq osq))
  have HB4' : Below w.heap.size w w4 := P4.ps.bel
  clear P4
  refine wp_region_quiet_below (by kernel_rfl) (by kernel_rfl) ?_
  repeat (go_big_quiet_step (first | exact KL.out _ _ | exact KU.out _ _))
  refine wpQuiet_nil ?_
  intro _ hw'
  obtain ⟨⟨dq, osq⟩, hw''⟩ := hw'
  subst hw''
  go_wp2
  go_ret
  exact ⟨by first | rfl | simp, HB.out _ _⟩
set_option maxHeartbeats 4000000 in
theorem back_F_n (kd a : Int) (h1 : 3 ≤ kd) (h2 : kd < 256) (h3 : 0 ≤ a) (h4 : a < 18446744073709551616) (k g m : Nat) (hk : k < 256) (hg : g < 18446744073709551616) (hm : m < 18446744073709551616) (w : World) (T : Tb w) (ho : ¬ okS k g m) :
    Calls Tryd.prog 4 #[.int .u8 kd, .int .u64 a, .agg #[.int .u8 k, .int .u64 g, .int .u64 m]] w fun e w' => e = .returned (.bool true) ∧ Below w.heap.size w w' := by
  have hpk := packE_no (k := k) (g := g) (m := m) ho
  have hch : ∀ W, Calls Tryd.prog 10 #[.int .u8 kd, .int .u64 a] W fun e w' => e = .returned (.tuple #[.int .u64 (childW kd a), .int .i64 (childE kd a)]) ∧ w' = W := fun W => child_any kd a W (by omega) (by omega)
  have ecw : childW kd a = 0 := by unfold childW; (repeat' split) <;> omega
  have ece : childE kd a = 2 := by unfold childE; (repeat' split) <;> omega
  rw [ecw, ece] at hch
  have hsp : ∀ W, Calls Tryd.prog 11 #[.int .u64 0] W fun e w' => e = .returned (.tuple #[.int .u8 0, .int .u64 0]) ∧ w' = W := fun W => by
    have h := split_any 0 W (by omega) (by omega)
    exact h
  have q1 : (kd == 0) = false := by simp; omega
  obtain ⟨w0, hw0⟩ : ∃ w0, w0 = w.alloc (.cells #[.int .u8 k, .int .u64 g, .int .u64 m] 25) := ⟨_, rfl⟩
  have P0 : PS w w.heap.size k g m w0 := by rw [hw0]; exact PS.start T
  clear T
  go_enter Tryd.func4, Tryd.ntmps4
  go_upto_region 1 with fail
  rw [← hw0]
  clear hw0
  have b0 := P0.c0
  have b1 := P0.c1
  have b2 := P0.c2
  go_wp2_with fail
  refine (hch w0).mono ?_
  rintro e w1 ⟨rfl, hw1⟩
  rw [hw1]
  clear hw1 w1
  go_wp2_with fail
  refine (hsp w0).mono ?_
  rintro e w1 ⟨rfl, hw1⟩
  rw [hw1]
  clear hw1 w1
  go_upto_region 5 with fail
  go_wp2_with fail
  refine (pack_any k g m _ (by omega) (by omega) (by omega) (by omega) (by omega) (by omega)).mono ?_
  rintro e w1 ⟨rfl, hw1⟩
  have C1 : Below w0.heap.size w0 w1 := by rw [hw1]; exact below_alloc _ _
  clear hw1
  rw [hpk]
  have P1 := P0.on C1
  have a0 := P1.c0
  have a1 := P1.c1
  have a2 := P1.c2
  have hpr := print_any k g m (by omega) (by omega) (by omega) w1 P1.tb
  go_wp2_with fail
  refine hpr.mono ?_
  rintro e w2 ⟨rfl, C2⟩
  have P2 := P1.on C2
  go_wp2_with fail
  refine (back_no k g m w2 P2.tb ho).mono ?_
  rintro e w3 ⟨rfl, C3⟩
  have P3 := P2.on C3
  obtain ⟨w4, hw4⟩ : ∃ w4, w4 = w3.alloc (.cells #[.int .u8 0, .int .u64 0, .int .u64 0] 25) := ⟨_, rfl⟩
  have P4 : PX w w.heap.size k g m w3.heap.size #[.int .u8 0, .int .u64 0, .int .u64 0] w4 := by rw [hw4]; exact ⟨P3.on (below_alloc _ _), heap_alloc_new _ _⟩
  go_upto_region 7 with fail
  rw [← hw4]
  clear hw4
  obtain ⟨nb, hnb⟩ : ∃ nb, nb = w3.heap.size := ⟨_, rfl⟩
  rw [← hnb] at P4 ⊢
  clear hnb a0 a1 a2 P3 P2 P1 P0
  have e0 := cell_regrown P4.ps.c0
  have e1 := cell_regrown P4.ps.c1
  have e2 := cell_regrown P4.ps.c2
  have KL := fun dd os => Calls.regrown_of (w := w4) (d := dd) (os := os) ((live_any _).mono (fun e z h => ⟨h.1, by rw [h.2]; exact Below.refl _ _⟩))
  replace KL := keepH KL
  have HB : Hid (∀ dq osq, Below w.heap.size w (Sort.grow (redrawn w4 dq) osq)) := keepH (fun dq osq => below_chain P4.ps.bel (below_regrown w4 dq osq))
  have HB4' : Below w.heap.size w w4 := P4.ps.bel
  clear P4
  have HB4 : Below w.heap.size w w4 := HB4'
  clear HB HB4'
  go_quiet (first | (go_at_call 7; exact Calls.quiet_of_same (live_any _)))
  go_wp2
  go_ret
  exact ⟨by first | rfl | simp, below_drewN HB4 _⟩

theorem back_walk (kd a : Int) (h1 : 0 ≤ kd) (h2 : kd < 256) (h3 : 0 ≤ a) (h4 : a < 18446744073709551616) (k g m : Nat) (hk : k < 256) (hg : g < 18446744073709551616) (hm : m < 18446744073709551616) (w : World) (T : Tb w) :
    Calls Tryd.prog 4 #[.int .u8 kd, .int .u64 a, .agg #[.int .u8 k, .int .u64 g, .int .u64 m]] w fun e w' => e = .returned (.bool true) ∧ Below w.heap.size w w' := by
  by_cases ho : okS k g m
  · by_cases c3 : 3 ≤ kd
    · exact back_F_y kd a c3 h2 h3 h4 k g m hk hg hm w T ho
    · have hc : kd = 0 ∨ kd = 1 ∨ kd = 2 := by omega
      by_cases ca : a = 0
      · subst ca
        rcases hc with rfl | rfl | rfl
        · exact back_A_y k g m hk hg hm w T ho
        · exact back_C1_y k g m hk hg hm w T ho
        · exact back_C2_y k g m hk hg hm w T ho
      · rcases hc with rfl | rfl | rfl
        · exact back_B_y a (by omega) h4 k g m hk hg hm w T ho
        · by_cases cb : a ≤ 4611686018427387904
          · exact back_D1_y a (by omega) cb k g m hk hg hm w T ho
          · exact back_E1_y a (by omega) h4 k g m hk hg hm w T ho
        · by_cases cb : a ≤ 4611686018427387904
          · exact back_D2_y a (by omega) cb k g m hk hg hm w T ho
          · exact back_E2_y a (by omega) h4 k g m hk hg hm w T ho
  · by_cases c3 : 3 ≤ kd
    · exact back_F_n kd a c3 h2 h3 h4 k g m hk hg hm w T ho
    · have hc : kd = 0 ∨ kd = 1 ∨ kd = 2 := by omega
      by_cases ca : a = 0
      · subst ca
        rcases hc with rfl | rfl | rfl
        · exact back_A_n k g m hk hg hm w T ho
        · exact back_C1_n k g m hk hg hm w T ho
        · exact back_C2_n k g m hk hg hm w T ho
      · rcases hc with rfl | rfl | rfl
        · exact back_B_n a (by omega) h4 k g m hk hg hm w T ho
        · by_cases cb : a ≤ 4611686018427387904
          · exact back_D1_n a (by omega) cb k g m hk hg hm w T ho
          · exact back_E1_n a (by omega) h4 k g m hk hg hm w T ho
        · by_cases cb : a ≤ 4611686018427387904
          · exact back_D2_n a (by omega) cb k g m hk hg hm w T ho
          · exact back_E2_n a (by omega) h4 k g m hk hg hm w T ho
end Go.Proofs.YtoldkjlcfgpnoaaDoor
