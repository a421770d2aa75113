/- The law WordTexts, walked. -/
import Derived.Test.YtoldkjlcfgpnoaaDoorWy
import Derived.Lib.QuietBelow
namespace Go.Proofs.YtoldkjlcfgpnoaaDoor
open Go.RowKit Go.Shelf
set_option linter.unusedVariables false

set_option maxHeartbeats 4000000 in
theorem texts_walk (k g m : Nat) (hk : k < 256) (hg : g < 18446744073709551616) (hm : m < 18446744073709551616) (l : List UInt8) (hl : l.length ≤ 140737488355328) (w : World) (T : Tb w) :
    Calls Tryd.prog 3 #[.agg #[.int .u8 k, .int .u64 g, .int .u64 m], .string (mkS l)] w fun e w' => e = .returned (.bool true) ∧ Below w.heap.size w w' := by
  obtain ⟨w0, hw0⟩ : ∃ w0, w0 = w.alloc (.cells #[.int .u8 k, .int .u64 g, .int .u64 m] 25) := ⟨_, rfl⟩
  have P0 : PS w w.heap.size k g m w0 := by rw [hw0]; exact PS.start T
  have hpa := parse_any l (by omega) w0 P0.tb
  obtain ⟨s, hs⟩ : ∃ s, s = mkS l := ⟨_, rfl⟩
  have HS := keepH hs
  rw [← hs] at hpa ⊢
  clear T hs
  go_enter Tryd.func3, Tryd.ntmps3
  go_upto_region 1 with fail
  rw [← hw0]
  clear hw0
  go_wp2_with fail
  refine hpa.mono ?_
  rintro e w1 ⟨⟨k1, g1, m1, er, rfl, hr1⟩, C1⟩
  have P1 := P0.on C1
  obtain ⟨w2, hw2⟩ : ∃ w2, w2 = w1.alloc (.cells #[.int .u8 k1, .int .u64 g1, .int .u64 m1] 25) := ⟨_, rfl⟩
  have C2 : Below w1.heap.size w1 w2 := by rw [hw2]; exact below_alloc _ _
  have X2 : w2.heap[w1.heap.size]? = some (.cells #[.int .u8 k1, .int .u64 g1, .int .u64 m1] 25 (0, 0)) := by rw [hw2]; exact heap_alloc_new _ _
  have P2 := P1.on C2
  have hrp := rparse_any l hl w2 P2.tb
  rw [← HS.out] at hrp
  have HR1 := keepH hr1
  clear hpa hr1
  go_upto_region 2 with fail
  rw [← hw2]
  obtain ⟨n1, hn1⟩ : ∃ n, n = w1.heap.size := ⟨_, rfl⟩
  rw [← hn1] at X2 ⊢
  clear hw2 hn1 C2
  go_wp2_with fail
  refine hrp.mono ?_
  rintro e w3 ⟨⟨k2, g2, m2, er2, rfl, hr2⟩, C3⟩
  obtain ⟨rfl, rfl, rfl, rfl⟩ := HR1.out.one hr2
  have P3 := P2.on C3
  have X3 := heap_below X2 C3
  obtain ⟨w4, hw4⟩ : ∃ w4, w4 = w3.alloc (.cells #[.int .u8 k1, .int .u64 g1, .int .u64 m1] 25) := ⟨_, rfl⟩
  have C4 : Below w3.heap.size w3 w4 := by rw [hw4]; exact below_alloc _ _
  have Y4 : w4.heap[w3.heap.size]? = some (.cells #[.int .u8 k1, .int .u64 g1, .int .u64 m1] 25 (0, 0)) := by rw [hw4]; exact heap_alloc_new _ _
  have X4 := heap_below X3 C4
  have P4 := P3.on C4
  clear hrp hr2
  go_upto_region 3 with fail
  rw [← hw4]
  obtain ⟨n2, hn2⟩ : ∃ n, n = w3.heap.size := ⟨_, rfl⟩
  rw [← hn2] at Y4 ⊢
  clear hw4 hn2 C4 C3 X3 X2 P3 P2 P1 P0
  have e0 := cell_regrown P4.c0
  have e1 := cell_regrown P4.c1
  have e2 := cell_regrown P4.c2
  have f0 := cell_regrown (cell_of X4 0)
  have f1 := cell_regrown (cell_of X4 1)
  have f2 := cell_regrown (cell_of X4 2)
  have h0 := cell_regrown (cell_of Y4 0)
  have h1 := cell_regrown (cell_of Y4 1)
  have h2 := cell_regrown (cell_of Y4 2)
  have KL := fun dd os => Calls.regrown_of (w := w4) (d := dd) (os := os) ((live_any _).mono (fun e z h => ⟨h.1, by rw [h.2]; exact Below.refl _ _⟩))
  replace KL := keepH KL
  obtain ⟨sp, hsp⟩ : ∃ sp, sp = mkS (prT k g m) := ⟨_, rfl⟩
  have KP := fun dd os => Calls.regrown_of (w := w4) (d := dd) (os := os) (print_any k g m hk hg hm _ (P4.on (below_regrown w4 dd os)).tb)
  have KR := fun dd os => Calls.regrown_of (w := w4) (d := dd) (os := os) (rprint_any k g m hk hg hm _ (P4.on (below_regrown w4 dd os)).tb)
  rw [← hsp] at KP KR
  replace KP := keepH KP
  replace KR := keepH KR
  have HB : Hid (∀ dq osq, Below w.heap.size w (Sort.grow (redrawn w4 dq) osq)) := keepH (fun dq osq => below_chain P4.bel (below_regrown w4 dq osq))
  clear P4 X4 Y4 hsp
  refine wp_region_quiet_below (by kernel_rfl) (by kernel_rfl) ?_
  repeat (go_big_quiet_step (first | exact KL.out _ _ | exact KP.out _ _ | exact KR.out _ _))
  refine wpQuiet_nil ?_
  intro _ hw'
  obtain ⟨⟨dq, osq⟩, hw''⟩ := hw'
  subst hw''
  go_wp2
  go_ret
  exact ⟨by first | rfl | simp, HB.out _ _⟩
end Go.Proofs.YtoldkjlcfgpnoaaDoor
