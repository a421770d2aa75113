/- The law ReplayChecks, walked. -/
import Derived.Test.YtjodechhnobkhaaGreatDoorRvd
import Derived.Test.YtjodechhnobkhaaGreatDoorRug
import Derived.BigQuiet
namespace Go.Proofs.YtjodechhnobkhaaGreatDoor
open Go.RowKit Go.Shelf
set_option linter.unusedVariables false

set_option maxRecDepth 100000 in
set_option maxHeartbeats 2000000 in
theorem same_u (p q : Option Addr) (c d : Nat) (la : List Nat) (W : World) (ha : URd W p la) (hb : URd W q la) (hla : la.length ≤ 4194304) :
    Calls Tryz.prog 11 #[.slice p la.length c, .slice q la.length d] W fun e W' => e = .returned (.bool true) ∧ Below W.heap.size W W' := by
  have HA := keepH ha
  have HB := keepH hb
  clear ha hb
  go_enter Tryz.func11, Tryz.ntmps11
  go_wp2_with fail
  go_loopw [5] (fun s wr => ∃ k : Nat, k ≤ la.length ∧ s = .int .i64 (k : Int) ∧ Hid (Below W.heap.size W wr)) (fun s _ => la.length - (intOf s).toNat)
  case atStart => exact ⟨0, by omega, rfl, keepH (Below.refl _ _)⟩
  case round =>
    obtain ⟨k, hk, rfl, HK⟩ := hrel
    by_cases hlt : k < la.length
    · have t1 : (k : Int) < (la.length : Int) := by omega
      have t0 : (0 : Int) ≤ (k : Int) := by omega
      obtain ⟨x, hx⟩ : ∃ x, la[k]? = some x := ⟨la[k], List.getElem?_eq_getElem hlt⟩
      obtain ⟨bk, off, rfl, _, c0⟩ := (HA.out.on HK.out).get k x hx
      obtain ⟨bk', off', rfl, _, d0⟩ := (HB.out.on HK.out).get k x hx
      obtain ⟨z, hz⟩ : ∃ z : Int, z = (x : Int) := ⟨_, rfl⟩
      rw [← hz] at c0 d0
      clear hx hz
      go_wp2_with fail
      go_quiet (fail)
      go_wp2_with fail
      go_roundw
      case rel => exact ⟨k + 1, by omega, by first | rfl | go_num, keepH (HK.out.trans ⟨rfl, rfl, rfl, Nat.le_refl _, fun _ _ => rfl⟩)⟩
      case measure => simp [intOf]; omega
    · obtain rfl : k = la.length := by omega
      have t1 : ¬ (la.length : Int) < (la.length : Int) := by omega
      go_wp2_with fail
      go_ret
      exact ⟨by simp, HK.out⟩
theorem outL_len (z : Int) (xs : List Ax) : (outL z xs).length ≤ 4194304 := by
  unfold outL
  split
  · rename_i h
    rw [cellsL_len]
    unfold outE at h
    split at h
    · omega
    · omega
  · simp

set_option maxRecDepth 100000 in
set_option maxHeartbeats 4000000 in
theorem checks_walk (z : Int) (p : Option Addr) (c : Nat) (l : List Ax) (W : World) (h : In W p l) (T : Tb W) :
    Calls Tryz.prog 3 #[.int .i64 z, .slice p l.length c] W fun e W' => e = .returned (.bool true) ∧ Below W.heap.size W W' := by
  have hco := copied_any p c l W h
  have hc1 := fun (q : Option Addr) (d : Nat) (w' : World) (hq : ARd w' q l) => fcheck_any z q d l w' hq h.ok h.len h.vl
  have hc2 := fun (w' : World) (hb : Below W.heap.size W w') => dcheck_any z p c l w' (h.on hb)
  have hm1 := fun (q : Option Addr) (d : Nat) (w' : World) (hq : ARd w' q l) => fmem_any z q d l w' hq h.ok h.len h.vl
  have hm2 := fun (w' : World) (hb : Below W.heap.size W w') => dmem_any z p c l w' (h.on hb)
  have hsu := fun (q r : Option Addr) (d d' : Nat) (w' : World) (hq : URd w' q (outL z l)) (hr : URd w' r (outL z l)) => same_u q r d d' (outL z l) w' hq hr (outL_len z l)
  have hsm := fun (q : Option Addr) (d : Nat) (w' : World) (hb : Below W.heap.size W w') (hq : ARd w' q l) => s_trace q p d c l w' hq (h.rd.on hb) (by have := h.len; omega) h.vl
  obtain ⟨n, hn⟩ : ∃ n, n = l.length := ⟨_, rfl⟩
  obtain ⟨E, hE⟩ : ∃ E, E = outE z l := ⟨_, rfl⟩
  obtain ⟨M, hM⟩ : ∃ M, M = outN z l := ⟨_, rfl⟩
  obtain ⟨L, hL⟩ : ∃ L, L = outL z l := ⟨_, rfl⟩
  rw [← hn] at hco hc1 hc2 hm1 hm2 hsm ⊢
  rw [← hE, ← hM] at hc1 hc2
  rw [← hE, ← hL] at hm1 hm2
  rw [← hL] at hsu
  obtain ⟨kk, hkk⟩ : ∃ kk, kk = L.length := ⟨_, rfl⟩
  rw [← hkk] at hsu
  have HKK := keepH hkk
  have HC1 := keepH hc1
  have HC2 := keepH hc2
  have HM1 := keepH hm1
  have HM2 := keepH hm2
  have HSU := keepH hsu
  have HSM := keepH hsm
  have HN := keepH hn
  have HT := keepH T
  clear h hn T hc1 hc2 hm1 hm2 hsu hsm hE hM hL hkk
  go_enter Tryz.func3, Tryz.ntmps3
  go_wp2_with fail
  refine hco.mono ?_
  rintro e w1 ⟨v, rfl, ys, hA, hys⟩
  obtain ⟨pm, cm, rfl⟩ := row_a_slice hA.row
  have hyl : ys.length = n := by rw [HN.out, ← hys, List.length_map]
  rw [hyl]
  have hrd := hA.reads
  rw [hys] at hrd
  have B1 := hA.bel
  have HRD := keepH hrd
  have hp1 := HC1.out pm cm w1 hrd
  clear hyl hrd hA hys hco
  go_wp2_with fail
  refine hp1.mono ?_
  rintro e w2 ⟨rfl, C2⟩
  have B2 := below_chain B1 C2
  have HR2 := keepH (HRD.out.on C2)
  have hp2 := HC2.out w2 B2
  clear hp1 C2 HRD
  go_wp2_with fail
  refine hp2.mono ?_
  rintro e w3 ⟨rfl, C3⟩
  have B3 := below_chain B2 C3
  have HR3 := keepH (HR2.out.on C3)
  have hp3 := HM1.out pm cm w3 HR3.out
  clear hp2 C3 HR2
  go_wp2_with fail
  refine hp3.mono ?_
  rintro e w4 ⟨v4, rfl, hv4⟩
  obtain ⟨qa, da, rfl, hua, C4⟩ := hv4
  rw [← HKK.out]
  have B4 := below_chain B3 C4
  have HR4 := keepH (HR3.out.on C4)
  have HUA := keepH hua
  have hp4 := HM2.out w4 B4
  clear hp3 C4 HR3 hua
  go_wp2_with fail
  refine hp4.mono ?_
  rintro e w5 ⟨v5, rfl, hv5⟩
  obtain ⟨qb, db, rfl, hub, C5⟩ := hv5
  rw [← HKK.out]
  have B5 := below_chain B4 C5
  have HR5 := keepH (HR4.out.on C5)
  have HUA5 := keepH (HUA.out.on C5)
  have HUB5 := keepH hub
  have hlv := live_21 w5 (HT.out.on B5)
  clear hp4 C5 HR4 HUA hub
  go_wp2_with fail
  refine hlv.mono ?_
  rintro e w6 ⟨rfl, C6⟩
  have B6 := below_chain B5 C6
  have hs6 := HSU.out qa qb da db w6 (HUA5.out.on C6) (HUB5.out.on C6)
  have HR6 := keepH (HR5.out.on C6)
  clear hlv C6 HR5
  go_wp2_with fail
  refine hs6.mono ?_
  rintro e w7 ⟨rfl, C7⟩
  have B7 := below_chain B6 C7
  have hs7 := HSM.out pm cm w7 B7 (HR6.out.on C7)
  clear hs6 C7
  go_wp2_with fail
  refine hs7.mono ?_
  rintro e w8 ⟨rfl, C8⟩
  have B8 := below_chain B7 C8
  clear hs7 C8
  go_wp2_with fail
  go_ret
  exact ⟨by first | rfl | simp, B8⟩
end Go.Proofs.YtjodechhnobkhaaGreatDoor
