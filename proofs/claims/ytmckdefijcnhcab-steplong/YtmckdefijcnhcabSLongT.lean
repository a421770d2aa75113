/- A turn. -/
import Derived.Test.YtmckdefijcnhcabSLongP
namespace Go.Proofs.Ytmckdefijcnhcab
open Go.RowKit Go.Shelf

set_option maxRecDepth 100000 in
set_option maxHeartbeats 4000000 in
theorem nr_turn {W X : World} {r m b T calls k : Nat} (most : Nat) (h : NRun W X r m b T calls k) (hT : 0 < T) (hk : k < calls) (hc : calls ≤ 4096) (hm : 0 < most) :
    Calls Try.prog 38 #[.pointer (some ⟨r, 0, none⟩), .int .i64 (most : Int)] X fun e X' => e = .returned (.int .i64 1) ∧ NRun W X' r m b T calls (k + 1) := by
  have H := keepH h
  obtain ⟨G, K, vw, tv, ev, av, ths, evs, ats, h⟩ := h
  have c0 : X.cell? ⟨r, 65, none⟩ = some tv := h.run.cellk 0
  have hl := h.len
  have h64 := h.run.thl
  obtain ⟨p, c, htv⟩ := slice_of h.run.tr
  rw [htv, hl] at c0
  have t0 : (0 : Int) < (most : Int) := by omega
  clear h htv
  go_enter Try.func38, Try.ntmps38
  go_wp2_with fail
  go_loopw [5, 12] (fun s5 s12 wr => ∃ j : Nat, j ≤ T ∧ s12 = .int .i64 (j : Int) ∧ ((j < T ∧ s5 = .int .i64 0 ∧ Hid (NRun W wr r m b T calls k)) ∨ (j = T ∧ s5 = .int .i64 1 ∧ Hid (NRun W wr r m b T calls (k + 1))))) (fun _ s12 _ => T - (intOf s12).toNat)
  case atStart => exact ⟨0, by omega, rfl, .inl ⟨hT, rfl, H⟩⟩
  case round =>
    obtain ⟨j, hj, rfl, ⟨hjT, rfl, HJ⟩ | ⟨rfl, rfl, HJ⟩⟩ := hrel
    · have t1 : (j : Int) < (T : Int) := by omega
      obtain ⟨G', K', vw', tv', ev', av', ths', evs', ats', h'⟩ := HJ.out
      have hlt : j < ths'.length := by have := h'.len; omega
      obtain ⟨x, hx⟩ : ∃ x, ths'[j]? = some x := ⟨ths'[j], List.getElem?_eq_getElem hlt⟩
      obtain ⟨g', c', htv'⟩ := slice_pos h'.run.tr (by omega)
      have hr' := h'.run
      rw [htv'] at hr'
      have HR' := keepH hr'
      have H' := keepH h'
      have HX := keepH hx
      by_cases hjl : j + 1 < T
      · have hd : decide (x.next < x.calls.length) = false := by
          have := h'.fst j x hx hjl
          rw [this.1, this.2]
          rfl
        clear h' hr' hx
        go_wp2_with fail
        refine (s_canStep_in j x _ HR'.out HX.out).mono ?_
        rintro e w' ⟨rfl, q, rfl⟩
        go_wp2_with fail
        go_roundw
        case rel => exact ⟨j + 1, by omega, by go_num, .inl ⟨by omega, rfl, ⟨G', K', vw', tv', ev', av', ths', evs', ats', H'.out.drewN q⟩⟩⟩
        case measure => simp [intOf]; omega
      · have hd : decide (x.next < x.calls.length) = true := by
          have := h'.lst j x hx (by omega)
          rw [this.1, this.2]
          simpa using hk
        have hjT1 : j = T - 1 := by omega
        have ec : ((T - 1 : Nat) : Int) = (j : Int) := by omega
        have HP := fun q : Nat => nr_pick (X := wr.drewN q) ⟨G', K', vw', tv', ev', av', ths', evs', ats', H'.out.drewN q⟩ hT hk hc
        rw [ec] at HP
        have HP' := keepH HP
        clear h' hr' hx HP ec hjT1
        go_wp2_with fail
        refine (s_canStep_in j x _ HR'.out HX.out).mono ?_
        rintro e w' ⟨rfl, q, rfl⟩
        go_wp2_with fail
        refine (HP'.out q).mono ?_
        rintro e w2 ⟨rfl, hN⟩
        have HN := keepH hN
        clear hN
        go_wp2_with fail
        go_roundw
        case rel => exact ⟨j + 1, by omega, by go_num, .inr ⟨by omega, by first | rfl | go_num, HN⟩⟩
        case measure => simp [intOf]; omega
    · go_wp2_with fail
      go_ret
      exact ⟨by simp, HJ.out⟩
end Go.Proofs.Ytmckdefijcnhcab
