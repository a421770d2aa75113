/- To the end. -/
import Derived.Test.YtmckdefijcnhcabSLongT
namespace Go.Proofs.Ytmckdefijcnhcab
open Go.RowKit Go.Shelf

theorem nr_allDone {W X : World} {G K : Nat → Prop} {r m b T calls k : Nat} {vw : List Value} {tv ev av : Value} {ths : List Thr} {evs : List Ev} {ats : List Int} (h : NRunAt W X G K r m b T calls k vw tv ev av ths evs ats) (hk : k ≤ calls) : allDone ths = decide (T = 0 ∨ k = calls) := by
  by_cases hd : T = 0 ∨ k = calls
  · rw [decide_eq_true hd, allDone, List.all_eq_true]
    intro x hx
    obtain ⟨j, hj⟩ := List.getElem?_of_mem hx
    have hjl := (List.getElem?_eq_some_iff.1 hj).1
    have hlen := h.len
    by_cases h1 : j + 1 < T
    · have := h.fst j x hj h1
      simp [this.1]
    · have := h.lst j x hj (by omega)
      simp only [this.1, this.2, List.length_replicate, decide_eq_true_eq]
      omega
  · rw [decide_eq_false hd, allDone, List.all_eq_false]
    have hlt : T - 1 < ths.length := by have := h.len; omega
    refine ⟨ths[T - 1], List.getElem_mem hlt, ?_⟩
    have := h.lst (T - 1) ths[T - 1] (List.getElem?_eq_getElem hlt) (by omega)
    simp only [this.1, this.2, List.length_replicate, decide_eq_true_eq]
    omega

def endK (T calls : Nat) : Nat := if T = 0 then 0 else calls
set_option maxRecDepth 100000 in
set_option maxHeartbeats 4000000 in
theorem nr_finish {W X : World} {r m b T calls : Nat} (h : NRun W X r m b T calls 0) (hc : T = 0 ∨ calls ≤ 4096) (hcb : calls ≤ 1000000) :
    Calls Try.prog 10 #[.pointer (some ⟨r, 0, none⟩), .int .i64 (calls : Int)] X fun e X' => e = .returned (.bool true) ∧ NRun W X' r m b T calls (endK T calls) := by
  have H := keepH h
  have HCC := keepH hc
  clear h hc
  go_enter Try.func10, Try.ntmps10
  go_wp2_with fail
  go_loopw [1] (fun s wr => ∃ k : Nat, k ≤ calls ∧ (T = 0 → k = 0) ∧ s = .int .i64 ((calls - k : Nat) : Int) ∧ Hid (NRun W wr r m b T calls k)) (fun s _ => (intOf s).toNat)
  case atStart => exact ⟨0, by omega, fun _ => rfl, rfl, H⟩
  case round =>
    obtain ⟨k, hk, hT0, rfl, HK⟩ := hrel
    obtain ⟨G, K, vw, tv, ev, av, ths, evs, ats, h⟩ := HK.out
    have hd := nr_allDone h hk
    have HR := keepH h.run
    have HA := keepH h
    clear h
    by_cases hlt : k < calls
    · have t1 : (0 : Int) < ((calls - k : Nat) : Int) := by omega
      by_cases hT : T = 0
      · have hd2 : allDone ths = true := by rw [hd]; simp [hT]
        have HT := keepH hT
        clear hd hT
        go_wp2_with fail
        refine (r_done _ HR.out).mono ?_
        rintro e w' ⟨rfl, q, rfl⟩
        have HR2 := keepH (HR.out.kept (W' := wr.drewN q) (Nat.le_refl _) (fun _ _ => rfl))
        go_wp2_with fail
        refine (r_done _ HR2.out).mono ?_
        rintro e w' ⟨rfl, q2, rfl⟩
        go_wp2_with fail
        go_ret
        refine ⟨by simp, ?_⟩
        have e := hT0 HT.out
        have e2 : endK T calls = 0 := by rw [endK, if_pos HT.out]
        rw [e2]
        subst e
        exact ⟨G, K, vw, tv, ev, av, ths, evs, ats, HA.out.drewN (q + q2)⟩
      · have hd2 : allDone ths = false := by rw [hd]; simp [hT]; omega
        obtain ⟨n, hn⟩ : ∃ n, n = calls - k := ⟨_, rfl⟩
        rw [← hn] at t1 ⊢
        have HN := keepH hn
        have wn : IntKind.i64.wrap ((n : Int) - 1) = ((n - 1 : Nat) : Int) := by rw [IntKind.wrap_i64]; omega
        have hn0 : 0 < n := by omega
        clear hn hd
        go_wp2_with fail
        refine (r_done _ HR.out).mono ?_
        rintro e w' ⟨rfl, q, rfl⟩
        go_wp2_with fail
        refine (nr_turn n ⟨G, K, vw, tv, ev, av, ths, evs, ats, HA.out.drewN q⟩ (by omega) hlt (HCC.out.resolve_left hT) hn0).mono ?_
        rintro e w2 ⟨rfl, hN⟩
        have HN2 := keepH hN
        clear hN
        go_wp2_with fail
        go_roundw
        case rel => exact ⟨k + 1, by omega, fun e => absurd e hT, by have := HN.out; rw [show calls - (k + 1) = n - 1 by omega], HN2⟩
        case measure => simp [intOf]; omega
    · obtain rfl : k = calls := by omega
      have e0 : k - k = 0 := by omega
      rw [e0]
      have hd2 : allDone ths = true := by rw [hd]; simp
      clear hd
      go_wp2_with fail
      refine (r_done _ HR.out).mono ?_
      rintro e w' ⟨rfl, q, rfl⟩
      go_wp2_with fail
      go_ret
      refine ⟨by simp, ?_⟩
      have e1 : endK T k = k := by
        unfold endK
        split
        · exact (hT0 (by assumption)).symm
        · rfl
      rw [e1]
      exact ⟨G, K, vw, tv, ev, av, ths, evs, ats, HA.out.drewN q⟩
end Go.Proofs.Ytmckdefijcnhcab
