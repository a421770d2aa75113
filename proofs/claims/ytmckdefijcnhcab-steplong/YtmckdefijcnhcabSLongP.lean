/- A pick of the last thread. -/
import Derived.Test.YtmckdefijcnhcabSLongA
namespace Go.Proofs.Ytmckdefijcnhcab
open Go.RowKit Go.Shelf

set_option maxRecDepth 100000 in
theorem nr_pick {W X : World} {r m b T calls k : Nat} (h : NRun W X r m b T calls k) (hT : 0 < T) (hk : k < calls) (hc : calls ≤ 4096) :
    Calls Try.prog 33 #[.pointer (some ⟨r, 0, none⟩), .int .i64 ((T - 1 : Nat) : Int)] X fun e X' => e = .returned (.bool true) ∧ NRun W X' r m b T calls (k + 1) := by
  obtain ⟨G, K, vw, tv, ev, av, ths, evs, ats, h⟩ := h
  have hl := h.len
  have hlt : T - 1 < ths.length := by omega
  obtain ⟨x, hx⟩ : ∃ x, ths[T - 1]? = some x := ⟨ths[T - 1], List.getElem?_eq_getElem hlt⟩
  obtain ⟨hxc, hxn⟩ := h.lst (T - 1) x hx (by omega)
  obtain ⟨vb, hvb⟩ := h.vws (T - 1) (by omega)
  obtain ⟨g, c, htv⟩ := slice_pos h.run.tr (by omega)
  have hn : x.next < x.calls.length := by rw [hxn, hxc, List.length_replicate]; exact hk
  have hp : x.calls[x.next]? = some .nilIface := by rw [hxn, hxc, List.getElem?_replicate, if_pos hk]
  have hr := h.run
  rw [htv] at hr
  refine (r_pick_in (vb := vb) (NM m b) (fun d X K => d = true ∧ NM m b X K) 0 (fun _ => 0) (T - 1) x .nilIface X hr hx hn hp hvb h.mem h.apart (fun X Y K h hs hk => h.keep hs hk) (fun X K h => h.lt) (fun X K h => h.mem) (fun d X Y K h hs hk => ⟨h.1, h.2.keep hs hk⟩) (fun d X K h => h.2.lt) (fun d X K h => h.2.mem)
    (fun X K hI => (s_stepOf_nil _ X).mono ?_) (by omega) (by have := h.evl; omega) (by omega) (fun _ => by omega)).mono ?_
  · rintro e X' ⟨rfl, C⟩
    exact ⟨true, K, rfl, ⟨rfl, hI.keep C.size (fun j hj => C.block j (hI.lt j hj) (fun h => h))⟩, ⟨C.mono (fun _ _ x => x.elim), fun _ e => .inl e⟩⟩
  · rintro e X' ⟨d, G', K', ev', av', rfl, R', ⟨rfl, M'⟩, A', GG⟩
    refine ⟨rfl, G', K', vw, _, ev', av', _, _, _, R', M', A', by simp [hl], fun j t ht hj => ?_, fun j t ht hj => ?_, h.vws, ?_, ?_, fun j e => (GG.new j e).elim (h.inW j) (fun e => Nat.le_trans h.chg.size e), h.chg.trans GG.chg (fun _ _ x => x) (fun j hj e => by have := h.inW j e; omega)⟩
    · rw [List.getElem?_set_ne (by omega)] at ht
      exact h.fst j t ht hj
    · have hj2 : j = T - 1 := by omega
      subst hj2
      simp [hlt] at ht
      subst ht
      exact ⟨hxc, by simp [pickThr, hxn]⟩
    · have := h.evl
      simp only [pickEvs]
      split <;> simp <;> omega
    · rw [h.atl]
      rfl
end Go.Proofs.Ytmckdefijcnhcab
