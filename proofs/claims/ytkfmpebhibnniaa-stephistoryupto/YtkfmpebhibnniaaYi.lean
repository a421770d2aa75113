/- step.Alone over a row of plans' procs. -/
import Derived.Test.YtkfmpebhibnniaaYh
namespace Go.Proofs.Ytkfmpebhibnniaa
open Go.RowKit Go.Shelf
set_option linter.unusedVariables false

theorem pos_zero {l : List PlP} : Pos l 0 0 0 := ⟨Nat.zero_le _, by rw [pre_zero], fun p hp => nst_pos p, fun _ => rfl⟩
theorem row_so {B : Nat} {m0 : Mu} {l : List PlP} {lp : Nat → Option Addr} {lc pb : Nat → Nat} {b v rb rp rc I S : Nat} {X : World} {made : Nat} {K : Nat → Prop} (h : AL B m0 l lp lc pb b v rb rp rc I S X made K) {p : PlP} (hp : l[I]? = some p) (hlt : S < nst p) (hsum : pre l l.length ≤ 1099511627776) (hLl : p.L.length ≤ 1099511627776) (hlen : l.length ≤ 1099511627776) :
    Calls Try.prog 37 #[.iface 36 (.pointer (some ⟨rb, 0, none⟩)), .pointer (some ⟨v, 0, none⟩)] X fun e Y => e = .returned (.bool (decide (nI l I S = l.length))) ∧ ∃ made' K', AL B m0 l lp lc pb b v rb rp rc (nI l I S) (nS l I S) Y made' K' ∧ Chg K X Y ∧ ∀ k, K' k → K k ∨ X.heap.size ≤ k := by
  have hK : ∀ k, K k → k < X.heap.size := by obtain ⟨F, D, tg, _, _, _, _, _, _, h6⟩ := h; exact h6
  have hBB : B ≤ X.heap.size := by obtain ⟨F, D, tg, h', _⟩ := h; exact h'.hB
  refine (so_row rb (.pointer (some ⟨v, 0, none⟩)) (decide (nI l I S = l.length)) (fun Y => ∃ made' K', AL B m0 l lp lc pb b v rb rp rc (nI l I S) (nS l I S) Y made' K' ∧ Chg K (X.alloc (.cells #[.bool false] 4)) Y ∧ ∀ k, K' k → K k ∨ (X.alloc (.cells #[.bool false] 4)).heap.size ≤ k) X ?_).mono ?_
  · refine (row_step (h.keep (Y := X.alloc (.cells #[.bool false] 4)) (by simp) (fun k e => Below.heap_alloc _ _ k (e.elim (hK k) (fun q => by omega)))) hp hlt hsum hLl hlen).mono ?_
    rintro e Y ⟨rfl, made', K', hA, C, nK⟩
    exact ⟨rfl, ⟨made', K', hA, C, nK⟩, C.block _ (by simp) (fun e => by have := hK _ e; omega)⟩
  · rintro e Y ⟨rfl, W1, ⟨made', K', hA, C, nK⟩, rfl⟩
    have hsz : (X.alloc (.cells #[.bool false] 4)).heap.size = X.heap.size + 1 := by simp
    refine ⟨rfl, made', K', hA.keep (by simp) (fun k e => Below.heap_setCell _ _ _ k (fun q => ?_)), ?_, fun k e => (nK k e).elim .inl (fun q => .inr (by omega))⟩
    · have q2 : k = X.heap.size := q
      rcases e with e | e
      · rcases nK k e with w | w
        · have := hK k w; omega
        · omega
      · omega
    · exact (((Chg.refl K X).alloc _).trans C (H := K) (fun _ _ x => x) (fun _ _ x => x)).setCell (p := ⟨X.heap.size, 0, none⟩) (fun q => absurd q (Nat.lt_irrefl _)) _
set_option maxRecDepth 100000 in
set_option maxHeartbeats 8000000 in
theorem alone_al {B : Nat} {m0 : Mu} {l : List PlP} {lp : Nat → Option Addr} {lc pb : Nat → Nat} {b v rb rp rc : Nat} {X : World} {made : Nat} {K : Nat → Prop} (h : AL B m0 l lp lc pb b v rb rp rc 0 0 X made K) (hne : l ≠ []) (most : Int) (hsum : pre l l.length ≤ 1099511627776) (hLl : ∀ p ∈ l, p.L.length ≤ 1099511627776) :
    Calls Try.prog 12 #[.pointer (some ⟨v, 0, none⟩), .iface 36 (.pointer (some ⟨rb, 0, none⟩)), .int .i64 most] X fun e Y => e = .returned (.bool (decide ((pre l l.length : Int) ≤ most))) ∧ ∃ I S made' K', Pos l (min most.toNat (pre l l.length)) I S ∧ AL B m0 l lp lc pb b v rb rp rc I S Y made' K' ∧ Chg K X Y ∧ ∀ k, K' k → K k ∨ X.heap.size ≤ k := by
  have hlen : l.length ≤ 1099511627776 := Nat.le_trans (pre_ge l l.length (Nat.le_refl _)) hsum
  have hpos : 0 < l.length := by cases l with | nil => exact absurd rfl hne | cons x r => simp
  have HH : Hid (∃ made' K', AL B m0 l lp lc pb b v rb rp rc 0 0 X made' K' ∧ Chg K X X ∧ ∀ k, K' k → K k ∨ X.heap.size ≤ k) := ⟨made, K, h, Chg.refl _ _, fun k e => .inl e⟩
  clear h
  go_enter Try.func12, Try.ntmps12
  go_wp2_with fail
  go_loopw [8] (fun s wr => ∃ k I S : Nat, s = .int .i64 (k : Int) ∧ (k : Int) ≤ max most 0 ∧ Hid (Pos l k I S ∧ I < l.length ∧ ∃ made' K', AL B m0 l lp lc pb b v rb rp rc I S wr made' K' ∧ Chg K X wr ∧ ∀ k, K' k → K k ∨ X.heap.size ≤ k)) (fun s _ => most.toNat - (intOf s).toNat)
  case atStart => exact ⟨0, 0, 0, rfl, by omega, ⟨pos_zero, hpos, HH.out⟩⟩
  case round =>
    obtain ⟨k, I, S, rfl, hkm, HX⟩ := hrel
    have hI : I < l.length := HX.out.2.1
    obtain ⟨p, hp⟩ : ∃ p, l[I]? = some p := ⟨l[I], List.getElem?_eq_getElem hI⟩
    have hlt := HX.out.1.lt p hp
    have hk : k = pre l I + S := HX.out.1.at_
    have hkt : k < pre l l.length := by
      have e1 := pre_succ hp
      have e2 := pre_mono l (show I + 1 ≤ l.length by omega)
      omega
    by_cases hc : (k : Int) < most
    · obtain ⟨made', K', hA, C, nK⟩ := HX.out.2.2
      have HN := keepH (row_so hA hp hlt hsum (hLl p (List.mem_of_getElem? hp)) hlen)
      have HC := keepH C
      have HNK := keepH nK
      have HP := keepH (pos_next HX.out.1 hp)
      have hle := (pos_next HX.out.1 hp).le
      have HTT : Hid (∀ k, K' k → k < wr.heap.size) := by obtain ⟨F, D, tg, _, _, _, _, _, _, h6⟩ := hA; exact h6
      clear hA C nK hp hlt hk
      by_cases he : nI l I S = l.length
      · rw [decide_eq_true he] at HN
        have HE := keepH he
        clear he hle
        go_wp2_with fail
        refine HN.out.mono ?_
        rintro e w2 ⟨rfl, made2, K2, hA2, C2, nK2⟩
        have HA2 := keepH hA2
        have HC2 : Hid (Chg K X w2) := HC.out.trans C2 (fun _ _ x => x) (fun i hi e => (HNK.out i e).elim id (fun q => by omega))
        have HN2 : Hid (∀ k, K2 k → K k ∨ X.heap.size ≤ k) := fun k e => (nK2 k e).elim (HNK.out k) (fun q => .inr (by have := HC.out.size; omega))
        clear hA2 C2 nK2
        go_wp2_with fail
        have e1 := HP.out.at_
        have e2 : nS l I S = 0 := HP.out.z (by rw [HE.out]; exact List.getElem?_eq_none (Nat.le_refl _))
        rw [HE.out, e2] at e1
        refine bodyPost_ret (results_tmp rfl _ _ _) rfl ⟨?_, nI l I S, nS l I S, made2, K2, ?_, HA2.out, HC2.out, HN2.out⟩
        · rw [decide_eq_true (show ((pre l l.length : Nat) : Int) ≤ most by omega)]; rfl
        · rw [show min most.toNat (pre l l.length) = k + 1 by omega]; exact HP.out
      · rw [decide_eq_false he] at HN
        have HE : Hid (nI l I S < l.length) := by show _ < _; omega
        clear he hle
        go_wp2_with fail
        refine HN.out.mono ?_
        rintro e w2 ⟨rfl, made2, K2, hA2, C2, nK2⟩
        have HA2 := keepH hA2
        have HC2 : Hid (Chg K X w2) := HC.out.trans C2 (fun _ _ x => x) (fun i hi e => (HNK.out i e).elim id (fun q => by omega))
        have HN2 : Hid (∀ k, K2 k → K k ∨ X.heap.size ≤ k) := fun k e => (nK2 k e).elim (HNK.out k) (fun q => .inr (by have := HC.out.size; omega))
        clear hA2 C2 nK2
        go_wp2_with fail
        go_roundw
        case rel => exact ⟨k + 1, nI l I S, nS l I S, by first | rfl | go_num, by omega, ⟨HP.out, HE.out, made2, K2, HA2.out, HC2.out, HN2.out⟩⟩
        case measure => simp [intOf]; omega
    · have HX2 := keepH HX.out
      clear hp hlt hk
      go_wp2_with fail
      obtain ⟨hP, _, made', K', hA, C, nK⟩ := HX2.out
      refine bodyPost_ret (results_tmp rfl _ _ _) rfl ⟨?_, I, S, ?_, made', K', hA, C, nK⟩
      · rw [decide_eq_false (show ¬ ((pre l l.length : Nat) : Int) ≤ most by omega)]; rfl
      · rw [show min most.toNat (pre l l.length) = k by omega]; exact hP
end Go.Proofs.Ytkfmpebhibnniaa
