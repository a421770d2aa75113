/- A row's Step; a row alone. -/
import Derived.Test.YtkfmpebhibnniaaYg
namespace Go.Proofs.Ytkfmpebhibnniaa
open Go.RowKit Go.Shelf
set_option linter.unusedVariables false

section
variable {B : Nat} {m0 : Mu} {l : List PlP} {lp : Nat → Option Addr} {lc pb : Nat → Nat} {b v rb rp rc I S R : Nat} {X : World} {made : Nat} {K : Nat → Prop}
/-- stepOf of the next one, whatever it is. -/
theorem al_next (h : AL B m0 l lp lc pb b v rb rp rc I S X made K) {p : PlP} (hp : l[I]? = some p) (hlt : S < nst p) (hsum : pre l l.length ≤ 1099511627776) (hLl : p.L.length ≤ 1099511627776) :
    Calls Try.prog 37 #[if p.none = true then .nilIface else .iface 59 (.pointer (some ⟨pb I, 0, none⟩)), .pointer (some ⟨v, 0, none⟩)] X fun e Y => e = .returned (.bool (decide (nst p ≤ S + 1))) ∧ ∃ F' D' made' tg', ∃ K' : Nat → Prop, ALt B m0 l lp lc pb b v rb rp rc (nI l I S) (nS l I S) I Y F' D' made' tg' ∧ (∀ k, F' k → K' k) ∧ K' v ∧ K' rb ∧ K' rp ∧ (∀ (i : Nat) (p : PlP) (k : Nat), l[i]? = some p → p.none = false → D' i k → K' k) ∧ Chg K X Y ∧ (∀ k, K' k → K k ∨ X.heap.size ≤ k) ∧ ∀ k, K' k → k < Y.heap.size := by
  obtain ⟨F, D, tg, h, h1, h2, h3, h4, h5, h6⟩ := h
  cases hn : p.none with
  | true =>
    rw [if_pos rfl]
    refine (s_stepOf_nil _ X).mono ?_
    rintro e Y ⟨rfl, C⟩
    have en : nst p = 1 := by unfold nst; rw [if_pos hn]
    refine ⟨by rw [decide_eq_true (show nst p ≤ S + 1 by omega)], F, D, made, tg, K, (al_none h hp hlt hn).keep C.size (fun k e => ?_), h1, h2, h3, h4, h5, C.mono (fun _ _ x => x.elim), fun k e => .inl e, fun k e => by have := h6 k e; have := C.size; omega⟩
    refine C.block k ?_ (fun x => x)
    rcases e with e | e | e | e | ⟨i, q, hq, hqn, e⟩ | e
    · exact (h.tF k e).2.2
    · rw [e]; exact h.view.lt
    · rw [e]; exact lt_of h.row
    · rw [e]; obtain ⟨cur, hc, _⟩ := h.ifs; exact lt_of hc
    · exact (h.tD i q k hq hqn e).2.2
    · have := h.hB; omega
  | false =>
    rw [if_neg (by simp)]
    refine (al_so h hp hlt hn hsum hLl).mono ?_
    rintro e Y ⟨rfl, F', D', made', tg', hA, C, nF, nD⟩
    refine ⟨rfl, F', D', made', tg', fun k => F' k ∨ k = v ∨ k = rb ∨ k = rp ∨ ∃ (i : Nat) (p : PlP), l[i]? = some p ∧ p.none = false ∧ D' i k, hA, fun k e => .inl e, .inr (.inl rfl), .inr (.inr (.inl rfl)), .inr (.inr (.inr (.inl rfl))), fun i q k hq hqn e => .inr (.inr (.inr (.inr ⟨i, q, hq, hqn, e⟩))), C.mono (fun k _ e => ?_), fun k e => ?_, fun k e => ?_⟩
    rotate_left
    · rcases e with e | e | e | e | ⟨i, q, hq, hqn, e⟩
      · exact (nF k e).elim (fun x => .inl (h1 k x)) .inr
      · exact .inl (e ▸ h2)
      · exact .inl (e ▸ h3)
      · exact .inl (e ▸ h4)
      · exact (nD i k e).elim (fun x => .inl (h5 i q k hq hqn x)) .inr
    · rcases e with e | e | e | e | ⟨i, q, hq, hqn, e⟩
      · exact (hA.tF k e).2.2
      · rw [e]; exact hA.view.lt
      · rw [e]; exact lt_of hA.row
      · rw [e]; obtain ⟨cur, hc, _⟩ := hA.ifs; exact lt_of hc
      · exact (hA.tD i q k hq hqn e).2.2
    rcases e with e | e | e
    · exact h1 k e
    · exact e ▸ h2
    · exact h5 I p k hp hn e
theorem AL.cells (h : AL B m0 l lp lc pb b v rb rp rc I S X made K) : X.heap[rb]? = some (.cells #[.slice (some ⟨rp, 0, none⟩) l.length rc, .int .i64 (I : Int)] 97 (0, 0)) := by
  obtain ⟨F, D, tg, h, _⟩ := h
  exact h.row
theorem AL.iface (h : AL B m0 l lp lc pb b v rb rp rc I S X made K) {p : PlP} (hp : l[I]? = some p) : X.cell? ⟨rp, I, none⟩ = some (if p.none = true then .nilIface else .iface 59 (.pointer (some ⟨pb I, 0, none⟩))) := by
  obtain ⟨F, D, tg, h, _⟩ := h
  obtain ⟨cur, hc, hi⟩ := h.ifs
  rw [cell_of hc]
  exact hi I p hp
theorem AL.drew (h : AL B m0 l lp lc pb b v rb rp rc I S X made K) (q : Nat) : AL B m0 l lp lc pb b v rb rp rc I S (X.drewN q) made K := h.keep (Nat.le_refl _) (fun k _ => rfl)
theorem ALt.tick {F : Nat → Prop} {D : Nat → Nat → Prop} {tg : Nat → Nat × Nat} (h : ALt B m0 l lp lc pb b v rb rp rc I S R X F D made tg) (R' : Nat) : ALt B m0 l lp lc pb b v rb rp rc I S R' (X.setCell ⟨rb, 1, none⟩ (.int .i64 (R' : Int))) F D made tg := by
  have hne : ∀ k, tg k ≠ (3, 0) → (X.setCell ⟨rb, 1, none⟩ (.int .i64 (R' : Int))).heap[k]? = X.heap[k]? := fun k n => Below.heap_setCell _ _ _ k (fun e => n (by have e2 : k = rb := e; rw [e2]; exact h.tr.1))
  have hs : (X.setCell ⟨rb, 1, none⟩ (.int .i64 (R' : Int))).heap.size = X.heap.size := by simp
  obtain ⟨lb, hb, hl⟩ := h.bank
  obtain ⟨cur, hc, hi⟩ := h.ifs
  refine ⟨⟨lb, hb.kept (by omega) (fun k e => hne k (by rw [(h.tF k e).1]; simp)), hl⟩, (hne v (by rw [h.tv.1]; simp)).trans h.view, by rw [set_of h.row 1 _]; rfl, ⟨cur, (hne rp (by rw [h.tp.1]; simp)).trans hc, hi⟩, fun i p hp hn => (h.procs i p hp hn).kept (fun k e => hne k (by rw [(h.tD i p k hp hn e).1]; simp)), fun i p hp => (h.plans i p hp).low (fun k hk => Below.heap_setCell _ _ _ k (fun e => by have e2 : k = rb := e; have := h.tr.2; omega)), fun k e => ⟨(h.tF k e).1, (h.tF k e).2.1, by have := (h.tF k e).2.2; omega⟩, h.tv, h.tr, h.tp, fun i p k hp hn e => ⟨(h.tD i p k hp hn e).1, (h.tD i p k hp hn e).2.1, by have := (h.tD i p k hp hn e).2.2; omega⟩, h.md, by have := h.hB; omega⟩
end
set_option maxRecDepth 100000 in
set_option maxHeartbeats 8000000 in
theorem row_done {rb rc n : Nat} {rs : Option Addr} {v : Value} {X : World} (h : X.heap[rb]? = some (.cells #[.slice rs n rc, .int .i64 (n : Int)] 97 (0, 0))) :
    Calls Try.prog 14 #[.pointer (some ⟨rb, 0, none⟩), v] X fun e Y => e = .returned (.bool true) ∧ ∃ q, Y = X.drewN q := by
  have c0 : X.cell? ⟨rb, 0, none⟩ = some (.slice rs n rc) := cell_of h 0
  have c1 : X.cell? ⟨rb, 1, none⟩ = some (.int .i64 (n : Int)) := cell_of h 1
  have t1 : ((n : Int) == (n : Int)) = true := by simp
  clear h
  go_enter Try.func14, Try.ntmps14
  go_upto_region 1 with fail
  go_quiet (fail)
  (try go_wp2_with fail)
  go_ret
  exact ⟨by simp, nq, rfl⟩
set_option maxRecDepth 100000 in
set_option maxHeartbeats 8000000 in
theorem row_step {B : Nat} {m0 : Mu} {l : List PlP} {lp : Nat → Option Addr} {lc pb : Nat → Nat} {b v rb rp rc I S : Nat} {X : World} {made : Nat} {K : Nat → Prop} (h : AL B m0 l lp lc pb b v rb rp rc I S X made K) {p : PlP} (hp : l[I]? = some p) (hlt : S < nst p) (hsum : pre l l.length ≤ 1099511627776) (hLl : p.L.length ≤ 1099511627776) (hlen : l.length ≤ 1099511627776) :
    Calls Try.prog 14 #[.pointer (some ⟨rb, 0, none⟩), .pointer (some ⟨v, 0, none⟩)] X fun e Y => e = .returned (.bool (decide (nI l I S = l.length))) ∧ ∃ made' K', AL B m0 l lp lc pb b v rb rp rc (nI l I S) (nS l I S) Y made' K' ∧ Chg K X Y ∧ ∀ k, K' k → K k ∨ X.heap.size ≤ k := by
  have hI : I < l.length := (List.getElem?_eq_some_iff.1 hp).1
  have c0 : X.cell? ⟨rb, 0, none⟩ = some (.slice (some ⟨rp, 0, none⟩) l.length rc) := cell_of h.cells 0
  have c1 : X.cell? ⟨rb, 1, none⟩ = some (.int .i64 (I : Int)) := cell_of h.cells 1
  have t1 : ((I : Int) == (l.length : Int)) = false := by simp; omega
  have t2 : (I : Int) < (l.length : Int) := by omega
  have HH := keepH h
  have HK : Hid (K rb) := by obtain ⟨F, D, tg, _, _, _, h3, _⟩ := h; exact h3
  have eI : nI l I S = if nst p ≤ S + 1 then I + 1 else I := by unfold nI; simp only [hp]
  have HP := keepH hp
  clear h hp
  obtain ⟨pv, hpv⟩ : ∃ pv, pv = (if p.none = true then Value.nilIface else .iface 59 (.pointer (some ⟨pb I, 0, none⟩))) := ⟨_, rfl⟩
  have HPV0 := keepH hpv
  clear hpv
  go_enter Try.func14, Try.ntmps14
  go_upto_region 1 with fail
  go_quiet (fail)
  have hpv := HPV0.out
  obtain ⟨X1, hX1⟩ : ∃ X1, X1 = X.drewN nq := ⟨_, rfl⟩
  rw [← hX1]
  have HA1 : Hid (AL B m0 l lp lc pb b v rb rp rc I S X1.drew made K) := by rw [hX1]; exact (HH.out.drew nq).keep (Nat.le_refl _) (fun k _ => rfl)
  have HC1 : Hid (Chg (fun _ => False) X X1.drew) := by rw [hX1]; exact (drewN_chgY X nq).drew
  have d0 : X1.drew.cell? ⟨rb, 0, none⟩ = some (.slice (some ⟨rp, 0, none⟩) l.length rc) := cell_of HA1.out.cells 0
  have d1 : X1.drew.cell? ⟨rb, 1, none⟩ = some (.int .i64 (I : Int)) := cell_of HA1.out.cells 1
  have d2 : X1.drew.cell? ⟨rp, I, none⟩ = some pv := by rw [hpv]; exact HA1.out.iface HP.out
  have HN := keepH (al_next HA1.out HP.out hlt hsum hLl)
  rw [← hpv] at HN
  have HPV := keepH hpv
  have HSZ1 : Hid (X.heap.size = X1.drew.heap.size) := by rw [hX1]; rfl
  clear hX1 c0 c1 hpv
  go_upto_region 3 with fail
  go_region_held3 (fun w' => w'.cell? ⟨rb, 0, none⟩ = some (.slice (some ⟨rp, 0, none⟩) l.length rc) ∧ w'.cell? ⟨rb, 1, none⟩ = some (.int .i64 (I : Int)) ∧ w'.cell? ⟨rp, I, none⟩ = some pv) (first | exact ⟨d0, d1, d2⟩ | exact hSY) (first | (go_at_call 37; refine HN.out.mono ?_; rintro e Y ⟨rfl, F', D', made', tg', K', hA, k1, k2, k3, k4, k5, C, nK, lK⟩; have hSY : Y.cell? ⟨rb, 0, none⟩ = some (.slice (some ⟨rp, 0, none⟩) l.length rc) ∧ Y.cell? ⟨rb, 1, none⟩ = some (.int .i64 (I : Int)) ∧ Y.cell? ⟨rp, I, none⟩ = some pv := ⟨cell_of hA.row 0, cell_of hA.row 1, by obtain ⟨cur, hc, hi⟩ := hA.ifs; rw [cell_of hc, HPV.out]; exact hi I p HP.out⟩))
  have HA := keepH hA
  have HKK : Hid ((∀ k, F' k → K' k) ∧ K' v ∧ K' rb ∧ K' rp ∧ (∀ (i : Nat) (p : PlP) (k : Nat), l[i]? = some p → p.none = false → D' i k → K' k) ∧ (∀ k, K' k → K k ∨ X1.drew.heap.size ≤ k) ∧ ∀ k, K' k → k < Y.heap.size) := ⟨k1, k2, k3, k4, k5, nK, lK⟩
  have HC : Hid (Chg K X Y) := HC1.out.trans C (fun _ _ x => x.elim) (fun _ _ x => x)
  have HSZ : Hid (X.heap.size = X1.drew.heap.size) := HSZ1.out
  clear hA k1 k2 k3 k4 k5 C nK lK hSY d0 d1 d2 HN HA1
  by_cases hd : nst p ≤ S + 1
  · rw [decide_eq_true hd]
    rw [if_pos hd] at eI
    have f1 : Y.frozen? ⟨rb, 1, none⟩ = false := free_of HA.out.row 1
    have g1 : Y.cell? ⟨rb, 1, none⟩ = some (.int .i64 (I : Int)) := cell_of HA.out.row 1
    obtain ⟨Y2, hY2⟩ : ∃ Y2, Y2 = Y.setCell ⟨rb, 1, none⟩ (.int .i64 ((I : Int) + 1)) := ⟨_, rfl⟩
    have hA2 : ALt B m0 l lp lc pb b v rb rp rc (nI l I S) (nS l I S) (nI l I S) Y2 F' D' made' tg' := by
      have e := HA.out.tick (nI l I S)
      rw [eI] at e ⊢
      rw [hY2]
      simpa using e
    have HA2 := keepH hA2
    clear hA2
    have HS2 : Hid (Y2.heap.size = Y.heap.size) := by show _ = _; rw [hY2]; simp
    have HC2 : Hid (Chg K X Y2) := by rw [hY2]; exact HC.out.setCell (fun _ => HK.out) _
    go_upto_region 5 with fail
    rw [← hY2]
    clear hY2 f1 g1
    have v0 : Y2.cell? ⟨rb, 0, none⟩ = some (.slice (some ⟨rp, 0, none⟩) l.length rc) := cell_of HA2.out.row 0
    have v1 : Y2.cell? ⟨rb, 1, none⟩ = some (.int .i64 ((I : Int) + 1)) := by have e := cell_of HA2.out.row 1; rw [eI] at e; simpa using e
    have HEI := keepH eI
    clear eI
    by_cases he : I + 1 = l.length
    · have y1 : ((I : Int) + 1 == (l.length : Int)) = true := by simp; omega
      go_quiet (fail)
      (try go_wp2_with fail)
      go_ret
      exact ⟨by rw [HEI.out, decide_eq_true he]; simp, made', K', ⟨F', D', tg', HA2.out.keep (Nat.le_refl _) (fun k _ => rfl), HKK.out.1, HKK.out.2.1, HKK.out.2.2.1, HKK.out.2.2.2.1, HKK.out.2.2.2.2.1, fun k e => by have := HKK.out.2.2.2.2.2.2 k e; have := HS2.out; show k < Y2.heap.size; omega⟩, HC2.out.trans (drewN_chgY _ _) (fun _ _ x => x) (fun _ _ x => x.elim), fun k e => (HKK.out.2.2.2.2.2.1 k e).elim .inl (fun q => .inr (by have := HSZ.out; omega))⟩
    · have y1 : ((I : Int) + 1 == (l.length : Int)) = false := by simp; omega
      go_quiet (fail)
      (try go_wp2_with fail)
      go_ret
      exact ⟨by rw [HEI.out, decide_eq_false he]; simp, made', K', ⟨F', D', tg', HA2.out.keep (Nat.le_refl _) (fun k _ => rfl), HKK.out.1, HKK.out.2.1, HKK.out.2.2.1, HKK.out.2.2.2.1, HKK.out.2.2.2.2.1, fun k e => by have := HKK.out.2.2.2.2.2.2 k e; have := HS2.out; show k < Y2.heap.size; omega⟩, HC2.out.trans (drewN_chgY _ _) (fun _ _ x => x) (fun _ _ x => x.elim), fun k e => (HKK.out.2.2.2.2.2.1 k e).elim .inl (fun q => .inr (by have := HSZ.out; omega))⟩
  · rw [decide_eq_false hd]
    rw [if_neg hd] at eI
    have HEI := keepH eI
    clear eI
    have v0 : Y.cell? ⟨rb, 0, none⟩ = some (.slice (some ⟨rp, 0, none⟩) l.length rc) := cell_of HA.out.row 0
    have v1 : Y.cell? ⟨rb, 1, none⟩ = some (.int .i64 (I : Int)) := cell_of HA.out.row 1
    go_upto_region 5 with fail
    go_quiet (fail)
    (try go_wp2_with fail)
    go_ret
    have HA2 : ALt B m0 l lp lc pb b v rb rp rc (nI l I S) (nS l I S) (nI l I S) Y F' D' made' tg' := by have e := HA.out; rw [HEI.out] at e ⊢; exact e
    exact ⟨by rw [HEI.out, decide_eq_false (show ¬ I = l.length by omega)]; simp, made', K', ⟨F', D', tg', HA2.keep (Nat.le_refl _) (fun k _ => rfl), HKK.out.1, HKK.out.2.1, HKK.out.2.2.1, HKK.out.2.2.2.1, HKK.out.2.2.2.2.1, fun k e => HKK.out.2.2.2.2.2.2 k e⟩, HC.out.trans (drewN_chgY _ _) (fun _ _ x => x) (fun _ _ x => x.elim), fun k e => (HKK.out.2.2.2.2.2.1 k e).elim .inl (fun q => .inr (by have := HSZ.out; omega))⟩
end Go.Proofs.Ytkfmpebhibnniaa
