/- A new row of procs; the start. -/
import Derived.Test.YtphlhpnhieomiaaYk
namespace Go.Proofs.Ytphlhpnhieomiaa
open Go.RowKit Go.Shelf
set_option linter.unusedVariables false

theorem row_base {W : World} {B : Nat} {e : TypeId} {s : Nat} {v : Value} {n : Nat} {xs : List Value} (h : W.ownsRow B e s v n xs) : W.ownsRow 0 e s v n xs := by
  obtain ⟨h0, h1⟩ := h
  refine ⟨h0, ?_⟩
  rcases h1 with h1 | ⟨g, cap, cur, rfl, hB, hg, r⟩
  · exact .inl h1
  · exact .inr ⟨g, cap, cur, rfl, Nat.zero_le _, hg, r⟩
theorem ifL_one (l : List PlP) (pb : Nat → Nat) (i : Nat) : ∀ u ∈ ifL l pb i, u.oneCell' = true := by
  intro u hu
  obtain ⟨j, _, rfl⟩ := List.mem_map.1 hu
  unfold ifV
  split
  · split <;> rfl
  · rfl
set_option maxRecDepth 100000 in
theorem new_row_any {W : World} {v : Value} {n : Nat} {xs : List Value} (h : W.ownsRow 0 40 1 v n xs) (hn : n ≤ 1099511627776) (h1 : ∀ u ∈ xs, u.oneCell' = true) :
    Calls Try.prog 10 #[v] W fun e Y => (∃ rb, e = .returned (.pointer (some ⟨rb, 0, none⟩)) ∧ W.heap.size ≤ rb ∧ ∃ v', Y.heap[rb]? = some (.cells #[v', .int .i64 0] 97 (0, 0)) ∧ Y.ownsRow 0 40 1 v' n xs ∧ ∀ k, v'.ownBlock = some k → W.heap.size ≤ k) ∧ Chg (fun _ => False) W Y := by
  have HC := keepH (clone_p v n xs W h hn h1)
  clear h h1
  go_enter Try.func10, Try.ntmps10
  go_wp2_with fail
  refine HC.out.mono ?_
  rintro e w1 ⟨v', rfl, hr, hc, hb⟩
  obtain ⟨p', c', rfl⟩ := slice_of hr
  have HR := keepH hr
  have HCC := keepH hc
  have HB := keepH hb
  clear hr hc hb
  go_wp2_with fail
  go_ret
  exact ⟨⟨w1.heap.size, rfl, HCC.out.size, _, heap_alloc_new _ _, row_kept HR.out (fun k e => Below.heap_alloc _ _ k (row_lt HR.out k e)), HB.out⟩, HCC.out.alloc _⟩
theorem gF_start (m0 : Mu) (l : List PlP) (j : Nat) : gF 200 m0 l 0 0 j = [] := by
  unfold gF
  split
  · rfl
  · rw [if_neg (by omega)]
    split
    · rw [doL_zero]; rfl
    · rfl
/-- All lies ready. -/
theorem al_start {W Y : World} {B b v rb rp rc s1 : Nat} {l : List PlP} {p : Option Addr} {lp : Nat → Option Addr} {lc pb : Nat → Nat} {F : Nat → Prop} (hbk : Bank Y F b 200 1 [] []) (hv : IsView Y v b 3 0) (hF : ∀ k, F k → B ≤ k ∧ k < s1) (hrow : Y.heap[rb]? = some (.cells #[.slice (some ⟨rp, 0, none⟩) l.length rc, .int .i64 0] 97 (0, 0)))
    (hrp : Y.ownsRow 0 40 1 (.slice (some ⟨rp, 0, none⟩) l.length rc) l.length (ifL l pb l.length)) (hpr : ∀ (j : Nat) (q : PlP), l[j]? = some q → q.none = false → Y.heap[pb j]? = some (.cells #[.slice (lp j) q.L.length (lc j), .int .i64 0, .slice none 0 0] 58 (0, 0)) ∧ s1 ≤ pb j)
    (hinj : ∀ (j j' : Nat) (q q' : PlP), j < j' → l[j]? = some q → l[j']? = some q' → q.none = false → q'.none = false → pb j < pb j') (hP : PlansAt Y B p l lp lc) (hs : B ≤ s1) (hrb : s1 ≤ rb) (hrp2 : s1 ≤ rp) (hv2 : s1 ≤ v) (hBY : B ≤ Y.heap.size) : 
    ∃ K, AL B ⟨1, []⟩ l lp lc pb b v rb rp rc 0 0 Y 0 K ∧ (∀ k, K k → F k ∨ k = v ∨ k = rb ∨ k = rp ∨ ∃ (i : Nat) (q : PlP), l[i]? = some q ∧ q.none = false ∧ k = pb i) := by
  classical
  obtain ⟨cur, hcur, hci⟩ : ∃ cur : Array Value, Y.heap[rp]? = some (.cells cur 40 (0, 0)) ∧ ∀ (i : Nat) (q : PlP), l[i]? = some q → cur[i]? = some (if q.none = true then .nilIface else .iface 59 (.pointer (some ⟨pb i, 0, none⟩))) := by
    rcases hrp.2 with ⟨h, _⟩ | ⟨g, cap, cur, e, _, hg, _, _, _, ht⟩
    · cases h
    · injection e with e1 _ _
      injection e1 with e1
      injection e1 with e1
      subst e1
      refine ⟨cur, hg, fun i q hq => ?_⟩
      have hi := (List.getElem?_eq_some_iff.1 hq).1
      have e : (ifL l pb l.length)[i]? = some (ifV l pb i) := by simp [ifL, List.getElem?_range hi]
      rw [← ht, List.getElem?_take_of_lt (by omega)] at e
      have e2 : ifV l pb i = (if q.none = true then .nilIface else .iface 59 (.pointer (some ⟨pb i, 0, none⟩))) := by unfold ifV; simp [hq]
      rw [e2] at e
      simpa using e
  have vr : v ≠ rb := typ_ne hv hrow (by decide)
  have vp : v ≠ rp := typ_ne hv hcur (by decide)
  have rr : rb ≠ rp := typ_ne hrow hcur (by decide)
  have nF : ∀ k, s1 ≤ k → ¬ F k := fun k hk e => by have := (hF k e).2; omega
  have npb : ∀ (j : Nat) (q : PlP), l[j]? = some q → q.none = false → pb j ≠ v ∧ pb j ≠ rb ∧ pb j ≠ rp := fun j q hq hn => ⟨typ_ne (hpr j q hq hn).1 hv (by decide), typ_ne (hpr j q hq hn).1 hrow (by decide), typ_ne (hpr j q hq hn).1 hcur (by decide)⟩
  have uniq : ∀ (j j' : Nat) (q q' : PlP), l[j]? = some q → l[j']? = some q' → q.none = false → q'.none = false → pb j = pb j' → j = j' := fun j j' q q' hq hq' hn hn' e => by
    rcases Nat.lt_trichotomy j j' with h | h | h
    · have := hinj j j' q q' h hq hq' hn hn'; omega
    · exact h
    · have := hinj j' j q' q h hq' hq hn' hn; omega
  refine ⟨fun k => F k ∨ k = v ∨ k = rb ∨ k = rp ∨ ∃ (i : Nat) (q : PlP), l[i]? = some q ∧ q.none = false ∧ k = pb i, ⟨F, fun i k => k = pb i, fun k => if F k then (1, 0) else if k = v then (2, 0) else if k = rb then (3, 0) else if k = rp then (4, 0) else if h : ∃ (i : Nat) (q : PlP), l[i]? = some q ∧ q.none = false ∧ k = pb i then (5, h.choose) else (0, 0), ⟨⟨[], by rw [mS_zero]; exact hbk, by rw [tS_zero]; rfl⟩, hv, hrow, ⟨cur, hcur, hci⟩, fun i q hq hn => ?_, fun i q hq => (hP i q hq).2, fun k e => ⟨?_, (hF k e).1, hbk.ltF k e⟩, ⟨?_, by omega⟩, ⟨?_, by omega⟩, ⟨?_, by omega⟩, fun i q k hq hn e => ⟨?_, ?_, ?_⟩, by omega, hBY⟩, fun k e => .inl e, .inr (.inl rfl), .inr (.inr (.inl rfl)), .inr (.inr (.inr (.inl rfl))), fun i q k hq hn e => .inr (.inr (.inr (.inr ⟨i, q, hq, hn, e⟩))), fun k e => ?_⟩, fun k e => e⟩
  · have ea : atOf 0 0 i q = 0 := by unfold atOf; rw [if_neg (by omega)]; split <;> rfl
    rw [ea, gF_start]
    exact ⟨.slice none 0 0, (hpr i q hq hn).1, World.ownsRow_nil _ _ _ _, fun k => by simp [Value.ownBlock]⟩
  · simp only [if_pos e]
  · simp only [if_neg (nF v hv2), if_true]
  · simp only [if_neg (nF rb hrb), if_neg vr.symm, if_true]
  · simp only [if_neg (nF rp hrp2), if_neg vp.symm, if_neg rr.symm, if_true]
  · subst e
    have hx := hpr i q hq hn
    have n3 := npb i q hq hn
    have hex : ∃ (j : Nat) (r : PlP), l[j]? = some r ∧ r.none = false ∧ pb i = pb j := ⟨i, q, hq, hn, rfl⟩
    simp only [if_neg (nF _ hx.2), if_neg n3.1, if_neg n3.2.1, if_neg n3.2.2, dif_pos hex]
    obtain ⟨r, hr, hrn, he⟩ := hex.choose_spec
    rw [uniq _ _ r q hr hq hrn hn he.symm]
  · rw [e]; have := (hpr i q hq hn).2; omega
  · rw [e]; exact lt_of (hpr i q hq hn).1
  · rcases e with e | e | e | e | ⟨i, q, hq, hn, e⟩
    · exact hbk.ltF k e
    · rw [e]; exact hv.lt
    · rw [e]; exact lt_of hrow
    · rw [e]; exact lt_of hcur
    · rw [e]; exact lt_of (hpr i q hq hn).1
end Go.Proofs.Ytphlhpnhieomiaa
