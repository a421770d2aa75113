/- What a runner tells. -/
import Derived.Test.YtphlhpnhieomiaaSNew
namespace Go.Proofs.Ytphlhpnhieomiaa
open Go.RowKit Go.Shelf

set_option maxRecDepth 100000 in
theorem clone_e (v : Value) (n : Nat) (xs : List Value) (W : World) (h : W.ownsRow 0 112 4 v n xs) (hn : n ≤ 1099511627776) (h1 : ∀ u ∈ xs, u.oneCell' = true) :
    Calls Try.prog 45 #[v] W fun e W' => ∃ v', e = .returned v' ∧ W'.ownsRow 0 112 4 v' n xs ∧ Chg (fun _ => False) W W' ∧ ∀ k, v'.ownBlock = some k → W.heap.size ≤ k := by
  obtain ⟨i0, hi, hz0, hz1, hz2⟩ := info_parts infoE
  have q1 : ∀ (w : World) (a : Option Addr) (n c n' c' : Nat), (binOp .eql 76 (.slice a n c) (.slice none n' c')).run Try.prog w = .ok (.bool a.isNone) w := fun w a n c n' c' => Lib.run_eql_slice_nil w _ _ a n c n' c' Try.underlying76
  rcases h.2 with ⟨rfl, rfl⟩ | ⟨g, cap, cur, rfl, _⟩
  · have hx : xs = [] := List.eq_nil_of_length_eq_zero (by simpa using h.1)
    subst hx
    clear h h1
    go_enter Try.func45, Try.ntmps45
    go_wp2_with fail
    go_ret
    exact ⟨.slice none 0 0, by simp, World.ownsRow_nil _ _ _ _, Chg.refl _ _, fun k e => by simp [Value.ownBlock] at e⟩
  · have H := keepH h
    have H1 := keepH h1
    have hxl := h.1
    clear h h1
    go_enter Try.func45, Try.ntmps45
    go_wp2_with (at_builtin; refine wpList_append_own_at _ rfl _ _ 76 rfl 0 112 i0 (evV 0 0 0 false) 4 32 Try.underlying76 hi hz0 hz1 hz2 rfl (by decide) (.slice (some ⟨W.heap.size, 0, none⟩) 0 0) 0 [] rfl ⟨rfl, .inr ⟨W.heap.size, 0, #[], rfl, Nat.zero_le _, heap_alloc_new _ _, Nat.le_refl _, by unfold maxLen; omega, rfl, rfl⟩⟩ ⟨g, 0, none⟩ n cap xs rfl hxl (fun j u hj => ((H.out.alloc _).cells (g := g) rfl j u hj)) H1.out (by unfold maxLen; omega) (by omega) (Nat.zero_le _) ?_; intro v' w1 r1 r2 r3 r4; have R1 := keepH r1; have R4 := keepH r4; clear r1 r3 r4)
    go_ret
    refine ⟨v', by simp, ?_, ((Chg.refl _ W).alloc _).grown r2 (fun k e hk => by simp [Value.ownBlock] at e; omega), fun k e => ?_⟩
    · have e := R1.out
      simpa using e
    · rcases R4.out with e2 | e2
      · rw [e2] at e
        simp [Value.ownBlock] at e
        omega
      · rw [e2] at e
        simp at e
        omega

set_option maxRecDepth 100000 in
theorem clone_i (v : Value) (n : Nat) (xs : List Value) (W : World) (h : W.ownsRow 0 3 1 v n xs) (hn : n ≤ 1099511627776) (h1 : ∀ u ∈ xs, u.oneCell' = true) :
    Calls Try.prog 54 #[v] W fun e W' => ∃ v', e = .returned v' ∧ W'.ownsRow 0 3 1 v' n xs ∧ Chg (fun _ => False) W W' ∧ ∀ k, v'.ownBlock = some k → W.heap.size ≤ k := by
  obtain ⟨i0, hi, hz0, hz1, hz2⟩ := info_parts infoInt
  have q1 : ∀ (w : World) (a : Option Addr) (n c n' c' : Nat), (binOp .eql 66 (.slice a n c) (.slice none n' c')).run Try.prog w = .ok (.bool a.isNone) w := fun w a n c n' c' => Lib.run_eql_slice_nil w _ _ a n c n' c' Try.underlying66
  rcases h.2 with ⟨rfl, rfl⟩ | ⟨g, cap, cur, rfl, _⟩
  · have hx : xs = [] := List.eq_nil_of_length_eq_zero (by simpa using h.1)
    subst hx
    clear h h1
    go_enter Try.func54, Try.ntmps54
    go_wp2_with fail
    go_ret
    exact ⟨.slice none 0 0, by simp, World.ownsRow_nil _ _ _ _, Chg.refl _ _, fun k e => by simp [Value.ownBlock] at e⟩
  · have H := keepH h
    have H1 := keepH h1
    have hxl := h.1
    clear h h1
    go_enter Try.func54, Try.ntmps54
    go_wp2_with (at_builtin; refine wpList_append_own_at _ rfl _ _ 66 rfl 0 3 i0 (.int .i64 0) 1 8 Try.underlying66 hi hz0 hz1 hz2 rfl (by decide) (.slice (some ⟨W.heap.size, 0, none⟩) 0 0) 0 [] rfl ⟨rfl, .inr ⟨W.heap.size, 0, #[], rfl, Nat.zero_le _, heap_alloc_new _ _, Nat.le_refl _, by unfold maxLen; omega, rfl, rfl⟩⟩ ⟨g, 0, none⟩ n cap xs rfl hxl (fun j u hj => ((H.out.alloc _).cells (g := g) rfl j u hj)) H1.out (by unfold maxLen; omega) (by omega) (Nat.zero_le _) ?_; intro v' w1 r1 r2 r3 r4; have R1 := keepH r1; have R4 := keepH r4; clear r1 r3 r4)
    go_ret
    refine ⟨v', by simp, ?_, ((Chg.refl _ W).alloc _).grown r2 (fun k e hk => by simp [Value.ownBlock] at e; omega), fun k e => ?_⟩
    · have e := R1.out
      simpa using e
    · rcases R4.out with e2 | e2
      · rw [e2] at e
        simp [Value.ownBlock] at e
        omega
      · rw [e2] at e
        simp at e
        omega

theorem evRow_one (l : List Ev) : ∀ u ∈ evRow l, u.oneCell' = true := by
  intro u hu
  obtain ⟨x, _, hu⟩ := List.mem_flatMap.1 hu
  simp only [Ev.cells, List.mem_cons, List.not_mem_nil, or_false] at hu
  rcases hu with rfl | rfl | rfl | rfl <;> rfl
theorem i64_one (l : List Int) : ∀ u ∈ l.map i64V, u.oneCell' = true := by
  intro u hu
  obtain ⟨x, _, rfl⟩ := List.mem_map.1 hu
  rfl

section
variable {r m : Nat} {vw : List Value} {tv ev av : Value} {ths : List Thr} {steps : Nat} {evs : List Ev} {ats : List Int} {G : Nat → Prop}
set_option maxRecDepth 100000 in
theorem r_steps (W : World) (h : RunAt W G r m vw tv ev av ths steps evs ats) : Calls Try.prog 23 #[.pointer (some ⟨r, 0, none⟩)] W fun e W' => e = .returned (.int .i64 (steps : Int)) ∧ W' = W := by
  have c1 : W.cell? ⟨r, 66, none⟩ = some (.int .i64 (steps : Int)) := h.cellk 1
  clear h
  go_enter Try.func23, Try.ntmps23
  go_wp2_with fail
  go_ret
  exact ⟨by simp, rfl⟩
set_option maxRecDepth 100000 in
theorem r_events (W : World) (h : RunAt W G r m vw tv ev av ths steps evs ats) (hl : evs.length ≤ 1099511627776) : Calls Try.prog 22 #[.pointer (some ⟨r, 0, none⟩)] W fun e W' => ∃ p c, e = .returned (.slice p evs.length c) ∧ W'.ownsRow 0 112 4 (.slice p evs.length c) evs.length (evRow evs) ∧ Chg (fun _ => False) W W' ∧ ∀ k, (Value.slice p evs.length c).ownBlock = some k → W.heap.size ≤ k := by
  have c2 : W.cell? ⟨r, 67, none⟩ = some ev := h.cellk 2
  have H := keepH h
  clear h
  go_enter Try.func22, Try.ntmps22
  go_wp2_with fail
  refine (clone_e ev evs.length (evRow evs) _ H.out.er hl (evRow_one evs)).mono ?_
  rintro e w' ⟨v, rfl, R, C, B⟩
  have HR := keepH R
  have HC := keepH C
  have HB := keepH B
  obtain ⟨p, c, rfl⟩ := slice_of R
  clear R C B
  go_wp2_with fail
  go_ret
  exact ⟨p, c, by simp, HR.out, HC.out, HB.out⟩
def allDone (ths : List Thr) : Bool := ths.all fun x => decide (x.calls.length ≤ x.next)
set_option maxRecDepth 100000 in
set_option maxHeartbeats 1000000 in
theorem r_done (W : World) (h : RunAt W G r m vw tv ev av ths steps evs ats) : Calls Try.prog 27 #[.pointer (some ⟨r, 0, none⟩)] W fun e W' => e = .returned (.bool (allDone ths)) ∧ ∃ q, W' = W.drewN q := by
  have c0 : W.cell? ⟨r, 65, none⟩ = some tv := h.cellk 0
  have H := keepH h
  obtain ⟨p, c, hv⟩ := slice_of h.tr
  have hth := h.thl
  subst hv
  clear h
  go_enter Try.func27, Try.ntmps27
  go_wp2_with fail
  go_loopw [11] (fun s wr => ∃ (k q : Nat), k ≤ ths.length ∧ s = .int .i64 (k : Int) ∧ wr = W.drewN q ∧ Hid (∀ j x, j < k → ths[j]? = some x → x.calls.length ≤ x.next)) (fun s _ => ths.length - (intOf s).toNat)
  case atStart => exact ⟨0, 0, by omega, rfl, rfl, fun j x hj => absurd hj (Nat.not_lt_zero _)⟩
  case round =>
    obtain ⟨k, q, hk, rfl, rfl, HK⟩ := hrel
    by_cases hlt : k < ths.length
    · have t2 : (k : Int) < (ths.length : Int) := by omega
      obtain ⟨x, hx⟩ : ∃ x, ths[k]? = some x := ⟨ths[k], List.getElem?_eq_getElem hlt⟩
      obtain ⟨g, c', hg⟩ := slice_pos H.out.tr (by omega)
      simp only [Value.slice.injEq, true_and] at hg
      obtain ⟨rfl, rfl⟩ := hg
      have HX := keepH hx
      have d0 := keepH (H.out.thrCell k 0 (by omega) x hx)
      have d1 := keepH (H.out.thrCell k 1 (by omega) x hx)
      have dc := keepH (H.out.calls x (List.mem_of_getElem? hx))
      clear hx
      by_cases hd : x.calls.length ≤ x.next
      · go_wp2_with fail
        refine (s_isDone g k x (W.drewN q) d0.out d1.out (row_kept (W := W) dc.out fun _ _ => rfl)).mono ?_
        rintro e w' ⟨rfl, q2, rfl⟩
        go_wp2_with fail
        go_roundw
        case rel => exact ⟨k + 1, _, by omega, by go_num, rfl, fun j y hj hy => by
            by_cases e : j = k
            · subst e
              have e2 := HX.out
              rw [e2] at hy
              simp at hy
              subst hy
              exact hd
            · exact HK.out j y (by omega) hy⟩
        case measure => simp [intOf]; omega
      · have hd' : decide (x.calls.length ≤ x.next) = false := by simpa using hd
        go_wp2_with fail
        refine (s_isDone g k x (W.drewN q) d0.out d1.out (row_kept (W := W) dc.out fun _ _ => rfl)).mono ?_
        rintro e w' ⟨rfl, q2, rfl⟩
        go_wp2_with fail
        go_ret
        refine ⟨?_, _, rfl⟩
        have e : allDone ths = false := by
          rw [allDone, List.all_eq_false]
          exact ⟨x, List.mem_of_getElem? HX.out, by simpa using hd⟩
        simp [e]
    · obtain rfl : k = ths.length := by omega
      go_wp2_with fail
      go_ret
      refine ⟨?_, _, rfl⟩
      have e : allDone ths = true := by
        rw [allDone, List.all_eq_true]
        intro x hx
        obtain ⟨j, hj⟩ := List.getElem?_of_mem hx
        simpa using HK.out j x (List.getElem?_eq_some_iff.1 hj).1 hj
      simp [e]
set_option maxRecDepth 100000 in
set_option maxHeartbeats 4000000 in
theorem r_at {b most next : Nat} {F : Nat → Prop} {cs : List Nat} {l : List Acc} (W : World) (h : RunAt W G r m vw tv ev av ths steps evs ats) (hm : IsMem W m b) (hb : Bank W F b most next cs l) (ha : ats.length ≤ 1099511627776) (hl : l.length ≤ 1099511627776) :
    Calls Try.prog 33 #[.pointer (some ⟨r, 0, none⟩)] W fun e W' => ∃ p c, e = .returned (.slice p (extN ats l.length (-1)).length c) ∧ W'.ownsRow 0 3 1 (.slice p (extN ats l.length (-1)).length c) (extN ats l.length (-1)).length ((extN ats l.length (-1)).map i64V) ∧ Chg (fun _ => False) W W' ∧ ∀ k, (Value.slice p (extN ats l.length (-1)).length c).ownBlock = some k → W.heap.size ≤ k := by
  have c3 : W.cell? ⟨r, 68, none⟩ = some av := h.cellk 3
  have c0 : W.cell? ⟨r, 0, none⟩ = some (.pointer (some ⟨m, 0, none⟩)) := h.cell0
  have H := keepH h
  have HM := keepH hm
  have HB := keepH hb
  have hrl := lt_of h.blk
  clear h hm hb
  go_enter Try.func33, Try.ntmps33
  go_wp2_with fail
  go_region_with (first
    | (go_at_call 54; refine (clone_i av ats.length (ats.map i64V) W.drew (row_kept (W := W) H.out.ar fun k _ => rfl) ha (i64_one ats)).mono ?_; rintro e w1 ⟨v1, rfl, R1, C1, B1⟩; have HR1 := keepH R1; have HC1 : Hid (Chg (fun _ => False) W w1) := ⟨C1.os, C1.tape, C1.output, C1.size, C1.block⟩; have HB1 := keepH B1; have d0 : w1.cell? ⟨r, 0, none⟩ = some (.pointer (some ⟨m, 0, none⟩)) := cell_chg HC1.out c0 (fun h => h); clear R1 C1 B1)
    | (go_at_call 51; refine (m_made m b most next F cs l _ (HM.out.chg HC1.out (fun h => h)) (HB.out.chg HC1.out (fun _ _ h => h))).mono ?_; rintro e w2 ⟨rfl, rfl⟩)
    | (go_at_call 51; refine (m_made m b most next F cs l W.drew (HM.out.chg (W' := W.drew) (Goes.drewN W (fun _ => False) 1).chg (fun h => h)) (HB.out.chg (W' := W.drew) (Goes.drewN W (fun _ => False) 1).chg (fun _ _ h => h))).mono ?_; rintro e w2 ⟨rfl, rfl⟩)
    | (go_at_call 53; refine (s_extend _ ats l.length (-1) _ HR1.out hl).mono ?_; rintro e w3 ⟨v3, rfl, R3, C3, B3⟩; have HR3 := keepH R3; have HC3 := keepH C3; have HB3 := keepH B3; clear R3 C3 B3))
  all_goals (obtain ⟨p3, q3, hv3⟩ := slice_of HR3.out; subst hv3)
  all_goals (try go_wp2_with fail)
  all_goals go_ret
  all_goals
    refine ⟨p3, q3, by simp [Act.put], HR3.out, HC1.out.trans HC3.out (fun _ _ x => x) (fun k hk e => by have : W.heap.size ≤ k := HB1.out k e; omega), fun k e => ?_⟩
    rcases HB3.out k e with e | e
    · exact HB1.out k e
    · exact Nat.le_trans HC1.out.size e
end
end Go.Proofs.Ytphlhpnhieomiaa
