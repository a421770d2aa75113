/- A memory is forked: another one of the same, with an empty trace. -/
import Derived.Test.YtmckdefijcnhcaaOps
namespace Go.Proofs.Ytmckdefijcnhcaa
open Go.RowKit Go.Shelf

set_option maxRecDepth 100000 in
theorem clone_u64 (v : Value) (n : Nat) (xs : List Value) (W : World) (h : W.ownsRow 0 33 1 v n xs) (hn : n ≤ 1099511627776) (h1 : ∀ u ∈ xs, u.oneCell' = true) :
    Calls Try.prog 124 #[v] W fun e W' => ∃ v', e = .returned v' ∧ W'.ownsRow 0 33 1 v' n xs ∧ Chg (fun _ => False) W W' ∧ ∀ k, v'.ownBlock = some k → W.heap.size ≤ k := by
  obtain ⟨i0, hi, hz0, hz1, hz2⟩ := info_parts infoU
  have q1 : ∀ (w : World) (a : Option Addr) (n c n' c' : Nat), (binOp .eql 34 (.slice a n c) (.slice none n' c')).run Try.prog w = .ok (.bool a.isNone) w := fun w a n c n' c' => Lib.run_eql_slice_nil w _ _ a n c n' c' Try.underlying34
  rcases h.2 with ⟨rfl, rfl⟩ | ⟨g, cap, cur, rfl, _⟩
  · have hx : xs = [] := List.eq_nil_of_length_eq_zero (by simpa using h.1)
    subst hx
    clear h h1
    go_enter Try.func124, Try.ntmps124
    go_wp2_with fail
    go_ret
    exact ⟨.slice none 0 0, by simp, World.ownsRow_nil _ _ _ _, Chg.refl _ _, fun k e => by simp [Value.ownBlock] at e⟩
  · have H := keepH h
    have H1 := keepH h1
    have hxl := h.1
    clear h h1
    go_enter Try.func124, Try.ntmps124
    go_wp2_with (at_builtin; refine wpList_append_own_at _ rfl _ _ 34 rfl 0 33 i0 (.int .u64 0) 1 8 Try.underlying34 hi hz0 hz1 hz2 rfl (by decide) (.slice (some ⟨W.heap.size, 0, none⟩) 0 0) 0 [] rfl ⟨rfl, .inr ⟨W.heap.size, 0, #[], rfl, Nat.zero_le _, heap_alloc_new _ _, Nat.le_refl _, by unfold maxLen; omega, rfl, rfl⟩⟩ ⟨g, 0, none⟩ n cap xs rfl hxl (fun j u hj => ((H.out.alloc _).cells (g := g) rfl j u hj)) H1.out (by unfold maxLen; omega) (by omega) (Nat.zero_le _) ?_; intro v' w1 r1 r2 r3 r4; have R1 := keepH r1; have R4 := keepH r4; clear r1 r3 r4)
    go_ret
    refine ⟨v', by simp, ?_, ((Chg.refl _ W).alloc _).grown r2 (fun k e hk => by simp [Value.ownBlock] at e; omega), fun k e => ?_⟩
    · have e := R1.out
      simpa using e
    · rcases R4.out with e2 | e2
      · rw [e2] at e
        simp [Value.ownBlock] at e
        omega
      · rw [e2] at e
        simp at e
        omega

theorem bank_forked {X Y : World} {F : Nat → Prop} {b most next : Nat} {cv av v : Value} {cs : List Nat} {l : List Acc} {W : World} (h : BankAt W F b cv av most next cs l) (hr : X.ownsRow 0 33 1 v cs.length (cs.map u64V))
    (hY : Y.heap[X.heap.size]? = some (.cells #[v, .int .i64 (most : Int), .int .i64 (next : Int), .slice none 0 0] 118 (0, 0))) (hk : ∀ k, k < X.heap.size → Y.heap[k]? = X.heap[k]?) :
    Bank Y (fun k => k = X.heap.size ∨ v.ownBlock = some k) X.heap.size most next cs [] :=
  ⟨v, .slice none 0 0, hY, row_kept hr fun k e => hk k (row_lt hr k e), World.ownsRow_nil _ _ _ _, fun x hx => by simp at hx, fun x hx => by simp at hx, .inl rfl, fun k e => .inr e, fun k e => by simp [Value.ownBlock] at e, fun x hx => by simp at hx,
    fun k e => e.elim (fun e => by rw [e]; exact lt_of hY) (fun e => by have := row_lt hr k e; have := lt_of hY; omega), h.most_le, h.next_le, h.len_le, h.small⟩

set_option maxRecDepth 100000 in
set_option maxHeartbeats 8000000 in
theorem p_fork (b most next : Nat) (F : Nat → Prop) (cs : List Nat) (l : List Acc) (W : World) (h : Bank W F b most next cs l) :
    Calls Try.prog 115 #[.pointer (some ⟨b, 0, none⟩)] W fun e W' => ∃ b' F', e = .returned (.iface 93 (.pointer (some ⟨b', 0, none⟩))) ∧ Bank W' F' b' most next cs [] ∧ (∀ k, F' k → W.heap.size ≤ k) ∧ W.heap.size ≤ b' ∧ Chg (fun _ => False) W W' := by
  obtain ⟨cv, av, h⟩ := h
  have c0 : W.cell? ⟨b, 0, none⟩ = some cv := cell_of h.blk 0
  have c1 : W.cell? ⟨b, 1, none⟩ = some (.int .i64 (most : Int)) := cell_of h.blk 1
  have c2 : W.cell? ⟨b, 2, none⟩ = some (.int .i64 (next : Int)) := cell_of h.blk 2
  have H := keepH h
  have hbl := lt_of h.blk
  have hml := h.most_le
  have hll := h.len_le
  obtain ⟨p, c, hcv⟩ := slice_of h.row
  subst hcv
  clear h
  go_enter Try.func115, Try.ntmps115
  go_wp2_with fail
  go_region_with (go_at_call 124; refine (clone_u64 _ cs.length (cs.map u64V) W.drew (row_kept (W := W) H.out.row fun k _ => rfl) (by omega) (by intro u hu; obtain ⟨x, _, rfl⟩ := List.mem_map.1 hu; rfl)).mono ?_; rintro e w2 ⟨v, rfl, R2, C2, O2⟩; have d1 : w2.cell? ⟨b, 1, none⟩ = some (.int .i64 (most : Int)) := cell_chg C2 c1 (fun h => h); have d2 : w2.cell? ⟨b, 2, none⟩ = some (.int .i64 (next : Int)) := cell_chg C2 c2 (fun h => h); have HR2 := keepH R2; have HO2 := keepH O2; have HC2 := keepH C2; obtain ⟨pv, cvv, rfl⟩ := slice_of R2; clear R2 O2 C2)
  all_goals (go_wp2_with fail)
  all_goals go_ret
  all_goals
    have C3 : Chg (fun _ => False) W w2 := ⟨HC2.out.os, HC2.out.tape, HC2.out.output, HC2.out.size, HC2.out.block⟩
    refine ⟨w2.heap.size, _, by simp [Act.put], bank_forked H.out HR2.out (heap_alloc_new _ _) (fun k hk => Below.heap_alloc _ _ _ hk), ?_, C3.size, C3.alloc _⟩
    rintro k (e | e)
    · rw [e]
      exact C3.size
    · exact HO2.out k e

set_option maxRecDepth 100000 in
set_option maxHeartbeats 8000000 in
theorem m_fork (m b most next : Nat) (F : Nat → Prop) (cs : List Nat) (l : List Acc) (W : World) (hm : IsMem W m b) (h : Bank W F b most next cs l) :
    Calls Try.prog 13 #[.pointer (some ⟨m, 0, none⟩)] W fun e W' => ∃ m' b' F', e = .returned (.pointer (some ⟨m', 0, none⟩)) ∧ IsMem W' m' b' ∧ Bank W' F' b' most next cs [] ∧ (∀ k, F' k → W.heap.size ≤ k) ∧ W.heap.size ≤ b' ∧ W.heap.size ≤ m' ∧ ¬ F' m' ∧ Chg (fun _ => False) W W' := by
  have c0 : W.cell? ⟨m, 0, none⟩ = some (.iface 93 (.pointer (some ⟨b, 0, none⟩))) := cell_of hm 0
  have c1 : W.cell? ⟨m, 1, none⟩ = some (.bool false) := cell_of hm 1
  have q := mt_fork ⟨b, 0, none⟩
  have H := keepH h
  have HM := keepH hm
  clear h hm
  go_enter Try.func13, Try.ntmps13
  go_wp2_with fail
  go_region_with (go_at_call 115; refine (p_fork b most next F cs l _ (H.out.kept (W' := W.drew) (Nat.le_refl _) (fun _ _ => rfl))).mono ?_; rintro e w2 ⟨b', F', rfl, B2, I2, L2, C2⟩; have d1 : w2.cell? ⟨m, 1, none⟩ = some (.bool false) := cell_chg C2 c1 (fun h => h); have HB2 := keepH B2; have HI2 := keepH I2; have HL2 := keepH L2; have HC2 := keepH C2; clear B2 I2 L2 C2)
  all_goals (go_wp2_with fail)
  all_goals go_ret
  all_goals
    have C3 : Chg (fun _ => False) W w2 := ⟨HC2.out.os, HC2.out.tape, HC2.out.output, HC2.out.size, HC2.out.block⟩
    refine ⟨w2.heap.size, b', F', by simp [Act.put], heap_alloc_new _ _, HB2.out.chg ((Chg.refl (fun _ => False) _).alloc _) (fun _ _ h => h), HI2.out, HL2.out, C3.size, fun hf => ?_, C3.alloc _⟩
    obtain ⟨_, _, B⟩ := HB2.out
    have := B.lt _ hf
    omega
end Go.Proofs.Ytmckdefijcnhcaa
