/- hist.First: whatever spans, and those that are left: what stands first. -/
import Derived.Test.YtmdeodijcmeflabHSoon
import Derived.Test.YtmdeodijcmeflabHSpansP
namespace Go.Proofs.Ytmdeodijcmeflab
open Go.RowKit Go.Maps

def iRow (xs : List Nat) : List Value := xs.map fun n => Value.int .i64 ((n : Nat) : Int)
theorem infoInt : (Try.prog.info? 3).map (fun i => (i.zero, i.size, i.bytes)) = some (some (.int .i64 0), 1, 8) := by kernel_rfl
structure FI (l : List Sp) (bs : List Bool) (W wr : World) (k : Nat) (v : Value) : Prop where
  row : wr.ownsRow 0 3 1 v (firstsN l bs k).length (iRow (firstsN l bs k))
  chg : Chg (fun _ => False) W wr
  new : ∀ b, v.ownBlock = some b → W.heap.size ≤ b
theorem FI.quiet {l : List Sp} {bs : List Bool} {W wr wx : World} {k : Nat} {v : Value} (h : FI l bs W wr k v) (hc : Chg (fun _ => False) wr wx) : FI l bs W wx k v :=
  ⟨row_kept h.row fun b hb => hc.block b (row_lt h.row b hb) (fun x => x), h.chg.trans hc (fun _ _ x => x) (fun _ _ x => x), h.new⟩
theorem FI.skip {l : List Sp} {bs : List Bool} {W wr : World} {k : Nat} {v : Value} (h : FI l bs W wr k v) (hn : ¬ FirstP l bs k) : FI l bs W wr (k + 1) v :=
  ⟨by rw [firstsN_no hn]; exact h.row, h.chg, h.new⟩
theorem FI.more {l : List Sp} {bs : List Bool} {W w1 w2 : World} {k : Nat} {v v' : Value} {o : Obj} (h : FI l bs W w1 k v) (hf : FirstP l bs k) (hr : w2.ownsRow 0 3 1 v' ((firstsN l bs k).length + 1) (iRow (firstsN l bs k) ++ [.int .i64 (k : Int)])) (hg : (w1.alloc o).grownBy w2 v.ownBlock) (hw : v'.ownBlock = v.ownBlock ∨ v'.ownBlock = some (w1.alloc o).heap.size) : FI l bs W w2 (k + 1) v' := by
  have c2 : Chg (fun b => v.ownBlock = some b) w1 w2 := ((Chg.refl (fun b => v.ownBlock = some b) w1).alloc o).grown hg (fun k e _ => e)
  have hs := h.chg.size
  refine ⟨?_, h.chg.trans c2 (fun _ _ x => x) (fun i hi x => by have := h.new _ x; omega), ?_⟩
  · rw [firstsN_yes hf, List.length_append]
    unfold iRow at *
    rw [List.map_append]
    exact hr
  · intro b hb
    rcases hw with e1 | e1
    · rw [e1] at hb
      exact h.new b hb
    · rw [e1] at hb
      simp at hb
      omega
theorem rival_none1 (i : Nat) : rivalN none none i = none := rfl
theorem rival_other {x i : Nat} {se : Option Nat} (h : x ≠ i) : rivalN (some x) se i = some x := by unfold rivalN; rw [if_neg (by simp [h])]
theorem rival_same {i : Nat} {se : Option Nat} : rivalN (some i) se i = se := by unfold rivalN; rw [if_pos rfl]
theorem rival_none (se : Option Nat) (i : Nat) : rivalN none se i = none := by unfold rivalN; rw [if_neg (by simp)]

set_option maxRecDepth 100000 in
set_option maxHeartbeats 16000000 in
theorem h_first (p q : Option Addr) (c d : Nat) (l : List Sp) (bs : List Bool) (W : World) (h : SReads W p l) (hb : BReads W q bs) (hl : l.length ≤ 4398046511104) (hcap : bs.length ≤ d) :
    Calls Try.prog 10 #[.slice p l.length c, .slice q bs.length d] W fun e W' => ∃ v, e = .returned v ∧ W'.ownsRow 0 3 1 v (firstsN l bs l.length).length (iRow (firstsN l bs l.length)) ∧ (∀ b, v.ownBlock = some b → W.heap.size ≤ b) ∧ Chg (fun _ => False) W W' := by
  obtain ⟨i0, hi, hz0, hz1, hz2⟩ := info_parts infoInt
  have HP := keepH h
  have HB := keepH hb
  have HI := keepH hi
  have HCAP := keepH hcap
  clear h hb hi
  have hpast : ∀ m, (m = bs.length ∧ bs.length ≤ l.length ∨ m = l.length ∧ l.length ≤ bs.length) → firstsN l bs l.length = firstsN l bs m ∧ (∀ k, m ≤ k → k < l.length → leftB bs k = false) := fun m hm => by
    have h1 : ∀ k, m ≤ k → k < l.length → leftB bs k = false := fun k h1 h2 => by
      unfold leftB
      rw [List.getElem?_eq_none (by omega)]
      rfl
    exact ⟨firstsN_past h1 l.length (by omega) (Nat.le_refl _), h1⟩
  have HPS := keepH hpast
  obtain ⟨m, hm⟩ : ∃ m, (m = bs.length ∧ bs.length ≤ l.length ∨ m = l.length ∧ l.length ≤ bs.length) := by
    by_cases e : bs.length ≤ l.length
    · exact ⟨_, .inl ⟨rfl, e⟩⟩
    · exact ⟨_, .inr ⟨rfl, by omega⟩⟩
  have hml : m ≤ l.length := by omega
  have hmb : m ≤ bs.length := by omega
  have hmd : m ≤ d := by omega
  have HMB := keepH hmb
  have HM := keepH hm
  obtain ⟨hpe, hlo⟩ := hpast m hm
  have HPE := keepH hpe
  have HLO := keepH hlo
  have hmin : (if (l.length : Int) < (bs.length : Int) then (l.length : Int) else (bs.length : Int)) = (m : Int) := by split <;> omega
  have hminN : (if l.length < bs.length then (l.length : Int) else (bs.length : Int)) = (m : Int) := by split <;> omega
  have hmd2 : (m : Int) ≤ (d : Int) := by omega
  clear hpast hpe hlo hm HPS
  go_enter Try.func10, Try.ntmps10
  go_wp2_with fail
  refine (h_soon p q c d m l bs _ HP.out HB.out hml HMB.out hl).mono ?_
  rintro e W1 ⟨so, se, rfl, hS, C1⟩
  have HS := keepH hS
  have HC1 := keepH C1
  clear hS C1 hmin hminN hmd2
  go_wp2_with fail
  go_loopw [7, 26] (fun v s wr => ∃ k : Nat, k ≤ m ∧ s = .int .i64 (k : Int) ∧ Hid (FI l bs W wr k v)) (fun _ s _ => m - (intOf s).toNat)
  case atStart => exact ⟨0, by omega, rfl, keepH ⟨World.ownsRow_nil _ _ _ _, HC1.out, fun b hb => by simp [Value.ownBlock] at hb⟩⟩
  case round =>
    obtain ⟨k, hk, rfl, HK⟩ := hrel
    by_cases hlt : k < m
    · have t1 : (k : Int) < (m : Int) := by omega
      have t2 : (k : Int) < (l.length : Int) := by omega
      obtain ⟨s, hs⟩ : ∃ s, l[k]? = some s := ⟨l[k], List.getElem?_eq_getElem (by omega)⟩
      obtain ⟨b, hbk⟩ : ∃ b, bs[k]? = some b := ⟨bs[k]'(by have := HMB.out; omega), List.getElem?_eq_getElem _⟩
      obtain ⟨bb, ob, rfl, _, e0⟩ := (HB.out.chg HK.out.chg (fun _ _ x => x)).get k b hbk
      have HPX := keepH (HP.out.chg HK.out.chg (fun _ _ x => x))
      obtain ⟨bk, off, rfl, _, c0, c1, c2, c3⟩ := HPX.out.get k s hs
      have HX := keepH hs
      have HLB := keepH (leftB_of hbk)
      have hfl : (firstsN l bs k).length ≤ 4398046511104 := by have := firstsN_le l bs k; omega
      obtain ⟨fl, hfl2⟩ : ∃ fl, fl = (firstsN l bs k).length := ⟨_, rfl⟩
      rw [← hfl2] at hfl
      have HFL := keepH hfl2
      have HRW : Hid (wr.ownsRow 0 3 1 u7 fl (iRow (firstsN l bs k))) := by rw [HFL.out]; exact HK.out.row
      clear hs hbk hfl2
      cases b with
      | false =>
        go_wp2_with fail
        go_roundw
        case rel => exact ⟨k + 1, by omega, by first | rfl | go_num, keepH ((HK.out.quiet (Chg.refl _ _)).skip (fun hf => by have := hf.1; rw [HLB.out] at this; simp at this))⟩
        case measure => simp [intOf]; omega
      | true =>
        have HFI := keepH (first_iff m hml HLO.out HS.out (i := k) (by omega) HLB.out)
        cases hso : so with
        | none =>
          rw [hso] at HS HFI
          clear hso
          rw [oI_none]
          have nk : ((k : Int) == -1) = false := by simp
          have nk2 : ¬ (k : Int) = -1 := by omega
          have HRV : Hid (rivalN none se k = none) := rival_none se k
          have HYES : Hid (FirstP l bs k) := HFI.out.2 (fun r e => by rw [HRV.out] at e; simp at e)
          go_upto_region 11 with fail
          obtain ⟨wz, hwz⟩ : ∃ wz, wz = wr := ⟨_, rfl⟩
          go_cut [26, 51] from 26 to 56 (fun s26 s51 wy => s26 = .int .i64 (k : Int) ∧ s51 = .bool true ∧ Hid (Chg (fun _ => False) wr wy))
          case first =>
            go_quiet (fail)
            go_wp2_with fail
            go_meet
            exact ⟨rfl, by first | rfl | trivial, ⟨rfl, rfl, rfl, Nat.le_refl _, fun _ _ _ => rfl⟩⟩
          case rest =>
            obtain ⟨rfl, rfl, HCZ⟩ := hcut
            have HRZ : Hid (wc.ownsRow 0 3 1 u7 fl (iRow (firstsN l bs k))) := row_kept HRW.out fun b hb => HCZ.out.block b (row_lt HRW.out b hb) (fun x => x)
            clear c0 c1 c2 c3 e0
            have hi := HI.out
            go_wp2_with (first | (at_builtin; refine wpList_append_own_at _ rfl (.tmp 52) (.tmp 54) 27 rfl 0 3 i0 (.int .i64 0) 1 8 Try.underlying27 hi hz0 hz1 hz2 rfl (by decide) u7 fl (iRow (firstsN l bs k)) rfl (HRZ.out.alloc _) ⟨wc.heap.size, 0, none⟩ 1 1 [.int .i64 (k : Int)] rfl rfl (cells_new _ _ rfl _ _) (by intro u hu; simp at hu; subst hu; rfl) (by unfold maxLen; omega) (by omega) (Nat.zero_le _) ?_; intro v2 w2 r1 r2 r3 r4; have R1 := keepH r1; have R2 := keepH r2; have R4 := keepH r4; clear r1 r2 r3 r4) | go_in)
            go_roundw
            case rel => exact ⟨k + 1, by omega, by first | rfl | go_num, keepH ((HK.out.quiet HCZ.out).more (HYES.out) (by rw [← HFL.out]; exact R1.out) R2.out R4.out)⟩
            case measure => simp [intOf]; omega
        | some x =>
          rw [hso] at HS HFI
          clear hso
          rw [oI_some]
          by_cases hxk : x = k
          · have hkx : k = x := hxk.symm
            subst hkx
            clear hxk
            cases hse : se with
            | none =>
              rw [hse] at HS HFI
              clear hse
              rw [oI_none]
              have HRV : Hid (rivalN (some k) none k = none) := rival_same
              have HYES : Hid (FirstP l bs k) := HFI.out.2 (fun r e => by rw [HRV.out] at e; simp at e)
              go_upto_region 11 with fail
              obtain ⟨wz, hwz⟩ : ∃ wz, wz = wr := ⟨_, rfl⟩
              go_cut [26, 51] from 26 to 56 (fun s26 s51 wy => s26 = .int .i64 (k : Int) ∧ s51 = .bool true ∧ Hid (Chg (fun _ => False) wr wy))
              case first =>
                go_quiet (fail)
                go_wp2_with fail
                go_meet
                exact ⟨rfl, by first | rfl | trivial, ⟨rfl, rfl, rfl, Nat.le_refl _, fun _ _ _ => rfl⟩⟩
              case rest =>
                obtain ⟨rfl, rfl, HCZ⟩ := hcut
                have HRZ : Hid (wc.ownsRow 0 3 1 u7 fl (iRow (firstsN l bs k))) := row_kept HRW.out fun b hb => HCZ.out.block b (row_lt HRW.out b hb) (fun x => x)
                clear c0 c1 c2 c3 e0
                have hi := HI.out
                go_wp2_with (first | (at_builtin; refine wpList_append_own_at _ rfl (.tmp 52) (.tmp 54) 27 rfl 0 3 i0 (.int .i64 0) 1 8 Try.underlying27 hi hz0 hz1 hz2 rfl (by decide) u7 fl (iRow (firstsN l bs k)) rfl (HRZ.out.alloc _) ⟨wc.heap.size, 0, none⟩ 1 1 [.int .i64 (k : Int)] rfl rfl (cells_new _ _ rfl _ _) (by intro u hu; simp at hu; subst hu; rfl) (by unfold maxLen; omega) (by omega) (Nat.zero_le _) ?_; intro v2 w2 r1 r2 r3 r4; have R1 := keepH r1; have R2 := keepH r2; have R4 := keepH r4; clear r1 r2 r3 r4) | go_in)
                go_roundw
                case rel => exact ⟨k + 1, by omega, by first | rfl | go_num, keepH ((HK.out.quiet HCZ.out).more (HYES.out) (by rw [← HFL.out]; exact R1.out) R2.out R4.out)⟩
                case measure => simp [intOf]; omega
            | some y =>
              rw [hse] at HS HFI
              clear hse
              rw [oI_some]
              obtain ⟨_, _, _, hyk, hxc, _⟩ := HS.out.is2 y rfl
              obtain ⟨ty, ht, _⟩ := hxc.2
              have hxl := (List.getElem?_eq_some_iff.1 ht).1
              have t3 : (y : Int) < (l.length : Int) := by omega
              have dx : decide ((y : Int) < 0) = false := by simp
              have HTy := keepH ht
              obtain ⟨bk2, off2, hbo, _, f0, f1, f2, f3⟩ := HPX.out.get y ty ht
              simp only [Option.some.injEq, Addr.mk.injEq, and_true] at hbo
              obtain ⟨rfl, rfl⟩ := hbo
              clear hxc ht hxl
              have HRV : Hid (rivalN (some k) (some y) k = some y) := rival_same
              obtain ⟨ab, hab⟩ : ∃ ab, aheadB ty s = ab := ⟨_, rfl⟩
              have HAB := keepH hab
              clear hab
              have HAT : Hid (aheadAt l y k = ab) := by rw [← HAB.out]; exact aheadAt_of HTy.out HX.out
              go_upto_region 11 with fail
              go_cut [26, 51] from 26 to 56 (fun s26 s51 wy => s26 = .int .i64 (k : Int) ∧ s51 = .bool (!ab) ∧ Hid (Chg (fun _ => False) wr wy))
              case first =>
                refine wp_region_any (by kernel_rfl) ?_
                change wpAny _ _ _ _ _ _ _ (World.drew _)
                refine wpAny_take (i := 0) (v := ?_) rfl (by kernel_rfl) (by kernel_rfl) (by kernel_rfl) (fun _ _ _ h => h) (Or.inl ⟨by kernel_rfl, ?_⟩) ?_
                rotate_left
                · intro w
                  go_simp
                  try with_reducible rfl
                refine wpAny_take (i := 1) (v := .bool false) rfl (by kernel_rfl) (by kernel_rfl) (by kernel_rfl) (fun _ _ _ h => h) (Or.inl ⟨by kernel_rfl, ?_⟩) ?_
                · intro w
                  go_simp
                  all_goals (first | assumption | omega | (simp; omega))
                refine wpAny_take (i := 2) (v := ?_) rfl (by kernel_rfl) (by kernel_rfl) (by kernel_rfl) (fun _ _ _ h => h) (Or.inl ⟨by kernel_rfl, ?_⟩) ?_
                rotate_left
                · intro w
                  go_simp
                  try with_reducible rfl
                refine wpAny_take (i := 3) (v := ?_) rfl (by kernel_rfl) (by kernel_rfl) (by kernel_rfl) (fun _ _ _ h => h) (Or.inl ⟨by kernel_rfl, ?_⟩) ?_
                rotate_left
                · intro w
                  go_simp
                  try with_reducible rfl
                refine wpAny_take (i := 4) (v := ?_) rfl (by kernel_rfl) (by kernel_rfl) (by kernel_rfl) (fun _ _ _ h => h) (Or.inl ⟨by kernel_rfl, ?_⟩) ?_
                rotate_left
                · intro w
                  go_simp
                  try with_reducible rfl
                refine wpAny_take (i := 5) (v := ?_) rfl (by kernel_rfl) (by kernel_rfl) (by kernel_rfl) (fun _ _ _ h => h) (Or.inl ⟨by kernel_rfl, ?_⟩) ?_
                rotate_left
                · intro w
                  go_simp
                  try with_reducible rfl
                refine wpAny_take (i := 7) (v := ?_) rfl (by kernel_rfl) (by kernel_rfl) (by kernel_rfl) (fun _ _ _ h => h) (Or.inl ⟨by kernel_rfl, ?_⟩) ?_
                rotate_left
                · intro w
                  go_simp
                  try with_reducible rfl
                refine wpAny_take (i := 8) (v := ?_) rfl (by kernel_rfl) (by kernel_rfl) (by kernel_rfl) (fun _ _ _ h => h) (Or.inl ⟨by kernel_rfl, ?_⟩) ?_
                rotate_left
                · intro w
                  go_simp
                  try with_reducible rfl
                refine wpAny_take (i := 9) (v := ?_) rfl (by kernel_rfl) (by kernel_rfl) (by kernel_rfl) (fun _ _ _ h => h) (Or.inl ⟨by kernel_rfl, ?_⟩) ?_
                rotate_left
                · intro w
                  go_simp
                  try with_reducible rfl
                refine wpAny_ready (rs := [6, 10]) (by kernel_rfl) (by simp) ?_
                refine AllReady.cons rfl (fun K hK => ?_) ?_
                · go_simp
                  refine hK _ _ ?_
                  clear hK K
                  refine wpAny_ready (rs := [10]) (by kernel_rfl) (by simp) ?_
                  refine AllReady.cons rfl (fun K hK => ?_) AllReady.nil
                  go_simp
                  refine hK _ _ ?_
                  clear hK K
                  refine wpAny_ready (rs := [11]) (by kernel_rfl) (by simp) ?_
                  refine AllReady.cons rfl (fun K hK => ?_) AllReady.nil
                  go_simp
                  go_wp2_with (go_at_call 24; refine (h_ahead_b HAB.out _).mono ?_; rintro e w1 ⟨rfl, C1⟩; have HC2 : Hid (Chg (fun _ => False) wr w1) := ⟨C1.os, C1.tape, C1.output, C1.size, C1.block⟩; clear C1)
                  refine wpAny_take (i := 12) (v := ?_) rfl (by kernel_rfl) (by kernel_rfl) (by kernel_rfl) (fun _ _ _ h => h) (Or.inl ⟨by kernel_rfl, ?_⟩) ?_
                  rotate_left
                  · intro w
                    go_simp
                    try with_reducible rfl
                  refine wpAny_take (i := 13) (v := ?_) rfl (by kernel_rfl) (by kernel_rfl) (by kernel_rfl) (fun _ _ _ h => h) (Or.inl ⟨by kernel_rfl, ?_⟩) ?_
                  rotate_left
                  · intro w
                    go_simp
                    try with_reducible rfl
                  refine wpAny_done (by kernel_rfl) ?_ _
                  go_simp
                  go_wp2_with fail
                  go_meet
                  exact ⟨rfl, by first | rfl | trivial | simp, HC2⟩
                refine AllReady.cons rfl (fun K hK => ?_) AllReady.nil
                · go_simp
                  refine hK _ _ ?_
                  clear hK K
                  refine wpAny_ready (rs := [6]) (by kernel_rfl) (by simp) ?_
                  refine AllReady.cons rfl (fun K hK => ?_) AllReady.nil
                  go_simp
                  refine hK _ _ ?_
                  clear hK K
                  refine wpAny_ready (rs := [11]) (by kernel_rfl) (by simp) ?_
                  refine AllReady.cons rfl (fun K hK => ?_) AllReady.nil
                  go_simp
                  go_wp2_with (go_at_call 24; refine (h_ahead_b HAB.out _).mono ?_; rintro e w1 ⟨rfl, C1⟩; have HC2 : Hid (Chg (fun _ => False) wr w1) := ⟨C1.os, C1.tape, C1.output, C1.size, C1.block⟩; clear C1)
                  refine wpAny_take (i := 12) (v := ?_) rfl (by kernel_rfl) (by kernel_rfl) (by kernel_rfl) (fun _ _ _ h => h) (Or.inl ⟨by kernel_rfl, ?_⟩) ?_
                  rotate_left
                  · intro w
                    go_simp
                    try with_reducible rfl
                  refine wpAny_take (i := 13) (v := ?_) rfl (by kernel_rfl) (by kernel_rfl) (by kernel_rfl) (fun _ _ _ h => h) (Or.inl ⟨by kernel_rfl, ?_⟩) ?_
                  rotate_left
                  · intro w
                    go_simp
                    try with_reducible rfl
                  refine wpAny_done (by kernel_rfl) ?_ _
                  go_simp
                  go_wp2_with fail
                  go_meet
                  exact ⟨rfl, by first | rfl | trivial | simp, HC2⟩
              case rest =>
                obtain ⟨rfl, rfl, HCZ⟩ := hcut
                have HRZ : Hid (wc.ownsRow 0 3 1 u7 fl (iRow (firstsN l bs k))) := row_kept HRW.out fun b hb => HCZ.out.block b (row_lt HRW.out b hb) (fun x => x)
                clear c0 c1 c2 c3 e0 f0 f1 f2 f3
                cases ab with
                | true =>
                  go_wp2_with fail
                  go_roundw
                  case rel => exact ⟨k + 1, by omega, by first | rfl | go_num, keepH ((HK.out.quiet (HCZ.out)).skip (fun hf => by have := HFI.out.1 hf y HRV.out; rw [HAT.out] at this; simp at this))⟩
                  case measure => simp [intOf]; omega
                | false =>
                  have hi := HI.out
                  go_wp2_with (first | (at_builtin; refine wpList_append_own_at _ rfl (.tmp 52) (.tmp 54) 27 rfl 0 3 i0 (.int .i64 0) 1 8 Try.underlying27 hi hz0 hz1 hz2 rfl (by decide) u7 fl (iRow (firstsN l bs k)) rfl (HRZ.out.alloc _) ⟨wc.heap.size, 0, none⟩ 1 1 [.int .i64 (k : Int)] rfl rfl (cells_new _ _ rfl _ _) (by intro u hu; simp at hu; subst hu; rfl) (by unfold maxLen; omega) (by omega) (Nat.zero_le _) ?_; intro v2 w2 r1 r2 r3 r4; have R1 := keepH r1; have R2 := keepH r2; have R4 := keepH r4; clear r1 r2 r3 r4) | go_in)
                  go_roundw
                  case rel => exact ⟨k + 1, by omega, by first | rfl | go_num, keepH ((HK.out.quiet HCZ.out).more (HFI.out.2 (fun r e => by rw [HRV.out] at e; simp at e; subst e; exact HAT.out)) (by rw [← HFL.out]; exact R1.out) R2.out R4.out)⟩
                  case measure => simp [intOf]; omega
          · have nk : ((k : Int) == (x : Int)) = false := by simp; omega
            have nk2 : ¬ (k : Int) = (x : Int) := by omega
            have nk3 : ¬ k = x := fun e => hxk e.symm
            obtain ⟨_, hxc, _⟩ := HS.out.is1 x rfl
            obtain ⟨tx, ht, _⟩ := hxc.2
            have hxl := (List.getElem?_eq_some_iff.1 ht).1
            have t3 : (x : Int) < (l.length : Int) := by omega
            have dx : decide ((x : Int) < 0) = false := by simp
            have HTx := keepH ht
            obtain ⟨bk2, off2, hbo, _, f0, f1, f2, f3⟩ := HPX.out.get x tx ht
            simp only [Option.some.injEq, Addr.mk.injEq, and_true] at hbo
            obtain ⟨rfl, rfl⟩ := hbo
            clear hxc ht hxl
            have HRV : Hid (rivalN (some x) se k = some x) := rival_other hxk
            obtain ⟨ab, hab⟩ : ∃ ab, aheadB tx s = ab := ⟨_, rfl⟩
            have HAB := keepH hab
            clear hab
            have HAT : Hid (aheadAt l x k = ab) := by rw [← HAB.out]; exact aheadAt_of HTx.out HX.out
            go_upto_region 11 with fail
            go_cut [26, 51] from 26 to 56 (fun s26 s51 wy => s26 = .int .i64 (k : Int) ∧ s51 = .bool (!ab) ∧ Hid (Chg (fun _ => False) wr wy))
            case first =>
              refine wp_region_any (by kernel_rfl) ?_
              change wpAny _ _ _ _ _ _ _ (World.drew _)
              refine wpAny_take (i := 0) (v := ?_) rfl (by kernel_rfl) (by kernel_rfl) (by kernel_rfl) (fun _ _ _ h => h) (Or.inl ⟨by kernel_rfl, ?_⟩) ?_
              rotate_left
              · intro w
                go_simp
                try with_reducible rfl
              refine wpAny_take (i := 1) (v := .bool false) rfl (by kernel_rfl) (by kernel_rfl) (by kernel_rfl) (fun _ _ _ h => h) (Or.inl ⟨by kernel_rfl, ?_⟩) ?_
              · intro w
                go_simp
                all_goals (first | assumption | omega | (simp; omega))
              refine wpAny_take (i := 2) (v := ?_) rfl (by kernel_rfl) (by kernel_rfl) (by kernel_rfl) (fun _ _ _ h => h) (Or.inl ⟨by kernel_rfl, ?_⟩) ?_
              rotate_left
              · intro w
                go_simp
                try with_reducible rfl
              refine wpAny_take (i := 3) (v := ?_) rfl (by kernel_rfl) (by kernel_rfl) (by kernel_rfl) (fun _ _ _ h => h) (Or.inl ⟨by kernel_rfl, ?_⟩) ?_
              rotate_left
              · intro w
                go_simp
                try with_reducible rfl
              refine wpAny_take (i := 4) (v := ?_) rfl (by kernel_rfl) (by kernel_rfl) (by kernel_rfl) (fun _ _ _ h => h) (Or.inl ⟨by kernel_rfl, ?_⟩) ?_
              rotate_left
              · intro w
                go_simp
                try with_reducible rfl
              refine wpAny_take (i := 5) (v := ?_) rfl (by kernel_rfl) (by kernel_rfl) (by kernel_rfl) (fun _ _ _ h => h) (Or.inl ⟨by kernel_rfl, ?_⟩) ?_
              rotate_left
              · intro w
                go_simp
                try with_reducible rfl
              refine wpAny_take (i := 7) (v := ?_) rfl (by kernel_rfl) (by kernel_rfl) (by kernel_rfl) (fun _ _ _ h => h) (Or.inl ⟨by kernel_rfl, ?_⟩) ?_
              rotate_left
              · intro w
                go_simp
                try with_reducible rfl
              refine wpAny_take (i := 8) (v := ?_) rfl (by kernel_rfl) (by kernel_rfl) (by kernel_rfl) (fun _ _ _ h => h) (Or.inl ⟨by kernel_rfl, ?_⟩) ?_
              rotate_left
              · intro w
                go_simp
                try with_reducible rfl
              refine wpAny_take (i := 9) (v := ?_) rfl (by kernel_rfl) (by kernel_rfl) (by kernel_rfl) (fun _ _ _ h => h) (Or.inl ⟨by kernel_rfl, ?_⟩) ?_
              rotate_left
              · intro w
                go_simp
                try with_reducible rfl
              refine wpAny_ready (rs := [6, 10]) (by kernel_rfl) (by simp) ?_
              refine AllReady.cons rfl (fun K hK => ?_) ?_
              · go_simp
                refine hK _ _ ?_
                clear hK K
                refine wpAny_ready (rs := [10]) (by kernel_rfl) (by simp) ?_
                refine AllReady.cons rfl (fun K hK => ?_) AllReady.nil
                go_simp
                refine hK _ _ ?_
                clear hK K
                refine wpAny_ready (rs := [11]) (by kernel_rfl) (by simp) ?_
                refine AllReady.cons rfl (fun K hK => ?_) AllReady.nil
                go_simp
                go_wp2_with (go_at_call 24; refine (h_ahead_b HAB.out _).mono ?_; rintro e w1 ⟨rfl, C1⟩; have HC2 : Hid (Chg (fun _ => False) wr w1) := ⟨C1.os, C1.tape, C1.output, C1.size, C1.block⟩; clear C1)
                refine wpAny_take (i := 12) (v := ?_) rfl (by kernel_rfl) (by kernel_rfl) (by kernel_rfl) (fun _ _ _ h => h) (Or.inl ⟨by kernel_rfl, ?_⟩) ?_
                rotate_left
                · intro w
                  go_simp
                  try with_reducible rfl
                refine wpAny_take (i := 13) (v := ?_) rfl (by kernel_rfl) (by kernel_rfl) (by kernel_rfl) (fun _ _ _ h => h) (Or.inl ⟨by kernel_rfl, ?_⟩) ?_
                rotate_left
                · intro w
                  go_simp
                  try with_reducible rfl
                refine wpAny_done (by kernel_rfl) ?_ _
                go_simp
                go_wp2_with fail
                go_meet
                exact ⟨rfl, by first | rfl | trivial | simp, HC2⟩
              refine AllReady.cons rfl (fun K hK => ?_) AllReady.nil
              · go_simp
                refine hK _ _ ?_
                clear hK K
                refine wpAny_ready (rs := [6]) (by kernel_rfl) (by simp) ?_
                refine AllReady.cons rfl (fun K hK => ?_) AllReady.nil
                go_simp
                refine hK _ _ ?_
                clear hK K
                refine wpAny_ready (rs := [11]) (by kernel_rfl) (by simp) ?_
                refine AllReady.cons rfl (fun K hK => ?_) AllReady.nil
                go_simp
                go_wp2_with (go_at_call 24; refine (h_ahead_b HAB.out _).mono ?_; rintro e w1 ⟨rfl, C1⟩; have HC2 : Hid (Chg (fun _ => False) wr w1) := ⟨C1.os, C1.tape, C1.output, C1.size, C1.block⟩; clear C1)
                refine wpAny_take (i := 12) (v := ?_) rfl (by kernel_rfl) (by kernel_rfl) (by kernel_rfl) (fun _ _ _ h => h) (Or.inl ⟨by kernel_rfl, ?_⟩) ?_
                rotate_left
                · intro w
                  go_simp
                  try with_reducible rfl
                refine wpAny_take (i := 13) (v := ?_) rfl (by kernel_rfl) (by kernel_rfl) (by kernel_rfl) (fun _ _ _ h => h) (Or.inl ⟨by kernel_rfl, ?_⟩) ?_
                rotate_left
                · intro w
                  go_simp
                  try with_reducible rfl
                refine wpAny_done (by kernel_rfl) ?_ _
                go_simp
                go_wp2_with fail
                go_meet
                exact ⟨rfl, by first | rfl | trivial | simp, HC2⟩
            case rest =>
              obtain ⟨rfl, rfl, HCZ⟩ := hcut
              have HRZ : Hid (wc.ownsRow 0 3 1 u7 fl (iRow (firstsN l bs k))) := row_kept HRW.out fun b hb => HCZ.out.block b (row_lt HRW.out b hb) (fun x => x)
              clear c0 c1 c2 c3 e0 f0 f1 f2 f3
              cases ab with
              | true =>
                go_wp2_with fail
                go_roundw
                case rel => exact ⟨k + 1, by omega, by first | rfl | go_num, keepH ((HK.out.quiet (HCZ.out)).skip (fun hf => by have := HFI.out.1 hf x HRV.out; rw [HAT.out] at this; simp at this))⟩
                case measure => simp [intOf]; omega
              | false =>
                have hi := HI.out
                go_wp2_with (first | (at_builtin; refine wpList_append_own_at _ rfl (.tmp 52) (.tmp 54) 27 rfl 0 3 i0 (.int .i64 0) 1 8 Try.underlying27 hi hz0 hz1 hz2 rfl (by decide) u7 fl (iRow (firstsN l bs k)) rfl (HRZ.out.alloc _) ⟨wc.heap.size, 0, none⟩ 1 1 [.int .i64 (k : Int)] rfl rfl (cells_new _ _ rfl _ _) (by intro u hu; simp at hu; subst hu; rfl) (by unfold maxLen; omega) (by omega) (Nat.zero_le _) ?_; intro v2 w2 r1 r2 r3 r4; have R1 := keepH r1; have R2 := keepH r2; have R4 := keepH r4; clear r1 r2 r3 r4) | go_in)
                go_roundw
                case rel => exact ⟨k + 1, by omega, by first | rfl | go_num, keepH ((HK.out.quiet HCZ.out).more (HFI.out.2 (fun r e => by rw [HRV.out] at e; simp at e; subst e; exact HAT.out)) (by rw [← HFL.out]; exact R1.out) R2.out R4.out)⟩
                case measure => simp [intOf]; omega
    · obtain rfl : k = m := by omega
      have t1 : ¬ (k : Int) < (k : Int) := by omega
      go_wp2_with fail
      go_ret
      exact ⟨u7, by simp, by rw [HPE.out]; exact HK.out.row, HK.out.new, HK.out.chg⟩
end Go.Proofs.Ytmdeodijcmeflab
