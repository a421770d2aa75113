/- The reader's sum. -/
import Derived.Test.YtbmfjcdafjknaabEP
import Derived.Laws.BytesArg
import Derived.Lib.Bytes
namespace Go.Proofs.Ytbmfjcdafjknaab
open Go.RowKit Go.Joins Go.ChangeShapes Go.WideShapes
set_option linter.unusedVariables false

theorem bytes_str {xs ys : List Nat} (hx : small8 xs) (hy : small8 ys) : Lib.bytesOf (xs.map (fun n : Nat => (n : Int))) = Lib.bytesOf (ys.map (fun n : Nat => (n : Int))) ↔ xs = ys := by
  constructor
  · intro h
    unfold Lib.bytesOf at h
    rw [List.map_map, List.map_map] at h
    induction xs generalizing ys with
    | nil => cases ys with
      | nil => rfl
      | cons b t => simp at h
    | cons a s ih => cases ys with
      | nil => simp at h
      | cons b t =>
        simp only [List.map_cons, List.cons.injEq, Function.comp_apply, Int.toNat_natCast] at h
        have ha := hx a (by simp)
        have hb := hy b (by simp)
        have e : a = b := by
          have := congrArg UInt8.toNat h.1
          simp [UInt8.toNat_ofNat'] at this
          omega
        rw [e, ih (fun x h => hx x (by simp [h])) (fun x h => hy x (by simp [h])) h.2]
  · intro h; rw [h]
theorem conv_bytes {W : World} {bk off n c : Nat} {xs : List Nat} (H : BytesAt W (some ⟨bk, off, none⟩) xs) (h0 : xs ≠ []) : (convert 23 9 (.slice (some ⟨bk, off, none⟩) xs.length c)).run Try.prog W = .ok (.string (strOfNums (xs.map (fun n : Nat => (n : Int))))) W := by
  refine run_convert_bytes_arg (P := Try.prog) W 23 5 Try.underlying23 (by kernel_rfl) bk off xs.length c _ (by simp) (fun i hi => ?_) 9 (by kernel_rfl)
  obtain ⟨b, o, e, _, hc⟩ := H.resolve_left h0
  injection e with e
  injection e with e1 e2
  subst e1 e2
  rw [(hc i xs[i] (List.getElem?_eq_getElem hi)).2]
  simp [List.getD_eq_getElem?_getD, List.getElem?_eq_getElem hi]
set_option maxRecDepth 100000 in
theorem bytes_eq {W : World} {pa pb : Option Addr} {xs ys : List Nat} (HA : BytesAt W pa xs) (HB : BytesAt W pb ys) (ca cb : Nat) (ha : xs ≠ []) (hb : ys ≠ []) :
    Calls Try.prog 55 #[.slice pa xs.length ca, .slice pb ys.length cb] W fun e W' => e = .returned (.bool (decide (xs = ys))) ∧ W' = W := by
  obtain ⟨b1, o1, rfl, _, _⟩ := id (HA.resolve_left ha)
  obtain ⟨b2, o2, rfl, _, _⟩ := id (HB.resolve_left hb)
  have h1 := conv_bytes (n := 0) (c := ca) HA ha
  have h2 := conv_bytes (n := 0) (c := cb) HB hb
  have hs := bytes_str HA.small HB.small
  have HD : Hid (((strOfNums (xs.map (fun n : Nat => (n : Int)))).toList == (strOfNums (ys.map (fun n : Nat => (n : Int)))).toList) = decide (xs = ys)) := keepH (by
    rw [Lib.strOfNums_toList, Lib.strOfNums_toList]
    by_cases h : xs = ys
    · subst h; simp
    · rw [decide_eq_false h]
      rw [beq_eq_false_iff_ne]
      exact fun e => h (hs.1 e))
  clear HA HB hs ha hb
  go_enter Try.func55, Try.ntmps55
  go_wp2_with fail
  go_ret
  exact ⟨congrArg (fun b => Ending.returned (Value.bool b)) HD.out, rfl⟩
theorem cut_from (p : Option Addr) (n c i : Nat) (h : i ≤ n) : ∀ w, (Instr.slice 23 (.slice p n c) (some (.int .i64 (i : Int))) none none).run Try.prog w = .ok (.slice (if c = i then p else p.map (·.add i)) (n - i) (c - i)) w := fun w => by
  obtain ⟨i0, hi, hz0, hz1, hz2⟩ := info_parts infoU8
  have hb := run_sliceBound (P := Try.prog) (w := w) .i64 (i : Int) n .sliceB (by omega) (by omega)
  simp [Instr.slice, run_underlying Try.underlying23, Instr.sliceBounds, Result.andThen, hb, sizeOf, typeInfo, hi, hz1]
theorem cut_to (p : Option Addr) (n c i : Nat) (h : i ≤ c) : ∀ w, (Instr.slice 23 (.slice p n c) none (some (.int .i64 (i : Int))) none).run Try.prog w = .ok (.slice p i c) w := fun w => by
  obtain ⟨i0, hi, hz0, hz1, hz2⟩ := info_parts infoU8
  have hb := run_sliceBound (P := Try.prog) (w := w) .i64 (i : Int) c .sliceAcap (by omega) (by omega)
  simp [Instr.slice, run_underlying Try.underlying23, Instr.sliceBounds, Result.andThen, hb, sizeOf, typeInfo, hi]
  cases p <;> simp [Addr.add]
theorem BytesAt.take {W : World} {p : Option Addr} {l : List Nat} (h : BytesAt W p l) (i : Nat) : BytesAt W p (l.take i) := by
  rcases h with rfl | ⟨bk, off, rfl, hb, h⟩
  · exact .inl (by simp)
  · refine .inr ⟨bk, off, rfl, hb, fun j k hj => h j k ?_⟩
    rw [List.getElem?_take] at hj
    split at hj
    · exact hj
    · cases hj
theorem BytesAt.drop {W : World} {bk off : Nat} {l : List Nat} (h : BytesAt W (some ⟨bk, off, none⟩) l) (i : Nat) : BytesAt W (some ⟨bk, off + i, none⟩) (l.drop i) := by
  rcases h with rfl | ⟨bk', off', e, hb, h⟩
  · exact .inl (by simp)
  · injection e with e
    injection e with e1 e2
    subst e1 e2
    refine .inr ⟨bk, off + i, rfl, hb, fun j k hj => ?_⟩
    rw [List.getElem?_drop] at hj
    have := h _ k hj
    rw [← Nat.add_assoc] at this
    exact this
set_option maxRecDepth 100000 in
set_option maxHeartbeats 4000000 in
theorem rd_sum {W : World} {R : Nat} {p : Option Addr} {bs : List Nat} {c i : Nat} (H : Rd W R p bs c i) (hc : bs.length ≤ c ∧ c ≤ 9223372036854775807) (hp : ∀ b o, pB bs p = some ⟨b, o, none⟩ → b < W.heap.size) :
    Calls Try.prog 47 #[.pointer (some ⟨R, 0, none⟩)] W fun e W' => e = .returned (.int .i64 ((rdS bs i).1 : Int)) ∧ Rd W' R p bs c (rdS bs i).2 ∧ Chg (fun j => j = R) W W' := by
  have c0 := H.c0
  have c1 := H.c1
  have f1 := H.free
  have HH := keepH H
  have hn := H.hn
  have hi := H.hi
  have hcut := cut_from p bs.length c i hi
  clear H
  by_cases h4 : bs.length - i < 4
  · have HS : Hid (rdS bs i = (270, bs.length)) := keepH (by unfold rdS; rw [if_pos h4])
    have q4 : ((bs.length - i : Nat) : Int) < 4 := by omega
    obtain ⟨m, hm⟩ : ∃ m, m = bs.length - i := ⟨_, rfl⟩
    rw [← hm] at hcut q4
    obtain ⟨pp, hpp⟩ : ∃ pp, pp = (if c = i then p else p.map (·.add i)) := ⟨_, rfl⟩
    rw [← hpp] at hcut
    clear h4 hm hpp
    go_enter Try.func47, Try.ntmps47
    go_wp2_with fail
    go_quiet (fail)
    go_wp2_with fail
    go_ret
    rw [HS.out]
    exact ⟨rfl, HH.out.set (by repeat' (first | refine Chg.setCell ?_ (fun h => absurd h (Nat.lt_irrefl _)) _ | refine Chg.alloc ?_ _ | refine chg_drewL ?_ _ | refine Chg.drew ?_ | exact Chg.refl _ _)) bs.length (Nat.le_refl _)⟩
  · have hne : bs ≠ [] := by intro e; rw [e] at h4; simp at h4
    obtain ⟨bk, off, rfl, hbk, hcs⟩ := id (HH.out.hb.resolve_left hne)
    have hci : ¬ c = i := by omega
    rw [if_neg hci] at hcut
    have e1 : (Option.map (fun x : Addr => x.add i) (some ⟨bk, off, none⟩)) = some ⟨bk, off + i, none⟩ := by simp [Addr.add]
    rw [e1] at hcut
    have hcut4 : ∀ w, (Instr.slice 23 (.slice (some ⟨bk, off + i, none⟩) (bs.length - i) (c - i)) none (some (.int .i64 4)) none).run Try.prog w = .ok (.slice (some ⟨bk, off + i, none⟩) 4 (c - i)) w := cut_to (some ⟨bk, off + i, none⟩) (bs.length - i) (c - i) 4 (by omega)
    have hcuti := cut_to (some ⟨bk, off, none⟩) bs.length c i (by omega)
    have q4 : ¬ ((bs.length - i : Nat) : Int) < 4 := by omega
    have l4 : ((bs.drop i).take 4).length = 4 := by simp; omega
    have li : (bs.take i).length = i := by simp; omega
    obtain ⟨wX, hwX⟩ : ∃ wX, wX = W := ⟨_, rfl⟩
    have HSum : Hid (∀ X, Chg (fun _ => False) W X → Calls Try.prog 17 #[.slice (some ⟨bk, off, none⟩) i c] X fun e W' => e = .returned (.int .u32 (sumF (bs.take i) : Int)) ∧ W' = X) := keepH (fun X h => by
      have := sum_of ((HH.out.hb.chg h (fun _ _ _ x => x)).take i) c (by rw [li]; omega)
      rw [li] at this
      exact this)
    have HApp : Hid (∀ X : World, Calls Try.prog 16 #[.slice none 0 0, .int .u32 (sumF (bs.take i) : Int)] X fun e W' => (∃ v', e = .returned v' ∧ BRow W' X.heap.size v' (sum4 (sumF (bs.take i)))) ∧ Chg (fun k => X.heap.size ≤ k) X W') := keepH (fun X => by
      have := app_sum (W := X) (B := X.heap.size) (v := .slice none 0 0) (l := []) ⟨⟨rfl, .inl ⟨rfl, rfl⟩⟩, fun x h => by simp at h⟩ (sumF (bs.take i)) (sumF_lt _) (by simp) (Nat.le_refl _)
      simpa using this)
    have HEq : Hid (∀ X, Chg (fun _ => False) W X → ∀ p3 c3, BytesAt X p3 (sum4 (sumF (bs.take i))) → Calls Try.prog 55 #[.slice (some ⟨bk, off + i, none⟩) 4 (c - i), .slice p3 4 c3] X fun e W' => e = .returned (.bool (decide ((bs.drop i).take 4 = sum4 (sumF (bs.take i))))) ∧ W' = X) := keepH (fun X h p3 c3 h3 => by
      have := bytes_eq (((HH.out.hb.chg h (fun _ _ _ x => x)).drop i).take 4) h3 (c - i) c3 (by intro e; rw [e] at l4; simp at l4) (by simp [sum4])
      rw [l4] at this
      exact this)
    obtain ⟨s, hs⟩ : ∃ s, s = sumF (bs.take i) := ⟨_, rfl⟩
    have HSV : Hid (rdS bs i = if (bs.drop i).take 4 = sum4 s then (0, i + 4) else (271, i)) := keepH (by unfold rdS; rw [if_neg h4, hs])
    have h4' : i + 4 ≤ bs.length := by omega
    rw [← hs] at HSum HApp HEq
    obtain ⟨tb, htb⟩ : ∃ tb, tb = decide ((bs.drop i).take 4 = sum4 s) := ⟨_, rfl⟩
    rw [← htb] at HEq
    have HTB := keepH htb
    obtain ⟨m, hm⟩ : ∃ m, m = bs.length - i := ⟨_, rfl⟩
    obtain ⟨ci, hci2⟩ : ∃ ci, ci = c - i := ⟨_, rfl⟩
    rw [← hm, ← hci2] at hcut hcut4
    rw [← hm] at q4
    rw [← hci2] at HEq
    clear hs htb hm hci2 hcs l4 li e1 hci h4 hwX
    cases tb
    · have HSR : Hid (rdS bs i = (271, i)) := keepH (by rw [HSV.out, if_neg (of_decide_eq_false HTB.out.symm)])
      go_enter Try.func47, Try.ntmps47
      go_wp2_with fail
      go_quiet (fail)
      go_wp2_with fail
      refine wp_region_held_drew (S := fun w' => Chg (fun _ => False) W w') (by kernel_rfl) ((by repeat' (first | refine Chg.setCell ?_ (fun h => absurd h (Nat.lt_irrefl _)) _ | refine Chg.alloc ?_ _ | refine chg_drewL ?_ _ | refine Chg.drew ?_ | exact Chg.refl _ _))) ?_
      intro hHeld
      refine wpAnyH_take (i := 0) (v := ?_) rfl (by kernel_rfl) (by kernel_rfl) (by kernel_rfl) (fun _ _ _ h => h) (Or.inl ⟨by rfl, ?_⟩) hHeld ?_
      rotate_left
      · intro w hSw
        (try dsimp only at hSw)
        go_simp
        try with_reducible rfl
      (try simp only [Act.put]); (try simp only [List.setIfInBounds_toArray]); (repeat (first | simp only [List.set_cons_succ] | simp only [List.set_cons_zero]))
      refine wpAnyH_take (i := 1) (v := ?_) rfl (by kernel_rfl) (by kernel_rfl) (by kernel_rfl) (fun _ _ _ h => h) (Or.inl ⟨by rfl, ?_⟩) hHeld ?_
      rotate_left
      · intro w hSw
        (try dsimp only at hSw)
        go_simp
        try with_reducible rfl
      (try simp only [Act.put]); (try simp only [List.setIfInBounds_toArray]); (repeat (first | simp only [List.set_cons_succ] | simp only [List.set_cons_zero]))
      refine wpAnyH_take (i := 2) (v := ?_) rfl (by kernel_rfl) (by kernel_rfl) (by kernel_rfl) (fun _ _ _ h => h) (Or.inl ⟨by rfl, ?_⟩) hHeld ?_
      rotate_left
      · intro w hSw
        (try dsimp only at hSw)
        go_simp
        try with_reducible rfl
      (try simp only [Act.put]); (try simp only [List.setIfInBounds_toArray]); (repeat (first | simp only [List.set_cons_succ] | simp only [List.set_cons_zero]))
      refine wpAnyH_take (i := 3) (v := ?_) rfl (by kernel_rfl) (by kernel_rfl) (by kernel_rfl) (fun _ _ _ h => h) (Or.inl ⟨by rfl, ?_⟩) hHeld ?_
      rotate_left
      · intro w hSw
        (try dsimp only at hSw)
        go_simp
        try with_reducible rfl
      (try simp only [Act.put]); (try simp only [List.setIfInBounds_toArray]); (repeat (first | simp only [List.set_cons_succ] | simp only [List.set_cons_zero]))
      refine wpAnyH_take (i := 4) (v := ?_) rfl (by kernel_rfl) (by kernel_rfl) (by kernel_rfl) (fun _ _ _ h => h) (Or.inl ⟨by rfl, ?_⟩) hHeld ?_
      rotate_left
      · intro w hSw
        (try dsimp only at hSw)
        go_simp
        try with_reducible rfl
      (try simp only [Act.put]); (try simp only [List.setIfInBounds_toArray]); (repeat (first | simp only [List.set_cons_succ] | simp only [List.set_cons_zero]))
      refine wpAnyH_take (i := 5) (v := ?_) rfl (by kernel_rfl) (by kernel_rfl) (by kernel_rfl) (fun _ _ _ h => h) (Or.inl ⟨by rfl, ?_⟩) hHeld ?_
      rotate_left
      · intro w hSw
        (try dsimp only at hSw)
        have y0 := cell_chg hSw c0 (fun x => x)
        have y1 := cell_chg hSw c1 (fun x => x)
        clear hSw
        go_simp
        try with_reducible rfl
      (try simp only [Act.put]); (try simp only [List.setIfInBounds_toArray]); (repeat (first | simp only [List.set_cons_succ] | simp only [List.set_cons_zero]))
      refine wpAnyH_take (i := 6) (v := ?_) rfl (by kernel_rfl) (by kernel_rfl) (by kernel_rfl) (fun _ _ _ h => h) (Or.inl ⟨by rfl, ?_⟩) hHeld ?_
      rotate_left
      · intro w hSw
        (try dsimp only at hSw)
        go_simp
        try with_reducible rfl
      (try simp only [Act.put]); (try simp only [List.setIfInBounds_toArray]); (repeat (first | simp only [List.set_cons_succ] | simp only [List.set_cons_zero]))
      refine wpAnyH_take (i := 7) (v := ?_) rfl (by kernel_rfl) (by kernel_rfl) (by kernel_rfl) (fun _ _ _ h => h) (Or.inl ⟨by rfl, ?_⟩) hHeld ?_
      rotate_left
      · intro w hSw
        (try dsimp only at hSw)
        go_simp
        try with_reducible rfl
      (try simp only [Act.put]); (try simp only [List.setIfInBounds_toArray]); (repeat (first | simp only [List.set_cons_succ] | simp only [List.set_cons_zero]))
      refine wpAnyH_take (i := 8) (v := ?_) rfl (by kernel_rfl) (by kernel_rfl) (by kernel_rfl) (fun _ _ _ h => h) (Or.inl ⟨by rfl, ?_⟩) hHeld ?_
      rotate_left
      · intro w hSw
        (try dsimp only at hSw)
        go_simp
        try with_reducible rfl
      (try simp only [Act.put]); (try simp only [List.setIfInBounds_toArray]); (repeat (first | simp only [List.set_cons_succ] | simp only [List.set_cons_zero]))
      refine wpAnyH_take (i := 9) (v := ?_) rfl (by kernel_rfl) (by kernel_rfl) (by kernel_rfl) (fun _ _ _ h => h) (Or.inl ⟨by rfl, ?_⟩) hHeld ?_
      rotate_left
      · intro w hSw
        (try dsimp only at hSw)
        have y0 := cell_chg hSw c0 (fun x => x)
        have y1 := cell_chg hSw c1 (fun x => x)
        clear hSw
        go_simp
        try with_reducible rfl
      (try simp only [Act.put]); (try simp only [List.setIfInBounds_toArray]); (repeat (first | simp only [List.set_cons_succ] | simp only [List.set_cons_zero]))
      refine wpAnyH_take (i := 10) (v := ?_) rfl (by kernel_rfl) (by kernel_rfl) (by kernel_rfl) (fun _ _ _ h => h) (Or.inl ⟨by rfl, ?_⟩) hHeld ?_
      rotate_left
      · intro w hSw
        (try dsimp only at hSw)
        go_simp
        try with_reducible rfl
      (try simp only [Act.put]); (try simp only [List.setIfInBounds_toArray]); (repeat (first | simp only [List.set_cons_succ] | simp only [List.set_cons_zero]))
      refine wpAnyH_ready (rs := [11]) (by kernel_rfl) (by simp) ?_
      refine AllReadyH.cons rfl (fun KK hKK => ?_) AllReadyH.nil
      go_simp
      go_at_call 17
      refine (HSum.out _ (by repeat' (first | refine Chg.setCell ?_ (fun h => absurd h (Nat.lt_irrefl _)) _ | refine Chg.alloc ?_ _ | refine chg_drewL ?_ _ | refine Chg.drew ?_ | exact Chg.refl _ _))).mono ?_
      rintro e w1 ⟨rfl, rfl⟩
      try go_wp2_with fail
      refine hKK.out _ _ ?_ (fun hHeld => ?_)
      · exact (by repeat' (first | refine Chg.setCell ?_ (fun h => absurd h (Nat.lt_irrefl _)) _ | refine Chg.alloc ?_ _ | refine chg_drewL ?_ _ | refine Chg.drew ?_ | exact Chg.refl _ _))
      clear hKK KK
      (try simp only [Act.put]); (try simp only [List.setIfInBounds_toArray]); (repeat (first | simp only [List.set_cons_succ] | simp only [List.set_cons_zero]))
      refine wpAnyH_ready (rs := [12]) (by kernel_rfl) (by simp) ?_
      refine AllReadyH.cons rfl (fun KK hKK => ?_) AllReadyH.nil
      go_simp
      go_at_call 16
      refine (HApp.out _).mono ?_
      rintro e w2 ⟨⟨v2, rfl, r2⟩, h2⟩
      have HV2 := keepH r2
      have HC2 : Hid (Chg (fun _ => False) W w2) := keepH (Chg.trans (F := fun _ => False) (by repeat' (first | refine Chg.setCell ?_ (fun h => absurd h (Nat.lt_irrefl _)) _ | refine Chg.alloc ?_ _ | refine chg_drewL ?_ _ | refine Chg.drew ?_ | exact Chg.refl _ _)) h2 (fun _ _ x => x) (fun k hk x => by have hz : W.heap.size ≤ _ := Chg.size (F := fun _ => False) (by repeat' (first | refine Chg.setCell ?_ (fun h => absurd h (Nat.lt_irrefl _)) _ | refine Chg.alloc ?_ _ | refine chg_drewL ?_ _ | refine Chg.drew ?_ | exact Chg.refl _ _)); exact absurd (Nat.lt_of_lt_of_le hk hz) (Nat.not_lt.2 x)))
      clear r2 h2
      try go_wp2_with fail
      refine hKK.out _ _ ?_ (fun hHeld => ?_)
      · exact HC2.out
      clear hKK KK
      (try simp only [Act.put]); (try simp only [List.setIfInBounds_toArray]); (repeat (first | simp only [List.set_cons_succ] | simp only [List.set_cons_zero]))
      refine wpAnyH_ready (rs := [13]) (by kernel_rfl) (by simp) ?_
      refine AllReadyH.cons rfl (fun KK hKK => ?_) AllReadyH.nil
      go_simp
      obtain ⟨p3, c3, hv3, hat3, _⟩ := BRow.slice HV2.out
      subst hv3
      go_at_call 55
      refine (HEq.out _ HC2.out _ _ hat3).mono ?_
      rintro e w4 ⟨rfl, rfl⟩
      try go_wp2_with fail
      refine hKK.out _ _ ?_ (fun hHeld => ?_)
      · exact HC2.out
      clear hKK KK
      (try simp only [Act.put]); (try simp only [List.setIfInBounds_toArray]); (repeat (first | simp only [List.set_cons_succ] | simp only [List.set_cons_zero]))
      refine wpAnyH_take (i := 14) (v := ?_) rfl (by kernel_rfl) (by kernel_rfl) (by kernel_rfl) (fun _ _ _ h => h) (Or.inl ⟨by rfl, ?_⟩) hHeld ?_
      rotate_left
      · intro w hSw
        (try dsimp only at hSw)
        go_simp
        try with_reducible rfl
      (try simp only [Act.put]); (try simp only [List.setIfInBounds_toArray]); (repeat (first | simp only [List.set_cons_succ] | simp only [List.set_cons_zero]))
      refine wpAnyH_done (by kernel_rfl) ?_ _
      go_simp
      go_wp2_with fail
      go_ret
      rw [HSR.out]
      exact ⟨rfl, HH.out.on HC2.out (fun x => x) (fun _ _ _ x => x), HC2.out.mono (fun _ _ x => x.elim)⟩
    · have HSR : Hid (rdS bs i = (0, i + 4)) := keepH (by rw [HSV.out, if_pos (of_decide_eq_true HTB.out.symm)])
      go_enter Try.func47, Try.ntmps47
      go_wp2_with fail
      go_quiet (fail)
      go_wp2_with fail
      refine wp_region_held_drew (S := fun w' => Chg (fun _ => False) W w') (by kernel_rfl) ((by repeat' (first | refine Chg.setCell ?_ (fun h => absurd h (Nat.lt_irrefl _)) _ | refine Chg.alloc ?_ _ | refine chg_drewL ?_ _ | refine Chg.drew ?_ | exact Chg.refl _ _))) ?_
      intro hHeld
      refine wpAnyH_take (i := 0) (v := ?_) rfl (by kernel_rfl) (by kernel_rfl) (by kernel_rfl) (fun _ _ _ h => h) (Or.inl ⟨by rfl, ?_⟩) hHeld ?_
      rotate_left
      · intro w hSw
        (try dsimp only at hSw)
        go_simp
        try with_reducible rfl
      (try simp only [Act.put]); (try simp only [List.setIfInBounds_toArray]); (repeat (first | simp only [List.set_cons_succ] | simp only [List.set_cons_zero]))
      refine wpAnyH_take (i := 1) (v := ?_) rfl (by kernel_rfl) (by kernel_rfl) (by kernel_rfl) (fun _ _ _ h => h) (Or.inl ⟨by rfl, ?_⟩) hHeld ?_
      rotate_left
      · intro w hSw
        (try dsimp only at hSw)
        go_simp
        try with_reducible rfl
      (try simp only [Act.put]); (try simp only [List.setIfInBounds_toArray]); (repeat (first | simp only [List.set_cons_succ] | simp only [List.set_cons_zero]))
      refine wpAnyH_take (i := 2) (v := ?_) rfl (by kernel_rfl) (by kernel_rfl) (by kernel_rfl) (fun _ _ _ h => h) (Or.inl ⟨by rfl, ?_⟩) hHeld ?_
      rotate_left
      · intro w hSw
        (try dsimp only at hSw)
        go_simp
        try with_reducible rfl
      (try simp only [Act.put]); (try simp only [List.setIfInBounds_toArray]); (repeat (first | simp only [List.set_cons_succ] | simp only [List.set_cons_zero]))
      refine wpAnyH_take (i := 3) (v := ?_) rfl (by kernel_rfl) (by kernel_rfl) (by kernel_rfl) (fun _ _ _ h => h) (Or.inl ⟨by rfl, ?_⟩) hHeld ?_
      rotate_left
      · intro w hSw
        (try dsimp only at hSw)
        go_simp
        try with_reducible rfl
      (try simp only [Act.put]); (try simp only [List.setIfInBounds_toArray]); (repeat (first | simp only [List.set_cons_succ] | simp only [List.set_cons_zero]))
      refine wpAnyH_take (i := 4) (v := ?_) rfl (by kernel_rfl) (by kernel_rfl) (by kernel_rfl) (fun _ _ _ h => h) (Or.inl ⟨by rfl, ?_⟩) hHeld ?_
      rotate_left
      · intro w hSw
        (try dsimp only at hSw)
        go_simp
        try with_reducible rfl
      (try simp only [Act.put]); (try simp only [List.setIfInBounds_toArray]); (repeat (first | simp only [List.set_cons_succ] | simp only [List.set_cons_zero]))
      refine wpAnyH_take (i := 5) (v := ?_) rfl (by kernel_rfl) (by kernel_rfl) (by kernel_rfl) (fun _ _ _ h => h) (Or.inl ⟨by rfl, ?_⟩) hHeld ?_
      rotate_left
      · intro w hSw
        (try dsimp only at hSw)
        have y0 := cell_chg hSw c0 (fun x => x)
        have y1 := cell_chg hSw c1 (fun x => x)
        clear hSw
        go_simp
        try with_reducible rfl
      (try simp only [Act.put]); (try simp only [List.setIfInBounds_toArray]); (repeat (first | simp only [List.set_cons_succ] | simp only [List.set_cons_zero]))
      refine wpAnyH_take (i := 6) (v := ?_) rfl (by kernel_rfl) (by kernel_rfl) (by kernel_rfl) (fun _ _ _ h => h) (Or.inl ⟨by rfl, ?_⟩) hHeld ?_
      rotate_left
      · intro w hSw
        (try dsimp only at hSw)
        go_simp
        try with_reducible rfl
      (try simp only [Act.put]); (try simp only [List.setIfInBounds_toArray]); (repeat (first | simp only [List.set_cons_succ] | simp only [List.set_cons_zero]))
      refine wpAnyH_take (i := 7) (v := ?_) rfl (by kernel_rfl) (by kernel_rfl) (by kernel_rfl) (fun _ _ _ h => h) (Or.inl ⟨by rfl, ?_⟩) hHeld ?_
      rotate_left
      · intro w hSw
        (try dsimp only at hSw)
        go_simp
        try with_reducible rfl
      (try simp only [Act.put]); (try simp only [List.setIfInBounds_toArray]); (repeat (first | simp only [List.set_cons_succ] | simp only [List.set_cons_zero]))
      refine wpAnyH_take (i := 8) (v := ?_) rfl (by kernel_rfl) (by kernel_rfl) (by kernel_rfl) (fun _ _ _ h => h) (Or.inl ⟨by rfl, ?_⟩) hHeld ?_
      rotate_left
      · intro w hSw
        (try dsimp only at hSw)
        go_simp
        try with_reducible rfl
      (try simp only [Act.put]); (try simp only [List.setIfInBounds_toArray]); (repeat (first | simp only [List.set_cons_succ] | simp only [List.set_cons_zero]))
      refine wpAnyH_take (i := 9) (v := ?_) rfl (by kernel_rfl) (by kernel_rfl) (by kernel_rfl) (fun _ _ _ h => h) (Or.inl ⟨by rfl, ?_⟩) hHeld ?_
      rotate_left
      · intro w hSw
        (try dsimp only at hSw)
        have y0 := cell_chg hSw c0 (fun x => x)
        have y1 := cell_chg hSw c1 (fun x => x)
        clear hSw
        go_simp
        try with_reducible rfl
      (try simp only [Act.put]); (try simp only [List.setIfInBounds_toArray]); (repeat (first | simp only [List.set_cons_succ] | simp only [List.set_cons_zero]))
      refine wpAnyH_take (i := 10) (v := ?_) rfl (by kernel_rfl) (by kernel_rfl) (by kernel_rfl) (fun _ _ _ h => h) (Or.inl ⟨by rfl, ?_⟩) hHeld ?_
      rotate_left
      · intro w hSw
        (try dsimp only at hSw)
        go_simp
        try with_reducible rfl
      (try simp only [Act.put]); (try simp only [List.setIfInBounds_toArray]); (repeat (first | simp only [List.set_cons_succ] | simp only [List.set_cons_zero]))
      refine wpAnyH_ready (rs := [11]) (by kernel_rfl) (by simp) ?_
      refine AllReadyH.cons rfl (fun KK hKK => ?_) AllReadyH.nil
      go_simp
      go_at_call 17
      refine (HSum.out _ (by repeat' (first | refine Chg.setCell ?_ (fun h => absurd h (Nat.lt_irrefl _)) _ | refine Chg.alloc ?_ _ | refine chg_drewL ?_ _ | refine Chg.drew ?_ | exact Chg.refl _ _))).mono ?_
      rintro e w1 ⟨rfl, rfl⟩
      try go_wp2_with fail
      refine hKK.out _ _ ?_ (fun hHeld => ?_)
      · exact (by repeat' (first | refine Chg.setCell ?_ (fun h => absurd h (Nat.lt_irrefl _)) _ | refine Chg.alloc ?_ _ | refine chg_drewL ?_ _ | refine Chg.drew ?_ | exact Chg.refl _ _))
      clear hKK KK
      (try simp only [Act.put]); (try simp only [List.setIfInBounds_toArray]); (repeat (first | simp only [List.set_cons_succ] | simp only [List.set_cons_zero]))
      refine wpAnyH_ready (rs := [12]) (by kernel_rfl) (by simp) ?_
      refine AllReadyH.cons rfl (fun KK hKK => ?_) AllReadyH.nil
      go_simp
      go_at_call 16
      refine (HApp.out _).mono ?_
      rintro e w2 ⟨⟨v2, rfl, r2⟩, h2⟩
      have HV2 := keepH r2
      have HC2 : Hid (Chg (fun _ => False) W w2) := keepH (Chg.trans (F := fun _ => False) (by repeat' (first | refine Chg.setCell ?_ (fun h => absurd h (Nat.lt_irrefl _)) _ | refine Chg.alloc ?_ _ | refine chg_drewL ?_ _ | refine Chg.drew ?_ | exact Chg.refl _ _)) h2 (fun _ _ x => x) (fun k hk x => by have hz : W.heap.size ≤ _ := Chg.size (F := fun _ => False) (by repeat' (first | refine Chg.setCell ?_ (fun h => absurd h (Nat.lt_irrefl _)) _ | refine Chg.alloc ?_ _ | refine chg_drewL ?_ _ | refine Chg.drew ?_ | exact Chg.refl _ _)); exact absurd (Nat.lt_of_lt_of_le hk hz) (Nat.not_lt.2 x)))
      clear r2 h2
      try go_wp2_with fail
      refine hKK.out _ _ ?_ (fun hHeld => ?_)
      · exact HC2.out
      clear hKK KK
      (try simp only [Act.put]); (try simp only [List.setIfInBounds_toArray]); (repeat (first | simp only [List.set_cons_succ] | simp only [List.set_cons_zero]))
      refine wpAnyH_ready (rs := [13]) (by kernel_rfl) (by simp) ?_
      refine AllReadyH.cons rfl (fun KK hKK => ?_) AllReadyH.nil
      go_simp
      obtain ⟨p3, c3, hv3, hat3, _⟩ := BRow.slice HV2.out
      subst hv3
      go_at_call 55
      refine (HEq.out _ HC2.out _ _ hat3).mono ?_
      rintro e w4 ⟨rfl, rfl⟩
      try go_wp2_with fail
      refine hKK.out _ _ ?_ (fun hHeld => ?_)
      · exact HC2.out
      clear hKK KK
      (try simp only [Act.put]); (try simp only [List.setIfInBounds_toArray]); (repeat (first | simp only [List.set_cons_succ] | simp only [List.set_cons_zero]))
      refine wpAnyH_take (i := 14) (v := ?_) rfl (by kernel_rfl) (by kernel_rfl) (by kernel_rfl) (fun _ _ _ h => h) (Or.inl ⟨by rfl, ?_⟩) hHeld ?_
      rotate_left
      · intro w hSw
        (try dsimp only at hSw)
        go_simp
        try with_reducible rfl
      (try simp only [Act.put]); (try simp only [List.setIfInBounds_toArray]); (repeat (first | simp only [List.set_cons_succ] | simp only [List.set_cons_zero]))
      refine wpAnyH_done (by kernel_rfl) ?_ _
      go_simp
      have c1 := cell_chg HC2.out c1 (fun x => x)
      have f1 := (HH.out.on HC2.out (fun x => x) (fun _ _ _ x => x)).free
      go_wp2_with fail
      go_ret
      rw [HSR.out]
      exact ⟨rfl, HH.out.set HC2.out (i + 4) h4'⟩
end Go.Proofs.Ytbmfjcdafjknaab
