/- Both tell the same: the walk. -/
import Derived.Test.YtnhiodmigmmfgaaGreatO16PE
namespace Go.Proofs.YtnhiodmigmmfgaaGreat
open Go.RowKit Go.Shelf
set_option linter.unusedVariables false

theorem take_flat {l : List Nat} {f : Nat → List Nat} {k j : Nat} (h : l[k]? = some j) : (l.take (k + 1)).flatMap f = (l.take k).flatMap f ++ f j := by
  rw [List.take_add_one, h, List.flatMap_append]
  simp
theorem take_flat_le {l : List Nat} {f : Nat → List Nat} (k : Nat) : ((l.take k).flatMap f).length ≤ (l.flatMap f).length := by
  conv => rhs; rw [← List.take_append_drop k l, List.flatMap_append, List.length_append]
  exact Nat.le_add_right _ _
set_option maxRecDepth 100000 in
set_option maxHeartbeats 16000000 in
theorem alike_walk {X : World} {ll : List (List PlP)} {c : Cfg PS} {wb q nm m r gg : Nat} {pe : Option Addr} {ce : Nat} {pw : Option Addr} {cw : Nat} {pa : Option Addr} {ca : Nat} {ps : Option Addr} {cs : Nat} {A Pd : List Int} {gv : Nat → Value} {qv : Nat → Value} {pb : Nat → Nat → Nat} {l4 : List Acc} (h : Asks X ll c wb q nm m r gg pe ce pw cw pa ca ps cs A Pd gv qv pb l4) :
    Calls Tryz.prog 10 #[.pointer (some ⟨wb, 0, none⟩), .pointer (some ⟨q, 0, none⟩)] X fun e Y => e = .returned (.bool true) ∧ Chg (fun _ => False) X Y := by
  have H := keepH h
  have u0 := (h.cells X (Chg.refl _ _)).1
  obtain ⟨sm1, sm2, sm3, sm4, sm5⟩ := h.small
  clear h
  go_enter Tryz.func10, Tryz.ntmps10
  go_wp2_with fail
  refine (H.out.evP X (Chg.refl _ _)).mono ?_
  rintro e X1 ⟨pe1, ce1, rfl, o1, c1⟩
  have HX1 : Hid (Chg (fun _ => False) X X1) := c1
  have HO1 := keepH o1
  clear c1 o1 u0
  go_upto_region 2 with fail
  go_cut [76] from 14 to 75 (fun s76 wx => s76 = .bool false ∧ Hid (Chg (fun _ => False) X wx))
  case first =>
    refine wp_region_held_drew (S := fun w => w.cell? ⟨wb, 1, none⟩ = some (.pointer (some ⟨r, 0, none⟩)) ∧ w.cell? ⟨wb, 0, none⟩ = some (.pointer (some ⟨m, 0, none⟩)) ∧ w.cell? ⟨q, 0, none⟩ = some (.pointer (some ⟨nm, 0, none⟩)) ∧ w.cell? ⟨nm, 2, none⟩ = some (.slice pa c.t.length ca)) (by kernel_rfl) (H.out.cells _ (HX1.out.drew)) ?_
    obtain ⟨y0, hy0⟩ : ∃ y0, y0 = X1.drew := ⟨_, rfl⟩
    have HY0 : Hid (Chg (fun _ => False) X y0) := by rw [hy0]; exact HX1.out.drew
    have HOE : Hid (y0.ownsRow 0 100 4 (.slice pe1 c.evs.length ce1) c.evs.length (evRow c.evs)) := by rw [hy0]; exact row_kept HO1.out (fun k e => rfl)
    rw [← hy0]
    clear hy0 HO1
    intro hHeld
    refine wpAnyH_take (i := 0) (v := ?_) rfl (by kernel_rfl) (by kernel_rfl) (by kernel_rfl) (fun _ _ _ h => h) (Or.inl ⟨by first | rfl | kernel_rfl, ?_⟩) hHeld ?_
    rotate_left
    · intro w hSw
      (try dsimp only at hSw)
      go_simp
      try with_reducible rfl
    (try simp only [Act.put, List.getElem_toArray, List.getElem_cons_zero]); (try simp only [List.setIfInBounds_toArray]); (repeat (first | simp only [List.set_cons_succ] | simp only [List.set_cons_zero]))
    refine wpAnyH_take (i := 1) (v := ?_) rfl (by kernel_rfl) (by kernel_rfl) (by kernel_rfl) (fun _ _ _ h => h) (Or.inl ⟨by first | rfl | kernel_rfl, ?_⟩) hHeld ?_
    rotate_left
    · intro w hSw
      (try dsimp only at hSw)
      go_simp
      try with_reducible rfl
    (try simp only [Act.put, List.getElem_toArray, List.getElem_cons_succ, List.getElem_cons_zero]); (try simp only [List.setIfInBounds_toArray]); (repeat (first | simp only [List.set_cons_succ] | simp only [List.set_cons_zero]))
    refine wpAnyH_ready (rs := [2]) (by kernel_rfl) (by simp) ?_
    refine (AllReadyH.cons rfl (fun KK hKK => ?_) AllReadyH.nil)
    go_simp
    go_at_call 40
    refine (H.out.evD _ HY0.out).mono ?_
    rintro e y1 ⟨rfl, hy⟩
    have HY1 : Hid (Chg (fun _ => False) X y1) := by rw [hy]; exact HY0.out
    have hyy := hy
    clear hy
    have HOF : Hid (y1.ownsRow 0 100 4 (.slice pe1 c.evs.length ce1) c.evs.length (evRow c.evs)) := by rw [hyy]; exact HOE.out
    clear HOE hyy
    (try go_wp2_with fail)
    refine hKK.out _ _ ?_ (fun hHeld => ?_)
    · exact H.out.cells _ HY1.out
    clear hKK KK
    (try simp only [Act.put, List.getElem_toArray, List.getElem_cons_succ, List.getElem_cons_zero]); (try simp only [List.setIfInBounds_toArray]); (repeat (first | simp only [List.set_cons_succ] | simp only [List.set_cons_zero]))
    refine wpAnyH_ready (rs := [3]) (by kernel_rfl) (by simp) ?_
    refine (AllReadyH.cons rfl (fun KK hKK => ?_) AllReadyH.nil)
    go_simp
    go_at_call 39
    refine (s_sameE pe1 pe ce1 ce c.evs.length c.evs _ HOF.out (H.out.evR _ HY1.out) rfl (by omega)).mono ?_
    rintro e y2 ⟨rfl, nq1, hy⟩
    have HY2 : Hid (Chg (fun _ => False) X y2) := by rw [hy]; exact HY1.out.trans (drewN_chgY _ _) (fun _ _ x => x) (fun _ _ x => x)
    clear hy
    clear HOF
    (try go_wp2_with fail)
    refine hKK.out _ _ ?_ (fun hHeld => ?_)
    · exact H.out.cells _ HY2.out
    clear hKK KK
    (try simp only [Act.put, List.getElem_toArray, List.getElem_cons_succ, List.getElem_cons_zero]); (try simp only [List.setIfInBounds_toArray]); (repeat (first | simp only [List.set_cons_succ] | simp only [List.set_cons_zero]))
    refine wpAnyH_take (i := 4) (v := ?_) rfl (by kernel_rfl) (by kernel_rfl) (by kernel_rfl) (fun _ _ _ h => h) (Or.inl ⟨by first | rfl | kernel_rfl, ?_⟩) hHeld ?_
    rotate_left
    · intro w hSw
      (try dsimp only at hSw)
      go_simp
      try with_reducible rfl
    (try simp only [Act.put, List.getElem_toArray, List.getElem_cons_succ, List.getElem_cons_zero]); (try simp only [List.setIfInBounds_toArray]); (repeat (first | simp only [List.set_cons_succ] | simp only [List.set_cons_zero]))
    refine wpAnyH_take (i := 5) (v := ?_) rfl (by kernel_rfl) (by kernel_rfl) (by kernel_rfl) (fun _ _ _ h => h) (Or.inl ⟨by first | rfl | kernel_rfl, ?_⟩) hHeld ?_
    rotate_left
    · intro w hSw
      (try dsimp only at hSw)
      go_simp
      try with_reducible rfl
    (try simp only [Act.put, List.getElem_toArray, List.getElem_cons_succ, List.getElem_cons_zero]); (try simp only [List.setIfInBounds_toArray]); (repeat (first | simp only [List.set_cons_succ] | simp only [List.set_cons_zero]))
    refine wpAnyH_take (i := 6) (v := ?_) rfl (by kernel_rfl) (by kernel_rfl) (by kernel_rfl) (fun _ _ _ h => h) (Or.inl ⟨by first | rfl | kernel_rfl, ?_⟩) hHeld ?_
    rotate_left
    · intro w hSw
      (try dsimp only at hSw)
      go_simp
      try with_reducible rfl
    (try simp only [Act.put, List.getElem_toArray, List.getElem_cons_succ, List.getElem_cons_zero]); (try simp only [List.setIfInBounds_toArray]); (repeat (first | simp only [List.set_cons_succ] | simp only [List.set_cons_zero]))
    refine wpAnyH_take (i := 7) (v := ?_) rfl (by kernel_rfl) (by kernel_rfl) (by kernel_rfl) (fun _ _ _ h => h) (Or.inl ⟨by first | rfl | kernel_rfl, ?_⟩) hHeld ?_
    rotate_left
    · intro w hSw
      (try dsimp only at hSw)
      go_simp
      try with_reducible rfl
    (try simp only [Act.put, List.getElem_toArray, List.getElem_cons_succ, List.getElem_cons_zero]); (try simp only [List.setIfInBounds_toArray]); (repeat (first | simp only [List.set_cons_succ] | simp only [List.set_cons_zero]))
    refine wpAnyH_take (i := 8) (v := ?_) rfl (by kernel_rfl) (by kernel_rfl) (by kernel_rfl) (fun _ _ _ h => h) (Or.inl ⟨by first | rfl | kernel_rfl, ?_⟩) hHeld ?_
    rotate_left
    · intro w hSw
      (try dsimp only at hSw)
      go_simp
      try with_reducible rfl
    (try simp only [Act.put, List.getElem_toArray, List.getElem_cons_succ, List.getElem_cons_zero]); (try simp only [List.setIfInBounds_toArray]); (repeat (first | simp only [List.set_cons_succ] | simp only [List.set_cons_zero]))
    refine wpAnyH_take (i := 9) (v := ?_) rfl (by kernel_rfl) (by kernel_rfl) (by kernel_rfl) (fun _ _ _ h => h) (Or.inl ⟨by first | rfl | kernel_rfl, ?_⟩) hHeld ?_
    rotate_left
    · intro w hSw
      (try dsimp only at hSw)
      go_simp
      try with_reducible rfl
    (try simp only [Act.put, List.getElem_toArray, List.getElem_cons_succ, List.getElem_cons_zero]); (try simp only [List.setIfInBounds_toArray]); (repeat (first | simp only [List.set_cons_succ] | simp only [List.set_cons_zero]))
    refine wpAnyH_take (i := 11) (v := ?_) rfl (by kernel_rfl) (by kernel_rfl) (by kernel_rfl) (fun _ _ _ h => h) (Or.inl ⟨by first | rfl | kernel_rfl, ?_⟩) hHeld ?_
    rotate_left
    · intro w hSw
      (try dsimp only at hSw)
      go_simp
      try with_reducible rfl
    (try simp only [Act.put, List.getElem_toArray, List.getElem_cons_succ, List.getElem_cons_zero]); (try simp only [List.setIfInBounds_toArray]); (repeat (first | simp only [List.set_cons_succ] | simp only [List.set_cons_zero]))
    refine wpAnyH_ready (rs := [10]) (by kernel_rfl) (by simp) ?_
    refine (AllReadyH.cons rfl (fun KK hKK => ?_) AllReadyH.nil)
    go_simp
    go_at_call 26
    refine (H.out.stP _ HY2.out).mono ?_
    rintro e y3 ⟨rfl, hy⟩
    have HY3 : Hid (Chg (fun _ => False) X y3) := by rw [hy]; exact HY2.out
    have hyy := hy
    clear hy
    clear hyy
    (try go_wp2_with fail)
    refine hKK.out _ _ ?_ (fun hHeld => ?_)
    · exact H.out.cells _ HY3.out
    clear hKK KK
    (try simp only [Act.put, List.getElem_toArray, List.getElem_cons_succ, List.getElem_cons_zero]); (try simp only [List.setIfInBounds_toArray]); (repeat (first | simp only [List.set_cons_succ] | simp only [List.set_cons_zero]))
    refine wpAnyH_ready (rs := [12]) (by kernel_rfl) (by simp) ?_
    refine (AllReadyH.cons rfl (fun KK hKK => ?_) AllReadyH.nil)
    go_simp
    go_at_call 41
    refine (H.out.stD _ HY3.out).mono ?_
    rintro e y4 ⟨rfl, hy⟩
    have HY4 : Hid (Chg (fun _ => False) X y4) := by rw [hy]; exact HY3.out
    have hyy := hy
    clear hy
    clear hyy
    (try go_wp2_with fail)
    refine hKK.out _ _ ?_ (fun hHeld => ?_)
    · exact H.out.cells _ HY4.out
    clear hKK KK
    (try simp only [Act.put, List.getElem_toArray, List.getElem_cons_succ, List.getElem_cons_zero]); (try simp only [List.setIfInBounds_toArray]); (repeat (first | simp only [List.set_cons_succ] | simp only [List.set_cons_zero]))
    refine wpAnyH_take (i := 13) (v := ?_) rfl (by kernel_rfl) (by kernel_rfl) (by kernel_rfl) (fun _ _ _ h => h) (Or.inl ⟨by first | rfl | kernel_rfl, ?_⟩) hHeld ?_
    rotate_left
    · intro w hSw
      (try dsimp only at hSw)
      go_simp
      try with_reducible rfl
    (try simp only [Act.put, List.getElem_toArray, List.getElem_cons_succ, List.getElem_cons_zero]); (try simp only [List.setIfInBounds_toArray]); (repeat (first | simp only [List.set_cons_succ] | simp only [List.set_cons_zero]))
    refine wpAnyH_take (i := 14) (v := ?_) rfl (by kernel_rfl) (by kernel_rfl) (by kernel_rfl) (fun _ _ _ h => h) (Or.inl ⟨by first | rfl | kernel_rfl, ?_⟩) hHeld ?_
    rotate_left
    · intro w hSw
      (try dsimp only at hSw)
      go_simp
      try with_reducible rfl
    (try simp only [Act.put, List.getElem_toArray, List.getElem_cons_succ, List.getElem_cons_zero]); (try simp only [List.setIfInBounds_toArray]); (repeat (first | simp only [List.set_cons_succ] | simp only [List.set_cons_zero]))
    refine wpAnyH_take (i := 15) (v := ?_) rfl (by kernel_rfl) (by kernel_rfl) (by kernel_rfl) (fun _ _ _ h => h) (Or.inl ⟨by first | rfl | kernel_rfl, ?_⟩) hHeld ?_
    rotate_left
    · intro w hSw
      (try dsimp only at hSw)
      go_simp
      try with_reducible rfl
    (try simp only [Act.put, List.getElem_toArray, List.getElem_cons_succ, List.getElem_cons_zero]); (try simp only [List.setIfInBounds_toArray]); (repeat (first | simp only [List.set_cons_succ] | simp only [List.set_cons_zero]))
    refine wpAnyH_take (i := 16) (v := ?_) rfl (by kernel_rfl) (by kernel_rfl) (by kernel_rfl) (fun _ _ _ h => h) (Or.inl ⟨by first | rfl | kernel_rfl, ?_⟩) hHeld ?_
    rotate_left
    · intro w hSw
      (try dsimp only at hSw)
      go_simp
      try with_reducible rfl
    (try simp only [Act.put, List.getElem_toArray, List.getElem_cons_succ, List.getElem_cons_zero]); (try simp only [List.setIfInBounds_toArray]); (repeat (first | simp only [List.set_cons_succ] | simp only [List.set_cons_zero]))
    refine wpAnyH_take (i := 17) (v := ?_) rfl (by kernel_rfl) (by kernel_rfl) (by kernel_rfl) (fun _ _ _ h => h) (Or.inl ⟨by first | rfl | kernel_rfl, ?_⟩) hHeld ?_
    rotate_left
    · intro w hSw
      (try dsimp only at hSw)
      go_simp
      try with_reducible rfl
    (try simp only [Act.put, List.getElem_toArray, List.getElem_cons_succ, List.getElem_cons_zero]); (try simp only [List.setIfInBounds_toArray]); (repeat (first | simp only [List.set_cons_succ] | simp only [List.set_cons_zero]))
    refine wpAnyH_take (i := 18) (v := ?_) rfl (by kernel_rfl) (by kernel_rfl) (by kernel_rfl) (fun _ _ _ h => h) (Or.inl ⟨by first | rfl | kernel_rfl, ?_⟩) hHeld ?_
    rotate_left
    · intro w hSw
      (try dsimp only at hSw)
      go_simp
      try with_reducible rfl
    (try simp only [Act.put, List.getElem_toArray, List.getElem_cons_succ, List.getElem_cons_zero]); (try simp only [List.setIfInBounds_toArray]); (repeat (first | simp only [List.set_cons_succ] | simp only [List.set_cons_zero]))
    refine wpAnyH_take (i := 19) (v := ?_) rfl (by kernel_rfl) (by kernel_rfl) (by kernel_rfl) (fun _ _ _ h => h) (Or.inl ⟨by first | rfl | kernel_rfl, ?_⟩) hHeld ?_
    rotate_left
    · intro w hSw
      (try dsimp only at hSw)
      go_simp
      try with_reducible rfl
    (try simp only [Act.put, List.getElem_toArray, List.getElem_cons_succ, List.getElem_cons_zero]); (try simp only [List.setIfInBounds_toArray]); (repeat (first | simp only [List.set_cons_succ] | simp only [List.set_cons_zero]))
    refine wpAnyH_take (i := 21) (v := ?_) rfl (by kernel_rfl) (by kernel_rfl) (by kernel_rfl) (fun _ _ _ h => h) (Or.inl ⟨by first | rfl | kernel_rfl, ?_⟩) hHeld ?_
    rotate_left
    · intro w hSw
      (try dsimp only at hSw)
      go_simp
      try with_reducible rfl
    (try simp only [Act.put, List.getElem_toArray, List.getElem_cons_succ, List.getElem_cons_zero]); (try simp only [List.setIfInBounds_toArray]); (repeat (first | simp only [List.set_cons_succ] | simp only [List.set_cons_zero]))
    refine wpAnyH_ready (rs := [20]) (by kernel_rfl) (by simp) ?_
    refine (AllReadyH.cons rfl (fun KK hKK => ?_) AllReadyH.nil)
    go_simp
    go_at_call 19
    refine (H.out.atP _ HY4.out).mono ?_
    rintro e y5 ⟨pp2, cp2, rfl, o2, cx⟩
    have HY5 : Hid (Chg (fun _ => False) X y5) := HY4.out.trans cx (fun _ _ x => x) (fun _ _ x => x)
    have HA2 := keepH o2
    clear o2 cx
    (try go_wp2_with fail)
    refine hKK.out _ _ ?_ (fun hHeld => ?_)
    · exact H.out.cells _ HY5.out
    clear hKK KK
    (try simp only [Act.put, List.getElem_toArray, List.getElem_cons_succ, List.getElem_cons_zero]); (try simp only [List.setIfInBounds_toArray]); (repeat (first | simp only [List.set_cons_succ] | simp only [List.set_cons_zero]))
    refine wpAnyH_ready (rs := [22]) (by kernel_rfl) (by simp) ?_
    refine (AllReadyH.cons rfl (fun KK hKK => ?_) AllReadyH.nil)
    go_simp
    go_at_call 43
    refine (H.out.atD _ HY5.out).mono ?_
    rintro e y6 ⟨rfl, hy⟩
    have HY6 : Hid (Chg (fun _ => False) X y6) := by rw [hy]; exact HY5.out
    have hyy := hy
    clear hy
    have HA3 : Hid (IReads y6 pp2 A) := by rw [hyy]; exact IReads.of_row HA2.out
    clear HA2 hyy
    (try go_wp2_with fail)
    refine hKK.out _ _ ?_ (fun hHeld => ?_)
    · exact H.out.cells _ HY6.out
    clear hKK KK
    (try simp only [Act.put, List.getElem_toArray, List.getElem_cons_succ, List.getElem_cons_zero]); (try simp only [List.setIfInBounds_toArray]); (repeat (first | simp only [List.set_cons_succ] | simp only [List.set_cons_zero]))
    refine wpAnyH_ready (rs := [23]) (by kernel_rfl) (by simp) ?_
    refine (AllReadyH.cons rfl (fun KK hKK => ?_) AllReadyH.nil)
    go_simp
    go_at_call 42
    refine (s_sameI pp2 pw cp2 cw A _ HA3.out (IReads.of_row (H.out.atR _ HY6.out)) (by omega)).mono ?_
    rintro e y7 ⟨rfl, nq2, hy⟩
    have HY7 : Hid (Chg (fun _ => False) X y7) := by rw [hy]; exact HY6.out.trans (drewN_chgY _ _) (fun _ _ x => x) (fun _ _ x => x)
    clear hy
    clear HA3
    (try go_wp2_with fail)
    refine hKK.out _ _ ?_ (fun hHeld => ?_)
    · exact H.out.cells _ HY7.out
    clear hKK KK
    (try simp only [Act.put, List.getElem_toArray, List.getElem_cons_succ, List.getElem_cons_zero]); (try simp only [List.setIfInBounds_toArray]); (repeat (first | simp only [List.set_cons_succ] | simp only [List.set_cons_zero]))
    refine wpAnyH_take (i := 24) (v := ?_) rfl (by kernel_rfl) (by kernel_rfl) (by kernel_rfl) (fun _ _ _ h => h) (Or.inl ⟨by first | rfl | kernel_rfl, ?_⟩) hHeld ?_
    rotate_left
    · intro w hSw
      (try dsimp only at hSw)
      go_simp
      try with_reducible rfl
    (try simp only [Act.put, List.getElem_toArray, List.getElem_cons_succ, List.getElem_cons_zero]); (try simp only [List.setIfInBounds_toArray]); (repeat (first | simp only [List.set_cons_succ] | simp only [List.set_cons_zero]))
    refine wpAnyH_take (i := 25) (v := ?_) rfl (by kernel_rfl) (by kernel_rfl) (by kernel_rfl) (fun _ _ _ h => h) (Or.inl ⟨by first | rfl | kernel_rfl, ?_⟩) hHeld ?_
    rotate_left
    · intro w hSw
      (try dsimp only at hSw)
      go_simp
      try with_reducible rfl
    (try simp only [Act.put, List.getElem_toArray, List.getElem_cons_succ, List.getElem_cons_zero]); (try simp only [List.setIfInBounds_toArray]); (repeat (first | simp only [List.set_cons_succ] | simp only [List.set_cons_zero]))
    refine wpAnyH_take (i := 26) (v := ?_) rfl (by kernel_rfl) (by kernel_rfl) (by kernel_rfl) (fun _ _ _ h => h) (Or.inl ⟨by first | rfl | kernel_rfl, ?_⟩) hHeld ?_
    rotate_left
    · intro w hSw
      (try dsimp only at hSw)
      go_simp
      try with_reducible rfl
    (try simp only [Act.put, List.getElem_toArray, List.getElem_cons_succ, List.getElem_cons_zero]); (try simp only [List.setIfInBounds_toArray]); (repeat (first | simp only [List.set_cons_succ] | simp only [List.set_cons_zero]))
    refine wpAnyH_take (i := 27) (v := ?_) rfl (by kernel_rfl) (by kernel_rfl) (by kernel_rfl) (fun _ _ _ h => h) (Or.inl ⟨by first | rfl | kernel_rfl, ?_⟩) hHeld ?_
    rotate_left
    · intro w hSw
      (try dsimp only at hSw)
      go_simp
      try with_reducible rfl
    (try simp only [Act.put, List.getElem_toArray, List.getElem_cons_succ, List.getElem_cons_zero]); (try simp only [List.setIfInBounds_toArray]); (repeat (first | simp only [List.set_cons_succ] | simp only [List.set_cons_zero]))
    refine wpAnyH_take (i := 28) (v := ?_) rfl (by kernel_rfl) (by kernel_rfl) (by kernel_rfl) (fun _ _ _ h => h) (Or.inl ⟨by first | rfl | kernel_rfl, ?_⟩) hHeld ?_
    rotate_left
    · intro w hSw
      (try dsimp only at hSw)
      go_simp
      try with_reducible rfl
    (try simp only [Act.put, List.getElem_toArray, List.getElem_cons_succ, List.getElem_cons_zero]); (try simp only [List.setIfInBounds_toArray]); (repeat (first | simp only [List.set_cons_succ] | simp only [List.set_cons_zero]))
    refine wpAnyH_take (i := 29) (v := ?_) rfl (by kernel_rfl) (by kernel_rfl) (by kernel_rfl) (fun _ _ _ h => h) (Or.inl ⟨by first | rfl | kernel_rfl, ?_⟩) hHeld ?_
    rotate_left
    · intro w hSw
      (try dsimp only at hSw)
      go_simp
      try with_reducible rfl
    (try simp only [Act.put, List.getElem_toArray, List.getElem_cons_succ, List.getElem_cons_zero]); (try simp only [List.setIfInBounds_toArray]); (repeat (first | simp only [List.set_cons_succ] | simp only [List.set_cons_zero]))
    refine wpAnyH_take (i := 30) (v := ?_) rfl (by kernel_rfl) (by kernel_rfl) (by kernel_rfl) (fun _ _ _ h => h) (Or.inl ⟨by first | rfl | kernel_rfl, ?_⟩) hHeld ?_
    rotate_left
    · intro w hSw
      (try dsimp only at hSw)
      go_simp
      try with_reducible rfl
    (try simp only [Act.put, List.getElem_toArray, List.getElem_cons_succ, List.getElem_cons_zero]); (try simp only [List.setIfInBounds_toArray]); (repeat (first | simp only [List.set_cons_succ] | simp only [List.set_cons_zero]))
    refine wpAnyH_take (i := 32) (v := ?_) rfl (by kernel_rfl) (by kernel_rfl) (by kernel_rfl) (fun _ _ _ h => h) (Or.inl ⟨by first | rfl | kernel_rfl, ?_⟩) hHeld ?_
    rotate_left
    · intro w hSw
      (try dsimp only at hSw)
      go_simp
      try with_reducible rfl
    (try simp only [Act.put, List.getElem_toArray, List.getElem_cons_succ, List.getElem_cons_zero]); (try simp only [List.setIfInBounds_toArray]); (repeat (first | simp only [List.set_cons_succ] | simp only [List.set_cons_zero]))
    refine wpAnyH_ready (rs := [31]) (by kernel_rfl) (by simp) ?_
    refine (AllReadyH.cons rfl (fun KK hKK => ?_) AllReadyH.nil)
    go_simp
    go_at_call 20
    refine (H.out.pdP _ HY7.out).mono ?_
    rintro e y8 ⟨pp4, cp4, rfl, o4, cx⟩
    have HY8 : Hid (Chg (fun _ => False) X y8) := HY7.out.trans cx (fun _ _ x => x) (fun _ _ x => x)
    have HP4 := keepH o4
    clear o4 cx
    (try go_wp2_with fail)
    refine hKK.out _ _ ?_ (fun hHeld => ?_)
    · exact H.out.cells _ HY8.out
    clear hKK KK
    (try simp only [Act.put, List.getElem_toArray, List.getElem_cons_succ, List.getElem_cons_zero]); (try simp only [List.setIfInBounds_toArray]); (repeat (first | simp only [List.set_cons_succ] | simp only [List.set_cons_zero]))
    refine wpAnyH_ready (rs := [33]) (by kernel_rfl) (by simp) ?_
    refine (AllReadyH.cons rfl (fun KK hKK => ?_) AllReadyH.nil)
    go_simp
    go_at_call 44
    refine (H.out.pdD _ HY8.out).mono ?_
    rintro e y9 ⟨pp5, cp5, rfl, o5, cx⟩
    have HY9 : Hid (Chg (fun _ => False) X y9) := HY8.out.trans cx (fun _ _ x => x) (fun _ _ x => x)
    have HP5 : Hid (IReads y9 pp4 Pd) := (IReads.of_row HP4.out).chg cx
    have HP6 : Hid (IReads y9 pp5 Pd) := IReads.of_row o5
    clear o5 cx HP4
    (try go_wp2_with fail)
    refine hKK.out _ _ ?_ (fun hHeld => ?_)
    · exact H.out.cells _ HY9.out
    clear hKK KK
    (try simp only [Act.put, List.getElem_toArray, List.getElem_cons_succ, List.getElem_cons_zero]); (try simp only [List.setIfInBounds_toArray]); (repeat (first | simp only [List.set_cons_succ] | simp only [List.set_cons_zero]))
    refine wpAnyH_ready (rs := [34]) (by kernel_rfl) (by simp) ?_
    refine (AllReadyH.cons rfl (fun KK hKK => ?_) AllReadyH.nil)
    go_simp
    go_at_call 42
    refine (s_sameI pp4 pp5 cp4 cp5 Pd _ HP5.out HP6.out (by omega)).mono ?_
    rintro e y10 ⟨rfl, nq3, hy⟩
    have HY10 : Hid (Chg (fun _ => False) X y10) := by rw [hy]; exact HY9.out.trans (drewN_chgY _ _) (fun _ _ x => x) (fun _ _ x => x)
    clear hy
    clear HP5 HP6
    (try go_wp2_with fail)
    refine hKK.out _ _ ?_ (fun hHeld => ?_)
    · exact H.out.cells _ HY10.out
    clear hKK KK
    (try simp only [Act.put, List.getElem_toArray, List.getElem_cons_succ, List.getElem_cons_zero]); (try simp only [List.setIfInBounds_toArray]); (repeat (first | simp only [List.set_cons_succ] | simp only [List.set_cons_zero]))
    refine wpAnyH_take (i := 35) (v := ?_) rfl (by kernel_rfl) (by kernel_rfl) (by kernel_rfl) (fun _ _ _ h => h) (Or.inl ⟨by first | rfl | kernel_rfl, ?_⟩) hHeld ?_
    rotate_left
    · intro w hSw
      (try dsimp only at hSw)
      go_simp
      try with_reducible rfl
    (try simp only [Act.put, List.getElem_toArray, List.getElem_cons_succ, List.getElem_cons_zero]); (try simp only [List.setIfInBounds_toArray]); (repeat (first | simp only [List.set_cons_succ] | simp only [List.set_cons_zero]))
    refine wpAnyH_take (i := 36) (v := ?_) rfl (by kernel_rfl) (by kernel_rfl) (by kernel_rfl) (fun _ _ _ h => h) (Or.inl ⟨by first | rfl | kernel_rfl, ?_⟩) hHeld ?_
    rotate_left
    · intro w hSw
      (try dsimp only at hSw)
      go_simp
      try with_reducible rfl
    (try simp only [Act.put, List.getElem_toArray, List.getElem_cons_succ, List.getElem_cons_zero]); (try simp only [List.setIfInBounds_toArray]); (repeat (first | simp only [List.set_cons_succ] | simp only [List.set_cons_zero]))
    refine wpAnyH_take (i := 37) (v := ?_) rfl (by kernel_rfl) (by kernel_rfl) (by kernel_rfl) (fun _ _ _ h => h) (Or.inl ⟨by first | rfl | kernel_rfl, ?_⟩) hHeld ?_
    rotate_left
    · intro w hSw
      (try dsimp only at hSw)
      go_simp
      try with_reducible rfl
    (try simp only [Act.put, List.getElem_toArray, List.getElem_cons_succ, List.getElem_cons_zero]); (try simp only [List.setIfInBounds_toArray]); (repeat (first | simp only [List.set_cons_succ] | simp only [List.set_cons_zero]))
    refine wpAnyH_take (i := 38) (v := ?_) rfl (by kernel_rfl) (by kernel_rfl) (by kernel_rfl) (fun _ _ _ h => h) (Or.inl ⟨by first | rfl | kernel_rfl, ?_⟩) hHeld ?_
    rotate_left
    · intro w hSw
      (try dsimp only at hSw)
      go_simp
      try with_reducible rfl
    (try simp only [Act.put, List.getElem_toArray, List.getElem_cons_succ, List.getElem_cons_zero]); (try simp only [List.setIfInBounds_toArray]); (repeat (first | simp only [List.set_cons_succ] | simp only [List.set_cons_zero]))
    refine wpAnyH_take (i := 39) (v := ?_) rfl (by kernel_rfl) (by kernel_rfl) (by kernel_rfl) (fun _ _ _ h => h) (Or.inl ⟨by first | rfl | kernel_rfl, ?_⟩) hHeld ?_
    rotate_left
    · intro w hSw
      (try dsimp only at hSw)
      go_simp
      try with_reducible rfl
    (try simp only [Act.put, List.getElem_toArray, List.getElem_cons_succ, List.getElem_cons_zero]); (try simp only [List.setIfInBounds_toArray]); (repeat (first | simp only [List.set_cons_succ] | simp only [List.set_cons_zero]))
    refine wpAnyH_take (i := 40) (v := ?_) rfl (by kernel_rfl) (by kernel_rfl) (by kernel_rfl) (fun _ _ _ h => h) (Or.inl ⟨by first | rfl | kernel_rfl, ?_⟩) hHeld ?_
    rotate_left
    · intro w hSw
      (try dsimp only at hSw)
      go_simp
      try with_reducible rfl
    (try simp only [Act.put, List.getElem_toArray, List.getElem_cons_succ, List.getElem_cons_zero]); (try simp only [List.setIfInBounds_toArray]); (repeat (first | simp only [List.set_cons_succ] | simp only [List.set_cons_zero]))
    refine wpAnyH_take (i := 41) (v := ?_) rfl (by kernel_rfl) (by kernel_rfl) (by kernel_rfl) (fun _ _ _ h => h) (Or.inl ⟨by first | rfl | kernel_rfl, ?_⟩) hHeld ?_
    rotate_left
    · intro w hSw
      (try dsimp only at hSw)
      go_simp
      try with_reducible rfl
    (try simp only [Act.put, List.getElem_toArray, List.getElem_cons_succ, List.getElem_cons_zero]); (try simp only [List.setIfInBounds_toArray]); (repeat (first | simp only [List.set_cons_succ] | simp only [List.set_cons_zero]))
    refine wpAnyH_take (i := 43) (v := ?_) rfl (by kernel_rfl) (by kernel_rfl) (by kernel_rfl) (fun _ _ _ h => h) (Or.inl ⟨by first | rfl | kernel_rfl, ?_⟩) hHeld ?_
    rotate_left
    · intro w hSw
      (try dsimp only at hSw)
      go_simp
      try with_reducible rfl
    (try simp only [Act.put, List.getElem_toArray, List.getElem_cons_succ, List.getElem_cons_zero]); (try simp only [List.setIfInBounds_toArray]); (repeat (first | simp only [List.set_cons_succ] | simp only [List.set_cons_zero]))
    refine wpAnyH_ready (rs := [42]) (by kernel_rfl) (by simp) ?_
    refine (AllReadyH.cons rfl (fun KK hKK => ?_) AllReadyH.nil)
    go_simp
    go_at_call 25
    refine (H.out.dnP _ HY10.out).mono ?_
    rintro e y11 ⟨rfl, nq4, hy⟩
    have HY11 : Hid (Chg (fun _ => False) X y11) := by rw [hy]; exact HY10.out.trans (drewN_chgY _ _) (fun _ _ x => x) (fun _ _ x => x)
    clear hy

    (try go_wp2_with fail)
    refine hKK.out _ _ ?_ (fun hHeld => ?_)
    · exact H.out.cells _ HY11.out
    clear hKK KK
    (try simp only [Act.put, List.getElem_toArray, List.getElem_cons_succ, List.getElem_cons_zero]); (try simp only [List.setIfInBounds_toArray]); (repeat (first | simp only [List.set_cons_succ] | simp only [List.set_cons_zero]))
    refine wpAnyH_ready (rs := [44]) (by kernel_rfl) (by simp) ?_
    refine (AllReadyH.cons rfl (fun KK hKK => ?_) AllReadyH.nil)
    go_simp
    go_at_call 45
    refine (H.out.dnD _ HY11.out).mono ?_
    rintro e y12 ⟨rfl, nq5, hy⟩
    have HY12 : Hid (Chg (fun _ => False) X y12) := by rw [hy]; exact HY11.out.trans (drewN_chgY _ _) (fun _ _ x => x) (fun _ _ x => x)
    clear hy

    (try go_wp2_with fail)
    refine hKK.out _ _ ?_ (fun hHeld => ?_)
    · exact H.out.cells _ HY12.out
    clear hKK KK
    (try simp only [Act.put, List.getElem_toArray, List.getElem_cons_succ, List.getElem_cons_zero]); (try simp only [List.setIfInBounds_toArray]); (repeat (first | simp only [List.set_cons_succ] | simp only [List.set_cons_zero]))
    refine wpAnyH_take (i := 45) (v := ?_) rfl (by kernel_rfl) (by kernel_rfl) (by kernel_rfl) (fun _ _ _ h => h) (Or.inl ⟨by first | rfl | kernel_rfl, ?_⟩) hHeld ?_
    rotate_left
    · intro w hSw
      (try dsimp only at hSw)
      go_simp
      try with_reducible rfl
    (try simp only [Act.put, List.getElem_toArray, List.getElem_cons_succ, List.getElem_cons_zero]); (try simp only [List.setIfInBounds_toArray]); (repeat (first | simp only [List.set_cons_succ] | simp only [List.set_cons_zero]))
    refine wpAnyH_take (i := 46) (v := ?_) rfl (by kernel_rfl) (by kernel_rfl) (by kernel_rfl) (fun _ _ _ h => h) (Or.inl ⟨by first | rfl | kernel_rfl, ?_⟩) hHeld ?_
    rotate_left
    · intro w hSw
      (try dsimp only at hSw)
      go_simp
      try with_reducible rfl
    (try simp only [Act.put, List.getElem_toArray, List.getElem_cons_succ, List.getElem_cons_zero]); (try simp only [List.setIfInBounds_toArray]); (repeat (first | simp only [List.set_cons_succ] | simp only [List.set_cons_zero]))
    refine wpAnyH_take (i := 47) (v := ?_) rfl (by kernel_rfl) (by kernel_rfl) (by kernel_rfl) (fun _ _ _ h => h) (Or.inl ⟨by first | rfl | kernel_rfl, ?_⟩) hHeld ?_
    rotate_left
    · intro w hSw
      (try dsimp only at hSw)
      go_simp
      try with_reducible rfl
    (try simp only [Act.put, List.getElem_toArray, List.getElem_cons_succ, List.getElem_cons_zero]); (try simp only [List.setIfInBounds_toArray]); (repeat (first | simp only [List.set_cons_succ] | simp only [List.set_cons_zero]))
    refine wpAnyH_take (i := 48) (v := ?_) rfl (by kernel_rfl) (by kernel_rfl) (by kernel_rfl) (fun _ _ _ h => h) (Or.inl ⟨by first | rfl | kernel_rfl, ?_⟩) hHeld ?_
    rotate_left
    · intro w hSw
      (try dsimp only at hSw)
      go_simp
      try with_reducible rfl
    (try simp only [Act.put, List.getElem_toArray, List.getElem_cons_succ, List.getElem_cons_zero]); (try simp only [List.setIfInBounds_toArray]); (repeat (first | simp only [List.set_cons_succ] | simp only [List.set_cons_zero]))
    refine wpAnyH_take (i := 49) (v := ?_) rfl (by kernel_rfl) (by kernel_rfl) (by kernel_rfl) (fun _ _ _ h => h) (Or.inl ⟨by first | rfl | kernel_rfl, ?_⟩) hHeld ?_
    rotate_left
    · intro w hSw
      (try dsimp only at hSw)
      go_simp
      try with_reducible rfl
    (try simp only [Act.put, List.getElem_toArray, List.getElem_cons_succ, List.getElem_cons_zero]); (try simp only [List.setIfInBounds_toArray]); (repeat (first | simp only [List.set_cons_succ] | simp only [List.set_cons_zero]))
    refine wpAnyH_take (i := 50) (v := ?_) rfl (by kernel_rfl) (by kernel_rfl) (by kernel_rfl) (fun _ _ _ h => h) (Or.inl ⟨by first | rfl | kernel_rfl, ?_⟩) hHeld ?_
    rotate_left
    · intro w hSw
      (try dsimp only at hSw)
      go_simp
      try with_reducible rfl
    (try simp only [Act.put, List.getElem_toArray, List.getElem_cons_succ, List.getElem_cons_zero]); (try simp only [List.setIfInBounds_toArray]); (repeat (first | simp only [List.set_cons_succ] | simp only [List.set_cons_zero]))
    refine wpAnyH_take (i := 51) (v := ?_) rfl (by kernel_rfl) (by kernel_rfl) (by kernel_rfl) (fun _ _ _ h => h) (Or.inl ⟨by first | rfl | kernel_rfl, ?_⟩) hHeld ?_
    rotate_left
    · intro w hSw
      (try dsimp only at hSw)
      go_simp
      try with_reducible rfl
    (try simp only [Act.put, List.getElem_toArray, List.getElem_cons_succ, List.getElem_cons_zero]); (try simp only [List.setIfInBounds_toArray]); (repeat (first | simp only [List.set_cons_succ] | simp only [List.set_cons_zero]))
    refine wpAnyH_take (i := 53) (v := ?_) rfl (by kernel_rfl) (by kernel_rfl) (by kernel_rfl) (fun _ _ _ h => h) (Or.inl ⟨by first | rfl | kernel_rfl, ?_⟩) hHeld ?_
    rotate_left
    · intro w hSw
      (try dsimp only at hSw)
      go_simp
      try with_reducible rfl
    (try simp only [Act.put, List.getElem_toArray, List.getElem_cons_succ, List.getElem_cons_zero]); (try simp only [List.setIfInBounds_toArray]); (repeat (first | simp only [List.set_cons_succ] | simp only [List.set_cons_zero]))
    refine wpAnyH_take (i := 54) (v := ?_) rfl (by kernel_rfl) (by kernel_rfl) (by kernel_rfl) (fun _ _ _ h => h) (Or.inl ⟨by first | rfl | kernel_rfl, ?_⟩) hHeld ?_
    rotate_left
    · intro w hSw
      (try dsimp only at hSw)
      go_simp
      try with_reducible rfl
    (try simp only [Act.put, List.getElem_toArray, List.getElem_cons_succ, List.getElem_cons_zero]); (try simp only [List.setIfInBounds_toArray]); (repeat (first | simp only [List.set_cons_succ] | simp only [List.set_cons_zero]))
    refine wpAnyH_take (i := 55) (v := ?_) rfl (by kernel_rfl) (by kernel_rfl) (by kernel_rfl) (fun _ _ _ h => h) (Or.inl ⟨by first | rfl | kernel_rfl, ?_⟩) hHeld ?_
    rotate_left
    · intro w hSw
      (try dsimp only at hSw)
      go_simp
      try with_reducible rfl
    (try simp only [Act.put, List.getElem_toArray, List.getElem_cons_succ, List.getElem_cons_zero]); (try simp only [List.setIfInBounds_toArray]); (repeat (first | simp only [List.set_cons_succ] | simp only [List.set_cons_zero]))
    refine wpAnyH_take (i := 56) (v := ?_) rfl (by kernel_rfl) (by kernel_rfl) (by kernel_rfl) (fun _ _ _ h => h) (Or.inl ⟨by first | rfl | kernel_rfl, ?_⟩) hHeld ?_
    rotate_left
    · intro w hSw
      (try dsimp only at hSw)
      go_simp
      try with_reducible rfl
    (try simp only [Act.put, List.getElem_toArray, List.getElem_cons_succ, List.getElem_cons_zero]); (try simp only [List.setIfInBounds_toArray]); (repeat (first | simp only [List.set_cons_succ] | simp only [List.set_cons_zero]))
    refine wpAnyH_take (i := 57) (v := ?_) rfl (by kernel_rfl) (by kernel_rfl) (by kernel_rfl) (fun _ _ _ h => h) (Or.inl ⟨by first | rfl | kernel_rfl, ?_⟩) hHeld ?_
    rotate_left
    · intro w hSw
      (try dsimp only at hSw)
      go_simp
      try with_reducible rfl
    (try simp only [Act.put, List.getElem_toArray, List.getElem_cons_succ, List.getElem_cons_zero]); (try simp only [List.setIfInBounds_toArray]); (repeat (first | simp only [List.set_cons_succ] | simp only [List.set_cons_zero]))
    refine wpAnyH_take (i := 58) (v := ?_) rfl (by kernel_rfl) (by kernel_rfl) (by kernel_rfl) (fun _ _ _ h => h) (Or.inl ⟨by first | rfl | kernel_rfl, ?_⟩) hHeld ?_
    rotate_left
    · intro w hSw
      (try dsimp only at hSw)
      go_simp
      try with_reducible rfl
    (try simp only [Act.put, List.getElem_toArray, List.getElem_cons_succ, List.getElem_cons_zero]); (try simp only [List.setIfInBounds_toArray]); (repeat (first | simp only [List.set_cons_succ] | simp only [List.set_cons_zero]))
    refine wpAnyH_take (i := 59) (v := ?_) rfl (by kernel_rfl) (by kernel_rfl) (by kernel_rfl) (fun _ _ _ h => h) (Or.inl ⟨by first | rfl | kernel_rfl, ?_⟩) hHeld ?_
    rotate_left
    · intro w hSw
      (try dsimp only at hSw)
      go_simp
      try with_reducible rfl
    (try simp only [Act.put, List.getElem_toArray, List.getElem_cons_succ, List.getElem_cons_zero]); (try simp only [List.setIfInBounds_toArray]); (repeat (first | simp only [List.set_cons_succ] | simp only [List.set_cons_zero]))
    refine wpAnyH_ready (rs := [52]) (by kernel_rfl) (by simp) ?_
    refine (AllReadyH.cons rfl (fun KK hKK => ?_) AllReadyH.nil)
    go_simp
    go_at_call 47
    refine (H.out.trP _ HY12.out).mono ?_
    rintro e y13 ⟨pt, ct, rfl, cx, l1, lk1, t1, e1⟩
    have HY13 : Hid (Chg (fun _ => False) X y13) := HY12.out.trans cx (fun _ _ x => x) (fun _ _ x => x)
    have HLK := keepH (s_sameAV pt pa ct ca c.t.length lk1 l4 y13 (hist_row t1 e1 (Chg.refl _ _)) (H.out.trR _ HY13.out) (hist_len t1 e1) (by have := congrArg List.length H.out.trE; rw [List.length_map] at this; exact this) (traces_like1 t1 (H.out.trV _ HY13.out) (Chg.refl _ _) (by rw [e1, H.out.trE]) (by rw [e1]; exact H.out.vals)) (by omega))
    clear t1 e1 cx
    (try go_wp2_with fail)
    refine hKK.out _ _ ?_ (fun hHeld => ?_)
    · exact H.out.cells _ HY13.out
    clear hKK KK
    (try simp only [Act.put, List.getElem_toArray, List.getElem_cons_succ, List.getElem_cons_zero]); (try simp only [List.setIfInBounds_toArray]); (repeat (first | simp only [List.set_cons_succ] | simp only [List.set_cons_zero]))
    refine wpAnyH_ready (rs := [60]) (by kernel_rfl) (by simp) ?_
    refine (AllReadyH.cons rfl (fun KK hKK => ?_) AllReadyH.nil)
    go_simp
    go_at_call 46
    refine (HLK.out).mono ?_
    rintro e y14 ⟨rfl, nq6, hy⟩
    have HY14 : Hid (Chg (fun _ => False) X y14) := by rw [hy]; exact HY13.out.trans (drewN_chgY _ _) (fun _ _ x => x) (fun _ _ x => x)
    clear hy
    clear HLK
    (try go_wp2_with fail)
    refine hKK.out _ _ ?_ (fun hHeld => ?_)
    · exact H.out.cells _ HY14.out
    clear hKK KK
    (try simp only [Act.put, List.getElem_toArray, List.getElem_cons_succ, List.getElem_cons_zero]); (try simp only [List.setIfInBounds_toArray]); (repeat (first | simp only [List.set_cons_succ] | simp only [List.set_cons_zero]))
    refine wpAnyH_take (i := 61) (v := ?_) rfl (by kernel_rfl) (by kernel_rfl) (by kernel_rfl) (fun _ _ _ h => h) (Or.inl ⟨by first | rfl | kernel_rfl, ?_⟩) hHeld ?_
    rotate_left
    · intro w hSw
      (try dsimp only at hSw)
      go_simp
      try with_reducible rfl
    (try simp only [Act.put, List.getElem_toArray, List.getElem_cons_succ, List.getElem_cons_zero]); (try simp only [List.setIfInBounds_toArray]); (repeat (first | simp only [List.set_cons_succ] | simp only [List.set_cons_zero]))
    refine wpAnyH_take (i := 62) (v := ?_) rfl (by kernel_rfl) (by kernel_rfl) (by kernel_rfl) (fun _ _ _ h => h) (Or.inl ⟨by first | rfl | kernel_rfl, ?_⟩) hHeld ?_
    rotate_left
    · intro w hSw
      (try dsimp only at hSw)
      go_simp
      try with_reducible rfl
    (try simp only [Act.put, List.getElem_toArray, List.getElem_cons_succ, List.getElem_cons_zero]); (try simp only [List.setIfInBounds_toArray]); (repeat (first | simp only [List.set_cons_succ] | simp only [List.set_cons_zero]))
    refine wpAnyH_done (by kernel_rfl) ?_ _
    go_simp
    (try go_wp2_with fail)
    go_meet
    exact ⟨rfl, HY14⟩
  case rest =>
    obtain ⟨rfl, HX2⟩ := hcut
    obtain ⟨X2, hX2⟩ : ∃ q, q = wc := ⟨_, rfl⟩
    subst hX2
    clear HX1 HO1
    go_wp2_with fail
    go_loopw [6] (fun s wx => ∃ i : Nat, i ≤ ll.length ∧ s = .int .i64 (i : Int) ∧ Hid (Chg (fun _ => False) X wx)) (fun s _ => ll.length - (intOf s).toNat)
    case atStart => exact ⟨0, Nat.zero_le _, rfl, HX2⟩
    case round =>
      clear HX2
      obtain ⟨i, hil, rfl, HC⟩ := hrel
      obtain ⟨w0, hw0⟩ : ∃ q, q = wr := ⟨_, rfl⟩
      subst hw0
      have v0 := H.out.sv w0 HC.out
      by_cases hi : i < ll.length
      · have t1 : (i : Int) < (ll.length : Int) := by omega
        obtain ⟨gsv, csv, esv⟩ := slice_pos (H.out.mine X (Chg.refl _ _)).1 (by omega)
        injection esv with esv _ _
        subst esv
        obtain ⟨pq, cq, eq⟩ := slice_of ((H.out.mine X (Chg.refl _ _)).2 i hi)
        obtain ⟨I, hI⟩ : ∃ I, I = idxL (lOf ll i) := ⟨_, rfl⟩
        have hpl : (ptL (lOf ll i) (pb i) (lOf ll i).length) = I.map (fun j => .pointer (some ⟨pb i j, 0, none⟩)) := by rw [hI]; exact ptL_idx _ _
        rw [hpl, List.length_map] at eq
        obtain ⟨f, hf⟩ : ∃ f : Nat → List Nat, f = (fun j => (c.σ i j).got) := ⟨_, rfl⟩
        obtain ⟨G, hG⟩ : ∃ G, G = gotT (clOf ll) c i := ⟨_, rfl⟩
        have hGI : G = I.flatMap f := by rw [hG, hI, hf]; exact H.out.gotI i hi
        have hGN : G.length ≤ 16777216 := by rw [hG]; exact H.out.gotN i hi
        have HQC : Hid (∀ w, Chg (fun _ => False) X w → w.cell? ⟨gsv, i, none⟩ = some (.slice pq I.length cq)) := fun w cw => by
          have z := World.ownsRow.cellAt (H.out.mine w cw).1 i (by omega)
          rw [z, List.getElem?_map, List.getElem?_range hi, ← eq]
          rfl
        have HQJ : Hid (∀ w, Chg (fun _ => False) X w → ∀ k j, I[k]? = some j → ∃ gq, pq = some ⟨gq, 0, none⟩ ∧ w.cell? ⟨gq, k, none⟩ = some (.pointer (some ⟨pb i j, 0, none⟩)) ∧ ∃ g, w.cell? ⟨pb i j, 2, none⟩ = some g ∧ w.ownsRow 0 75 1 g (f j).length ((f j).map u64V)) := fun w cw k j hj => by
          have kl := (List.getElem?_eq_some_iff.1 hj).1
          have z0 := (H.out.mine w cw).2 i hi
          rw [hpl, List.length_map, eq] at z0
          obtain ⟨gq, c', e'⟩ := slice_pos z0 (by omega)
          injection e' with e1 _ e3
          subst e1 e3
          have z := World.ownsRow.cellAt z0 k (by omega)
          rw [List.getElem?_map, hj] at z
          have hm : j ∈ idxL (lOf ll i) := by rw [← hI]; exact List.mem_of_getElem? hj
          obtain ⟨a1, a2⟩ := idxL_lt hm
          rw [hf]
          exact ⟨gq, rfl, z, H.out.gotP w cw i j hi a1 (a2 _ (qOf_get a1))⟩
        have HGC : Hid (∀ w, Chg (fun _ => False) X w → w.cell? ⟨q, 7, none⟩ = some (.slice (some ⟨gg, 0, none⟩) ll.length ll.length) ∧ w.cell? ⟨gg, i, none⟩ = some (gv i) ∧ w.ownsRow 0 75 1 (gv i) G.length (G.map u64V)) := fun w cw => by
          obtain ⟨z1, z2⟩ := H.out.gotC w cw
          refine ⟨z1, z2 i hi, ?_⟩
          rw [hG]; exact H.out.gotR w cw i hi
        obtain ⟨gv0, hgv0⟩ : ∃ v, v = gv i := ⟨_, rfl⟩
        rw [← hgv0] at HGC
        obtain ⟨pg, cg, eg⟩ := slice_of (HGC.out X (Chg.refl _ _)).2.2
        subst eg
        have HGI := keepH hGI
        have HSV : Hid (∀ w, Chg (fun _ => False) X w → w.cell? ⟨wb, 2, none⟩ = some (.slice (some ⟨gsv, 0, none⟩) ll.length cs)) := fun w cw => H.out.sv w cw
        have hIN : I.length ≤ 1048576 := by rw [hI]; exact H.out.idxN i hi
        clear hI hpl hf hG hGI eq hgv0
        have v1 := HQC.out w0 HC.out
        go_wp2_with fail
        go_loopw [7, 8] (fun s7 s8 wx => ∃ (k : Nat) (pv : Option Addr) (cv : Nat), k ≤ I.length ∧ s8 = .int .i64 (k : Int) ∧ s7 = .slice pv ((I.take k).flatMap f).length cv ∧ Hid (wx.ownsRow 0 75 1 (.slice pv ((I.take k).flatMap f).length cv) ((I.take k).flatMap f).length (((I.take k).flatMap f).map u64V)) ∧ Hid (Chg (fun _ => False) X wx) ∧ Hid (∀ k', (Value.slice pv ((I.take k).flatMap f).length cv).ownBlock = some k' → X.heap.size ≤ k')) (fun _ s _ => I.length - (intOf s).toNat)
        case atStart => exact ⟨0, none, 0, Nat.zero_le _, rfl, rfl, keepH (World.ownsRow_nil _ _ _ _), HC, keepH (fun k' e => by simp [Value.ownBlock] at e)⟩
        case round =>
          obtain ⟨k, pv, cv, hkl, rfl, rfl, HR, HC2, HB⟩ := hrel
          obtain ⟨w1, hw1⟩ : ∃ q, q = wr := ⟨_, rfl⟩
          subst hw1
          clear v0 v1
          have v0 := HSV.out w1 HC2.out
          have v1 := HQC.out w1 HC2.out
          by_cases hk : k < I.length
          · have t2 : (k : Int) < (I.length : Int) := by omega
            obtain ⟨j, hj⟩ : ∃ j, I[k]? = some j := ⟨I[k], List.getElem?_eq_getElem hk⟩
            obtain ⟨gq, rfl, v2, g, v3, hg⟩ := HQJ.out w1 HC2.out k j hj
            obtain ⟨pg2, cg2, rfl⟩ := slice_of hg
            have HTF := keepH (take_flat (f := f) hj)
            have hle := take_flat_le (l := I) (f := f) (k + 1)
            rw [← HGI.out, HTF.out, List.length_append] at hle
            obtain ⟨vx, wx, hr1, ho1, hg1, hn1⟩ := appR (c := cg2) HR.out (Reads.of_row hg) (by omega) 110
            obtain ⟨pvx, cvx, rfl⟩ := slice_of ho1
            have HO1 := keepH ho1
            have HG1 := keepH hg1
            have HN1 := keepH hn1
            clear hj ho1 hg1 hn1 hg
            go_wp2_with (at_builtin; refine wpList_append_runS rfl _ _ 110 rfl _ _ _ _ rfl rfl hr1 ?_)
            go_roundw
            case rel =>
              have CX : Chg (fun k2 => (Value.slice pv ((I.take k).flatMap f).length cv).ownBlock = some k2) w1 wx := (Chg.refl _ w1).grown HG1.out (fun k e _ => e)
              refine ⟨k + 1, pvx, cvx, by omega, by first | rfl | go_num, by rw [HTF.out]; simp, keepH (by rw [HTF.out]; exact HO1.out), keepH (HC2.out.trans CX (fun _ _ x => x) (fun k' hk' e => by have := HB.out k' e; omega)), keepH (fun k' e => ?_)⟩
              rw [HTF.out] at e
              rcases HN1.out with z | z
              · exact HB.out k' (z ▸ e)
              · rw [z] at e
                injection e with e
                have := HC2.out.size
                omega
            case measure => simp [intOf]; omega
          · have t2 : ¬ (k : Int) < (I.length : Int) := by omega
            obtain rfl : k = I.length := by omega
            have eT : (I.take I.length).flatMap f = G := by rw [HGI.out, List.take_of_length_le (Nat.le_refl _)]
            rw [eT] at HR ⊢
            obtain ⟨z1, z2, z3⟩ := HGC.out w1 HC2.out
            have HSU := keepH (s_sameUq pv pg cv cg G w1 (UReads.of_row HR.out) (UReads.of_row z3) (by omega))
            clear z3
            go_wp2_with fail
            refine HSU.out.mono ?_
            rintro e w2 ⟨rfl, nq, hw2⟩
            have HC3 : Hid (Chg (fun _ => False) X w2) := by rw [hw2]; exact HC2.out.trans (drewN_chgY _ _) (fun _ _ x => x) (fun _ _ x => x)
            clear hw2
            go_wp2_with fail
            go_roundw
            case rel => exact ⟨i + 1, by omega, by first | rfl | go_num, HC3⟩
            case measure => simp [intOf]; omega
      · have t1 : ¬ (i : Int) < (ll.length : Int) := by omega
        go_wp2_with fail
        go_ret
        exact ⟨by simp, HC.out⟩

end Go.Proofs.YtnhiodmigmmfgaaGreat
