/- The document's Pick: a step of a plan. -/
import Derived.Test.YtnhiodmigmmfgaaGreatO11YI1
import Derived.Deep.RegionHeld3
import Derived.BigRegion
import Derived.Deep.Cut
import Derived.Deep.CutBlock
import Derived.Deep.DeepCutAuto
namespace Go.Proofs.YtnhiodmigmmfgaaGreat
open Go.RowKit Go.Shelf
set_option linter.unusedVariables false

set_option maxRecDepth 100000 in
set_option maxHeartbeats 16000000 in
theorem d4_pick_yes {X : World} {B r nm T : Nat} {p : Option Addr} {c8 : Nat} {s : R4S} {K : Nat → Prop} (h : D4x X B r nm T p c8 s K) {ll : List (List PlP)} {ap : Nat → Option Addr} {ac : Nat → Nat} {lp : Nat → Nat → Option Addr} {lc : Nat → Nat → Nat} (hP : ThsAt X B p ll ap ac lp lc) (hT : ll.length = T) (cl : Nat → Nat) (hcl : ∀ i l, ll[i]? = some l → l.length = cl i) (i : Nat) (hi : i < T) (hst : s.st ≤ 16777216) (hc : s.call i < cl i) {l : List PlP} {q : PlP} (hl : ll[i]? = some l) (hq : l[s.call i]? = some q) (hat : s.at_ i < nst q) (hqL : q.L.length ≤ 1048576) (hlL : l.length ≤ 1048576) (hB : B ≤ X.heap.size) :
    Calls Tryz.prog 9 #[.pointer (some ⟨r, 0, none⟩), .int .i64 (i : Int)] X fun e Y => e = .returned (.bool true) ∧ ∃ K', D4x Y B r nm T p c8 (s.pick i q) K' ∧ Goes X Y K K' := by
  obtain ⟨i0, hi0, hz0, hz1, hz2⟩ := info_parts infoE
  obtain ⟨tg, gc, ga, gg, ev, wv, gv, R, h, hK⟩ := h
  obtain ⟨sx, hsx⟩ : ∃ sx, sx = s.pick i q := ⟨_, rfl⟩
  rw [← hsx]
  have HSX := keepH hsx
  clear hsx
  obtain ⟨st, call, at_, es, ws, gl, m, t⟩ := s
  simp only at h hst hc hq hat
  have c4 : X.cell? ⟨r, 4, none⟩ = some (.int .i64 (st : Int)) := cell_of h.blk 4
  have f4 := free_of h.blk 4
  obtain ⟨s1, hs1⟩ : ∃ s1, s1 = st + 1 := ⟨_, rfl⟩
  have e1 : IntKind.i64.wrap ((st : Int) + 1) = (s1 : Int) := by rw [IntKind.wrap_i64]; omega
  have e2 : (st : Int) + 1 = (s1 : Int) := by omega
  have hr : B ≤ r := (h.lo r (by rw [h.tr]; decide)).1
  have HD : Hid (D4At (X.setCell ⟨r, 4, none⟩ (.int .i64 (s1 : Int))) B tg r nm T s1 gc ga gg p c8 ev wv es ws gv gl R m t call at_) := h.setSt s1 (by omega)
  have HCH : Hid (Chg K X (X.setCell ⟨r, 4, none⟩ (.int .i64 (s1 : Int)))) := (Chg.refl K X).setCell (p := ⟨r, 4, none⟩) (fun _ => hK r (by rw [h.tr]; decide)) _
  have HLW : Hid (∀ k, k < B → (X.setCell ⟨r, 4, none⟩ (.int .i64 (s1 : Int))).heap[k]? = X.heap[k]?) := fun k hk => Below.heap_setCell _ _ _ k (fun q => by have q2 : k = r := q; omega)
  have HPP : Hid (ThsAt (X.setCell ⟨r, 4, none⟩ (.int .i64 (s1 : Int))) B p ll ap ac lp lc) := hP.low HLW.out
  have HLF := keepH (d4_left ⟨tg, gc, ga, gg, ev, wv, es, ws, gv, gl, R, m, t, HD.out, hK⟩ HPP.out hT cl hcl (i : Int))
  rw [decide_eq_true (show (0 : Int) ≤ (i : Int) ∧ (i : Int) < (T : Int) ∧ call (i : Int).toNat < cl (i : Int).toNat from ⟨by omega, by omega, by simpa using hc⟩)] at HLF
  have HS1 := keepH hs1
  have HK := keepH hK
  have HL := keepH hl
  have HQ := keepH hq
  have HBD := keepH h.bd
  have hcL : l.length = cl i := hcl i l hl
  have HDLL : Hid (call i < 4611686018427387904) := by show _ < _; omega
  clear h hK hP hcl hs1 hl hq
  go_enter Tryz.func9, Tryz.ntmps9
  go_wp2_with fail
  refine HLF.out.mono ?_
  rintro e w1 ⟨rfl, q1, hw1⟩
  have HD1 : Hid (D4At w1 B tg r nm T s1 gc ga gg p c8 ev wv es ws gv gl R m t call at_) := by rw [hw1]; exact HD.out.keep (Nat.le_refl _) (fun k _ => rfl)
  have HLW1 : Hid (∀ k, k < B → w1.heap[k]? = X.heap[k]?) := by rw [hw1]; exact HLW.out
  have HP1 : Hid (ThsAt w1 B p ll ap ac lp lc) := by rw [hw1]; exact HPP.out.low (fun k _ => rfl)
  have HC1 : Hid (Chg K X w1) := by rw [hw1]; exact HCH.out.trans (drewN_chgY _ _) (fun _ _ x => x) (fun _ _ x => x.elim)
  clear hw1 HD HPP HCH HLF c4 f4 HLW
  obtain ⟨⟨bk, off, rfl, hbk, d0⟩, hPl⟩ := HP1.out i l HL.out
  obtain ⟨⟨bl, ol, hal, hbl, d1, d2⟩, hDo⟩ := hPl (call i) q HQ.out
  rw [hal] at d0
  have HDo := keepH hDo
  have a1 : w1.cell? ⟨r, 1, none⟩ = some (.slice (some ⟨bk, off, none⟩) T c8) := cell_of HD1.out.blk 1
  have a2 : w1.cell? ⟨r, 2, none⟩ = some (.slice (some ⟨gc, 0, none⟩) T T) := cell_of HD1.out.blk 2
  have b2 : w1.cell? ⟨gc, i, none⟩ = some (.int .i64 (call i : Int)) := by rw [cell_of HD1.out.cb i]; exact intR_get hi
  have z1 : (i : Int) < (T : Int) := by omega
  have z2 : (call i : Int) < (l.length : Int) := by omega
  have z3 : call i < l.length := by omega
  clear hDo hPl
  have A : ∀ (w : World) {a : Addr} {v : Value}, w.cell? a = some v → ∀ o, (w.alloc o).cell? a = some v := fun w a v ha o => (World.cell?_of_block (w := w) (Below.heap_alloc _ _ _ (World.block_lt_of_cell? w _ ha))).trans ha
  have a1a := A w1 a1
  have a2a := A w1 a2
  have b2a := A w1 b2
  have d0a := A w1 d0
  have d1a := A w1 d1
  have d2a := A w1 d2
  obtain ⟨lp0, hlp0⟩ : ∃ x, x = lp i (call i) := ⟨_, rfl⟩
  obtain ⟨lc0, hlc0⟩ : ∃ x, x = lc i (call i) := ⟨_, rfl⟩
  rw [← hlp0] at HDo
  rw [← hlp0, ← hlc0] at d2 d2a
  clear hlp0 hlc0
  obtain ⟨qn, hqn⟩ : ∃ x, x = q.none := ⟨_, rfl⟩
  rw [← hqn] at d1 d1a
  have HQN := keepH hqn
  clear hqn
  go_upto_region 5 with fail
  go_region
  obtain ⟨pb, hpb⟩ : ∃ pb, pb = w1.heap.size := ⟨_, rfl⟩
  obtain ⟨w2, hw2⟩ : ∃ w2, w2 = (w1.alloc (.cells #[.bool qn, .slice lp0 q.L.length lc0] 107)).drew := ⟨_, rfl⟩
  rw [← hw2, ← hpb]
  have hbp : w2.heap[pb]? = some (.cells #[.bool qn, .slice lp0 q.L.length lc0] 107 (0, 0)) := by rw [hw2, hpb]; exact heap_alloc_new _ _
  have hC2 : Chg (fun _ => False) w1 w2 := by rw [hw2]; exact ((Chg.refl _ _).alloc _).drew
  have HD2 : Hid (D4At w2 B tg r nm T s1 gc ga gg (some ⟨bk, off, none⟩) c8 ev wv es ws gv gl R m t call at_) := HD1.out.up hC2
  have HM2 : Hid (DM X w2 B tg K pb (.cells #[.bool qn, .slice lp0 q.L.length lc0] 107 (0, 0))) := ⟨fun k e => .inl (HK.out k e), Classical.byContradiction (fun e => by have := (HD1.out.lo pb e).2; omega), HC1.out.trans hC2 (fun _ _ x => x) (fun _ _ x => x.elim), hbp, fun k hk => (hC2.block k (by have := HC1.out.size; omega) (fun x => x)).trans (HLW1.out k hk), hB⟩
  have HDX : Hid (∀ w : World, (∀ k, k < B → w.heap[k]? = X.heap[k]?) → DosAt w B lp0 q.L) := fun w hw => HDo.out.low (fun k hk => (hw k hk).trans (HLW1.out k hk).symm)
  clear hw2 hbp hC2 HD1 HC1 HLW1 HP1 HDo a1 a2 b2 d0 d1 d2 a1a a2a b2a d0a d1a d2a hpb
  have a3 : w2.cell? ⟨r, 3, none⟩ = some (.slice (some ⟨ga, 0, none⟩) T T) := cell_of HD2.out.blk 3
  have b3 : w2.cell? ⟨ga, i, none⟩ = some (.int .i64 (at_ i : Int)) := by rw [cell_of HD2.out.ab i]; exact intR_get hi
  go_upto_if 48 with fail
  go_cut [] from 48 to 67 (fun wx => ∃ tg ev, Hid (D4At wx B tg r nm T s1 gc ga gg (some ⟨bk, off, none⟩) c8 ev wv (if at_ i = 0 then es ++ [⟨(st : Int), (i : Int), (call i : Int), false⟩] else es) ws gv gl R m t call at_) ∧ Hid (DM X wx B tg K pb (.cells #[.bool qn, .slice lp0 q.L.length lc0] 107 (0, 0))))
  case first =>
    as_aux_lemma =>
      by_cases h0 : at_ i = 0
      · have g0 : ((at_ i : Int) == 0) = true := by simp [h0]
        simp only [g0]
        obtain ⟨pe, ce, hev'⟩ := slice_of HD2.out.er
        subst hev'
        have hel : es.length + 1 ≤ 1099511627776 := by have := HBD.out.1; omega
        have HEL2 : Hid (es.length + 1 ≤ 2 * s1) := by have := HBD.out.1; have := HS1.out; show _ ≤ _; omega
        have H0 := keepH h0
        clear h0 g0 a3 b3
        go_upto_region 7 with fail
        obtain ⟨we, hwe⟩ : ∃ we, we = w2.drew := ⟨_, rfl⟩
        have hCe : Chg (fun _ => False) w2 we := by rw [hwe]; exact (Chg.refl _ _).drew
        have HDe := keepH (HD2.out.up hCe)
        have HMe := keepH (HM2.out.up hCe)
        have s2 : we.cell? ⟨r, 2, none⟩ = some (.slice (some ⟨gc, 0, none⟩) T T) := cell_of HDe.out.blk 2
        have sc : we.cell? ⟨gc, i, none⟩ = some (.int .i64 (call i : Int)) := by rw [cell_of HDe.out.cb i]; exact intR_get hi
        have s5 : we.cell? ⟨r, 5, none⟩ = some (.slice pe es.length ce) := cell_of HDe.out.blk 5
        have s5a := A we s5
        have HSA : Hid (∀ o, (we.alloc o).cell? ⟨r, 2, none⟩ = some (.slice (some ⟨gc, 0, none⟩) T T) ∧ (we.alloc o).cell? ⟨gc, i, none⟩ = some (.int .i64 (call i : Int))) := fun o => ⟨A we s2 o, A we sc o⟩
        have HS0 : Hid (we.cell? ⟨r, 2, none⟩ = some (.slice (some ⟨gc, 0, none⟩) T T) ∧ we.cell? ⟨gc, i, none⟩ = some (.int .i64 (call i : Int))) := ⟨s2, sc⟩
        have HONE : Hid (∀ u ∈ [Value.int .i64 (st : Int), Value.int .i64 (i : Int), Value.int .i64 (call i : Int), Value.bool false], u.oneCell' = true) := by simp [Value.oneCell', Hid]
        have HLN : Hid (es.length + 1 ≤ maxLen ∧ (es.length + 1) * 32 ≤ 140737488355328) := ⟨by unfold maxLen; omega, by omega⟩
        refine wp_region_held_drew (S := fun w => w.cell? ⟨r, 2, none⟩ = some (.slice (some ⟨gc, 0, none⟩) T T) ∧ w.cell? ⟨gc, i, none⟩ = some (.int .i64 (call i : Int))) (by kernel_rfl) (by rw [← hwe]; exact HS0.out) ?_
        rw [← hwe]
        clear hwe hCe s2 sc HD2 HM2
        intro hHeld
        refine wpAnyH_take (i := 0) (v := ?_) rfl (by kernel_rfl) (by kernel_rfl) (by kernel_rfl) (fun _ _ _ h => h) (Or.inl ⟨by rfl, ?_⟩) hHeld ?_
        rotate_left
        · intro w hSw
          (try dsimp only at hSw)
          go_simp
          try with_reducible rfl
        (try simp only [Act.put, List.getElem_toArray, List.getElem_cons_zero]); (try simp only [List.setIfInBounds_toArray]); (repeat (first | simp only [List.set_cons_succ] | simp only [List.set_cons_zero]))
        refine wpAnyH_take (i := 1) (v := ?_) rfl (by kernel_rfl) (by kernel_rfl) (by kernel_rfl) (fun _ _ _ h => h) (Or.inl ⟨by rfl, ?_⟩) hHeld ?_
        rotate_left
        · intro w hSw
          (try dsimp only at hSw)
          go_simp
          try with_reducible rfl
        (try simp only [Act.put, List.getElem_toArray, List.getElem_cons_succ, List.getElem_cons_zero]); (try simp only [List.setIfInBounds_toArray]); (repeat (first | simp only [List.set_cons_succ] | simp only [List.set_cons_zero]))
        refine wpAnyH_take (i := 2) (v := ?_) rfl (by kernel_rfl) (by kernel_rfl) (by kernel_rfl) (fun _ _ _ h => h) (Or.inl ⟨by rfl, ?_⟩) hHeld ?_
        rotate_left
        · intro w hSw
          (try dsimp only at hSw)
          go_simp
          try with_reducible rfl
        (try simp only [Act.put, List.getElem_toArray, List.getElem_cons_succ, List.getElem_cons_zero]); (try simp only [List.setIfInBounds_toArray]); (repeat (first | simp only [List.set_cons_succ] | simp only [List.set_cons_zero]))
        refine wpAnyH_take (i := 3) (v := ?_) rfl (by kernel_rfl) (by kernel_rfl) (by kernel_rfl) (fun _ _ _ h => h) (Or.inl ⟨by rfl, ?_⟩) hHeld ?_
        rotate_left
        · intro w hSw
          (try dsimp only at hSw)
          go_simp
          try with_reducible rfl
        (try simp only [Act.put, List.getElem_toArray, List.getElem_cons_succ, List.getElem_cons_zero]); (try simp only [List.setIfInBounds_toArray]); (repeat (first | simp only [List.set_cons_succ] | simp only [List.set_cons_zero]))
        refine wpAnyH_take (i := 5) (v := ?_) rfl (by kernel_rfl) (by kernel_rfl) (by kernel_rfl) (fun _ _ _ h => h) (Or.inl ⟨by rfl, ?_⟩) hHeld ?_
        rotate_left
        · intro w hSw
          (try dsimp only at hSw)
          go_simp
          try with_reducible rfl
        (try simp only [Act.put, List.getElem_toArray, List.getElem_cons_succ, List.getElem_cons_zero]); (try simp only [List.setIfInBounds_toArray]); (repeat (first | simp only [List.set_cons_succ] | simp only [List.set_cons_zero]))
        refine wpAnyH_take (i := 6) (v := ?_) rfl (by kernel_rfl) (by kernel_rfl) (by kernel_rfl) (fun _ _ _ h => h) (Or.inl ⟨by rfl, ?_⟩) hHeld ?_
        rotate_left
        · intro w hSw
          (try dsimp only at hSw)
          go_simp
          try with_reducible rfl
        (try simp only [Act.put, List.getElem_toArray, List.getElem_cons_succ, List.getElem_cons_zero]); (try simp only [List.setIfInBounds_toArray]); (repeat (first | simp only [List.set_cons_succ] | simp only [List.set_cons_zero]))
        refine wpAnyH_take (i := 7) (v := ?_) rfl (by kernel_rfl) (by kernel_rfl) (by kernel_rfl) (fun _ _ _ h => h) (Or.inl ⟨by rfl, ?_⟩) hHeld ?_
        rotate_left
        · intro w hSw
          (try dsimp only at hSw)
          go_simp
          try with_reducible rfl
        (try simp only [Act.put, List.getElem_toArray, List.getElem_cons_succ, List.getElem_cons_zero]); (try simp only [List.setIfInBounds_toArray]); (repeat (first | simp only [List.set_cons_succ] | simp only [List.set_cons_zero]))
        refine wpAnyH_take (i := 8) (v := ?_) rfl (by kernel_rfl) (by kernel_rfl) (by kernel_rfl) (fun _ _ _ h => h) (Or.inl ⟨by rfl, ?_⟩) hHeld ?_
        rotate_left
        · intro w hSw
          (try dsimp only at hSw)
          go_simp
          try with_reducible rfl
        (try simp only [Act.put, List.getElem_toArray, List.getElem_cons_succ, List.getElem_cons_zero]); (try simp only [List.setIfInBounds_toArray]); (repeat (first | simp only [List.set_cons_succ] | simp only [List.set_cons_zero]))
        refine wpAnyH_take (i := 9) (v := ?_) rfl (by kernel_rfl) (by kernel_rfl) (by kernel_rfl) (fun _ _ _ h => h) (Or.inl ⟨by rfl, ?_⟩) hHeld ?_
        rotate_left
        · intro w hSw
          (try dsimp only at hSw)
          go_simp
          try with_reducible rfl
        (try simp only [Act.put, List.getElem_toArray, List.getElem_cons_succ, List.getElem_cons_zero]); (try simp only [List.setIfInBounds_toArray]); (repeat (first | simp only [List.set_cons_succ] | simp only [List.set_cons_zero]))
        refine wpAnyH_take (i := 10) (v := ?_) rfl (by kernel_rfl) (by kernel_rfl) (by kernel_rfl) (fun _ _ _ h => h) (Or.inl ⟨by rfl, ?_⟩) hHeld ?_
        rotate_left
        · intro w hSw
          (try dsimp only at hSw)
          go_simp
          try with_reducible rfl
        (try simp only [Act.put, List.getElem_toArray, List.getElem_cons_succ, List.getElem_cons_zero]); (try simp only [List.setIfInBounds_toArray]); (repeat (first | simp only [List.set_cons_succ] | simp only [List.set_cons_zero]))
        refine wpAnyH_take (i := 11) (v := ?_) rfl (by kernel_rfl) (by kernel_rfl) (by kernel_rfl) (fun _ _ _ h => h) (Or.inl ⟨by rfl, ?_⟩) hHeld ?_
        rotate_left
        · intro w hSw
          (try dsimp only at hSw)
          go_simp
          try with_reducible rfl
        (try simp only [Act.put, List.getElem_toArray, List.getElem_cons_succ, List.getElem_cons_zero]); (try simp only [List.setIfInBounds_toArray]); (repeat (first | simp only [List.set_cons_succ] | simp only [List.set_cons_zero]))
        refine wpAnyH_take (i := 12) (v := ?_) rfl (by kernel_rfl) (by kernel_rfl) (by kernel_rfl) (fun _ _ _ h => h) (Or.inl ⟨by rfl, ?_⟩) hHeld ?_
        rotate_left
        · intro w hSw
          (try dsimp only at hSw)
          go_simp
          try with_reducible rfl
        (try simp only [Act.put, List.getElem_toArray, List.getElem_cons_succ, List.getElem_cons_zero]); (try simp only [List.setIfInBounds_toArray]); (repeat (first | simp only [List.set_cons_succ] | simp only [List.set_cons_zero]))
        refine wpAnyH_take (i := 13) (v := ?_) rfl (by kernel_rfl) (by kernel_rfl) (by kernel_rfl) (fun _ _ _ h => h) (Or.inl ⟨by rfl, ?_⟩) hHeld ?_
        rotate_left
        · intro w hSw
          (try dsimp only at hSw)
          go_simp
          try with_reducible rfl
        (try simp only [Act.put, List.getElem_toArray, List.getElem_cons_succ, List.getElem_cons_zero]); (try simp only [List.setIfInBounds_toArray]); (repeat (first | simp only [List.set_cons_succ] | simp only [List.set_cons_zero]))
        refine wpAnyH_take (i := 14) (v := ?_) rfl (by kernel_rfl) (by kernel_rfl) (by kernel_rfl) (fun _ _ _ h => h) (Or.inl ⟨by rfl, ?_⟩) hHeld ?_
        rotate_left
        · intro w hSw
          (try dsimp only at hSw)
          go_simp
          try with_reducible rfl
        (try simp only [Act.put, List.getElem_toArray, List.getElem_cons_succ, List.getElem_cons_zero]); (try simp only [List.setIfInBounds_toArray]); (repeat (first | simp only [List.set_cons_succ] | simp only [List.set_cons_zero]))
        refine wpAnyH_ready (rs := [4, 15]) (by kernel_rfl) (by simp) ?_
        refine (AllReadyH.cons rfl (fun KK hKK => ?_) (AllReadyH.cons rfl (fun KK hKK => ?_) AllReadyH.nil))
        · go_simp
          refine hKK.out _ _ ?_ (fun hHeld => ?_)
          · exact HS0.out
          clear hKK KK
          (try simp only [Act.put, List.getElem_toArray, List.getElem_cons_succ, List.getElem_cons_zero]); (try simp only [List.setIfInBounds_toArray]); (repeat (first | simp only [List.set_cons_succ] | simp only [List.set_cons_zero]))
          refine wpAnyH_ready (rs := [15]) (by kernel_rfl) (by simp) ?_
          refine (AllReadyH.cons rfl (fun KK hKK => ?_) AllReadyH.nil)
          go_simp
          refine hKK.out _ _ ?_ (fun hHeld => ?_)
          · exact HSA.out _
          clear hKK KK
          (try simp only [Act.put, List.getElem_toArray, List.getElem_cons_succ, List.getElem_cons_zero]); (try simp only [List.setIfInBounds_toArray]); (repeat (first | simp only [List.set_cons_succ] | simp only [List.set_cons_zero]))
          refine wpAnyH_ready (rs := [16]) (by kernel_rfl) (by simp) ?_
          refine (AllReadyH.cons rfl (fun KK hKK => ?_) AllReadyH.nil)
          refine step_append_base rfl (.tmp 53) (.tmp 64) 65 rfl 0 100 i0 (evV 0 0 0 false) 4 32 Tryz.underlying65 hi0 hz0 hz1 hz2 rfl (by decide) (.slice pe es.length ce) es.length (evRow es) rfl (HDe.out.er.alloc _) ⟨we.heap.size, 0, none⟩ 1 1 [.int .i64 (st : Int), .int .i64 (i : Int), .int .i64 (call i : Int), .bool false] rfl rfl (cells_new _ _ rfl _ _) HONE.out HLN.out.1 HLN.out.2 (Nat.zero_le _) ?_
          intro vE wE r1 r2 r4
          obtain ⟨gE, cE, hvE⟩ := slice_pos r1 (Nat.succ_pos _)
          have HEV := keepH (ev_end (i := i) (x := ⟨(st : Int), (i : Int), (call i : Int), false⟩) HDe.out HMe.out hi r1 r2 r4 HEL2.out)
          have kE := HEV.out.cell
          have fE := HEV.out.free
          clear r1 r2 r4 s5 s5a
          subst hvE
          refine hKK.out _ _ ?_ (fun hHeld => ?_)
          · exact ⟨HEV.out.h2, HEV.out.hc⟩
          clear hKK KK
          (try simp only [Act.put, List.getElem_toArray, List.getElem_cons_succ, List.getElem_cons_zero]); (try simp only [List.setIfInBounds_toArray]); (repeat (first | simp only [List.set_cons_succ] | simp only [List.set_cons_zero]))
          refine wpAnyH_take (i := 17) (v := ?_) rfl (by kernel_rfl) (by kernel_rfl) (by kernel_rfl) (fun _ _ _ h => h) (Or.inl ⟨by rfl, ?_⟩) hHeld ?_
          rotate_left
          · intro w hSw
            (try dsimp only at hSw)
            go_simp
            try with_reducible rfl
          (try simp only [Act.put, List.getElem_toArray, List.getElem_cons_succ, List.getElem_cons_zero]); (try simp only [List.setIfInBounds_toArray]); (repeat (first | simp only [List.set_cons_succ] | simp only [List.set_cons_zero]))
          refine wpAnyH_take (i := 18) (v := ?_) rfl (by kernel_rfl) (by kernel_rfl) (by kernel_rfl) (fun _ _ _ h => h) (Or.inl ⟨by rfl, ?_⟩) hHeld ?_
          rotate_left
          · intro w hSw
            (try dsimp only at hSw)
            go_simp
            try with_reducible rfl
          (try simp only [Act.put, List.getElem_toArray, List.getElem_cons_succ, List.getElem_cons_zero]); (try simp only [List.setIfInBounds_toArray]); (repeat (first | simp only [List.set_cons_succ] | simp only [List.set_cons_zero]))
          refine wpAnyH_ready (rs := [19]) (by kernel_rfl) (by simp) ?_
          refine (AllReadyH.cons rfl (fun KK hKK => ?_) AllReadyH.nil)
          go_simp
          refine hKK.out _ _ ?_ (fun hHeld => ?_)
          · exact ⟨HEV.out.k2, HEV.out.kc⟩
          clear hKK KK
          (try simp only [Act.put, List.getElem_toArray, List.getElem_cons_succ, List.getElem_cons_zero]); (try simp only [List.setIfInBounds_toArray]); (repeat (first | simp only [List.set_cons_succ] | simp only [List.set_cons_zero]))
          refine wpAnyH_done (by kernel_rfl) ?_ _
          go_simp
          (try go_wp2_with fail)
          go_meet
          simp only [if_pos H0.out]
          exact HEV.out.fin
        · go_simp
          refine hKK.out _ _ ?_ (fun hHeld => ?_)
          · exact HSA.out _
          clear hKK KK
          (try simp only [Act.put, List.getElem_toArray, List.getElem_cons_succ, List.getElem_cons_zero]); (try simp only [List.setIfInBounds_toArray]); (repeat (first | simp only [List.set_cons_succ] | simp only [List.set_cons_zero]))
          refine wpAnyH_ready (rs := [4]) (by kernel_rfl) (by simp) ?_
          refine (AllReadyH.cons rfl (fun KK hKK => ?_) AllReadyH.nil)
          go_simp
          refine hKK.out _ _ ?_ (fun hHeld => ?_)
          · exact HSA.out _
          clear hKK KK
          (try simp only [Act.put, List.getElem_toArray, List.getElem_cons_succ, List.getElem_cons_zero]); (try simp only [List.setIfInBounds_toArray]); (repeat (first | simp only [List.set_cons_succ] | simp only [List.set_cons_zero]))
          refine wpAnyH_ready (rs := [16]) (by kernel_rfl) (by simp) ?_
          refine (AllReadyH.cons rfl (fun KK hKK => ?_) AllReadyH.nil)
          refine step_append_base rfl (.tmp 53) (.tmp 64) 65 rfl 0 100 i0 (evV 0 0 0 false) 4 32 Tryz.underlying65 hi0 hz0 hz1 hz2 rfl (by decide) (.slice pe es.length ce) es.length (evRow es) rfl (HDe.out.er.alloc _) ⟨we.heap.size, 0, none⟩ 1 1 [.int .i64 (st : Int), .int .i64 (i : Int), .int .i64 (call i : Int), .bool false] rfl rfl (cells_new _ _ rfl _ _) HONE.out HLN.out.1 HLN.out.2 (Nat.zero_le _) ?_
          intro vE wE r1 r2 r4
          obtain ⟨gE, cE, hvE⟩ := slice_pos r1 (Nat.succ_pos _)
          have HEV := keepH (ev_end (i := i) (x := ⟨(st : Int), (i : Int), (call i : Int), false⟩) HDe.out HMe.out hi r1 r2 r4 HEL2.out)
          have kE := HEV.out.cell
          have fE := HEV.out.free
          clear r1 r2 r4 s5 s5a
          subst hvE
          refine hKK.out _ _ ?_ (fun hHeld => ?_)
          · exact ⟨HEV.out.h2, HEV.out.hc⟩
          clear hKK KK
          (try simp only [Act.put, List.getElem_toArray, List.getElem_cons_succ, List.getElem_cons_zero]); (try simp only [List.setIfInBounds_toArray]); (repeat (first | simp only [List.set_cons_succ] | simp only [List.set_cons_zero]))
          refine wpAnyH_take (i := 17) (v := ?_) rfl (by kernel_rfl) (by kernel_rfl) (by kernel_rfl) (fun _ _ _ h => h) (Or.inl ⟨by rfl, ?_⟩) hHeld ?_
          rotate_left
          · intro w hSw
            (try dsimp only at hSw)
            go_simp
            try with_reducible rfl
          (try simp only [Act.put, List.getElem_toArray, List.getElem_cons_succ, List.getElem_cons_zero]); (try simp only [List.setIfInBounds_toArray]); (repeat (first | simp only [List.set_cons_succ] | simp only [List.set_cons_zero]))
          refine wpAnyH_take (i := 18) (v := ?_) rfl (by kernel_rfl) (by kernel_rfl) (by kernel_rfl) (fun _ _ _ h => h) (Or.inl ⟨by rfl, ?_⟩) hHeld ?_
          rotate_left
          · intro w hSw
            (try dsimp only at hSw)
            go_simp
            try with_reducible rfl
          (try simp only [Act.put, List.getElem_toArray, List.getElem_cons_succ, List.getElem_cons_zero]); (try simp only [List.setIfInBounds_toArray]); (repeat (first | simp only [List.set_cons_succ] | simp only [List.set_cons_zero]))
          refine wpAnyH_ready (rs := [19]) (by kernel_rfl) (by simp) ?_
          refine (AllReadyH.cons rfl (fun KK hKK => ?_) AllReadyH.nil)
          go_simp
          refine hKK.out _ _ ?_ (fun hHeld => ?_)
          · exact ⟨HEV.out.k2, HEV.out.kc⟩
          clear hKK KK
          (try simp only [Act.put, List.getElem_toArray, List.getElem_cons_succ, List.getElem_cons_zero]); (try simp only [List.setIfInBounds_toArray]); (repeat (first | simp only [List.set_cons_succ] | simp only [List.set_cons_zero]))
          refine wpAnyH_done (by kernel_rfl) ?_ _
          go_simp
          (try go_wp2_with fail)
          go_meet
          simp only [if_pos H0.out]
          exact HEV.out.fin
      · have g0 : ((at_ i : Int) == 0) = false := by simp; omega
        simp only [g0]
        go_wp2_with fail
        go_meet
        refine ⟨tg, ev, ?_, HM2⟩
        rw [if_neg h0]
        exact HD2
  case rest =>
    as_aux_lemma =>
      obtain ⟨tg2, ev2, HD3, HM3⟩ := hcut
      obtain ⟨w3, hw3⟩ : ∃ w3, w3 = wc := ⟨_, rfl⟩
      subst hw3
      obtain ⟨es1, hes1⟩ : ∃ es1, es1 = (if at_ i = 0 then es ++ [⟨(st : Int), (i : Int), (call i : Int), false⟩] else es) := ⟨_, rfl⟩
      rw [← hes1] at HD3
      have HES := keepH hes1
      have hel : es1.length ≤ es.length + 1 := by rw [hes1]; split <;> simp
      clear hes1 a3 b3 HD2 HM2
      have c30 : w3.cell? ⟨pb, 0, none⟩ = some (.bool qn) := cell_of HM3.out.plan 0
      have c31 : w3.cell? ⟨pb, 1, none⟩ = some (.slice lp0 q.L.length lc0) := cell_of HM3.out.plan 1
      have c32 : w3.cell? ⟨r, 3, none⟩ = some (.slice (some ⟨ga, 0, none⟩) T T) := cell_of HD3.out.blk 3
      have c33 : w3.cell? ⟨ga, i, none⟩ = some (.int .i64 (at_ i : Int)) := by rw [cell_of HD3.out.ab i]; exact intR_get hi
      go_upto_region 8 with fail
      go_cut [83] from 68 to 82 (fun s83 wx => ∃ b, s83 = .bool b ∧ Hid (b = decide (qn = false ∧ at_ i < q.L.length)) ∧ Hid (Chg (fun _ => False) w3 wx))
      case first =>
        as_aux_lemma =>
          cases qn with
          | true =>
            as_aux_lemma =>
              go_quiet (fail)
              (try go_wp2_with fail)
              go_meet
              exact ⟨false, rfl, by show _ = _; simp, drewN_chgY _ _⟩
          | false =>
            as_aux_lemma =>
              by_cases hlt : at_ i < q.L.length
              · have y1 : (at_ i : Int) < (q.L.length : Int) := by omega
                have y2 : decide (at_ i < q.L.length) = true := decide_eq_true hlt
                go_quiet (fail)
                (try go_wp2_with fail)
                go_meet
                exact ⟨true, rfl, by show _ = _; simp [hlt], drewN_chgY _ _⟩
              · have y1 : ¬ (at_ i : Int) < (q.L.length : Int) := by omega
                have y2 : decide (at_ i < q.L.length) = false := decide_eq_false hlt
                go_quiet (fail)
                (try go_wp2_with fail)
                go_meet
                exact ⟨false, rfl, by show _ = _; simp [hlt], drewN_chgY _ _⟩
      case rest =>
        as_aux_lemma =>
          obtain ⟨bt, rfl, HBT, HW4⟩ := hcut
          obtain ⟨w4, hw4⟩ : ∃ w4, w4 = wc := ⟨_, rfl⟩
          subst hw4
          have HD4 : Hid (D4At w4 B tg2 r nm T s1 gc ga gg (some ⟨bk, off, none⟩) c8 ev2 wv es1 ws gv gl R m t call at_) := HD3.out.up HW4.out
          have HM4 : Hid (DM X w4 B tg2 K pb (.cells #[.bool qn, .slice lp0 q.L.length lc0] 107 (0, 0))) := HM3.out.up HW4.out
          clear c30 c31 c32 c33 HD3 HM3 HW4
          obtain ⟨dd, hdd⟩ : ∃ dd, dd = dopOf q (at_ i) := ⟨_, rfl⟩
          have HDD := keepH hdd
          clear hdd
          go_upto_if 83 with fail
          go_cut [7, 8, 9] from 83 to 155 (fun s7 s8 s9 wx => ∃ tg gv wv R, Hid (D4At wx B tg r nm T s1 gc ga gg (some ⟨bk, off, none⟩) c8 ev2 wv es1 (ws ++ (nxtT (i : Int) 200 m dd).map (fun _ => (st : Int))) gv (fun j => if j = i then gl i ++ nxtG 200 m dd else gl j) R (nxtM 200 m dd) (t ++ nxtT (i : Int) 200 m dd) call at_) ∧ Hid (DM X wx B tg K pb (.cells #[.bool qn, .slice lp0 q.L.length lc0] 107 (0, 0))))
          case first =>
            as_aux_lemma =>
              have HNO : Hid (nxtT (i : Int) 200 m dd = [] → nxtG 200 m dd = [] → nxtM 200 m dd = m → ∀ w, D4At w B tg2 r nm T s1 gc ga gg (some ⟨bk, off, none⟩) c8 ev2 wv es1 ws gv gl R m t call at_ → D4At w B tg2 r nm T s1 gc ga gg (some ⟨bk, off, none⟩) c8 ev2 wv es1 (ws ++ (nxtT (i : Int) 200 m dd).map (fun _ => (st : Int))) gv (fun j => if j = i then gl i ++ nxtG 200 m dd else gl j) R (nxtM 200 m dd) (t ++ nxtT (i : Int) 200 m dd) call at_) := fun z1 z2 z3 w hw => by
                rw [z1, z2, z3]
                have e : (fun j => if j = i then gl i ++ [] else gl j) = gl := funext fun j => by
                  by_cases hji : j = i
                  · rw [if_pos hji, List.append_nil, hji]
                  · rw [if_neg hji]
                rw [e]
                simpa using hw
              cases bt with
              | false =>
                as_aux_lemma =>
                  have hn : dd = none := by
                    rw [HDD.out]
                    have e := HBT.out
                    unfold dopOf
                    rw [← HQN.out]
                    split
                    · rfl
                    · rename_i hq
                      have hq' : qn = false := by simpa using hq
                      have : ¬ at_ i < q.L.length := fun z => by rw [decide_eq_true ⟨hq', z⟩] at e; cases e
                      exact List.getElem?_eq_none (by omega)
                  go_wp2_with fail
                  go_meet
                  refine ⟨tg2, gv, wv, R, ?_, HM4⟩
                  exact HNO.out (by rw [hn]; rfl) (by rw [hn]; rfl) (by rw [hn]; rfl) _ HD4.out
              | true =>
                as_aux_lemma =>
                  have hlt : at_ i < q.L.length := (of_decide_eq_true HBT.out.symm).2
                  have hqf : qn = false := (of_decide_eq_true HBT.out.symm).1
                  obtain ⟨d, hd⟩ : ∃ d, q.L[at_ i]? = some d := ⟨q.L[at_ i], List.getElem?_eq_getElem hlt⟩
                  have hdd : dd = some d := by rw [HDD.out]; unfold dopOf; rw [← HQN.out, hqf, hd]; rfl
                  clear hqf
                  obtain ⟨ho, bd, od, vp, vc, hlp, hbd, f0, f1, f2, f3, f4, hrd, hvp⟩ := HDX.out w4 HM4.out.low (at_ i) d hd
                  have HLP := keepH hlp
                  have HRD := keepH hrd
                  have HVP := keepH hvp
                  have HO := keepH ho
                  have HDS := keepH hdd
                  have c31 : w4.cell? ⟨pb, 1, none⟩ = some (.slice lp0 q.L.length lc0) := cell_of HM4.out.plan 1
                  rw [hlp] at c31
                  have c32 : w4.cell? ⟨r, 3, none⟩ = some (.slice (some ⟨ga, 0, none⟩) T T) := cell_of HD4.out.blk 3
                  have c33 : w4.cell? ⟨ga, i, none⟩ = some (.int .i64 (at_ i : Int)) := by rw [cell_of HD4.out.ab i]; exact intR_get hi
                  have y1 : (at_ i : Int) < (q.L.length : Int) := by omega
                  have c31a := A w4 c31
                  have c32a := A w4 c32
                  have c33a := A w4 c33
                  have f0a := A w4 f0
                  have f1a := A w4 f1
                  have f2a := A w4 f2
                  have f3a := A w4 f3
                  have f4a := A w4 f4
                  clear hd hdd hlp hrd hvp ho
                  go_upto_region 9 with fail
                  go_big_region
                  obtain ⟨db, hdb⟩ : ∃ db, db = w4.heap.size := ⟨_, rfl⟩
                  obtain ⟨w5, hw5⟩ : ∃ w5, w5 = (w4.alloc (.cells #[.int .u8 d.kd, .int .u64 (d.ad : Int), .int .u64 (d.a : Int), .int .u64 (d.b : Int), .slice vp d.vals.length vc] 112)).drew := ⟨_, rfl⟩
                  rw [← hw5, ← hdb]
                  have hC5 : Chg (fun _ => False) w4 w5 := by rw [hw5]; exact ((Chg.refl _ _).alloc _).drew
                  have HD5 : Hid (D4At w5 B tg2 r nm T s1 gc ga gg (some ⟨bk, off, none⟩) c8 ev2 wv es1 ws gv gl R m t call at_) := HD4.out.up hC5
                  have HM5 : Hid (DM X w5 B tg2 K pb (.cells #[.bool qn, .slice lp0 q.L.length lc0] 107 (0, 0))) := HM4.out.up hC5
                  have HE5 : Hid (DM X w5 B tg2 K db (.cells #[.int .u8 d.kd, .int .u64 (d.ad : Int), .int .u64 (d.a : Int), .int .u64 (d.b : Int), .slice vp d.vals.length vc] 112 (0, 0))) := ⟨HM5.out.inK, Classical.byContradiction (fun e => by have := (HD4.out.lo db e).2; omega), HM5.out.chg, by rw [hw5, hdb]; exact heap_alloc_new _ _, HM5.out.low, HM5.out.bx⟩
                  have HR5 : Hid (Reads w5 vp d.vals) := reads_low (X := w4) (B := B) (fun k hk => (HM5.out.low k hk).trans (HM4.out.low k hk).symm) HRD.out HVP.out
                  clear hw5 hdb hC5 HD4 HM4 HRD c31 c32 c33 c31a c32a c33a f0 f1 f2 f3 f4 f0a f1a f2a f3a f4a
                  have k0 : w5.cell? ⟨db, 0, none⟩ = some (.int .u8 d.kd) := cell_of HE5.out.plan 0
                  obtain ⟨kd, hkd⟩ : ∃ kd, kd = d.kd := ⟨_, rfl⟩
                  rw [← hkd] at k0
                  have HKD := keepH hkd
                  clear hkd
                  cases hA : isA d with
                  | false =>
                    as_aux_lemma =>
                      have nn : ¬ (1 ≤ kd ∧ kd ≤ 5) := by rw [HKD.out]; simpa [isA] using hA
                      have HAN := keepH hA
                      clear hA
                      by_cases n1 : 1 ≤ kd
                      · have n5 : ¬ kd ≤ 5 := fun e => nn ⟨n1, e⟩
                        clear nn
                        go_wp2_with fail
                        go_meet
                        refine ⟨tg2, gv, wv, R, ?_, HM5⟩
                        exact HNO.out (by rw [HDS.out]; simp [nxtT, mkT, HAN.out]) (by rw [HDS.out]; simp [nxtG, mkG, HAN.out]) (by rw [HDS.out]; simp [nxtM, mkM_idle HAN.out]) _ HD5.out
                      · clear nn
                        go_wp2_with fail
                        go_meet
                        refine ⟨tg2, gv, wv, R, ?_, HM5⟩
                        exact HNO.out (by rw [HDS.out]; simp [nxtT, mkT, HAN.out]) (by rw [HDS.out]; simp [nxtG, mkG, HAN.out]) (by rw [HDS.out]; simp [nxtM, mkM_idle HAN.out]) _ HD5.out
                  | true =>
                    as_aux_lemma =>
                      have nn : 1 ≤ kd ∧ kd ≤ 5 := by rw [HKD.out]; simpa [isA] using hA
                      have HAY := keepH hA
                      clear hA
                      obtain ⟨n1, n5⟩ := nn
                      have g0 : w5.cell? ⟨r, 0, none⟩ = some (.pointer (some ⟨nm, 0, none⟩)) := cell_of HD5.out.blk 0
                      obtain ⟨tp, tc, g2⟩ := RM.tcell HD5.out.rm
                      go_upto_region 12 with fail
                      clear g0 g2 k0
                      go_cut [] from 111 to 132 (fun wx => ∃ tg gv R, Hid (D4At wx B tg r nm T s1 gc ga gg (some ⟨bk, off, none⟩) c8 ev2 wv es1 ws gv (fun j => if j = i then gl i ++ [mkR 200 m d] else gl j) R (mkM 200 m d) (t ++ [mkA (i : Int) 200 m d]) call at_) ∧ Hid (DM X wx B tg K pb (.cells #[.bool qn, .slice lp0 q.L.length lc0] 107 (0, 0))))
                      case first =>
                        as_aux_lemma =>
                          obtain ⟨j0, hj0, hy0, hy1, hy2⟩ := info_parts infoU64y
                          obtain ⟨w6, hw6⟩ : ∃ w6, w6 = w5.drew := ⟨_, rfl⟩
                          have hC6 : Chg (fun _ => False) w5 w6 := by rw [hw6]; exact (Chg.refl _ _).drew
                          have HD6 : Hid (D4At w6 B tg2 r nm T s1 gc ga gg (some ⟨bk, off, none⟩) c8 ev2 wv es1 ws gv gl R m t call at_) := HD5.out.up hC6
                          have HM6 : Hid (DM X w6 B tg2 K pb (.cells #[.bool qn, .slice lp0 q.L.length lc0] 107 (0, 0))) := HM5.out.up hC6
                          have HE6 : Hid (DM X w6 B tg2 K db (.cells #[.int .u8 d.kd, .int .u64 (d.ad : Int), .int .u64 (d.a : Int), .int .u64 (d.b : Int), .slice vp d.vals.length vc] 112 (0, 0))) := HE5.out.up hC6
                          have HR6 : Hid (Reads w6 vp d.vals) := HR5.out.chg hC6 (fun _ _ _ x => x)
                          have htl : t.length < 1099511627776 := by have := HBD.out; omega
                          have hgl : (gl i).length ≤ 16777216 := by have := HBD.out.2.2.1 i hi; omega
                          have HC := keepH (mk_any HD6.out.rm HD6.out.bd.2.2.2.2.1 htl HO.out HAY.out (vc := vc) HR6.out (fun ad e hn => ⟨fun x => by have := (HD6.out.lo _ (by rw [HD6.out.tR _ x]; decide)).1; have := HVP.out ad e hn; omega, by have := HVP.out ad e hn; have := HM6.out.chg.size; omega⟩) (i : Int))
                          obtain ⟨pg, cg, hgv⟩ := slice_of (HD6.out.gr i hi)
                          have HGV := keepH hgv
                          have gx : w6.cell? ⟨gg, i, none⟩ = some (.slice pg (gl i).length cg) := by rw [cell_of HD6.out.gb i, valR_get hi, hgv]
                          have HME : Hid (∀ w7 R7, RM w7 R7 nm 200 (mkM 200 m d).next (mkM 200 m d).cs (t ++ [mkA (i : Int) 200 m d]) → Goes w6 w7 R R7 → ∃ tg7, MadeR X w7 B tg7 r nm T s1 gc ga gg (some ⟨bk, off, none⟩) c8 ev2 wv es1 ws gv gl R7 (mkM 200 m d) (t ++ [mkA (i : Int) 200 m d]) call at_ K pb db (.cells #[.bool qn, .slice lp0 q.L.length lc0] 107 (0, 0)) #[.int .u8 d.kd, .int .u64 (d.ad : Int), .int .u64 (d.a : Int), .int .u64 (d.b : Int), .slice vp d.vals.length vc] i (.slice pg (gl i).length cg)) := fun w7 R7 z1 z2 => made_end HD6.out HM6.out HE6.out z1 z2 (by have := HBD.out; have := HS1.out; simp; omega) (mkM_next HD6.out.bd.2.2.2.2.1) i hi HGV.out
                          have HRR : Hid (∀ {w : World} {tg : Nat → Nat} {R : Nat → Prop} {m : Mu} {t : List Acc}, D4At w B tg r nm T s1 gc ga gg (some ⟨bk, off, none⟩) c8 ev2 wv es1 ws gv gl R m t call at_ → w.ownsRow 0 75 1 (.slice pg (gl i).length cg) (gl i).length ((gl i).map u64V)) := fun z => by rw [← HGV.out]; exact z.gr i hi
                          have HONE : Hid (∀ u ∈ [Value.int .u64 ((mkR 200 m d : Nat) : Int)], u.oneCell' = true) := by intro u hu; simp at hu; subst hu; rfl
                          have HLN : Hid ((gl i).length + 1 ≤ maxLen ∧ ((gl i).length + 1) * 8 ≤ 140737488355328) := ⟨by unfold maxLen; omega, by omega⟩
                          have HGL : Hid ((gl i).length + 1 ≤ s1) := by have := HBD.out.2.2.1 i hi; have := HS1.out; show _ ≤ _; omega
                          clear hgv hC6 HR5 HM5 HE5
                          refine wp_region_held_drew (S := fun w => w.cell? ⟨r, 7, none⟩ = some (.slice (some ⟨gg, 0, none⟩) T T) ∧ w.cell? ⟨r, 0, none⟩ = some (.pointer (some ⟨nm, 0, none⟩)) ∧ w.cell? ⟨db, 0, none⟩ = some (.int .u8 d.kd) ∧ w.cell? ⟨db, 1, none⟩ = some (.int .u64 (d.ad : Int)) ∧ w.cell? ⟨db, 2, none⟩ = some (.int .u64 (d.a : Int)) ∧ w.cell? ⟨db, 3, none⟩ = some (.int .u64 (d.b : Int)) ∧ w.cell? ⟨db, 4, none⟩ = some (.slice vp d.vals.length vc)) (by kernel_rfl) (by rw [← hw6]; exact ⟨cell_of HD6.out.blk 7, cell_of HD6.out.blk 0, cell_of HE6.out.plan 0, cell_of HE6.out.plan 1, cell_of HE6.out.plan 2, cell_of HE6.out.plan 3, cell_of HE6.out.plan 4⟩) ?_
                          rw [← hw6]
                          clear hw6 HD5
                          intro hHeld
                          refine wpAnyH_take (i := 0) (v := ?_) rfl (by kernel_rfl) (by kernel_rfl) (by kernel_rfl) (fun _ _ _ h => h) (Or.inl ⟨by rfl, ?_⟩) hHeld ?_
                          rotate_left
                          · intro w hSw
                            (try dsimp only at hSw)
                            go_simp
                            try with_reducible rfl
                          (try simp only [Act.put, List.getElem_toArray, List.getElem_cons_zero]); (try simp only [List.setIfInBounds_toArray]); (repeat (first | simp only [List.set_cons_succ] | simp only [List.set_cons_zero]))
                          refine wpAnyH_take (i := 1) (v := ?_) rfl (by kernel_rfl) (by kernel_rfl) (by kernel_rfl) (fun _ _ _ h => h) (Or.inl ⟨by rfl, ?_⟩) hHeld ?_
                          rotate_left
                          · intro w hSw
                            (try dsimp only at hSw)
                            go_simp
                            try with_reducible rfl
                          (try simp only [Act.put, List.getElem_toArray, List.getElem_cons_succ, List.getElem_cons_zero]); (try simp only [List.setIfInBounds_toArray]); (repeat (first | simp only [List.set_cons_succ] | simp only [List.set_cons_zero]))
                          refine wpAnyH_take (i := 2) (v := ?_) rfl (by kernel_rfl) (by kernel_rfl) (by kernel_rfl) (fun _ _ _ h => h) (Or.inl ⟨by rfl, ?_⟩) hHeld ?_
                          rotate_left
                          · intro w hSw
                            (try dsimp only at hSw)
                            go_simp
                            try with_reducible rfl
                          (try simp only [Act.put, List.getElem_toArray, List.getElem_cons_succ, List.getElem_cons_zero]); (try simp only [List.setIfInBounds_toArray]); (repeat (first | simp only [List.set_cons_succ] | simp only [List.set_cons_zero]))
                          refine wpAnyH_take (i := 3) (v := ?_) rfl (by kernel_rfl) (by kernel_rfl) (by kernel_rfl) (fun _ _ _ h => h) (Or.inl ⟨by rfl, ?_⟩) hHeld ?_
                          rotate_left
                          · intro w hSw
                            (try dsimp only at hSw)
                            go_simp
                            try with_reducible rfl
                          (try simp only [Act.put, List.getElem_toArray, List.getElem_cons_succ, List.getElem_cons_zero]); (try simp only [List.setIfInBounds_toArray]); (repeat (first | simp only [List.set_cons_succ] | simp only [List.set_cons_zero]))
                          refine wpAnyH_take (i := 4) (v := ?_) rfl (by kernel_rfl) (by kernel_rfl) (by kernel_rfl) (fun _ _ _ h => h) (Or.inl ⟨by rfl, ?_⟩) hHeld ?_
                          rotate_left
                          · intro w hSw
                            (try dsimp only at hSw)
                            go_simp
                            try with_reducible rfl
                          (try simp only [Act.put, List.getElem_toArray, List.getElem_cons_succ, List.getElem_cons_zero]); (try simp only [List.setIfInBounds_toArray]); (repeat (first | simp only [List.set_cons_succ] | simp only [List.set_cons_zero]))
                          refine wpAnyH_take (i := 5) (v := ?_) rfl (by kernel_rfl) (by kernel_rfl) (by kernel_rfl) (fun _ _ _ h => h) (Or.inl ⟨by rfl, ?_⟩) hHeld ?_
                          rotate_left
                          · intro w hSw
                            (try dsimp only at hSw)
                            go_simp
                            try with_reducible rfl
                          (try simp only [Act.put, List.getElem_toArray, List.getElem_cons_succ, List.getElem_cons_zero]); (try simp only [List.setIfInBounds_toArray]); (repeat (first | simp only [List.set_cons_succ] | simp only [List.set_cons_zero]))
                          refine wpAnyH_take (i := 6) (v := ?_) rfl (by kernel_rfl) (by kernel_rfl) (by kernel_rfl) (fun _ _ _ h => h) (Or.inl ⟨by rfl, ?_⟩) hHeld ?_
                          rotate_left
                          · intro w hSw
                            (try dsimp only at hSw)
                            go_simp
                            try with_reducible rfl
                          (try simp only [Act.put, List.getElem_toArray, List.getElem_cons_succ, List.getElem_cons_zero]); (try simp only [List.setIfInBounds_toArray]); (repeat (first | simp only [List.set_cons_succ] | simp only [List.set_cons_zero]))
                          refine wpAnyH_take (i := 7) (v := ?_) rfl (by kernel_rfl) (by kernel_rfl) (by kernel_rfl) (fun _ _ _ h => h) (Or.inl ⟨by rfl, ?_⟩) hHeld ?_
                          rotate_left
                          · intro w hSw
                            (try dsimp only at hSw)
                            go_simp
                            try with_reducible rfl
                          (try simp only [Act.put, List.getElem_toArray, List.getElem_cons_succ, List.getElem_cons_zero]); (try simp only [List.setIfInBounds_toArray]); (repeat (first | simp only [List.set_cons_succ] | simp only [List.set_cons_zero]))
                          refine wpAnyH_take (i := 8) (v := ?_) rfl (by kernel_rfl) (by kernel_rfl) (by kernel_rfl) (fun _ _ _ h => h) (Or.inl ⟨by rfl, ?_⟩) hHeld ?_
                          rotate_left
                          · intro w hSw
                            (try dsimp only at hSw)
                            go_simp
                            try with_reducible rfl
                          (try simp only [Act.put, List.getElem_toArray, List.getElem_cons_succ, List.getElem_cons_zero]); (try simp only [List.setIfInBounds_toArray]); (repeat (first | simp only [List.set_cons_succ] | simp only [List.set_cons_zero]))
                          refine wpAnyH_take (i := 9) (v := ?_) rfl (by kernel_rfl) (by kernel_rfl) (by kernel_rfl) (fun _ _ _ h => h) (Or.inl ⟨by rfl, ?_⟩) hHeld ?_
                          rotate_left
                          · intro w hSw
                            (try dsimp only at hSw)
                            go_simp
                            try with_reducible rfl
                          (try simp only [Act.put, List.getElem_toArray, List.getElem_cons_succ, List.getElem_cons_zero]); (try simp only [List.setIfInBounds_toArray]); (repeat (first | simp only [List.set_cons_succ] | simp only [List.set_cons_zero]))
                          refine wpAnyH_take (i := 10) (v := ?_) rfl (by kernel_rfl) (by kernel_rfl) (by kernel_rfl) (fun _ _ _ h => h) (Or.inl ⟨by rfl, ?_⟩) hHeld ?_
                          rotate_left
                          · intro w hSw
                            (try dsimp only at hSw)
                            go_simp
                            try with_reducible rfl
                          (try simp only [Act.put, List.getElem_toArray, List.getElem_cons_succ, List.getElem_cons_zero]); (try simp only [List.setIfInBounds_toArray]); (repeat (first | simp only [List.set_cons_succ] | simp only [List.set_cons_zero]))
                          refine wpAnyH_take (i := 12) (v := ?_) rfl (by kernel_rfl) (by kernel_rfl) (by kernel_rfl) (fun _ _ _ h => h) (Or.inl ⟨by rfl, ?_⟩) hHeld ?_
                          rotate_left
                          · intro w hSw
                            (try dsimp only at hSw)
                            go_simp
                            try with_reducible rfl
                          (try simp only [Act.put, List.getElem_toArray, List.getElem_cons_succ, List.getElem_cons_zero]); (try simp only [List.setIfInBounds_toArray]); (repeat (first | simp only [List.set_cons_succ] | simp only [List.set_cons_zero]))
                          refine wpAnyH_take (i := 13) (v := ?_) rfl (by kernel_rfl) (by kernel_rfl) (by kernel_rfl) (fun _ _ _ h => h) (Or.inl ⟨by rfl, ?_⟩) hHeld ?_
                          rotate_left
                          · intro w hSw
                            (try dsimp only at hSw)
                            go_simp
                            try with_reducible rfl
                          (try simp only [Act.put, List.getElem_toArray, List.getElem_cons_succ, List.getElem_cons_zero]); (try simp only [List.setIfInBounds_toArray]); (repeat (first | simp only [List.set_cons_succ] | simp only [List.set_cons_zero]))
                          refine wpAnyH_take (i := 14) (v := ?_) rfl (by kernel_rfl) (by kernel_rfl) (by kernel_rfl) (fun _ _ _ h => h) (Or.inl ⟨by rfl, ?_⟩) hHeld ?_
                          rotate_left
                          · intro w hSw
                            (try dsimp only at hSw)
                            go_simp
                            try with_reducible rfl
                          (try simp only [Act.put, List.getElem_toArray, List.getElem_cons_succ, List.getElem_cons_zero]); (try simp only [List.setIfInBounds_toArray]); (repeat (first | simp only [List.set_cons_succ] | simp only [List.set_cons_zero]))
                          refine wpAnyH_take (i := 15) (v := ?_) rfl (by kernel_rfl) (by kernel_rfl) (by kernel_rfl) (fun _ _ _ h => h) (Or.inl ⟨by rfl, ?_⟩) hHeld ?_
                          rotate_left
                          · intro w hSw
                            (try dsimp only at hSw)
                            go_simp
                            try with_reducible rfl
                          (try simp only [Act.put, List.getElem_toArray, List.getElem_cons_succ, List.getElem_cons_zero]); (try simp only [List.setIfInBounds_toArray]); (repeat (first | simp only [List.set_cons_succ] | simp only [List.set_cons_zero]))
                          refine wpAnyH_take (i := 16) (v := ?_) rfl (by kernel_rfl) (by kernel_rfl) (by kernel_rfl) (fun _ _ _ h => h) (Or.inl ⟨by rfl, ?_⟩) hHeld ?_
                          rotate_left
                          · intro w hSw
                            (try dsimp only at hSw)
                            go_simp
                            try with_reducible rfl
                          (try simp only [Act.put, List.getElem_toArray, List.getElem_cons_succ, List.getElem_cons_zero]); (try simp only [List.setIfInBounds_toArray]); (repeat (first | simp only [List.set_cons_succ] | simp only [List.set_cons_zero]))
                          refine wpAnyH_take (i := 17) (v := ?_) rfl (by kernel_rfl) (by kernel_rfl) (by kernel_rfl) (fun _ _ _ h => h) (Or.inl ⟨by rfl, ?_⟩) hHeld ?_
                          rotate_left
                          · intro w hSw
                            (try dsimp only at hSw)
                            go_simp
                            try with_reducible rfl
                          (try simp only [Act.put, List.getElem_toArray, List.getElem_cons_succ, List.getElem_cons_zero]); (try simp only [List.setIfInBounds_toArray]); (repeat (first | simp only [List.set_cons_succ] | simp only [List.set_cons_zero]))
                          refine wpAnyH_ready (rs := [11, 18]) (by kernel_rfl) (by simp) ?_
                          refine (AllReadyH.cons rfl (fun KK hKK => ?_) (AllReadyH.cons rfl (fun KK hKK => ?_) AllReadyH.nil))
                          · go_simp
                            refine hKK.out _ _ ?_ (fun hHeld => ?_)
                            · exact ⟨cell_of HD6.out.blk 7, cell_of HD6.out.blk 0, cell_of HE6.out.plan 0, cell_of HE6.out.plan 1, cell_of HE6.out.plan 2, cell_of HE6.out.plan 3, cell_of HE6.out.plan 4⟩
                            clear hKK KK
                            (try simp only [Act.put, List.getElem_toArray, List.getElem_cons_succ, List.getElem_cons_zero]); (try simp only [List.setIfInBounds_toArray]); (repeat (first | simp only [List.set_cons_succ] | simp only [List.set_cons_zero]))
                            refine wpAnyH_ready (rs := [18]) (by kernel_rfl) (by simp) ?_
                            refine (AllReadyH.cons rfl (fun KK hKK => ?_) AllReadyH.nil)
                            go_simp
                            go_at_call 38
                            refine HC.out.mono ?_
                            rintro e w7 ⟨rfl, R7, hR7, hG7⟩
                            obtain ⟨tg7, hMR⟩ := HME.out w7 R7 hR7 hG7
                            have HMR := keepH hMR
                            have gy := hMR.gy
                            have gya := hMR.gya
                            clear hR7 hG7 HC gx hMR
                            (try go_wp2_with fail)
                            refine hKK.out _ _ ?_ (fun hHeld => ?_)
                            · exact ⟨cell_of HMR.out.d.blk 7, cell_of HMR.out.d.blk 0, cell_of HMR.out.md.plan 0, cell_of HMR.out.md.plan 1, cell_of HMR.out.md.plan 2, cell_of HMR.out.md.plan 3, cell_of HMR.out.md.plan 4⟩
                            clear hKK KK
                            (try simp only [Act.put, List.getElem_toArray, List.getElem_cons_succ, List.getElem_cons_zero]); (try simp only [List.setIfInBounds_toArray]); (repeat (first | simp only [List.set_cons_succ] | simp only [List.set_cons_zero]))
                            refine wpAnyH_ready (rs := [19]) (by kernel_rfl) (by simp) ?_
                            refine (AllReadyH.cons rfl (fun KK hKK => ?_) AllReadyH.nil)
                            go_simp
                            refine hKK.out _ _ ?_ (fun hHeld => ?_)
                            · exact ⟨cell_of ((HMR.out.rb _).trans HMR.out.d.blk) 7, cell_of ((HMR.out.rb _).trans HMR.out.d.blk) 0, cell_of (HMR.out.db_ _) 0, cell_of (HMR.out.db_ _) 1, cell_of (HMR.out.db_ _) 2, cell_of (HMR.out.db_ _) 3, cell_of (HMR.out.db_ _) 4⟩
                            clear hKK KK
                            (try simp only [Act.put, List.getElem_toArray, List.getElem_cons_succ, List.getElem_cons_zero]); (try simp only [List.setIfInBounds_toArray]); (repeat (first | simp only [List.set_cons_succ] | simp only [List.set_cons_zero]))
                            refine wpAnyH_ready (rs := [20]) (by kernel_rfl) (by simp) ?_
                            refine (AllReadyH.cons rfl (fun KK hKK => ?_) AllReadyH.nil)
                            refine step_append_base rfl (.tmp 122) (.tmp 130) 110 rfl 0 75 j0 (.int .u64 0) 1 8 Tryz.underlying110 hj0 hy0 hy1 hy2 rfl (by decide) (.slice pg (gl i).length cg) (gl i).length ((gl i).map u64V) rfl ((HRR.out HMR.out.d).alloc _) ⟨w7.heap.size, 0, none⟩ 1 1 [.int .u64 ((mkR 200 m d : Nat) : Int)] rfl rfl (cells_new _ _ rfl _ _) HONE.out HLN.out.1 HLN.out.2 (Nat.zero_le _) ?_
                            intro v8 w8 r1 r2 r4
                            obtain ⟨g8, c8q, hv8⟩ := slice_pos r1 (Nat.succ_pos _)
                            have HTR := keepH (told_end HMR.out HMR.out.d.blk hi HGV.out r1 r2 r4 HGL.out)
                            have k8 := HTR.out.cell
                            have f8 := HTR.out.free
                            clear r1 r2 r4 gy gya
                            subst hv8
                            refine hKK.out _ _ ?_ (fun hHeld => ?_)
                            · exact ⟨cell_of HTR.out.rb 7, cell_of HTR.out.rb 0, cell_of HTR.out.db_ 0, cell_of HTR.out.db_ 1, cell_of HTR.out.db_ 2, cell_of HTR.out.db_ 3, cell_of HTR.out.db_ 4⟩
                            clear hKK KK
                            (try simp only [Act.put, List.getElem_toArray, List.getElem_cons_succ, List.getElem_cons_zero]); (try simp only [List.setIfInBounds_toArray]); (repeat (first | simp only [List.set_cons_succ] | simp only [List.set_cons_zero]))
                            refine wpAnyH_take (i := 21) (v := ?_) rfl (by kernel_rfl) (by kernel_rfl) (by kernel_rfl) (fun _ _ _ h => h) (Or.inl ⟨by rfl, ?_⟩) hHeld ?_
                            rotate_left
                            · intro w hSw
                              (try dsimp only at hSw)
                              go_simp
                              try with_reducible rfl
                            (try simp only [Act.put, List.getElem_toArray, List.getElem_cons_succ, List.getElem_cons_zero]); (try simp only [List.setIfInBounds_toArray]); (repeat (first | simp only [List.set_cons_succ] | simp only [List.set_cons_zero]))
                            refine wpAnyH_ready (rs := [22]) (by kernel_rfl) (by simp) ?_
                            refine (AllReadyH.cons rfl (fun KK hKK => ?_) AllReadyH.nil)
                            go_simp
                            refine hKK.out _ _ ?_ (fun hHeld => ?_)
                            · exact ⟨cell_of ((Below.heap_setCell _ _ _ r HTR.out.rn).trans HTR.out.rb) 7, cell_of ((Below.heap_setCell _ _ _ r HTR.out.rn).trans HTR.out.rb) 0, cell_of ((Below.heap_setCell _ _ _ db HTR.out.dn).trans HTR.out.db_) 0, cell_of ((Below.heap_setCell _ _ _ db HTR.out.dn).trans HTR.out.db_) 1, cell_of ((Below.heap_setCell _ _ _ db HTR.out.dn).trans HTR.out.db_) 2, cell_of ((Below.heap_setCell _ _ _ db HTR.out.dn).trans HTR.out.db_) 3, cell_of ((Below.heap_setCell _ _ _ db HTR.out.dn).trans HTR.out.db_) 4⟩
                            clear hKK KK
                            (try simp only [Act.put, List.getElem_toArray, List.getElem_cons_succ, List.getElem_cons_zero]); (try simp only [List.setIfInBounds_toArray]); (repeat (first | simp only [List.set_cons_succ] | simp only [List.set_cons_zero]))
                            refine wpAnyH_done (by kernel_rfl) ?_ _
                            go_simp
                            (try go_wp2_with fail)
                            go_meet
                            obtain ⟨tg8, gv8, z1, z2⟩ := HTR.out.fin
                            exact ⟨tg8, gv8, R7, z1, z2⟩
                          · go_simp
                            go_at_call 38
                            refine HC.out.mono ?_
                            rintro e w7 ⟨rfl, R7, hR7, hG7⟩
                            obtain ⟨tg7, hMR⟩ := HME.out w7 R7 hR7 hG7
                            have HMR := keepH hMR
                            have gy := hMR.gy
                            have gya := hMR.gya
                            clear hR7 hG7 HC gx hMR
                            (try go_wp2_with fail)
                            refine hKK.out _ _ ?_ (fun hHeld => ?_)
                            · exact ⟨cell_of HMR.out.d.blk 7, cell_of HMR.out.d.blk 0, cell_of HMR.out.md.plan 0, cell_of HMR.out.md.plan 1, cell_of HMR.out.md.plan 2, cell_of HMR.out.md.plan 3, cell_of HMR.out.md.plan 4⟩
                            clear hKK KK
                            (try simp only [Act.put, List.getElem_toArray, List.getElem_cons_succ, List.getElem_cons_zero]); (try simp only [List.setIfInBounds_toArray]); (repeat (first | simp only [List.set_cons_succ] | simp only [List.set_cons_zero]))
                            refine wpAnyH_ready (rs := [11, 19]) (by kernel_rfl) (by simp) ?_
                            refine (AllReadyH.cons rfl (fun KK hKK => ?_) (AllReadyH.cons rfl (fun KK hKK => ?_) AllReadyH.nil))
                            · go_simp
                              refine hKK.out _ _ ?_ (fun hHeld => ?_)
                              · exact ⟨cell_of HMR.out.d.blk 7, cell_of HMR.out.d.blk 0, cell_of HMR.out.md.plan 0, cell_of HMR.out.md.plan 1, cell_of HMR.out.md.plan 2, cell_of HMR.out.md.plan 3, cell_of HMR.out.md.plan 4⟩
                              clear hKK KK
                              (try simp only [Act.put, List.getElem_toArray, List.getElem_cons_succ, List.getElem_cons_zero]); (try simp only [List.setIfInBounds_toArray]); (repeat (first | simp only [List.set_cons_succ] | simp only [List.set_cons_zero]))
                              refine wpAnyH_ready (rs := [19]) (by kernel_rfl) (by simp) ?_
                              refine (AllReadyH.cons rfl (fun KK hKK => ?_) AllReadyH.nil)
                              go_simp
                              refine hKK.out _ _ ?_ (fun hHeld => ?_)
                              · exact ⟨cell_of ((HMR.out.rb _).trans HMR.out.d.blk) 7, cell_of ((HMR.out.rb _).trans HMR.out.d.blk) 0, cell_of (HMR.out.db_ _) 0, cell_of (HMR.out.db_ _) 1, cell_of (HMR.out.db_ _) 2, cell_of (HMR.out.db_ _) 3, cell_of (HMR.out.db_ _) 4⟩
                              clear hKK KK
                              (try simp only [Act.put, List.getElem_toArray, List.getElem_cons_succ, List.getElem_cons_zero]); (try simp only [List.setIfInBounds_toArray]); (repeat (first | simp only [List.set_cons_succ] | simp only [List.set_cons_zero]))
                              refine wpAnyH_ready (rs := [20]) (by kernel_rfl) (by simp) ?_
                              refine (AllReadyH.cons rfl (fun KK hKK => ?_) AllReadyH.nil)
                              refine step_append_base rfl (.tmp 122) (.tmp 130) 110 rfl 0 75 j0 (.int .u64 0) 1 8 Tryz.underlying110 hj0 hy0 hy1 hy2 rfl (by decide) (.slice pg (gl i).length cg) (gl i).length ((gl i).map u64V) rfl ((HRR.out HMR.out.d).alloc _) ⟨w7.heap.size, 0, none⟩ 1 1 [.int .u64 ((mkR 200 m d : Nat) : Int)] rfl rfl (cells_new _ _ rfl _ _) HONE.out HLN.out.1 HLN.out.2 (Nat.zero_le _) ?_
                              intro v8 w8 r1 r2 r4
                              obtain ⟨g8, c8q, hv8⟩ := slice_pos r1 (Nat.succ_pos _)
                              have HTR := keepH (told_end HMR.out HMR.out.d.blk hi HGV.out r1 r2 r4 HGL.out)
                              have k8 := HTR.out.cell
                              have f8 := HTR.out.free
                              clear r1 r2 r4 gy gya
                              subst hv8
                              refine hKK.out _ _ ?_ (fun hHeld => ?_)
                              · exact ⟨cell_of HTR.out.rb 7, cell_of HTR.out.rb 0, cell_of HTR.out.db_ 0, cell_of HTR.out.db_ 1, cell_of HTR.out.db_ 2, cell_of HTR.out.db_ 3, cell_of HTR.out.db_ 4⟩
                              clear hKK KK
                              (try simp only [Act.put, List.getElem_toArray, List.getElem_cons_succ, List.getElem_cons_zero]); (try simp only [List.setIfInBounds_toArray]); (repeat (first | simp only [List.set_cons_succ] | simp only [List.set_cons_zero]))
                              refine wpAnyH_take (i := 21) (v := ?_) rfl (by kernel_rfl) (by kernel_rfl) (by kernel_rfl) (fun _ _ _ h => h) (Or.inl ⟨by rfl, ?_⟩) hHeld ?_
                              rotate_left
                              · intro w hSw
                                (try dsimp only at hSw)
                                go_simp
                                try with_reducible rfl
                              (try simp only [Act.put, List.getElem_toArray, List.getElem_cons_succ, List.getElem_cons_zero]); (try simp only [List.setIfInBounds_toArray]); (repeat (first | simp only [List.set_cons_succ] | simp only [List.set_cons_zero]))
                              refine wpAnyH_ready (rs := [22]) (by kernel_rfl) (by simp) ?_
                              refine (AllReadyH.cons rfl (fun KK hKK => ?_) AllReadyH.nil)
                              go_simp
                              refine hKK.out _ _ ?_ (fun hHeld => ?_)
                              · exact ⟨cell_of ((Below.heap_setCell _ _ _ r HTR.out.rn).trans HTR.out.rb) 7, cell_of ((Below.heap_setCell _ _ _ r HTR.out.rn).trans HTR.out.rb) 0, cell_of ((Below.heap_setCell _ _ _ db HTR.out.dn).trans HTR.out.db_) 0, cell_of ((Below.heap_setCell _ _ _ db HTR.out.dn).trans HTR.out.db_) 1, cell_of ((Below.heap_setCell _ _ _ db HTR.out.dn).trans HTR.out.db_) 2, cell_of ((Below.heap_setCell _ _ _ db HTR.out.dn).trans HTR.out.db_) 3, cell_of ((Below.heap_setCell _ _ _ db HTR.out.dn).trans HTR.out.db_) 4⟩
                              clear hKK KK
                              (try simp only [Act.put, List.getElem_toArray, List.getElem_cons_succ, List.getElem_cons_zero]); (try simp only [List.setIfInBounds_toArray]); (repeat (first | simp only [List.set_cons_succ] | simp only [List.set_cons_zero]))
                              refine wpAnyH_done (by kernel_rfl) ?_ _
                              go_simp
                              (try go_wp2_with fail)
                              go_meet
                              obtain ⟨tg8, gv8, z1, z2⟩ := HTR.out.fin
                              exact ⟨tg8, gv8, R7, z1, z2⟩
                            · go_simp
                              refine hKK.out _ _ ?_ (fun hHeld => ?_)
                              · exact ⟨cell_of ((HMR.out.rb _).trans HMR.out.d.blk) 7, cell_of ((HMR.out.rb _).trans HMR.out.d.blk) 0, cell_of (HMR.out.db_ _) 0, cell_of (HMR.out.db_ _) 1, cell_of (HMR.out.db_ _) 2, cell_of (HMR.out.db_ _) 3, cell_of (HMR.out.db_ _) 4⟩
                              clear hKK KK
                              (try simp only [Act.put, List.getElem_toArray, List.getElem_cons_succ, List.getElem_cons_zero]); (try simp only [List.setIfInBounds_toArray]); (repeat (first | simp only [List.set_cons_succ] | simp only [List.set_cons_zero]))
                              refine wpAnyH_ready (rs := [11]) (by kernel_rfl) (by simp) ?_
                              refine (AllReadyH.cons rfl (fun KK hKK => ?_) AllReadyH.nil)
                              go_simp
                              refine hKK.out _ _ ?_ (fun hHeld => ?_)
                              · exact ⟨cell_of ((HMR.out.rb _).trans HMR.out.d.blk) 7, cell_of ((HMR.out.rb _).trans HMR.out.d.blk) 0, cell_of (HMR.out.db_ _) 0, cell_of (HMR.out.db_ _) 1, cell_of (HMR.out.db_ _) 2, cell_of (HMR.out.db_ _) 3, cell_of (HMR.out.db_ _) 4⟩
                              clear hKK KK
                              (try simp only [Act.put, List.getElem_toArray, List.getElem_cons_succ, List.getElem_cons_zero]); (try simp only [List.setIfInBounds_toArray]); (repeat (first | simp only [List.set_cons_succ] | simp only [List.set_cons_zero]))
                              refine wpAnyH_ready (rs := [20]) (by kernel_rfl) (by simp) ?_
                              refine (AllReadyH.cons rfl (fun KK hKK => ?_) AllReadyH.nil)
                              refine step_append_base rfl (.tmp 122) (.tmp 130) 110 rfl 0 75 j0 (.int .u64 0) 1 8 Tryz.underlying110 hj0 hy0 hy1 hy2 rfl (by decide) (.slice pg (gl i).length cg) (gl i).length ((gl i).map u64V) rfl ((HRR.out HMR.out.d).alloc _) ⟨w7.heap.size, 0, none⟩ 1 1 [.int .u64 ((mkR 200 m d : Nat) : Int)] rfl rfl (cells_new _ _ rfl _ _) HONE.out HLN.out.1 HLN.out.2 (Nat.zero_le _) ?_
                              intro v8 w8 r1 r2 r4
                              obtain ⟨g8, c8q, hv8⟩ := slice_pos r1 (Nat.succ_pos _)
                              have HTR := keepH (told_end HMR.out HMR.out.d.blk hi HGV.out r1 r2 r4 HGL.out)
                              have k8 := HTR.out.cell
                              have f8 := HTR.out.free
                              clear r1 r2 r4 gy gya
                              subst hv8
                              refine hKK.out _ _ ?_ (fun hHeld => ?_)
                              · exact ⟨cell_of HTR.out.rb 7, cell_of HTR.out.rb 0, cell_of HTR.out.db_ 0, cell_of HTR.out.db_ 1, cell_of HTR.out.db_ 2, cell_of HTR.out.db_ 3, cell_of HTR.out.db_ 4⟩
                              clear hKK KK
                              (try simp only [Act.put, List.getElem_toArray, List.getElem_cons_succ, List.getElem_cons_zero]); (try simp only [List.setIfInBounds_toArray]); (repeat (first | simp only [List.set_cons_succ] | simp only [List.set_cons_zero]))
                              refine wpAnyH_take (i := 21) (v := ?_) rfl (by kernel_rfl) (by kernel_rfl) (by kernel_rfl) (fun _ _ _ h => h) (Or.inl ⟨by rfl, ?_⟩) hHeld ?_
                              rotate_left
                              · intro w hSw
                                (try dsimp only at hSw)
                                go_simp
                                try with_reducible rfl
                              (try simp only [Act.put, List.getElem_toArray, List.getElem_cons_succ, List.getElem_cons_zero]); (try simp only [List.setIfInBounds_toArray]); (repeat (first | simp only [List.set_cons_succ] | simp only [List.set_cons_zero]))
                              refine wpAnyH_ready (rs := [22]) (by kernel_rfl) (by simp) ?_
                              refine (AllReadyH.cons rfl (fun KK hKK => ?_) AllReadyH.nil)
                              go_simp
                              refine hKK.out _ _ ?_ (fun hHeld => ?_)
                              · exact ⟨cell_of ((Below.heap_setCell _ _ _ r HTR.out.rn).trans HTR.out.rb) 7, cell_of ((Below.heap_setCell _ _ _ r HTR.out.rn).trans HTR.out.rb) 0, cell_of ((Below.heap_setCell _ _ _ db HTR.out.dn).trans HTR.out.db_) 0, cell_of ((Below.heap_setCell _ _ _ db HTR.out.dn).trans HTR.out.db_) 1, cell_of ((Below.heap_setCell _ _ _ db HTR.out.dn).trans HTR.out.db_) 2, cell_of ((Below.heap_setCell _ _ _ db HTR.out.dn).trans HTR.out.db_) 3, cell_of ((Below.heap_setCell _ _ _ db HTR.out.dn).trans HTR.out.db_) 4⟩
                              clear hKK KK
                              (try simp only [Act.put, List.getElem_toArray, List.getElem_cons_succ, List.getElem_cons_zero]); (try simp only [List.setIfInBounds_toArray]); (repeat (first | simp only [List.set_cons_succ] | simp only [List.set_cons_zero]))
                              refine wpAnyH_done (by kernel_rfl) ?_ _
                              go_simp
                              (try go_wp2_with fail)
                              go_meet
                              obtain ⟨tg8, gv8, z1, z2⟩ := HTR.out.fin
                              exact ⟨tg8, gv8, R7, z1, z2⟩
                      case rest =>
                        as_aux_lemma =>
                          obtain ⟨tg3, gv3, R3, HD7, HM7⟩ := hcut
                          obtain ⟨w7, hw7⟩ : ∃ w7, w7 = wc := ⟨_, rfl⟩
                          subst hw7
                          obtain ⟨t3, ht3⟩ : ∃ t3, t3 = t ++ [mkA (i : Int) 200 m d] := ⟨_, rfl⟩
                          rw [← ht3] at HD7
                          have ht3l : t3.length = t.length + 1 := by rw [ht3]; simp
                          have HT3 := keepH ht3
                          obtain ⟨gl3, hgl3⟩ : ∃ gl3, gl3 = (fun j => if j = i then gl i ++ [mkR 200 m d] else gl j) := ⟨_, rfl⟩
                          rw [← hgl3] at HD7
                          have HG3 := keepH hgl3
                          obtain ⟨m3, hm3⟩ : ∃ m3, m3 = mkM 200 m d := ⟨_, rfl⟩
                          rw [← hm3] at HD7
                          have HM3 := keepH hm3
                          have htl : t.length ≤ 1099511627776 := by have := HBD.out; omega
                          clear ht3 hgl3 hm3 HD5 HM5 HE5 HR5
                          go_wp2_with fail
                          go_loopw [9] (fun s9 wr => ∃ j : Nat, j ≤ 1 ∧ s9 = .int .i64 ((t.length + j : Nat) : Int) ∧ Hid (∃ tg wv, D4At wr B tg r nm T s1 gc ga gg (some ⟨bk, off, none⟩) c8 ev2 wv es1 (ws ++ List.replicate j (st : Int)) gv3 gl3 R3 m3 t3 call at_ ∧ DM X wr B tg K pb (.cells #[.bool qn, .slice lp0 q.L.length lc0] 107 (0, 0)))) (fun s _ => t.length + 1 - (intOf s).toNat)
                          case atStart => exact ⟨0, by omega, rfl, tg3, wv, by simpa using HD7.out, HM7.out⟩
                          case round =>
                            obtain ⟨j, hj, rfl, HX⟩ := hrel
                            obtain ⟨w8, hw8⟩ : ∃ w8, w8 = wr := ⟨_, rfl⟩
                            subst hw8
                            obtain ⟨tg4, wv4, hD8, hM8⟩ := HX.out
                            have HD8 := keepH hD8
                            have HM8 := keepH hM8
                            clear hD8 hM8 HX
                            have g0 : w8.cell? ⟨r, 0, none⟩ = some (.pointer (some ⟨nm, 0, none⟩)) := cell_of HD8.out.blk 0
                            obtain ⟨tp3, tc3, g2⟩ := RM.tcell HD8.out.rm
                            rw [ht3l] at g2
                            obtain ⟨nj, hnj⟩ : ∃ nj, nj = t.length + j := ⟨_, rfl⟩
                            rw [← hnj]
                            by_cases hj0 : j = 0
                            · have y1 : (nj : Int) < ((t.length + 1 : Nat) : Int) := by omega
                              have g6 : w8.cell? ⟨r, 6, none⟩ = some wv4 := cell_of HD8.out.blk 6
                              have f6 := free_of HD8.out.blk 6
                              obtain ⟨pw, cw, hwv⟩ := slice_of HD8.out.wr
                              subst hwv
                              obtain ⟨k0', hk0, hx0, hx1, hx2⟩ := info_parts infoInt
                              have hwl : (ws ++ List.replicate j (st : Int)).length ≤ 1099511627776 := by have := HBD.out; simp; omega
                              obtain ⟨wl, hwl2⟩ : ∃ wl, wl = (ws ++ List.replicate j (st : Int)) := ⟨_, rfl⟩
                              rw [← hwl2] at HD8 hwl g6
                              have HWL := keepH hwl2
                              have HNJ := keepH hnj
                              have HJ0 := keepH hj0
                              have hnl : nj ≤ 1099511627776 * 2 := by omega
                              clear hwl2 hnj hj0
                              go_wp2_with (at_builtin; refine wpList_append_own_at _ rfl _ _ 23 rfl 0 3 k0' (.int .i64 0) 1 8 Tryz.underlying23 hk0 hx0 hx1 hx2 rfl (by decide) _ _ _ rfl (HD8.out.wr.alloc _) ⟨_, 0, none⟩ 1 1 [.int .i64 (st : Int)] rfl rfl (cells_new _ _ rfl _ _) (by intro u hu; simp at hu; subst hu; rfl) (by unfold maxLen; omega) (by omega) (Nat.zero_le _) ?_; intro v9 w9 r1 r2 r3 r4; have hb9 := keepH ((r2.block r (by rw [World.size_alloc]; have := lt_of HD8.out.blk; omega) (fun e => block_apart HD8.out.wr HD8.out.blk (by decide) e.symm)).trans ((Below.heap_alloc w8 _ r (lt_of HD8.out.blk)).trans HD8.out.blk)); have r8 := cell_of hb9.out 6; have rf := free_of hb9.out 6; obtain ⟨gv9, cv9, hv9⟩ := slice_pos r1 (Nat.succ_pos _); have HR1 := keepH r1; have HR2 := keepH r2; have HR4 := keepH r4; clear r1 r2 r3 r4; subst hv9)
                              go_roundw
                              case rel =>
                                have hD9 := HD8.out.noted (x := (st : Int)) HR1.out HR2.out HR4.out (by have := HM8.out.chg.size; have := HM8.out.bx; omega) (by have := HBD.out; rw [ht3l, HWL.out, HJ0.out]; simp; omega)
                                have e : wl ++ [(st : Int)] = ws ++ List.replicate 1 (st : Int) := by rw [HWL.out, HJ0.out]; simp
                                rw [e] at hD9
                                refine ⟨1, by omega, by first | rfl | (congr 2; have := HNJ.out; have := HJ0.out; omega) | go_num, _, _, hD9, ?_⟩
                                · refine HM8.out.next (G := fun k => (Value.slice pw wl.length cw).ownBlock = some k ∨ k = r) ((((Chg.refl (fun k => (Value.slice pw wl.length cw).ownBlock = some k ∨ k = r) w8).alloc _).grown HR2.out (fun k e _ => .inl e)).setCell (fun _ => .inr rfl) _) (fun k _ e => ?_) (fun k e => (HD8.out.lo k e).1) (fun k hk => by simp only [if_pos hk])
                                  rcases e with e | e
                                  · rw [HD8.out.tw k e]; decide
                                  · rw [e, HD8.out.tr]; decide
                              case measure => simp [intOf]; have := HNJ.out; have := HJ0.out; omega
                            · have y1 : ¬ (nj : Int) < ((t.length + 1 : Nat) : Int) := by omega
                              obtain rfl : j = 1 := by omega
                              go_wp2_with fail
                              go_meet
                              refine ⟨tg4, gv3, wv4, R3, ?_, HM8⟩
                              rw [HDS.out]
                              have e1 : nxtT (i : Int) 200 m (some d) = [mkA (i : Int) 200 m d] := by simp [nxtT, mkT, HAY.out]
                              have e2 : nxtG 200 m (some d) = [mkR 200 m d] := by simp [nxtG, mkG, HAY.out]
                              have e3 : nxtM 200 m (some d) = mkM 200 m d := rfl
                              rw [e1, e2, e3, ← HT3.out, ← HG3.out, ← HM3.out]
                              exact HD8.out
          case rest =>
            as_aux_lemma =>
              obtain ⟨tg5, gv5, wv5, R5, HD5, HM5⟩ := hcut
              obtain ⟨w5, hw5⟩ : ∃ w5, w5 = wc := ⟨_, rfl⟩
              subst hw5
              obtain ⟨ws5, hws5⟩ : ∃ x, x = (ws ++ (nxtT (i : Int) 200 m dd).map (fun _ => (st : Int))) := ⟨_, rfl⟩
              obtain ⟨gl5, hgl5⟩ : ∃ x, x = (fun j => if j = i then gl i ++ nxtG 200 m dd else gl j) := ⟨_, rfl⟩
              obtain ⟨m5, hm5⟩ : ∃ x, x = nxtM 200 m dd := ⟨_, rfl⟩
              obtain ⟨t5, ht5⟩ : ∃ x, x = t ++ nxtT (i : Int) 200 m dd := ⟨_, rfl⟩
              rw [← hws5, ← hgl5, ← hm5, ← ht5] at HD5
              have HQ5 : Hid (ws5 = (ws ++ (nxtT (i : Int) 200 m dd).map (fun _ => (st : Int))) ∧ gl5 = (fun j => if j = i then gl i ++ nxtG 200 m dd else gl j) ∧ m5 = nxtM 200 m dd ∧ t5 = t ++ nxtT (i : Int) 200 m dd) := ⟨hws5, hgl5, hm5, ht5⟩
              clear hws5 hgl5 hm5 ht5 HD4 HM4
              obtain ⟨a1, ha1⟩ : ∃ a1, a1 = at_ i + 1 := ⟨_, rfl⟩
              have ea1 : (at_ i : Int) + 1 = (a1 : Int) := by omega
              have hnb : nst q ≤ 1048576 := by unfold nst; split <;> (try split) <;> omega
              have ea2 : IntKind.i64.wrap ((at_ i : Int) + 1) = (a1 : Int) := by rw [IntKind.wrap_i64]; omega
              have HA1 := keepH ha1
              have c32 : w5.cell? ⟨r, 3, none⟩ = some (.slice (some ⟨ga, 0, none⟩) T T) := cell_of HD5.out.blk 3
              have c33 : w5.cell? ⟨ga, i, none⟩ = some (.int .i64 (at_ i : Int)) := by rw [cell_of HD5.out.ab i]; exact intR_get hi
              have f33 := free_of HD5.out.ab i
              clear ha1
              go_upto_region 18 with fail
              obtain ⟨w6, hw6⟩ : ∃ w6, w6 = w5.setCell ⟨ga, i, none⟩ (.int .i64 (a1 : Int)) := ⟨_, rfl⟩
              rw [← hw6]
              have HD6 : Hid (D4At w6 B tg5 r nm T s1 gc ga gg (some ⟨bk, off, none⟩) c8 ev2 wv5 es1 ws5 gv5 gl5 R5 m5 t5 call (fun j => if j = i then a1 else at_ j)) := by rw [hw6]; exact HD5.out.setAt i a1
              have HM6 : Hid (DM X w6 B tg5 K pb (.cells #[.bool qn, .slice lp0 q.L.length lc0] 107 (0, 0))) := by
                rw [hw6]
                exact HM5.out.next (G := fun k => k = ga) ((Chg.refl (fun k => k = ga) _).setCell (p := ⟨ga, i, none⟩) (fun _ => rfl) _) (fun k _ e => by rw [e, HD5.out.ta]; decide) (fun k e => (HD5.out.lo k e).1) (fun k _ => rfl)
              clear hw6 c32 c33 f33 HD5 HM5
              obtain ⟨at6, hat6⟩ : ∃ x, x = (fun j => if j = i then a1 else at_ j) := ⟨_, rfl⟩
              rw [← hat6] at HD6
              have hai : at6 i = a1 := by rw [hat6]; simp
              have HAT := keepH hat6
              clear hat6
              have c30 : w6.cell? ⟨pb, 0, none⟩ = some (.bool qn) := cell_of HM6.out.plan 0
              have c31 : w6.cell? ⟨pb, 1, none⟩ = some (.slice lp0 q.L.length lc0) := cell_of HM6.out.plan 1
              have c32 : w6.cell? ⟨r, 3, none⟩ = some (.slice (some ⟨ga, 0, none⟩) T T) := cell_of HD6.out.blk 3
              have c33 : w6.cell? ⟨ga, i, none⟩ = some (.int .i64 (a1 : Int)) := by rw [cell_of HD6.out.ab i, intR_get hi, hai]
              have HAI := keepH hai
              clear hai
              go_cut [179] from 165 to 178 (fun s179 wx => ∃ b, s179 = .bool b ∧ Hid (b = decide (nst q ≤ at_ i + 1)) ∧ Hid (Chg (fun _ => False) w6 wx))
              case first =>
                as_aux_lemma =>
                  have HND : Hid (decide (nst q ≤ at_ i + 1) = (qn || decide (q.L.length ≤ a1))) := by show _ = _; rw [nst_done, HQN.out, HA1.out]
                  cases qn with
                  | true =>
                    as_aux_lemma =>
                      go_quiet (fail)
                      (try go_wp2_with fail)
                      go_meet
                      exact ⟨true, rfl, by show _ = _; rw [HND.out]; rfl, drewN_chgY _ _⟩
                  | false =>
                    as_aux_lemma =>
                      by_cases hlt : q.L.length ≤ a1
                      · have y1 : (q.L.length : Int) ≤ (a1 : Int) := by omega
                        have y2 : decide (q.L.length ≤ a1) = true := decide_eq_true hlt
                        go_quiet (fail)
                        (try go_wp2_with fail)
                        go_meet
                        exact ⟨true, rfl, by show _ = _; rw [HND.out]; simp [hlt], drewN_chgY _ _⟩
                      · have y1 : ¬ (q.L.length : Int) ≤ (a1 : Int) := by omega
                        have y2 : decide (q.L.length ≤ a1) = false := decide_eq_false hlt
                        go_quiet (fail)
                        (try go_wp2_with fail)
                        go_meet
                        exact ⟨false, rfl, by show _ = _; rw [HND.out]; simp [hlt], drewN_chgY _ _⟩
              case rest =>
                as_aux_lemma =>
                  obtain ⟨bt2, rfl, HBT2, HW7⟩ := hcut
                  obtain ⟨w7, hw7⟩ : ∃ w7, w7 = wc := ⟨_, rfl⟩
                  subst hw7
                  have HD7 : Hid (D4At w7 B tg5 r nm T s1 gc ga gg (some ⟨bk, off, none⟩) c8 ev2 wv5 es1 ws5 gv5 gl5 R5 m5 t5 call at6) := HD6.out.up HW7.out
                  have HM7 : Hid (DM X w7 B tg5 K pb (.cells #[.bool qn, .slice lp0 q.L.length lc0] 107 (0, 0))) := HM6.out.up HW7.out
                  clear c30 c31 c32 c33 HD6 HM6 HW7
                  cases bt2 with
                  | false =>
                    as_aux_lemma =>
                      have hnd : ¬ nst q ≤ at_ i + 1 := of_decide_eq_false HBT2.out.symm
                      have HNN := keepH hnd
                      clear hnd
                      go_wp2_with fail
                      go_ret
                      refine ⟨by simp, ?_⟩
                      have es : sx = ⟨s1, call, at6, es1, ws5, gl5, m5, t5⟩ := by
                        rw [HSX.out]
                        unfold R4S.pick
                        simp only [if_neg HNN.out, List.append_nil]
                        obtain ⟨z1, z2, z3, z4⟩ := HQ5.out
                        rw [HS1.out, HAT.out, HA1.out, HES.out, z1, z2, z3, z4, ← HDD.out]
                        congr 1
                        funext j
                        by_cases e : j = i
                        · (simp only [if_pos e]) <;> (first | rfl | rw [e])
                        · simp only [if_neg e]
                      rw [es]
                      exact D4x.of (s := ⟨s1, call, at6, es1, ws5, gl5, m5, t5⟩) HD7.out HM7.out
                  | true =>
                    as_aux_lemma =>
                      have hnd : nst q ≤ at_ i + 1 := of_decide_eq_true HBT2.out.symm
                      have HNN := keepH hnd
                      clear hnd
                      obtain ⟨pe, ce, hev'⟩ := slice_of HD7.out.er
                      subst hev'
                      have hel1 : es1.length + 1 ≤ 1099511627776 := by have := HBD.out.1; omega
                      have HEL2 : Hid (es1.length + 1 ≤ 2 * s1) := by have := HBD.out.1; have := HS1.out; show _ ≤ _; omega
                      go_upto_region 19 with fail
                      go_cut [] from 180 to 198 (fun wx => ∃ tg ev, Hid (D4At wx B tg r nm T s1 gc ga gg (some ⟨bk, off, none⟩) c8 ev wv5 (es1 ++ [⟨(st : Int), (i : Int), (call i : Int), true⟩]) ws5 gv5 gl5 R5 m5 t5 call at6) ∧ Hid (DM X wx B tg K pb (.cells #[.bool qn, .slice lp0 q.L.length lc0] 107 (0, 0))))
                      case first =>
                        as_aux_lemma =>
                          obtain ⟨we, hwe⟩ : ∃ we, we = w7.drew := ⟨_, rfl⟩
                          have hCe : Chg (fun _ => False) w7 we := by rw [hwe]; exact (Chg.refl _ _).drew
                          have HDe := keepH (HD7.out.up hCe)
                          have HMe := keepH (HM7.out.up hCe)
                          have s2 : we.cell? ⟨r, 2, none⟩ = some (.slice (some ⟨gc, 0, none⟩) T T) := cell_of HDe.out.blk 2
                          have sc : we.cell? ⟨gc, i, none⟩ = some (.int .i64 (call i : Int)) := by rw [cell_of HDe.out.cb i]; exact intR_get hi
                          have s5 : we.cell? ⟨r, 5, none⟩ = some (.slice pe es1.length ce) := cell_of HDe.out.blk 5
                          have s5a := A we s5
                          have HSA : Hid (∀ o, (we.alloc o).cell? ⟨r, 2, none⟩ = some (.slice (some ⟨gc, 0, none⟩) T T) ∧ (we.alloc o).cell? ⟨gc, i, none⟩ = some (.int .i64 (call i : Int))) := fun o => ⟨A we s2 o, A we sc o⟩
                          have HS0 : Hid (we.cell? ⟨r, 2, none⟩ = some (.slice (some ⟨gc, 0, none⟩) T T) ∧ we.cell? ⟨gc, i, none⟩ = some (.int .i64 (call i : Int))) := ⟨s2, sc⟩
                          have HONE : Hid (∀ u ∈ [Value.int .i64 (st : Int), Value.int .i64 (i : Int), Value.int .i64 (call i : Int), Value.bool true], u.oneCell' = true) := by simp [Value.oneCell', Hid]
                          have HLN : Hid (es1.length + 1 ≤ maxLen ∧ (es1.length + 1) * 32 ≤ 140737488355328) := ⟨by unfold maxLen; omega, by omega⟩
                          refine wp_region_held_drew (S := fun w => w.cell? ⟨r, 2, none⟩ = some (.slice (some ⟨gc, 0, none⟩) T T) ∧ w.cell? ⟨gc, i, none⟩ = some (.int .i64 (call i : Int))) (by kernel_rfl) (by rw [← hwe]; exact HS0.out) ?_
                          rw [← hwe]
                          clear hwe hCe s2 sc HD7 HM7
                          intro hHeld
                          refine wpAnyH_take (i := 0) (v := ?_) rfl (by kernel_rfl) (by kernel_rfl) (by kernel_rfl) (fun _ _ _ h => h) (Or.inl ⟨by rfl, ?_⟩) hHeld ?_
                          rotate_left
                          · intro w hSw
                            (try dsimp only at hSw)
                            go_simp
                            try with_reducible rfl
                          (try simp only [Act.put, List.getElem_toArray, List.getElem_cons_zero]); (try simp only [List.setIfInBounds_toArray]); (repeat (first | simp only [List.set_cons_succ] | simp only [List.set_cons_zero]))
                          refine wpAnyH_take (i := 1) (v := ?_) rfl (by kernel_rfl) (by kernel_rfl) (by kernel_rfl) (fun _ _ _ h => h) (Or.inl ⟨by rfl, ?_⟩) hHeld ?_
                          rotate_left
                          · intro w hSw
                            (try dsimp only at hSw)
                            go_simp
                            try with_reducible rfl
                          (try simp only [Act.put, List.getElem_toArray, List.getElem_cons_succ, List.getElem_cons_zero]); (try simp only [List.setIfInBounds_toArray]); (repeat (first | simp only [List.set_cons_succ] | simp only [List.set_cons_zero]))
                          refine wpAnyH_take (i := 2) (v := ?_) rfl (by kernel_rfl) (by kernel_rfl) (by kernel_rfl) (fun _ _ _ h => h) (Or.inl ⟨by rfl, ?_⟩) hHeld ?_
                          rotate_left
                          · intro w hSw
                            (try dsimp only at hSw)
                            go_simp
                            try with_reducible rfl
                          (try simp only [Act.put, List.getElem_toArray, List.getElem_cons_succ, List.getElem_cons_zero]); (try simp only [List.setIfInBounds_toArray]); (repeat (first | simp only [List.set_cons_succ] | simp only [List.set_cons_zero]))
                          refine wpAnyH_take (i := 3) (v := ?_) rfl (by kernel_rfl) (by kernel_rfl) (by kernel_rfl) (fun _ _ _ h => h) (Or.inl ⟨by rfl, ?_⟩) hHeld ?_
                          rotate_left
                          · intro w hSw
                            (try dsimp only at hSw)
                            go_simp
                            try with_reducible rfl
                          (try simp only [Act.put, List.getElem_toArray, List.getElem_cons_succ, List.getElem_cons_zero]); (try simp only [List.setIfInBounds_toArray]); (repeat (first | simp only [List.set_cons_succ] | simp only [List.set_cons_zero]))
                          refine wpAnyH_take (i := 5) (v := ?_) rfl (by kernel_rfl) (by kernel_rfl) (by kernel_rfl) (fun _ _ _ h => h) (Or.inl ⟨by rfl, ?_⟩) hHeld ?_
                          rotate_left
                          · intro w hSw
                            (try dsimp only at hSw)
                            go_simp
                            try with_reducible rfl
                          (try simp only [Act.put, List.getElem_toArray, List.getElem_cons_succ, List.getElem_cons_zero]); (try simp only [List.setIfInBounds_toArray]); (repeat (first | simp only [List.set_cons_succ] | simp only [List.set_cons_zero]))
                          refine wpAnyH_take (i := 6) (v := ?_) rfl (by kernel_rfl) (by kernel_rfl) (by kernel_rfl) (fun _ _ _ h => h) (Or.inl ⟨by rfl, ?_⟩) hHeld ?_
                          rotate_left
                          · intro w hSw
                            (try dsimp only at hSw)
                            go_simp
                            try with_reducible rfl
                          (try simp only [Act.put, List.getElem_toArray, List.getElem_cons_succ, List.getElem_cons_zero]); (try simp only [List.setIfInBounds_toArray]); (repeat (first | simp only [List.set_cons_succ] | simp only [List.set_cons_zero]))
                          refine wpAnyH_take (i := 7) (v := ?_) rfl (by kernel_rfl) (by kernel_rfl) (by kernel_rfl) (fun _ _ _ h => h) (Or.inl ⟨by rfl, ?_⟩) hHeld ?_
                          rotate_left
                          · intro w hSw
                            (try dsimp only at hSw)
                            go_simp
                            try with_reducible rfl
                          (try simp only [Act.put, List.getElem_toArray, List.getElem_cons_succ, List.getElem_cons_zero]); (try simp only [List.setIfInBounds_toArray]); (repeat (first | simp only [List.set_cons_succ] | simp only [List.set_cons_zero]))
                          refine wpAnyH_take (i := 8) (v := ?_) rfl (by kernel_rfl) (by kernel_rfl) (by kernel_rfl) (fun _ _ _ h => h) (Or.inl ⟨by rfl, ?_⟩) hHeld ?_
                          rotate_left
                          · intro w hSw
                            (try dsimp only at hSw)
                            go_simp
                            try with_reducible rfl
                          (try simp only [Act.put, List.getElem_toArray, List.getElem_cons_succ, List.getElem_cons_zero]); (try simp only [List.setIfInBounds_toArray]); (repeat (first | simp only [List.set_cons_succ] | simp only [List.set_cons_zero]))
                          refine wpAnyH_take (i := 9) (v := ?_) rfl (by kernel_rfl) (by kernel_rfl) (by kernel_rfl) (fun _ _ _ h => h) (Or.inl ⟨by rfl, ?_⟩) hHeld ?_
                          rotate_left
                          · intro w hSw
                            (try dsimp only at hSw)
                            go_simp
                            try with_reducible rfl
                          (try simp only [Act.put, List.getElem_toArray, List.getElem_cons_succ, List.getElem_cons_zero]); (try simp only [List.setIfInBounds_toArray]); (repeat (first | simp only [List.set_cons_succ] | simp only [List.set_cons_zero]))
                          refine wpAnyH_take (i := 10) (v := ?_) rfl (by kernel_rfl) (by kernel_rfl) (by kernel_rfl) (fun _ _ _ h => h) (Or.inl ⟨by rfl, ?_⟩) hHeld ?_
                          rotate_left
                          · intro w hSw
                            (try dsimp only at hSw)
                            go_simp
                            try with_reducible rfl
                          (try simp only [Act.put, List.getElem_toArray, List.getElem_cons_succ, List.getElem_cons_zero]); (try simp only [List.setIfInBounds_toArray]); (repeat (first | simp only [List.set_cons_succ] | simp only [List.set_cons_zero]))
                          refine wpAnyH_take (i := 11) (v := ?_) rfl (by kernel_rfl) (by kernel_rfl) (by kernel_rfl) (fun _ _ _ h => h) (Or.inl ⟨by rfl, ?_⟩) hHeld ?_
                          rotate_left
                          · intro w hSw
                            (try dsimp only at hSw)
                            go_simp
                            try with_reducible rfl
                          (try simp only [Act.put, List.getElem_toArray, List.getElem_cons_succ, List.getElem_cons_zero]); (try simp only [List.setIfInBounds_toArray]); (repeat (first | simp only [List.set_cons_succ] | simp only [List.set_cons_zero]))
                          refine wpAnyH_take (i := 12) (v := ?_) rfl (by kernel_rfl) (by kernel_rfl) (by kernel_rfl) (fun _ _ _ h => h) (Or.inl ⟨by rfl, ?_⟩) hHeld ?_
                          rotate_left
                          · intro w hSw
                            (try dsimp only at hSw)
                            go_simp
                            try with_reducible rfl
                          (try simp only [Act.put, List.getElem_toArray, List.getElem_cons_succ, List.getElem_cons_zero]); (try simp only [List.setIfInBounds_toArray]); (repeat (first | simp only [List.set_cons_succ] | simp only [List.set_cons_zero]))
                          refine wpAnyH_take (i := 13) (v := ?_) rfl (by kernel_rfl) (by kernel_rfl) (by kernel_rfl) (fun _ _ _ h => h) (Or.inl ⟨by rfl, ?_⟩) hHeld ?_
                          rotate_left
                          · intro w hSw
                            (try dsimp only at hSw)
                            go_simp
                            try with_reducible rfl
                          (try simp only [Act.put, List.getElem_toArray, List.getElem_cons_succ, List.getElem_cons_zero]); (try simp only [List.setIfInBounds_toArray]); (repeat (first | simp only [List.set_cons_succ] | simp only [List.set_cons_zero]))
                          refine wpAnyH_take (i := 14) (v := ?_) rfl (by kernel_rfl) (by kernel_rfl) (by kernel_rfl) (fun _ _ _ h => h) (Or.inl ⟨by rfl, ?_⟩) hHeld ?_
                          rotate_left
                          · intro w hSw
                            (try dsimp only at hSw)
                            go_simp
                            try with_reducible rfl
                          (try simp only [Act.put, List.getElem_toArray, List.getElem_cons_succ, List.getElem_cons_zero]); (try simp only [List.setIfInBounds_toArray]); (repeat (first | simp only [List.set_cons_succ] | simp only [List.set_cons_zero]))
                          refine wpAnyH_ready (rs := [4, 15]) (by kernel_rfl) (by simp) ?_
                          refine (AllReadyH.cons rfl (fun KK hKK => ?_) (AllReadyH.cons rfl (fun KK hKK => ?_) AllReadyH.nil))
                          · go_simp
                            refine hKK.out _ _ ?_ (fun hHeld => ?_)
                            · exact HS0.out
                            clear hKK KK
                            (try simp only [Act.put, List.getElem_toArray, List.getElem_cons_succ, List.getElem_cons_zero]); (try simp only [List.setIfInBounds_toArray]); (repeat (first | simp only [List.set_cons_succ] | simp only [List.set_cons_zero]))
                            refine wpAnyH_ready (rs := [15]) (by kernel_rfl) (by simp) ?_
                            refine (AllReadyH.cons rfl (fun KK hKK => ?_) AllReadyH.nil)
                            go_simp
                            refine hKK.out _ _ ?_ (fun hHeld => ?_)
                            · exact HSA.out _
                            clear hKK KK
                            (try simp only [Act.put, List.getElem_toArray, List.getElem_cons_succ, List.getElem_cons_zero]); (try simp only [List.setIfInBounds_toArray]); (repeat (first | simp only [List.set_cons_succ] | simp only [List.set_cons_zero]))
                            refine wpAnyH_ready (rs := [16]) (by kernel_rfl) (by simp) ?_
                            refine (AllReadyH.cons rfl (fun KK hKK => ?_) AllReadyH.nil)
                            refine step_append_base rfl (.tmp 184) (.tmp 195) 65 rfl 0 100 i0 (evV 0 0 0 false) 4 32 Tryz.underlying65 hi0 hz0 hz1 hz2 rfl (by decide) (.slice pe es1.length ce) es1.length (evRow es1) rfl (HDe.out.er.alloc _) ⟨we.heap.size, 0, none⟩ 1 1 [.int .i64 (st : Int), .int .i64 (i : Int), .int .i64 (call i : Int), .bool true] rfl rfl (cells_new _ _ rfl _ _) HONE.out HLN.out.1 HLN.out.2 (Nat.zero_le _) ?_
                            intro vE wE r1 r2 r4
                            obtain ⟨gE, cE, hvE⟩ := slice_pos r1 (Nat.succ_pos _)
                            have HEV := keepH (ev_end (i := i) (x := ⟨(st : Int), (i : Int), (call i : Int), true⟩) HDe.out HMe.out hi r1 r2 r4 HEL2.out)
                            have kE := HEV.out.cell
                            have fE := HEV.out.free
                            clear r1 r2 r4 s5 s5a
                            subst hvE
                            refine hKK.out _ _ ?_ (fun hHeld => ?_)
                            · exact ⟨HEV.out.h2, HEV.out.hc⟩
                            clear hKK KK
                            (try simp only [Act.put, List.getElem_toArray, List.getElem_cons_succ, List.getElem_cons_zero]); (try simp only [List.setIfInBounds_toArray]); (repeat (first | simp only [List.set_cons_succ] | simp only [List.set_cons_zero]))
                            refine wpAnyH_take (i := 17) (v := ?_) rfl (by kernel_rfl) (by kernel_rfl) (by kernel_rfl) (fun _ _ _ h => h) (Or.inl ⟨by rfl, ?_⟩) hHeld ?_
                            rotate_left
                            · intro w hSw
                              (try dsimp only at hSw)
                              go_simp
                              try with_reducible rfl
                            (try simp only [Act.put, List.getElem_toArray, List.getElem_cons_succ, List.getElem_cons_zero]); (try simp only [List.setIfInBounds_toArray]); (repeat (first | simp only [List.set_cons_succ] | simp only [List.set_cons_zero]))
                            refine wpAnyH_take (i := 18) (v := ?_) rfl (by kernel_rfl) (by kernel_rfl) (by kernel_rfl) (fun _ _ _ h => h) (Or.inl ⟨by rfl, ?_⟩) hHeld ?_
                            rotate_left
                            · intro w hSw
                              (try dsimp only at hSw)
                              go_simp
                              try with_reducible rfl
                            (try simp only [Act.put, List.getElem_toArray, List.getElem_cons_succ, List.getElem_cons_zero]); (try simp only [List.setIfInBounds_toArray]); (repeat (first | simp only [List.set_cons_succ] | simp only [List.set_cons_zero]))
                            refine wpAnyH_ready (rs := [19]) (by kernel_rfl) (by simp) ?_
                            refine (AllReadyH.cons rfl (fun KK hKK => ?_) AllReadyH.nil)
                            go_simp
                            refine hKK.out _ _ ?_ (fun hHeld => ?_)
                            · exact ⟨HEV.out.k2, HEV.out.kc⟩
                            clear hKK KK
                            (try simp only [Act.put, List.getElem_toArray, List.getElem_cons_succ, List.getElem_cons_zero]); (try simp only [List.setIfInBounds_toArray]); (repeat (first | simp only [List.set_cons_succ] | simp only [List.set_cons_zero]))
                            refine wpAnyH_done (by kernel_rfl) ?_ _
                            go_simp
                            (try go_wp2_with fail)
                            go_meet
                            exact HEV.out.fin
                          · go_simp
                            refine hKK.out _ _ ?_ (fun hHeld => ?_)
                            · exact HSA.out _
                            clear hKK KK
                            (try simp only [Act.put, List.getElem_toArray, List.getElem_cons_succ, List.getElem_cons_zero]); (try simp only [List.setIfInBounds_toArray]); (repeat (first | simp only [List.set_cons_succ] | simp only [List.set_cons_zero]))
                            refine wpAnyH_ready (rs := [4]) (by kernel_rfl) (by simp) ?_
                            refine (AllReadyH.cons rfl (fun KK hKK => ?_) AllReadyH.nil)
                            go_simp
                            refine hKK.out _ _ ?_ (fun hHeld => ?_)
                            · exact HSA.out _
                            clear hKK KK
                            (try simp only [Act.put, List.getElem_toArray, List.getElem_cons_succ, List.getElem_cons_zero]); (try simp only [List.setIfInBounds_toArray]); (repeat (first | simp only [List.set_cons_succ] | simp only [List.set_cons_zero]))
                            refine wpAnyH_ready (rs := [16]) (by kernel_rfl) (by simp) ?_
                            refine (AllReadyH.cons rfl (fun KK hKK => ?_) AllReadyH.nil)
                            refine step_append_base rfl (.tmp 184) (.tmp 195) 65 rfl 0 100 i0 (evV 0 0 0 false) 4 32 Tryz.underlying65 hi0 hz0 hz1 hz2 rfl (by decide) (.slice pe es1.length ce) es1.length (evRow es1) rfl (HDe.out.er.alloc _) ⟨we.heap.size, 0, none⟩ 1 1 [.int .i64 (st : Int), .int .i64 (i : Int), .int .i64 (call i : Int), .bool true] rfl rfl (cells_new _ _ rfl _ _) HONE.out HLN.out.1 HLN.out.2 (Nat.zero_le _) ?_
                            intro vE wE r1 r2 r4
                            obtain ⟨gE, cE, hvE⟩ := slice_pos r1 (Nat.succ_pos _)
                            have HEV := keepH (ev_end (i := i) (x := ⟨(st : Int), (i : Int), (call i : Int), true⟩) HDe.out HMe.out hi r1 r2 r4 HEL2.out)
                            have kE := HEV.out.cell
                            have fE := HEV.out.free
                            clear r1 r2 r4 s5 s5a
                            subst hvE
                            refine hKK.out _ _ ?_ (fun hHeld => ?_)
                            · exact ⟨HEV.out.h2, HEV.out.hc⟩
                            clear hKK KK
                            (try simp only [Act.put, List.getElem_toArray, List.getElem_cons_succ, List.getElem_cons_zero]); (try simp only [List.setIfInBounds_toArray]); (repeat (first | simp only [List.set_cons_succ] | simp only [List.set_cons_zero]))
                            refine wpAnyH_take (i := 17) (v := ?_) rfl (by kernel_rfl) (by kernel_rfl) (by kernel_rfl) (fun _ _ _ h => h) (Or.inl ⟨by rfl, ?_⟩) hHeld ?_
                            rotate_left
                            · intro w hSw
                              (try dsimp only at hSw)
                              go_simp
                              try with_reducible rfl
                            (try simp only [Act.put, List.getElem_toArray, List.getElem_cons_succ, List.getElem_cons_zero]); (try simp only [List.setIfInBounds_toArray]); (repeat (first | simp only [List.set_cons_succ] | simp only [List.set_cons_zero]))
                            refine wpAnyH_take (i := 18) (v := ?_) rfl (by kernel_rfl) (by kernel_rfl) (by kernel_rfl) (fun _ _ _ h => h) (Or.inl ⟨by rfl, ?_⟩) hHeld ?_
                            rotate_left
                            · intro w hSw
                              (try dsimp only at hSw)
                              go_simp
                              try with_reducible rfl
                            (try simp only [Act.put, List.getElem_toArray, List.getElem_cons_succ, List.getElem_cons_zero]); (try simp only [List.setIfInBounds_toArray]); (repeat (first | simp only [List.set_cons_succ] | simp only [List.set_cons_zero]))
                            refine wpAnyH_ready (rs := [19]) (by kernel_rfl) (by simp) ?_
                            refine (AllReadyH.cons rfl (fun KK hKK => ?_) AllReadyH.nil)
                            go_simp
                            refine hKK.out _ _ ?_ (fun hHeld => ?_)
                            · exact ⟨HEV.out.k2, HEV.out.kc⟩
                            clear hKK KK
                            (try simp only [Act.put, List.getElem_toArray, List.getElem_cons_succ, List.getElem_cons_zero]); (try simp only [List.setIfInBounds_toArray]); (repeat (first | simp only [List.set_cons_succ] | simp only [List.set_cons_zero]))
                            refine wpAnyH_done (by kernel_rfl) ?_ _
                            go_simp
                            (try go_wp2_with fail)
                            go_meet
                            exact HEV.out.fin
                      case rest =>
                        as_aux_lemma =>
                          obtain ⟨tg8, ev8, HD8, HM8⟩ := hcut
                          obtain ⟨w8, hw8⟩ : ∃ w8, w8 = wc := ⟨_, rfl⟩
                          subst hw8
                          clear HD7 HM7
                          have c2 : w8.cell? ⟨r, 2, none⟩ = some (.slice (some ⟨gc, 0, none⟩) T T) := cell_of HD8.out.blk 2
                          have b2 : w8.cell? ⟨gc, i, none⟩ = some (.int .i64 (call i : Int)) := by rw [cell_of HD8.out.cb i]; exact intR_get hi
                          have fb2 := free_of HD8.out.cb i
                          obtain ⟨n1, hn1⟩ : ∃ n1, n1 = call i + 1 := ⟨_, rfl⟩
                          have hc6 : call i < 4611686018427387904 := HDLL.out
                          have en1 : (call i : Int) + 1 = (n1 : Int) := by omega
                          have en2 : IntKind.i64.wrap ((call i : Int) + 1) = (n1 : Int) := by rw [IntKind.wrap_i64]; omega
                          have HN1 := keepH hn1
                          clear hn1
                          go_upto_region 21 with fail
                          obtain ⟨w9, hw9⟩ : ∃ w9, w9 = w8.setCell ⟨gc, i, none⟩ (.int .i64 (n1 : Int)) := ⟨_, rfl⟩
                          rw [← hw9]
                          have HD9 : Hid (D4At w9 B tg8 r nm T s1 gc ga gg (some ⟨bk, off, none⟩) c8 ev8 wv5 (es1 ++ [⟨(st : Int), (i : Int), (call i : Int), true⟩]) ws5 gv5 gl5 R5 m5 t5 (fun j => if j = i then n1 else call j) at6) := by rw [hw9]; exact HD8.out.setCall i n1
                          have HM9 : Hid (DM X w9 B tg8 K pb (.cells #[.bool qn, .slice lp0 q.L.length lc0] 107 (0, 0))) := by
                            rw [hw9]
                            exact HM8.out.next (G := fun k => k = gc) ((Chg.refl (fun k => k = gc) _).setCell (p := ⟨gc, i, none⟩) (fun _ => rfl) _) (fun k _ e => by rw [e, HD8.out.tc]; decide) (fun k e => (HD8.out.lo k e).1) (fun k _ => rfl)
                          clear hw9 c2 b2 fb2 HD8 HM8
                          have c32 : w9.cell? ⟨r, 3, none⟩ = some (.slice (some ⟨ga, 0, none⟩) T T) := cell_of HD9.out.blk 3
                          have c33 : w9.cell? ⟨ga, i, none⟩ = some (.int .i64 (a1 : Int)) := by rw [cell_of HD9.out.ab i, intR_get hi, HAI.out]
                          have f33 := free_of HD9.out.ab i
                          go_wp2_with fail
                          go_ret
                          refine ⟨by simp, ?_⟩
                          have es : sx = ⟨s1, fun j => if j = i then n1 else call j, fun j => if j = i then 0 else at6 j, es1 ++ [⟨(st : Int), (i : Int), (call i : Int), true⟩], ws5, gl5, m5, t5⟩ := by
                            rw [HSX.out]
                            unfold R4S.pick
                            simp only [if_pos HNN.out]
                            obtain ⟨z1, z2, z3, z4⟩ := HQ5.out
                            rw [HS1.out, HN1.out, HAT.out, HES.out, z1, z2, z3, z4, ← HDD.out]
                            congr 1
                            funext j
                            by_cases e : j = i
                            · (simp only [if_pos e]) <;> (first | rfl | rw [e])
                            · simp only [if_neg e]
                          rw [es]
                          refine D4x.of (s := ⟨s1, fun j => if j = i then n1 else call j, fun j => if j = i then 0 else at6 j, es1 ++ [⟨(st : Int), (i : Int), (call i : Int), true⟩], ws5, gl5, m5, t5⟩) (HD9.out.setAt i 0) (HM9.out.next (G := fun k => k = ga) ((Chg.refl (fun k => k = ga) _).setCell (p := ⟨ga, i, none⟩) (fun _ => rfl) _) (fun k _ e => by rw [e, HD9.out.ta]; decide) (fun k e => (HD9.out.lo k e).1) (fun k _ => rfl))
end Go.Proofs.YtnhiodmigmmfgaaGreat
