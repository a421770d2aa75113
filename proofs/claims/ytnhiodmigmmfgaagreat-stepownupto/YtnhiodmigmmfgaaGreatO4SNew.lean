/- A runner's pick of a thread that may step. -/
import Derived.Test.YtnhiodmigmmfgaaGreatO3SPick
import Derived.Deep.CutRange
namespace Go.Proofs.YtnhiodmigmmfgaaGreat
open Go.RowKit Go.Shelf

set_option maxRecDepth 100000 in
set_option maxHeartbeats 8000000 in
theorem r_pick_in {r m g c vb : Nat} {vw : List Value} {ev av : Value} {ths : List Thr} {steps : Nat} {evs : List Ev} {ats : List Int} {G K : Nat → Prop} (I : World → (Nat → Prop) → Prop) (J : Bool → World → (Nat → Prop) → Prop) (ln : Nat) (ln' : Bool → Nat) (i : Nat) (x : Thr) (p : Value) (W : World)
    (h : RunAt W G r m vw (.slice (some ⟨g, 0, none⟩) ths.length c) ev av ths steps evs ats) (hx : ths[i]? = some x) (hn : x.next < x.calls.length) (hp : x.calls[x.next]? = some p) (hv : vw[i]? = some (.pointer (some ⟨vb, 0, none⟩)))
    (hI : I W K) (hGK : ∀ k, G k → ¬ K k)
    (keepI : ∀ X Y K, I X K → X.heap.size ≤ Y.heap.size → (∀ k, K k → Y.heap[k]? = X.heap[k]?) → I Y K) (ltI : ∀ X K, I X K → ∀ k, K k → k < X.heap.size)
    (memI : ∀ X K, I X K → ∃ b F most next cs l, IsMem X m b ∧ Bank X F b most next cs l ∧ l.length = ln ∧ (∀ k, F k → K k) ∧ K m)
    (keepJ : ∀ d X Y K, J d X K → X.heap.size ≤ Y.heap.size → (∀ k, K k → Y.heap[k]? = X.heap[k]?) → J d Y K) (ltJ : ∀ d X K, J d X K → ∀ k, K k → k < X.heap.size)
    (memJ : ∀ d X K, J d X K → ∃ b F most next cs l, IsMem X m b ∧ Bank X F b most next cs l ∧ l.length = ln' d ∧ (∀ k, F k → K k) ∧ K m)
    (step : ∀ X K, I X K → Calls Tryz.prog 35 #[p, .pointer (some ⟨vb, 0, none⟩)] X fun e X' => ∃ d K', e = .returned (.bool d) ∧ J d X' K' ∧ Goes X X' K K')
    (hst : steps < 1099511627776) (hev : evs.length + 2 ≤ 1099511627776) (hln : ln ≤ 1099511627776) (hln' : ∀ d, ln' d ≤ 1099511627776) :
    Calls Tryz.prog 8 #[.pointer (some ⟨r, 0, none⟩), .int .i64 (i : Int)] W fun e W' => ∃ d G' K' ev' av', e = .returned (.bool true) ∧ RunAt W' G' r m vw (.slice (some ⟨g, 0, none⟩) ths.length c) ev' av' (ths.set i (pickThr x d)) (steps + 1) (pickEvs evs x steps i d) (extN (extN ats ln (-1)) (ln' d) (steps : Int)) ∧
      J d W' K' ∧ (∀ k, G' k → ¬ K' k) ∧ Goes W W' (fun k => G k ∨ K k) (fun k => G' k ∨ K' k) := by
  obtain ⟨i0, hi, hz0, hz1, hz2⟩ := info_parts infoE
  have c1 : W.cell? ⟨r, 66, none⟩ = some (.int .i64 (steps : Int)) := h.cellk 1
  have f1 := h.free 66
  obtain ⟨n1, hn1⟩ : ∃ n1, n1 = steps + 1 := ⟨_, rfl⟩
  have wn : IntKind.i64.wrap ((steps : Int) + 1) = (n1 : Int) := by rw [IntKind.wrap_i64]; omega
  have H := keepH h
  have H1 := keepH (h.setSteps n1)
  have HN := keepH hn1
  have t1 : decide (x.next < x.calls.length) = true := by simp; omega
  have hil : i < ths.length := (List.getElem?_eq_some_iff.1 hx).1
  have hi64 : i < 64 := by have := h.thl; omega
  have HX := keepH hx
  have HP := keepH hp
  have HVW := keepH hv
  have HI := keepH hI
  have HGK := keepH hGK
  have kI := keepH keepI
  have lI := keepH ltI
  have mI := keepH memI
  have kJ := keepH keepJ
  have lJ := keepH ltJ
  have mJ := keepH memJ
  have ST := keepH step
  have hln2 := keepH hln'
  clear h hn1 hp hv hI hGK keepI ltI memI keepJ ltJ memJ step hx hln'
  go_enter Tryz.func8, Tryz.ntmps8
  go_wp2_with fail
  refine (s_canStep_in i x _ H1.out HX.out).mono ?_
  rintro e w' ⟨rfl, q, rfl⟩
  obtain ⟨w1, hw1⟩ : ∃ w1, w1 = ((W.setCell ⟨r, 66, none⟩ (.int .i64 (n1 : Int))).drewN q) := ⟨_, rfl⟩
  rw [← hw1]
  have R1 : Hid (RunAt w1 G r m vw (.slice (some ⟨g, 0, none⟩) ths.length c) ev av ths n1 evs ats) := by rw [hw1]; exact H1.out.kept (Nat.le_refl _) (fun _ _ => rfl)
  have G1 : Hid (Goes W w1 G G) := by rw [hw1]; exact ⟨((Chg.refl G W).setCell (fun _ => H.out.inr) _).trans (Goes.drewN _ G q).chg (fun _ _ x => x) (fun _ _ x => x), fun _ e => .inl e⟩
  have hsz1 : w1.heap.size = W.heap.size := by rw [hw1]; simp [World.setCell]
  have c65 : w1.cell? ⟨r, 65, none⟩ = some (.slice (some ⟨g, 0, none⟩) ths.length c) := R1.out.cellk 0
  have d1 : w1.cell? ⟨g, i * 3 + 1, none⟩ = some (.int .i64 (x.next : Int)) := R1.out.thrCell i 1 (by omega) x HX.out
  have d2 : w1.cell? ⟨g, i * 3 + 2, none⟩ = some (.bool x.begun) := R1.out.thrCell i 2 (by omega) x HX.out
  have hgl : g < w1.heap.size := row_lt R1.out.tr g rfl
  have ne1 : ¬ g = w1.heap.size := by omega
  have ne2 : ¬ w1.heap.size = g := by omega
  have hil' : (i : Int) < (ths.length : Int) := by omega
  have d2a : ∀ o, (w1.alloc o).cell? ⟨g, i * 3 + 2, none⟩ = some (.bool x.begun) := fun o => (World.cell?_of_block (w := w1) (Below.heap_alloc _ _ _ hgl)).trans d2
  clear hw1 c1 f1 H1
  go_upto_if 44 with fail
  go_cut [] from 43 to 57 (fun wx => ∃ G2 ev2, Hid (RunAt wx G2 r m vw (.slice (some ⟨g, 0, none⟩) ths.length c) ev2 av (ths.set i { x with begun := true }) n1 (if x.begun then evs else evs ++ [⟨(steps : Int), (i : Int), (x.next : Int), false⟩]) ats) ∧ Hid (Goes W wx G G2) ∧ Hid (wx.heap[W.heap.size]? = some (.cells #[.int .i64 (steps : Int), .int .i64 (i : Int), .int .i64 (x.next : Int), .bool false] 100 (0, 0))) ∧ Hid (¬ G2 W.heap.size))
  case first =>
    have f2 : ∀ o, (w1.alloc o).frozen? ⟨g, i * 3 + 2, none⟩ = false := fun o => (World.frozen?_of_block (w := w1) (Below.heap_alloc _ _ _ hgl)).trans (World.ownsRow.frozenAt R1.out.tr (i * 3 + 2))
    have RE : Hid (∀ o, RunAt (w1.alloc o) G r m vw (.slice (some ⟨g, 0, none⟩) ths.length c) ev av ths n1 evs ats) := fun o => R1.out.chg ((Chg.refl (fun _ => False) _).alloc o) (fun _ _ h => h)
    have GE : Hid (∀ o, Goes W (w1.alloc o) G G) := fun o => ⟨G1.out.chg.alloc o, fun _ e => .inl e⟩
    have hG0 : Hid (¬ G W.heap.size) := fun e => by have := H.out.lt _ e; omega
    by_cases hbg : x.begun = true
    · have hb1 : (!x.begun) = false := by simp [hbg]
      simp only [hb1]
      go_wp2_with fail
      go_meet
      have es : ths.set i { x with begun := true } = ths := by
        have e : ({ x with begun := true } : Thr) = x := by cases x; simp_all
        rw [e]
        apply List.ext_getElem?
        intro j
        by_cases hj : j = i
        · subst hj
          simp [hil]
          have := HX.out
          rw [List.getElem?_eq_getElem hil] at this
          simpa using this.symm
        · rw [List.getElem?_set_ne (Ne.symm hj)]
      refine ⟨G, ev, ?_, GE.out _, ?_, hG0.out⟩
      · rw [es, if_pos hbg]
        exact RE.out _
      · have e := heap_alloc_new w1 (.cells #[.int .i64 (steps : Int), .int .i64 (i : Int), .int .i64 (x.next : Int), .bool false] 100)
        rw [hsz1] at e
        exact e
    · have hb1 : (!x.begun) = true := by simp [hbg]
      simp only [hb1]
      have X2 : Hid (∀ o, RunAt ((w1.alloc o).setCell ⟨g, i * 3 + 2, none⟩ (.bool true)) G r m vw (.slice (some ⟨g, 0, none⟩) ths.length c) ev av (ths.set i { x with begun := true }) n1 evs ats) := fun o => (RE.out o).setThr i 2 (by omega) x { x with begun := true } HX.out _ rfl ⟨rfl, rfl⟩ (show x.next ≤ x.calls.length by omega)
      go_wp2_with fail
      obtain ⟨w2, hw2⟩ : ∃ w2, w2 = ((w1.alloc (.cells #[.int .i64 (steps : Int), .int .i64 (i : Int), .int .i64 (x.next : Int), .bool false] 100)).setCell ⟨g, i * 3 + 2, none⟩ (.bool true)) := ⟨_, rfl⟩
      rw [← hw2]
      have R2 : Hid (RunAt w2 G r m vw (.slice (some ⟨g, 0, none⟩) ths.length c) ev av (ths.set i { x with begun := true }) n1 evs ats) := by rw [hw2]; exact X2.out _
      have G2 : Hid (Goes W w2 G G) := by rw [hw2]; exact ⟨(GE.out _).chg.setCell (fun _ => H.out.int g rfl) _, fun _ e => .inl e⟩
      have E2 : Hid (w2.heap[W.heap.size]? = some (.cells #[.int .i64 (steps : Int), .int .i64 (i : Int), .int .i64 (x.next : Int), .bool false] 100 (0, 0))) := by
        have e := heap_alloc_new w1 (.cells #[.int .i64 (steps : Int), .int .i64 (i : Int), .int .i64 (x.next : Int), .bool false] 100)
        rw [hsz1] at e
        rw [hw2]
        exact other_of e (by omega) _
      have hs2 : w2.heap.size = W.heap.size + 1 := by rw [hw2]; simp [World.setCell, hsz1]
      have e0 : w2.cell? ⟨W.heap.size, 0, none⟩ = some (.int .i64 (steps : Int)) := cell_of E2.out 0
      have e1 : w2.cell? ⟨W.heap.size, 1, none⟩ = some (.int .i64 (i : Int)) := cell_of E2.out 1
      have e2 : w2.cell? ⟨W.heap.size, 2, none⟩ = some (.int .i64 (x.next : Int)) := cell_of E2.out 2
      have e3 : w2.cell? ⟨W.heap.size, 3, none⟩ = some (.bool false) := cell_of E2.out 3
      have c67 : w2.cell? ⟨r, 67, none⟩ = some ev := R2.out.cellk 2
      have c67a : ∀ o, (w2.alloc o).cell? ⟨r, 67, none⟩ = some ev := fun o => (World.cell?_of_block (w := w2) (Below.heap_alloc _ _ _ (lt_of R2.out.blk))).trans c67
      have HE : Hid (w2.drew.ownsRow 0 100 4 ev evs.length (evRow evs)) := row_kept (W := w2) R2.out.er fun k _ => rfl
      obtain ⟨pe, ce, hev'⟩ := slice_of R2.out.er
      have HEV := keepH hev'
      subst hev'
      have hsz2 : Hid (w2.drew.heap.size = W.heap.size + 1) := hs2
      clear hw2 X2 RE GE f2 d2a d1 d2 c65
      go_region_law (refine step_append_own rfl (.tmp 52) (.tmp 54) 65 rfl 100 i0 (evV 0 0 0 false) 4 32 Tryz.underlying65 hi hz0 hz1 hz2 rfl (by decide) (.slice pe evs.length ce) evs.length (evRow evs) rfl (HE.out.alloc _) ⟨W.heap.size + 1, 0, none⟩ 1 1 [.int .i64 (steps : Int), .int .i64 (i : Int), .int .i64 (x.next : Int), .bool false] rfl rfl (cells_new _ _ hsz2.out _ _) (by simp [Value.oneCell']) (by unfold maxLen; omega) (by omega) ?_; intro v' w3 hown3 hgr3 _ hwh3; obtain ⟨g', c3, rfl⟩ := slice_pos hown3 (Nat.succ_pos _); have hb3 := keepH ((hgr3.block r (by have := lt_of R2.out.blk; simp; omega) (fun e => block_apart R2.out.er R2.out.blk (by decide) e.symm)).trans ((Below.heap_alloc w2.drew _ r (lt_of R2.out.blk)).trans R2.out.blk)); have r8 : w3.cell? ⟨r, 67, none⟩ = some (.slice pe evs.length ce) := (cell_of hb3.out 67).trans ((cell_of R2.out.blk 67).symm.trans c67); have rf := free_of hb3.out 67; have HO := keepH hown3; have HW3 := keepH hwh3; have HG3 := keepH hgr3; clear hown3 hwh3 hgr3)
      all_goals (try go_wp2_with fail)
      all_goals go_meet
      all_goals
        have hw' : (Value.slice pe evs.length ce).ownBlock = some g' ∨ w2.heap.size ≤ g' := by
          rcases HW3.out with e | e
          · exact .inl e.symm
          · simp [Value.ownBlock] at e
            exact .inr (by omega)
        obtain ⟨RR, GG⟩ := ev_more (y := ⟨(steps : Int), (i : Int), (x.next : Int), false⟩) R2.out HG3.out HO.out hw'
        have hgn : g' ≠ W.heap.size := by
          rcases hw' with e | e
          · have := H.out.lt g' (H.out.ine g' e)
            omega
          · omega
        refine ⟨fun k => G k ∨ k = g', .slice (some ⟨g', 0, none⟩) (evs.length + 1) c3, ?_, G2.out.trans GG, ?_, fun e => e.elim hG0.out (fun e => hgn e.symm)⟩
        · rw [if_neg hbg]
          exact RR
        · exact (GG.chg.block _ (by omega) hG0.out).trans E2.out
  case rest =>
    obtain ⟨G2, ev2, R2, GG2, E2, N2⟩ := hcut
    have IW : Hid (I wc K) := kI.out W wc K HI.out GG2.out.chg.size (fun k hk => GG2.out.chg.block k (lI.out W K HI.out k hk) (fun e => HGK.out k e hk))
    have GK2 : Hid (∀ k, G2 k → ¬ K k) := fun k e hk => (GG2.out.new k e).elim (fun e => HGK.out k e hk) (fun e => by have := lI.out W K HI.out k hk; omega)
    obtain ⟨b, F, most, next, cs, l, hm, hb, hll, hFK, hKm⟩ := mI.out wc K IW.out
    have c0 : wc.cell? ⟨r, 0, none⟩ = some (.pointer (some ⟨m, 0, none⟩)) := R2.out.cell0
    have HMc := keepH hm
    have HBc := keepH hb
    clear hm hb d1 d2 d2a c65 R1 G1 hFK hKm
    go_upto_region 13 with (refine (m_made m b most next F cs l _ HMc.out HBc.out).mono ?_; rintro e w' ⟨rfl, rfl⟩)
    have hx2 : (ths.set i { x with begun := true })[i]? = some { x with begun := true } := by simp [hil]
    have t0 : w'.cell? ⟨g, i * 3, none⟩ = some x.cv := by
      have R2' := R2.out
      rw [show ths.length = (ths.set i { x with begun := true }).length by simp] at R2'
      exact R2'.thrCell i 0 (by omega) { x with begun := true } hx2
    have t3 : w'.cell? ⟨g, i * 3 + 1, none⟩ = some (.int .i64 (x.next : Int)) := by
      have R2' := R2.out
      rw [show ths.length = (ths.set i { x with begun := true }).length by simp] at R2'
      exact R2'.thrCell i 1 (by omega) { x with begun := true } hx2
    have hrow : w'.ownsRow 0 91 1 x.cv x.calls.length x.calls := R2.out.calls { x with begun := true } (List.mem_of_getElem? hx2)
    obtain ⟨gc, cc, hcv⟩ := slice_pos hrow (by omega)
    rw [hcv] at t0 hrow
    have tp : w'.cell? ⟨gc, x.next, none⟩ = some p := by rw [World.ownsRow.cellAt hrow x.next (by omega)]; exact HP.out
    have tvw : w'.cell? ⟨r, 1 + i, none⟩ = some (.pointer (some ⟨vb, 0, none⟩)) := (R2.out.cellv i hi64).trans HVW.out
    have u1 : (x.next : Int) < (x.calls.length : Int) := by omega
    have u2 : (i : Int) < 64 := by omega
    have HCV := keepH hcv
    clear hrow hcv hx2 c0
    go_cut [9] from 63 to 79 (fun s9 wx => ∃ d K3, s9 = .bool d ∧ Hid (J d wx K3) ∧ Hid (Goes w' wx K K3))
    case first =>
      go_region_with (go_at_call 35; refine (ST.out w'.drew K (kI.out w' w'.drew K IW.out (Nat.le_refl _) (fun _ _ => rfl))).mono ?_; rintro e w4 ⟨d, K3, rfl, hJ, hG⟩; have HJ := keepH hJ; have HG4 := keepH hG; clear hJ hG)
      all_goals (try go_wp2_with fail)
      all_goals go_meet
      all_goals exact ⟨d, K3, rfl, HJ, ⟨⟨HG4.out.chg.os, HG4.out.chg.tape, HG4.out.chg.output, HG4.out.chg.size, HG4.out.chg.block⟩, HG4.out.new⟩⟩
    case rest =>
      obtain ⟨d, K3, rfl, HJ, G3⟩ := hcut
      have R3 : Hid (RunAt wc G2 r m vw (.slice (some ⟨g, 0, none⟩) ths.length c) ev2 av (ths.set i { x with begun := true }) n1 (if x.begun then evs else evs ++ [⟨(steps : Int), (i : Int), (x.next : Int), false⟩]) ats) := R2.out.chg G3.out.chg GK2.out
      have GK3 : Hid (∀ k, G2 k → ¬ K3 k) := fun k e hk => (G3.out.new k hk).elim (GK2.out k e) (fun e2 => by have := R2.out.lt k e; omega)
      obtain ⟨b', F', most', next', cs', l', hm', hb', hll', hFK', hKm'⟩ := mJ.out d wc K3 HJ.out
      have HM' := keepH hm'
      have HB' := keepH hb'
      have HD' : Hid (∀ k, G2 k → ¬ F' k ∧ k ≠ m) := fun k e => ⟨fun e2 => GK3.out k e (hFK' k e2), fun e2 => GK3.out k e (by rw [e2]; exact hKm')⟩
      have hl2 : l'.length ≤ 1099511627776 := by rw [hll']; exact hln2.out d
      have HLL := keepH hll'
      have hE3 : Hid (wc.heap[W.heap.size]? = some (.cells #[.int .i64 (steps : Int), .int .i64 (i : Int), .int .i64 (x.next : Int), .bool false] 100 (0, 0))) := (G3.out.chg.block _ (lt_of E2.out) (fun e => by have := lI.out W K HI.out _ e; omega)).trans E2.out
      clear hm' hb' hll' hFK' hKm' t0 t3 tp tvw hll HMc HBc
      go_wp2_with fail
      refine (s_note ln (steps : Int) _ R3.out HM'.out HB'.out HD'.out hln hl2).mono ?_
      rintro e w5 ⟨rfl, G5, av5, R5, GG5⟩
      have HR5 : Hid (RunAt w5 G5 r m vw (.slice (some ⟨g, 0, none⟩) ths.length c) ev2 av5 (ths.set i { x with begun := true }) n1 (if x.begun then evs else evs ++ [⟨(steps : Int), (i : Int), (x.next : Int), false⟩]) (extN (extN ats ln (-1)) (ln' d) (steps : Int))) := by rw [← HLL.out]; exact R5
      have HG5 := keepH GG5
      have GK5 : Hid (∀ k, G5 k → ¬ K3 k) := fun k e hk => (GG5.new k e).elim (fun e => GK3.out k e hk) (fun e => by have := lJ.out d wc K3 HJ.out k hk; omega)
      have HJ5 : Hid (J d w5 K3) := kJ.out d wc w5 K3 HJ.out GG5.chg.size (fun k hk => GG5.chg.block k (lJ.out d wc K3 HJ.out k hk) (fun e => GK3.out k e hk))
      have hE5 : Hid (w5.heap[W.heap.size]? = some (.cells #[.int .i64 (steps : Int), .int .i64 (i : Int), .int .i64 (x.next : Int), .bool false] 100 (0, 0))) := (GG5.chg.block _ (lt_of hE3.out) N2.out).trans hE3.out
      have NG5 : Hid (¬ G5 W.heap.size) := fun e => (GG5.new _ e).elim N2.out (fun e => by have := lt_of hE3.out; omega)
      have NK3 : Hid (¬ K3 W.heap.size) := fun e => (G3.out.new _ e).elim (fun e => by have := lI.out W K HI.out _ e; omega) (fun e => by have := lt_of E2.out; omega)
      have GT : Hid (Goes W w5 (fun k => G k ∨ K k) (fun k => G5 k ∨ K3 k)) := by
        refine ⟨(GG2.out.chg.trans G3.out.chg (H := fun k => G k ∨ K k) (fun _ _ e => .inl e) (fun _ _ e => .inr e)).trans GG5.chg (fun _ _ e => e) (fun k hk e => (GG2.out.new k e).elim .inl (fun e => by omega)), fun k e => ?_⟩
        have s1 := GG2.out.chg.size
        have s2 := G3.out.chg.size
        rcases e with e | e
        · rcases GG5.new k e with e | e
          · rcases GG2.out.new k e with e | e
            · exact .inl (.inl e)
            · exact .inr e
          · exact .inr (by omega)
        · rcases G3.out.new k e with e | e
          · exact .inl (.inr e)
          · exact .inr (by omega)
      clear R5 GG5 R3 GG2 G3 hE3 HM' HB' HD' E2 N2 IW GK2 GK3 R2 HJ
      cases d with
      | false =>
        go_wp2_with fail
        go_ret
        refine ⟨false, G5, K3, ev2, av5, by simp, ?_, HJ5.out, GK5.out, GT.out⟩
        have e := HR5.out
        rw [← HN.out]
        have e1 : pickThr x false = { x with begun := true } := rfl
        have e2 : pickEvs evs x steps i false = (if x.begun then evs else evs ++ [⟨(steps : Int), (i : Int), (x.next : Int), false⟩]) := by simp [pickEvs]
        rw [e1, e2]
        exact e
      | true =>
        have hxm : (ths.set i { x with begun := true })[i]? = some { x with begun := true } := by simp [hil]
        obtain ⟨nx, hnx⟩ : ∃ nx, nx = x.next + 1 := ⟨_, rfl⟩
        have hcl := (H.out.nxt x (List.mem_of_getElem? HX.out)).2
        have wx : IntKind.i64.wrap ((x.next : Int) + 1) = (nx : Int) := by rw [IntKind.wrap_i64]; omega
        have R5 : Hid (RunAt w5 G5 r m vw (.slice (some ⟨g, 0, none⟩) (ths.set i { x with begun := true }).length c) ev2 av5 (ths.set i { x with begun := true }) n1 (if x.begun then evs else evs ++ [⟨(steps : Int), (i : Int), (x.next : Int), false⟩]) (extN (extN ats ln (-1)) (ln' true) (steps : Int))) := by rw [List.length_set]; exact HR5.out
        have k1 : w5.cell? ⟨g, i * 3 + 1, none⟩ = some (.int .i64 (x.next : Int)) := R5.out.thrCell i 1 (by omega) { x with begun := true } hxm
        have k2 : w5.cell? ⟨g, i * 3 + 2, none⟩ = some (.bool true) := R5.out.thrCell i 2 (by omega) { x with begun := true } hxm
        have z1 : w5.frozen? ⟨g, i * 3 + 1, none⟩ = false := World.ownsRow.frozenAt R5.out.tr (i * 3 + 1)
        have z2 : w5.frozen? ⟨g, i * 3 + 2, none⟩ = false := World.ownsRow.frozenAt R5.out.tr (i * 3 + 2)
        have R6 : Hid (RunAt (w5.setCell ⟨g, i * 3 + 2, none⟩ (.bool false)) G5 r m vw (.slice (some ⟨g, 0, none⟩) (ths.set i { x with begun := false }).length c) ev2 av5 (ths.set i { x with begun := false }) n1 (if x.begun then evs else evs ++ [⟨(steps : Int), (i : Int), (x.next : Int), false⟩]) (extN (extN ats ln (-1)) (ln' true) (steps : Int))) := by
          have e := R5.out.setThr i 2 (by omega) { x with begun := true } { x with begun := false } hxm (.bool false) rfl ⟨rfl, rfl⟩ (show x.next ≤ x.calls.length by omega)
          refine keepH ?_
          simpa [List.length_set, List.set_set] using e
        have hxf : (ths.set i { x with begun := false })[i]? = some { x with begun := false } := by simp [hil]
        have R7 : Hid (RunAt ((w5.setCell ⟨g, i * 3 + 2, none⟩ (.bool false)).setCell ⟨g, i * 3 + 1, none⟩ (.int .i64 (nx : Int))) G5 r m vw (.slice (some ⟨g, 0, none⟩) ths.length c) ev2 av5 (ths.set i (pickThr x true)) n1 (if x.begun then evs else evs ++ [⟨(steps : Int), (i : Int), (x.next : Int), false⟩]) (extN (extN ats ln (-1)) (ln' true) (steps : Int))) := by
          have e := R6.out.setThr i 1 (by omega) { x with begun := false } (pickThr x true) hxf (.int .i64 (nx : Int)) (by rw [hnx]; rfl) ⟨rfl, rfl⟩ (show x.next + 1 ≤ x.calls.length by omega)
          refine keepH ?_
          simpa [List.length_set, List.set_set] using e
        have E5 : w5.cell? ⟨W.heap.size, 3, none⟩ = some (.bool false) := cell_of hE5.out 3
        have zE : w5.frozen? ⟨W.heap.size, 3, none⟩ = false := free_of hE5.out 3
        have hgW : g < W.heap.size := by have := H.out.lt g (H.out.int g rfl); omega
        have nn1 : ¬ W.heap.size = g := by omega
        have nn2 : ¬ g = W.heap.size := by omega
        have HNX := keepH hnx
        clear hxm hxf hnx R5 R6
        go_upto_region 19 with fail
        obtain ⟨w8, hw8⟩ : ∃ w8, w8 = (((w5.setCell ⟨g, i * 3 + 2, none⟩ (.bool false)).setCell ⟨g, i * 3 + 1, none⟩ (.int .i64 (nx : Int))).setCell ⟨W.heap.size, 3, none⟩ (.bool true)) := ⟨_, rfl⟩
        rw [← hw8]
        have R8 : Hid (RunAt w8 G5 r m vw (.slice (some ⟨g, 0, none⟩) ths.length c) ev2 av5 (ths.set i (pickThr x true)) n1 (if x.begun then evs else evs ++ [⟨(steps : Int), (i : Int), (x.next : Int), false⟩]) (extN (extN ats ln (-1)) (ln' true) (steps : Int))) := by
          rw [hw8]
          exact R7.out.chg ((Chg.refl (fun k => k = W.heap.size) _).setCell (p := ⟨W.heap.size, 3, none⟩) (fun _ => rfl) _) (fun k e e2 => NG5.out (by rw [← e2]; exact e))
        have G8 : Hid (Chg (fun k => k = g ∨ k = W.heap.size) w5 w8) := by
          rw [hw8]
          exact (((Chg.refl (fun k => k = g ∨ k = W.heap.size) w5).setCell (p := ⟨g, i * 3 + 2, none⟩) (fun _ => .inl rfl) _).setCell (p := ⟨g, i * 3 + 1, none⟩) (fun _ => .inl rfl) _).setCell (p := ⟨W.heap.size, 3, none⟩) (fun _ => .inr rfl) _
        have hE8 : Hid (w8.heap[W.heap.size]? = some (.cells #[.int .i64 (steps : Int), .int .i64 (i : Int), .int .i64 (x.next : Int), .bool true] 100 (0, 0))) := by
          rw [hw8]
          have e := set_of (other_of (other_of hE5.out nn1 (.bool false) (k := i * 3 + 2)) nn1 (.int .i64 (nx : Int)) (k := i * 3 + 1)) 3 (.bool true)
          exact e
        have y0 : w8.cell? ⟨W.heap.size, 0, none⟩ = some (.int .i64 (steps : Int)) := cell_of hE8.out 0
        have y1 : w8.cell? ⟨W.heap.size, 1, none⟩ = some (.int .i64 (i : Int)) := cell_of hE8.out 1
        have y2 : w8.cell? ⟨W.heap.size, 2, none⟩ = some (.int .i64 (x.next : Int)) := cell_of hE8.out 2
        have y3 : w8.cell? ⟨W.heap.size, 3, none⟩ = some (.bool true) := cell_of hE8.out 3
        have c67 : w8.cell? ⟨r, 67, none⟩ = some ev2 := R8.out.cellk 2
        have c67a : ∀ o, (w8.alloc o).cell? ⟨r, 67, none⟩ = some ev2 := fun o => (World.cell?_of_block (w := w8) (Below.heap_alloc _ _ _ (lt_of R8.out.blk))).trans c67
        obtain ⟨evs2, hevs2⟩ : ∃ evs2, evs2 = (if x.begun then evs else evs ++ [⟨(steps : Int), (i : Int), (x.next : Int), false⟩]) := ⟨_, rfl⟩
        rw [← hevs2] at R8
        have hel : evs2.length + 1 ≤ 1099511627776 := by rw [hevs2]; split <;> simp <;> omega
        have HEQ := keepH hevs2
        have HE : Hid (w8.drew.ownsRow 0 100 4 ev2 evs2.length (evRow evs2)) := row_kept (W := w8) R8.out.er fun k _ => rfl
        obtain ⟨pe, ce, hev'⟩ := slice_of R8.out.er
        subst hev'
        clear hw8 hevs2 k1 k2 z1 z2 E5 zE R7 HR5 hE5
        go_region_law (refine step_append_own rfl (.tmp 100) (.tmp 102) 65 rfl 100 i0 (evV 0 0 0 false) 4 32 Tryz.underlying65 hi hz0 hz1 hz2 rfl (by decide) (.slice pe evs2.length ce) evs2.length (evRow evs2) rfl (HE.out.alloc _) ⟨w8.heap.size, 0, none⟩ 1 1 [.int .i64 (steps : Int), .int .i64 (i : Int), .int .i64 (x.next : Int), .bool true] rfl rfl (cells_new _ _ rfl _ _) (by simp [Value.oneCell']) (by unfold maxLen; omega) (by omega) ?_; intro v' w3 hown3 hgr3 _ hwh3; obtain ⟨g', c3, rfl⟩ := slice_pos hown3 (Nat.succ_pos _); have hb3 := keepH ((hgr3.block r (by have := lt_of R8.out.blk; simp; omega) (fun e => block_apart R8.out.er R8.out.blk (by decide) e.symm)).trans ((Below.heap_alloc w8.drew _ r (lt_of R8.out.blk)).trans R8.out.blk)); have r8 : w3.cell? ⟨r, 67, none⟩ = some (.slice pe evs2.length ce) := (cell_of hb3.out 67).trans ((cell_of R8.out.blk 67).symm.trans c67); have rf := free_of hb3.out 67; have HO := keepH hown3; have HW3 := keepH hwh3; have HG3 := keepH hgr3; clear hown3 hwh3 hgr3)
        all_goals (try go_wp2_with fail)
        all_goals go_ret
        all_goals
          have hw' : (Value.slice pe evs2.length ce).ownBlock = some g' ∨ w8.heap.size ≤ g' := by
            rcases HW3.out with e | e
            · exact .inl e.symm
            · simp [Value.ownBlock] at e
              exact .inr (by omega)
          obtain ⟨RR, GG⟩ := ev_more (y := ⟨(steps : Int), (i : Int), (x.next : Int), true⟩) R8.out HG3.out HO.out hw'
          have g5 : G5 g := R8.out.int g rfl
          have c58 : Chg (fun k => G5 k ∨ k = W.heap.size) w5 (w3.setCell ⟨r, 67, none⟩ (.slice (some ⟨g', 0, none⟩) (evs2.length + 1) c3)) := G8.out.trans GG.chg (fun k _ e => e.elim (fun e => .inl (by rw [e]; exact g5)) .inr) (fun k _ e => .inl e)
          have hJ8 := kJ.out true w5 _ K3 HJ5.out c58.size (fun k hk => c58.block k (lJ.out true w5 K3 HJ5.out k hk) (fun e => e.elim (fun e => GK5.out k e hk) (fun e => NK3.out (by rw [← e]; exact hk))))
          refine ⟨true, fun k => G5 k ∨ k = g', K3, .slice (some ⟨g', 0, none⟩) (evs2.length + 1) c3, av5, by simp, ?_, hJ8, ?_, ?_⟩
          · have e2 : pickEvs evs x steps i true = evs2 ++ [⟨(steps : Int), (i : Int), (x.next : Int), true⟩] := by rw [HEQ.out]; rfl
            rw [← HN.out, e2]
            exact RR
          · intro k e hk
            rcases e with e | e
            · exact GK5.out k e hk
            · rcases hw' with e2 | e2
              · exact GK5.out k (R8.out.ine k (by rw [e]; exact e2)) hk
              · have := lJ.out true w5 K3 HJ5.out k hk
                have := G8.out.size
                omega
          · refine ⟨GT.out.chg.trans c58 (fun _ _ e => e) (fun k hk e => e.elim (fun e => (GT.out.new k (.inl e)).elim (fun e => e) (fun e => by omega)) (fun e => by omega)), fun k e => ?_⟩
            have s1 := GT.out.chg.size
            have s2 := G8.out.size
            rcases e with (e | e) | e
            · exact GT.out.new k (.inl e)
            · rcases hw' with e2 | e2
              · exact GT.out.new k (.inl (R8.out.ine k (by rw [e]; exact e2)))
              · exact .inr (by omega)
            · exact GT.out.new k (.inr e)
end Go.Proofs.YtnhiodmigmmfgaaGreat
/- A new runner: the parts. -/
namespace Go.Proofs.YtnhiodmigmmfgaaGreat
open Go.RowKit Go.Shelf

theorem infoP : (Tryz.prog.info? 91).map (fun i => (i.zero, i.size, i.bytes)) = some (some .nilIface, 1, 16) := by kernel_rfl
def thrV (cv : Value) (next : Int) (begun : Bool) : Value := .agg #[cv, .int .i64 next, .bool begun]
theorem infoT : (Tryz.prog.info? 98).map (fun i => (i.zero, i.size, i.bytes)) = some (some (thrV (.slice none 0 0) 0 false), 3, 40) := by kernel_rfl

/-- Threads of procs, as they are handed in. -/
structure Lists (W : World) (v : Value) (tl : List (Value × List Value)) : Prop where
  outer : W.ownsRow 0 76 1 v tl.length (tl.map Prod.fst)
  inner : ∀ x ∈ tl, W.ownsRow 0 91 1 x.1 x.2.length x.2
  one : ∀ x ∈ tl, ∀ u ∈ x.2, u.oneCell' = true
theorem Lists.chg {W W' : World} {v : Value} {tl : List (Value × List Value)} (h : Lists W v tl) (hc : Chg (fun _ => False) W W') : Lists W' v tl :=
  ⟨row_kept h.outer fun k e => hc.block k (row_lt h.outer k e) (fun h => h), fun x hx => row_kept (h.inner x hx) fun k e => hc.block k (row_lt (h.inner x hx) k e) (fun h => h), h.one⟩
theorem Lists.cell {W : World} {g n c : Nat} {tl : List (Value × List Value)} (h : Lists W (.slice (some ⟨g, 0, none⟩) n c) tl) (i : Nat) (x : Value × List Value) (hx : tl[i]? = some x) : W.cell? ⟨g, i, none⟩ = some x.1 := by
  have hi : i < tl.length := (List.getElem?_eq_some_iff.1 hx).1
  have e : n = tl.length := by
    rcases h.outer.2 with ⟨h2, _⟩ | ⟨_, _, _, h2, _⟩
    · simp at h2
    · simp at h2; exact h2.2.1
  subst e
  rw [World.ownsRow.cellAt h.outer i (by omega)]
  simp [hx]

def tooLongB (tl : List (Value × List Value)) : Bool := decide (64 < tl.length) || tl.any (fun x => decide (4096 < x.2.length))

set_option maxRecDepth 100000 in
set_option maxHeartbeats 1000000 in
theorem s_tooLong (v : Value) (tl : List (Value × List Value)) (W : World) (h : Lists W v tl) (hl : tl.length ≤ 1099511627776) (hi : ∀ x ∈ tl, x.2.length ≤ 1099511627776) :
    Calls Tryz.prog 75 #[v] W fun e W' => e = .returned (.bool (tooLongB tl)) ∧ W' = W := by
  have H := keepH h
  have HI := keepH hi
  obtain ⟨p, c, hv⟩ := slice_of h.outer
  subst hv
  clear h hi
  by_cases h1 : 64 < tl.length
  · have t1 : (64 : Int) < (tl.length : Int) := by omega
    go_enter Tryz.func75, Tryz.ntmps75
    go_wp2_with fail
    go_ret
    exact ⟨by simp [tooLongB, h1], rfl⟩
  · have t1 : ¬ (64 : Int) < (tl.length : Int) := by omega
    go_enter Tryz.func75, Tryz.ntmps75
    go_wp2_with fail
    go_loopw [10] (fun s wr => ∃ k : Nat, k ≤ tl.length ∧ s = .int .i64 (k : Int) ∧ wr = W ∧ Hid (∀ j x, j < k → tl[j]? = some x → ¬ 4096 < x.2.length)) (fun s _ => tl.length - (intOf s).toNat)
    case atStart => exact ⟨0, by omega, rfl, rfl, fun j x hj => absurd hj (Nat.not_lt_zero _)⟩
    case round =>
      obtain ⟨k, hk, rfl, rfl, HK⟩ := hrel
      by_cases hlt : k < tl.length
      · have t2 : (k : Int) < (tl.length : Int) := by omega
        obtain ⟨x, hx⟩ : ∃ x, tl[k]? = some x := ⟨tl[k], List.getElem?_eq_getElem hlt⟩
        obtain ⟨g, c', hg⟩ := slice_pos H.out.outer (by omega)
        simp only [Value.slice.injEq, true_and] at hg
        obtain ⟨rfl, rfl⟩ := hg
        have hc := H.out.cell k x hx
        obtain ⟨px, cx, hxs⟩ := slice_of (H.out.inner x (List.mem_of_getElem? hx))
        rw [hxs] at hc
        by_cases h2 : 4096 < x.2.length
        · have t3 : (4096 : Int) < (x.2.length : Int) := by omega
          go_wp2_with fail
          go_ret
          refine ⟨?_, rfl⟩
          have e : tl.any (fun x => decide (4096 < x.2.length)) = true := List.any_eq_true.2 ⟨x, List.mem_of_getElem? hx, by simpa using h2⟩
          simp [tooLongB, e]
        · have t3 : ¬ (4096 : Int) < (x.2.length : Int) := by omega
          go_wp2_with fail
          go_roundw
          case rel => exact ⟨k + 1, by omega, by go_num, by first | trivial | rfl, fun j y hj hy => by
              by_cases e : j = k
              · subst e
                rw [hx] at hy
                simp at hy
                subst hy
                exact h2
              · exact HK.out j y (by omega) hy⟩
          case measure => simp [intOf]; omega
      · obtain rfl : k = tl.length := by omega
        go_wp2_with fail
        go_ret
        refine ⟨?_, rfl⟩
        have e : tl.any (fun x => decide (4096 < x.2.length)) = false := by
          rw [List.any_eq_false]
          intro x hx
          obtain ⟨j, hj⟩ := List.getElem?_of_mem hx
          have := HK.out j x (List.getElem?_eq_some_iff.1 hj).1 hj
          simpa using this
        simp [tooLongB, e, h1]

set_option maxRecDepth 100000 in
theorem clone_p (v : Value) (n : Nat) (xs : List Value) (W : World) (h : W.ownsRow 0 91 1 v n xs) (hn : n ≤ 1099511627776) (h1 : ∀ u ∈ xs, u.oneCell' = true) :
    Calls Tryz.prog 76 #[v] W fun e W' => ∃ v', e = .returned v' ∧ W'.ownsRow 0 91 1 v' n xs ∧ Chg (fun _ => False) W W' ∧ ∀ k, v'.ownBlock = some k → W.heap.size ≤ k := by
  obtain ⟨i0, hi, hz0, hz1, hz2⟩ := info_parts infoP
  have q1 : ∀ (w : World) (a : Option Addr) (n c n' c' : Nat), (binOp .eql 76 (.slice a n c) (.slice none n' c')).run Tryz.prog w = .ok (.bool a.isNone) w := fun w a n c n' c' => Lib.run_eql_slice_nil w _ _ a n c n' c' Tryz.underlying76
  rcases h.2 with ⟨rfl, rfl⟩ | ⟨g, cap, cur, rfl, _⟩
  · have hx : xs = [] := List.eq_nil_of_length_eq_zero (by simpa using h.1)
    subst hx
    clear h h1
    go_enter Tryz.func76, Tryz.ntmps76
    go_wp2_with fail
    go_ret
    exact ⟨.slice none 0 0, by simp, World.ownsRow_nil _ _ _ _, Chg.refl _ _, fun k e => by simp [Value.ownBlock] at e⟩
  · have H := keepH h
    have H1 := keepH h1
    have hxl := h.1
    clear h h1
    go_enter Tryz.func76, Tryz.ntmps76
    go_wp2_with (at_builtin; refine wpList_append_own_at _ rfl _ _ 76 rfl 0 91 i0 .nilIface 1 16 Tryz.underlying76 hi hz0 hz1 hz2 rfl (by decide) (.slice (some ⟨W.heap.size, 0, none⟩) 0 0) 0 [] rfl ⟨rfl, .inr ⟨W.heap.size, 0, #[], rfl, Nat.zero_le _, heap_alloc_new _ _, Nat.le_refl _, by unfold maxLen; omega, rfl, rfl⟩⟩ ⟨g, 0, none⟩ n cap xs rfl hxl (fun j u hj => ((H.out.alloc _).cells (g := g) rfl j u hj)) H1.out (by unfold maxLen; omega) (by omega) (Nat.zero_le _) ?_; intro v' w1 r1 r2 r3 r4; have R1 := keepH r1; have R4 := keepH r4; clear r1 r3 r4)
    go_ret
    refine ⟨v', by simp, ?_, ((Chg.refl _ W).alloc _).grown r2 (fun k e hk => by simp [Value.ownBlock] at e; omega), fun k e => ?_⟩
    · have e := R1.out
      simpa using e
    · rcases R4.out with e2 | e2
      · rw [e2] at e
        simp [Value.ownBlock] at e
        omega
      · rw [e2] at e
        simp at e
        omega

def vwOf (vbs : List Nat) : List Value := vbs.map (fun b => Value.pointer (some ⟨b, 0, none⟩)) ++ List.replicate (64 - vbs.length) (.pointer none)
theorem vwOf_get (vbs : List Nat) (i : Nat) (b : Nat) (h : vbs[i]? = some b) : (vwOf vbs)[i]? = some (.pointer (some ⟨b, 0, none⟩)) := by
  have hi : i < vbs.length := (List.getElem?_eq_some_iff.1 h).1
  rw [vwOf, List.getElem?_append_left (by simpa using hi)]
  simp [h]
theorem vwOf_set (vbs : List Nat) (b : Nat) (h : vbs.length < 64) : (vwOf vbs).set vbs.length (.pointer (some ⟨b, 0, none⟩)) = vwOf (vbs ++ [b]) := by
  obtain ⟨m, hm⟩ : ∃ m, 64 - vbs.length = m + 1 := ⟨63 - vbs.length, by omega⟩
  have hm2 : 64 - (vbs ++ [b]).length = m := by simp; omega
  rw [vwOf, vwOf, hm, hm2, List.set_append_right _ _ (by simp)]
  simp [List.replicate_succ]

section
variable {W Y : World} {G : Nat → Prop} {r m : Nat} {vw : List Value} {tv ev av : Value} {ths : List Thr} {steps : Nat} {evs : List Ev} {ats : List Int}
theorem RunAt.setView (h : RunAt W G r m vw tv ev av ths steps evs ats) (i : Nat) (hi : i < 64) (v : Value) : RunAt (W.setCell ⟨r, 1 + i, none⟩ v) G r m (vw.set i v) tv ev av ths steps evs ats := by
  have ob : ∀ k, k ≠ r → (W.setCell ⟨r, 1 + i, none⟩ v).heap[k]? = W.heap[k]? := fun k hk => Below.heap_setCell _ _ _ _ hk
  refine ⟨?_, by simpa using h.vlen, row_kept h.tr fun k e => ob k (fun e2 => block_apart h.tr h.blk (by decide) (by rw [e, e2])), fun x hx => row_kept (h.calls x hx) fun k e => ob k (fun e2 => block_apart (h.calls x hx) h.blk (by decide) (by rw [e, e2])), row_kept h.er fun k e => ob k (fun e2 => block_apart h.er h.blk (by decide) (by rw [e, e2])), row_kept h.ar fun k e => ob k (fun e2 => block_apart h.ar h.blk (by decide) (by rw [e, e2])), h.inr, h.int, h.inc, h.ine, h.ina, fun k e => by simpa [World.setCell] using h.lt k e, h.thl, h.nxt⟩
  have e := set_of h.blk (1 + i) v
  rw [e]
  congr 2
  apply Array.ext'
  simp only [Array.toList_setIfInBounds]
  exact runL_setv m vw tv steps ev av h.vlen i hi v
/-- One thread more. -/
theorem RunAt.moreThr (h : RunAt W G r m vw tv ev av ths steps evs ats) {tv' : Value} {x : Thr} (hy : ∀ k, G k → tv.ownBlock ≠ some k → Y.heap[k]? = W.heap[k]?) (hs : W.heap.size ≤ Y.heap.size) (hrow : Y.ownsRow 0 98 3 tv' (ths ++ [x]).length (thrRow (ths ++ [x])))
    (hc : Y.ownsRow 0 91 1 x.cv x.calls.length x.calls) (hl : ths.length < 64) (hn : x.next ≤ x.calls.length ∧ x.calls.length ≤ 4096) :
    RunAt (Y.setCell ⟨r, 65, none⟩ tv') (fun k => (G k ∨ tv'.ownBlock = some k) ∨ x.cv.ownBlock = some k) r m vw tv' ev av (ths ++ [x]) steps evs ats := by
  have hr : Y.heap[r]? = some (.cells (runL m vw tv steps ev av).toArray 95 (0, 0)) := (hy r h.inr (block_apart h.tr h.blk (by decide))).trans h.blk
  have ob : ∀ k, k ≠ r → (Y.setCell ⟨r, 65, none⟩ tv').heap[k]? = Y.heap[k]? := fun k hk => Below.heap_setCell _ _ _ _ hk
  refine ⟨?_, h.vlen, row_kept hrow fun k e => ob k (fun e2 => block_apart hrow hr (by decide) (by rw [e, e2])), fun y hy' => ?_,
    row_kept h.er fun k e => (ob k (fun e2 => block_apart h.er h.blk (by decide) (by rw [e, e2]))).trans (hy k (h.ine k e) (fun e2 => rows_apart h.tr h.er (by decide) k e2 e)),
    row_kept h.ar fun k e => (ob k (fun e2 => block_apart h.ar h.blk (by decide) (by rw [e, e2]))).trans (hy k (h.ina k e) (fun e2 => rows_apart h.tr h.ar (by decide) k e2 e)),
    .inl (.inl h.inr), fun k e => .inl (.inr e), fun y hy' k e => ?_, fun k e => .inl (.inl (h.ine k e)), fun k e => .inl (.inl (h.ina k e)), ?_, by simp; omega, fun y hy' => ?_⟩
  · have e := set_of hr 65 tv'
    rw [e]
    congr 2
    apply Array.ext'
    simp only [Array.toList_setIfInBounds]
    exact runL_set m vw tv steps ev av h.vlen 0 _
  · rcases List.mem_append.1 hy' with hy' | hy'
    · exact row_kept (h.calls y hy') fun k e => (ob k (fun e2 => block_apart (h.calls y hy') h.blk (by decide) (by rw [e, e2]))).trans (hy k (h.inc y hy' k e) (fun e2 => rows_apart h.tr (h.calls y hy') (by decide) k e2 e))
    · obtain rfl := List.mem_singleton.1 hy'
      exact row_kept hc fun k e => ob k (fun e2 => block_apart hc hr (by decide) (by rw [e, e2]))
  · rcases List.mem_append.1 hy' with hy' | hy'
    · exact .inl (.inl (h.inc y hy' k e))
    · obtain rfl := List.mem_singleton.1 hy'
      exact .inr e
  · intro k e
    have s : (Y.setCell ⟨r, 65, none⟩ tv').heap.size = Y.heap.size := by simp [World.setCell]
    rw [s]
    rcases e with (e | e) | e
    · exact Nat.lt_of_lt_of_le (h.lt k e) hs
    · exact row_lt hrow k e
    · exact row_lt hc k e
  · rcases List.mem_append.1 hy' with hy' | hy'
    · exact h.nxt y hy'
    · obtain rfl := List.mem_singleton.1 hy'
      exact hn
end
end Go.Proofs.YtnhiodmigmmfgaaGreat
/- A new runner. -/
namespace Go.Proofs.YtnhiodmigmmfgaaGreat
open Go.RowKit Go.Shelf

def freshThr (x : Value × List Value) (t : Thr) : Prop := t.calls = x.2 ∧ t.next = 0 ∧ t.begun = false

/-- A runner that is being made: so many threads have their views. -/
structure Made (W X : World) (G : Nat → Prop) (r m b : Nat) (tv : Value) (tl : List (Value × List Value)) (ths : List Thr) (vbs : List Nat) (k : Nat) : Prop where
  run : RunAt X G r m (vwOf vbs) tv (.slice none 0 0) (.slice none 0 0) ths 0 [] []
  vl : vbs.length = k
  tlen : ths.length ≤ k
  views : ∀ (j v : Nat), vbs[j]? = some v → IsView X v b (j : Int) 0 ∧ W.heap.size ≤ v ∧ ¬ G v
  apart : ∀ (i j v w : Nat), i ≠ j → vbs[i]? = some v → vbs[j]? = some w → v ≠ w
  thr : ∀ (j : Nat) (t : Thr), ths[j]? = some t → ∃ x, tl[j]? = some x ∧ freshThr x t
  inG : ∀ k, G k → W.heap.size ≤ k
  chg : Chg (fun _ => False) W X

theorem Made.quiet {W X Y : World} {G : Nat → Prop} {r m b k : Nat} {tv : Value} {tl : List (Value × List Value)} {ths : List Thr} {vbs : List Nat} (h : Made W X G r m b tv tl ths vbs k) (hc : Chg (fun _ => False) X Y) : Made W Y G r m b tv tl ths vbs k :=
  ⟨h.run.chg hc (fun _ _ h => h), h.vl, h.tlen, fun j v hv => ⟨(h.views j v hv).1.chg hc (fun h => h), (h.views j v hv).2⟩, h.apart, h.thr, h.inG, h.chg.trans hc (fun _ _ x => x) (fun _ _ x => x)⟩

theorem Made.view {W X Y : World} {G : Nat → Prop} {r m b k : Nat} {tv : Value} {tl : List (Value × List Value)} {ths : List Thr} {vbs : List Nat} (h : Made W X G r m b tv tl ths vbs k) (hk : k < 64) (hY : Chg (fun _ => False) X Y) (v : Nat) (hv : IsView Y v b (k : Int) 0) (hn : X.heap.size ≤ v) :
    Made W (Y.setCell ⟨r, 1 + k, none⟩ (.pointer (some ⟨v, 0, none⟩))) G r m b tv tl ths (vbs ++ [v]) (k + 1) := by
  have h1 := h.quiet hY
  have hc : Chg (fun k => k = r) Y (Y.setCell ⟨r, 1 + k, none⟩ (.pointer (some ⟨v, 0, none⟩))) := (Chg.refl (fun k => k = r) Y).setCell (p := ⟨r, 1 + k, none⟩) (fun _ => rfl) _
  have hvG : ¬ G v := fun e => by have := h.run.lt v e; omega
  have hs := h.chg.size
  refine ⟨?_, by simp [h.vl], by have := h.tlen; omega, fun j u hu => ?_, fun i j u w hij hu hw => ?_, h.thr, h.inG, h1.chg.trans hc (fun _ _ x => x) (fun i hi x => by have := h.inG r h.run.inr; omega)⟩
  · have e := h1.run.setView k hk (.pointer (some ⟨v, 0, none⟩))
    have e2 := vwOf_set vbs v (by rw [h.vl]; exact hk)
    rw [h.vl] at e2
    rw [e2] at e
    exact e
  · by_cases hj : j < vbs.length
    · rw [List.getElem?_append_left hj] at hu
      obtain ⟨a1, a2, a3⟩ := h1.views j u hu
      exact ⟨a1.chg hc (fun e => a3 (by rw [e]; exact h.run.inr)), a2, a3⟩
    · have hjk : j = k := by
        have h2 := (List.getElem?_eq_some_iff.1 hu).1
        rw [List.length_append] at h2
        simp at h2
        have h3 := h.vl
        omega
      subst hjk
      rw [List.getElem?_append_right (by rw [h.vl]; omega)] at hu
      simp [h.vl] at hu
      subst hu
      exact ⟨hv.chg hc (fun e => hvG (by rw [e]; exact h.run.inr)), by omega, hvG⟩
  · have old : ∀ (j z : Nat), vbs[j]? = some z → z < X.heap.size := fun j z hz => (h.views j z hz).1.lt
    by_cases hi : i < vbs.length
    · rw [List.getElem?_append_left hi] at hu
      by_cases hj : j < vbs.length
      · rw [List.getElem?_append_left hj] at hw
        exact h.apart i j u w hij hu hw
      · rw [List.getElem?_append_right (by omega)] at hw
        have := List.mem_of_getElem? hw
        simp at this
        have := old i u hu
        omega
    · rw [List.getElem?_append_right (by omega)] at hu
      have hu' := List.mem_of_getElem? hu
      simp at hu'
      by_cases hj : j < vbs.length
      · rw [List.getElem?_append_left hj] at hw
        have := old j w hw
        omega
      · have h2 := (List.getElem?_eq_some_iff.1 hu).1
        rw [List.getElem?_append_right (by omega)] at hw
        have h3 := (List.getElem?_eq_some_iff.1 hw).1
        simp at h2 h3
        omega

theorem Made.start (W : World) (m b : Nat) (tl : List (Value × List Value)) (Y : World) (hY : Y = W.alloc (.cells (runL m (vwOf []) (.slice none 0 0) 0 (.slice none 0 0) (.slice none 0 0)).toArray 95)) : Made W Y (fun k => k = W.heap.size) W.heap.size m b (.slice none 0 0) tl [] [] 0 := by
  subst hY
  refine ⟨⟨heap_alloc_new _ _, by simp [vwOf], World.ownsRow_nil _ _ _ _, fun x hx => by simp at hx, World.ownsRow_nil _ _ _ _, World.ownsRow_nil _ _ _ _, rfl, fun k e => by simp [Value.ownBlock] at e, fun x hx => by simp at hx, fun k e => by simp [Value.ownBlock] at e, fun k e => by simp [Value.ownBlock] at e, fun k e => by simp [e], by simp, fun x hx => by simp at hx⟩, rfl, by simp, fun j v hv => by simp at hv, fun i j v w _ hv => by simp at hv, fun j t ht => by simp at ht, fun k e => by omega, (Chg.refl _ W).alloc _⟩

theorem Made.more {W X w3 Y : World} {G : Nat → Prop} {r m b k g' c4 : Nat} {tv v3 : Value} {tl : List (Value × List Value)} {ths : List Thr} {vbs : List Nat} {x : Value × List Value} {ob : Obj} (h : Made W X G r m b tv tl ths vbs (k + 1)) (htl : ths.length = k) (hx : tl[k]? = some x) (hk : k < 64)
    (hC : Chg (fun _ => False) X w3) (r3 : w3.ownsRow 0 91 1 v3 x.2.length x.2) (f3 : ∀ j, v3.ownBlock = some j → X.heap.size ≤ j) (t3 : w3.ownsRow 0 98 3 tv k (thrRow ths)) (hg : (w3.alloc ob).grownBy Y tv.ownBlock)
    (ho : Y.ownsRow 0 98 3 (.slice (some ⟨g', 0, none⟩) (k + 1) c4) (k + 1) (thrRow ths ++ [v3, .int .i64 0, .bool false])) (hw : tv.ownBlock = some g' ∨ w3.heap.size ≤ g') (hl : x.2.length ≤ 4096) :
    Made W (Y.setCell ⟨r, 65, none⟩ (.slice (some ⟨g', 0, none⟩) (k + 1) c4)) (fun j => (G j ∨ (Value.slice (some ⟨g', 0, none⟩) (k + 1) c4).ownBlock = some j) ∨ v3.ownBlock = some j) r m b (.slice (some ⟨g', 0, none⟩) (k + 1) c4) tl (ths ++ [⟨v3, x.2, 0, false⟩]) vbs (k + 1) := by
  have s1 := hC.size
  have s2 : w3.heap.size + 1 ≤ Y.heap.size := by have := hg.size; simpa using this
  have sW := h.chg.size
  have yw : ∀ j, j < w3.heap.size → tv.ownBlock ≠ some j → Y.heap[j]? = w3.heap[j]? := fun j hj hn => (hg.block j (by simp; omega) (fun e => hn e.symm)).trans (Below.heap_alloc _ _ _ hj)
  have yx : ∀ j, j < X.heap.size → tv.ownBlock ≠ some j → Y.heap[j]? = X.heap[j]? := fun j hj hn => (yw j (by omega) hn).trans (hC.block j hj (fun h => h))
  have hrow : Y.ownsRow 0 98 3 (.slice (some ⟨g', 0, none⟩) (k + 1) c4) (ths ++ [(⟨v3, x.2, 0, false⟩ : Thr)]).length (thrRow (ths ++ [(⟨v3, x.2, 0, false⟩ : Thr)])) := by
    rw [List.length_append, htl]
    simpa [thrRow, Thr.cells] using ho
  have hcr : Y.ownsRow 0 91 1 v3 x.2.length x.2 := row_kept r3 fun j e => yw j (row_lt r3 j e) (fun e2 => rows_apart r3 t3 (by decide) j e e2)
  have e := h.run.moreThr (Y := Y) (x := ⟨v3, x.2, 0, false⟩) (fun j hj hn => yx j (h.run.lt j hj) hn) (by omega) hrow hcr (by omega) ⟨Nat.zero_le _, hl⟩
  have gin : ∀ j, (Value.slice (some ⟨g', 0, none⟩) (k + 1) c4).ownBlock = some j → G j ∨ w3.heap.size ≤ j := fun j ej => by
    simp [Value.ownBlock] at ej
    subst ej
    exact hw.imp (h.run.int g') (fun e => e)
  refine ⟨e, h.vl, by simp [htl], fun j v hv => ?_, h.apart, fun j t ht => ?_, fun j ej => ?_, ?_⟩
  · obtain ⟨a1, a2, a3⟩ := h.views j v hv
    have hvl := a1.lt
    refine ⟨?_, a2, fun ej => ?_⟩
    · exact (Below.heap_setCell _ _ _ _ (fun e => a3 (by rw [show v = r from e]; exact h.run.inr))).trans ((yx v hvl (fun e => a3 (h.run.int v e))).trans a1)
    · rcases ej with (ej | ej) | ej
      · exact a3 ej
      · rcases gin v ej with e | e
        · exact a3 e
        · omega
      · have := f3 v ej
        omega
  · by_cases hj : j < ths.length
    · rw [List.getElem?_append_left hj] at ht
      exact h.thr j t ht
    · rw [List.getElem?_append_right (by omega)] at ht
      have h2 := (List.getElem?_eq_some_iff.1 ht).1
      have ht' := List.mem_of_getElem? ht
      simp at h2 ht'
      have hjk : j = k := by omega
      subst hjk
      subst ht'
      exact ⟨x, hx, rfl, rfl, rfl⟩
  · rcases ej with (ej | ej) | ej
    · exact h.inG j ej
    · rcases gin j ej with e | e
      · exact h.inG j e
      · omega
    · have := f3 j ej
      omega
  · refine ⟨hg.os.trans (hC.os.trans h.chg.os), hg.tape.trans (hC.tape.trans h.chg.tape), hg.output.trans (hC.output.trans h.chg.output), ?_, fun j hj _ => ?_⟩
    · simp [World.setCell]
      omega
    · have nG : ¬ G j := fun e => by have := h.inG j e; omega
      exact (Below.heap_setCell _ _ _ _ (fun e => nG (by rw [show j = r from e]; exact h.run.inr))).trans ((yx j (by omega) (fun e => nG (h.run.int j e))).trans (h.chg.block j hj (fun h => h)))

set_option maxRecDepth 100000 in
theorem s_new_long (m : Nat) (v : Value) (tl : List (Value × List Value)) (W : World) (h : Lists W v tl) (hl : tl.length ≤ 1099511627776) (hi : ∀ x ∈ tl, x.2.length ≤ 1099511627776) (hb : tooLongB tl = true) :
    Calls Tryz.prog 23 #[.pointer (some ⟨m, 0, none⟩), v] W fun e W' => e = .returned (.tuple #[.pointer none, .int .i64 6]) ∧ W' = W := by
  have H := keepH h
  have HI := keepH hi
  clear h hi
  go_enter Tryz.func23, Tryz.ntmps23
  go_wp2_with fail
  refine (s_tooLong v tl _ H.out hl HI.out).mono ?_
  rintro e w' ⟨rfl, rfl⟩
  go_wp2_with fail
  go_ret2
  exact ⟨by simp, rfl⟩

set_option maxRecDepth 100000 in
set_option maxHeartbeats 8000000 in
theorem s_new (m b : Nat) (v : Value) (tl : List (Value × List Value)) (W : World) (hm : IsMem W m b) (h : Lists W v tl) (hb : tooLongB tl = false) :
    Calls Tryz.prog 23 #[.pointer (some ⟨m, 0, none⟩), v] W fun e W' => ∃ r G tv ths vbs, e = .returned (.tuple #[.pointer (some ⟨r, 0, none⟩), .int .i64 0]) ∧ Made W W' G r m b tv tl ths vbs tl.length ∧ ths.length = tl.length := by
  obtain ⟨i0, hi, hz0, hz1, hz2⟩ := info_parts infoT
  have hb64 : tl.length ≤ 64 := by
    simp only [tooLongB, Bool.or_eq_false_iff, decide_eq_false_iff_not] at hb
    omega
  have hbi : ∀ x ∈ tl, x.2.length ≤ 4096 := by
    simp only [tooLongB, Bool.or_eq_false_iff, decide_eq_false_iff_not, List.any_eq_false, decide_eq_true_eq] at hb
    intro x hx
    have := hb.2 x hx
    omega
  have H := keepH h
  have HM := keepH hm
  have HBI := keepH hbi
  obtain ⟨p, c, hv⟩ := slice_of h.outer
  subst hv
  clear h hm hbi
  go_enter Tryz.func23, Tryz.ntmps23
  go_wp2_with fail
  refine (s_tooLong _ tl _ H.out (by omega) (fun x hx => by have := HBI.out x hx; omega)).mono ?_
  rintro e w' ⟨rfl, rfl⟩
  have M0 := keepH (Made.start w' m b tl _ rfl)
  go_wp2_with fail
  go_loopw [18] (fun s wr => ∃ (k : Nat) (G : Nat → Prop) (tv : Value) (ths : List Thr) (vbs : List Nat), k ≤ tl.length ∧ s = .int .i64 (k : Int) ∧ ths.length = k ∧ Hid (Made w' wr G w'.heap.size m b tv tl ths vbs k)) (fun s _ => tl.length - (intOf s).toNat)
  case atStart => exact ⟨0, _, _, _, _, by omega, rfl, rfl, M0⟩
  case round =>
    obtain ⟨k, G, tv, ths, vbs, hk, rfl, htl, HK⟩ := hrel
    by_cases hlt : k < tl.length
    · have t2 : (k : Int) < (tl.length : Int) := by omega
      obtain ⟨x, hx⟩ : ∃ x, tl[k]? = some x := ⟨tl[k], List.getElem?_eq_getElem hlt⟩
      obtain ⟨g, c', hg⟩ := slice_pos H.out.outer (by omega)
      simp only [Value.slice.injEq, true_and] at hg
      obtain ⟨rfl, rfl⟩ := hg
      have hc : wr.cell? ⟨g, k, none⟩ = some x.1 := cell_chg HK.out.chg (H.out.cell k x hx) (fun h => h)
      obtain ⟨px, cx, hxs⟩ := slice_of (H.out.inner x (List.mem_of_getElem? hx))
      rw [hxs] at hc
      have HXS := keepH hxs
      have HX := keepH hx
      have u1 : (k : Int) < 64 := by omega
      have fr : wr.frozen? ⟨w'.heap.size, 1 + k, none⟩ = false := HK.out.run.free (1 + k)
      clear hxs hx
      go_upto_region 9 with fail
      have hrl : w'.heap.size < wr.heap.size := lt_of HK.out.run.blk
      have cv0 : wr.cell? ⟨w'.heap.size, 1 + k, none⟩ = some (.pointer none) := by
        rw [HK.out.run.cellv k (by omega)]
        have e := HK.out.vl
        rw [vwOf, List.getElem?_append_right (by rw [List.length_map]; omega), List.length_map, e, Nat.sub_self, List.getElem?_replicate, if_pos (by omega)]
      have cva : ∀ o, (wr.alloc o).cell? ⟨w'.heap.size, 1 + k, none⟩ = some (.pointer none) := fun o => (World.cell?_of_block (w := wr) (Below.heap_alloc _ _ _ hrl)).trans cv0
      have fra : ∀ o, (wr.alloc o).frozen? ⟨w'.heap.size, 1 + k, none⟩ = false := fun o => (World.frozen?_of_block (w := wr) (Below.heap_alloc _ _ _ hrl)).trans fr
      have HMr : Hid (IsMem wr m b) := HM.out.chg HK.out.chg (fun h => h)
      go_cut [18] from 18 to 43 (fun s18 wx => s18 = .int .i64 (k : Int) ∧ ∃ vb, Hid (Made w' wx G w'.heap.size m b tv tl ths (vbs ++ [vb]) (k + 1)))
      case first =>
        go_region_with (go_at_call 28; refine (m_view m b (k : Int) wr.drew (HMr.out.chg (W' := wr.drew) (Goes.drewN wr (fun _ => False) 1).chg (fun h => h))).mono ?_; rintro e w2 ⟨rfl, rfl⟩)
        all_goals (try go_wp2_with fail)
        all_goals go_meet
        all_goals
          have e := HK.out.view (by omega) (Y := (wr.alloc (.cells #[.iface 134 (.pointer (some ⟨b, 0, none⟩)), .int .i64 (k : Int), .int .i64 0] 141))) ((Chg.refl _ wr).alloc _) wr.heap.size (heap_alloc_new _ _) (Nat.le_refl _)
          rw [World.setCell_alloc_past _ _ _ _ hrl] at e
          exact ⟨rfl, wr.heap.size, e.quiet (Goes.drewN _ (fun _ => False) 1).chg⟩
      case rest =>
        obtain ⟨rfl, vb, HK2⟩ := hcut
        have h65 : wc.cell? ⟨w'.heap.size, 65, none⟩ = some tv := HK2.out.run.cellk 0
        have hrl2 : w'.heap.size < wc.heap.size := lt_of HK2.out.run.blk
        have hxr : Hid (wc.ownsRow 0 91 1 (.slice px x.2.length cx) x.2.length x.2) := by
          have e := row_kept (H.out.inner x (List.mem_of_getElem? HX.out)) (W' := wc) fun j e => HK2.out.chg.block j (row_lt (H.out.inner x (List.mem_of_getElem? HX.out)) j e) (fun h => h)
          rw [HXS.out] at e
          exact e
        have hxo : Hid (∀ u ∈ x.2, u.oneCell' = true) := H.out.one x (List.mem_of_getElem? HX.out)
        have hx96 : x.2.length ≤ 4096 := HBI.out x (List.mem_of_getElem? HX.out)
        obtain ⟨pt, ct, htv⟩ := slice_of HK2.out.run.tr
        rw [htl] at htv
        subst htv
        have HTR : Hid (wc.ownsRow 0 98 3 (.slice pt k ct) k (thrRow ths)) := by have e := HK2.out.run.tr; rw [htl] at e; exact e
        clear hc cv0 cva fra fr
        go_upto_region 10 with fail
        go_region_law (first
          | (refine step_append_own rfl (.tmp 35) (.tmp 39) 93 rfl 98 i0 (thrV (.slice none 0 0) 0 false) 3 40 Tryz.underlying93 hi hz0 hz1 hz2 rfl (by decide) (.slice pt k ct) k (thrRow ths) rfl (HT3.out.alloc _) ⟨w3.heap.size, 0, none⟩ 1 1 [.slice p3 x.2.length q3, .int .i64 0, .bool false] rfl rfl (cells_new _ _ rfl _ _) hone.out (by unfold maxLen; omega) (by omega) ?_; intro v' w4 hown4 hgr4 _ hwh4; obtain ⟨g', c4, rfl⟩ := slice_pos hown4 (Nat.succ_pos _); have hb4 := keepH ((hgr4.block w'.heap.size (by have := lt_of hb3.out; simp; omega) (fun e => block_apart HT3.out hb3.out (by decide) e.symm)).trans (alloc_of hb3.out _)); have r8 : w4.cell? ⟨w'.heap.size, 65, none⟩ = some (.slice pt k ct) := (cell_of hb4.out 65).trans ((cell_of HK2.out.run.blk 65).symm.trans h65); have rf := free_of hb4.out 65; have HO := keepH hown4; have HW4 := keepH hwh4; have HG4 := keepH hgr4; clear hown4 hwh4 hgr4)
          | (go_simp; go_at_call 76; refine (clone_p _ x.2.length x.2 wc.drew (row_kept (W := wc) hxr.out fun _ _ => rfl) (by omega) hxo.out).mono ?_; rintro e w3 ⟨v3, rfl, R3, C3, B3⟩; have HR3 := keepH R3; have HC3 : Hid (Chg (fun _ => False) wc w3) := ⟨C3.os, C3.tape, C3.output, C3.size, C3.block⟩; have HB3 := keepH B3; have HT3 : Hid (w3.ownsRow 0 98 3 (.slice pt k ct) k (thrRow ths)) := row_kept (W := wc) HTR.out fun j e => HC3.out.block j (row_lt HTR.out j e) (fun h => h); have hb3 := keepH ((HC3.out.block w'.heap.size hrl2 (fun h => h)).trans HK2.out.run.blk); have d65 : w3.cell? ⟨w'.heap.size, 65, none⟩ = some (.slice pt k ct) := (cell_of hb3.out 65).trans ((cell_of HK2.out.run.blk 65).symm.trans h65); have d65a : ∀ o, (w3.alloc o).cell? ⟨w'.heap.size, 65, none⟩ = some (.slice pt k ct) := (fun o => (cell_of (alloc_of hb3.out o) 65).trans ((cell_of HK2.out.run.blk 65).symm.trans h65)); have hone : Hid (∀ u ∈ [v3, .int .i64 0, .bool false], u.oneCell' = true) := (by intro u hu; simp at hu; rcases hu with rfl | rfl | rfl; exact one_slice R3; rfl; rfl); obtain ⟨p3, q3, rfl⟩ := slice_of R3; clear R3 C3 B3))
        all_goals (try go_wp2_with fail)
        all_goals go_roundw
        all_goals first
          | (simp [intOf]; omega)
          | (have hwx : (Value.slice pt k ct).ownBlock = some g' ∨ w3.heap.size ≤ g' := by
               rcases HW4.out with e | e
               · exact .inl e.symm
               · simp [Value.ownBlock] at e
                 exact .inr (by omega)
             exact ⟨k + 1, _, _, ths ++ [⟨.slice p3 x.2.length q3, x.2, 0, false⟩], vbs ++ [vb], by omega, by first | rfl | go_num, by simp [htl], keepH (HK2.out.more htl HX.out (by omega) HC3.out HR3.out HB3.out HT3.out HG4.out HO.out hwx hx96)⟩)
    · obtain rfl : k = tl.length := by omega
      go_wp2_with fail
      go_ret2
      exact ⟨_, G, tv, ths, vbs, by simp, HK.out, htl⟩
end Go.Proofs.YtnhiodmigmmfgaaGreat
