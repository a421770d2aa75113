/- The document's Spans: whatever events: what the program tells. -/
import Derived.Test.YtmdeodijcmeflaaHFol
namespace Go.Proofs.Ytmdeodijcmeflaa
open Go.RowKit Go.Maps

structure TI (es : List Evt) (W wr : World) (k : Nat) (sp : List Sp) (v : Value) : Prop where
  run : runEv es k = some sp
  row : wr.ownsRow 0 36 4 v sp.length (spRow sp)
  chg : Chg (fun _ => False) W wr
  new : ∀ b, v.ownBlock = some b → W.heap.size ≤ b
  len : sp.length ≤ k
theorem TI.quiet {es : List Evt} {W wr wx : World} {k : Nat} {sp : List Sp} {v : Value} (h : TI es W wr k sp v) (hc : Chg (fun _ => False) wr wx) : TI es W wx k sp v :=
  ⟨h.run, row_kept h.row fun b hb => hc.block b (row_lt h.row b hb) (fun x => x), h.chg.trans hc (fun _ _ x => x) (fun _ _ x => x), h.new, h.len⟩
theorem TI.more {es : List Evt} {W w1 w2 : World} {k : Nat} {sp : List Sp} {v v' : Value} {e : Evt} {o : Obj} (h : TI es W w1 k sp v) (he : es[k]? = some e) (ho : evOk es k e = true) (hn : evNext sp e = some (sp ++ [⟨e.th, e.ix, e.st, -1⟩]))
    (hr : w2.ownsRow 0 36 4 v' (sp.length + 1) (spRow sp ++ [.int .i64 e.th, .int .i64 e.ix, .int .i64 e.st, .int .i64 (-1)])) (hg : (w1.alloc o).grownBy w2 v.ownBlock) (hw : v'.ownBlock = v.ownBlock ∨ v'.ownBlock = some (w1.alloc o).heap.size) : TI es W w2 (k + 1) (sp ++ [⟨e.th, e.ix, e.st, -1⟩]) v' := by
  have c2 : Chg (fun b => v.ownBlock = some b) w1 w2 := ((Chg.refl (fun b => v.ownBlock = some b) w1).alloc o).grown hg (fun k e _ => e)
  have hs := h.chg.size
  refine ⟨by rw [runEv_succ h.run he, if_pos ho, hn], ?_, h.chg.trans c2 (fun _ _ x => x) (fun i hi x => by have := h.new _ x; omega), ?_, ?_⟩
  · rw [List.length_append]
    unfold spRow at *
    rw [List.flatMap_append]
    exact hr
  · intro b hb
    rcases hw with e1 | e1
    · rw [e1] at hb
      exact h.new b hb
    · rw [e1] at hb
      simp at hb
      omega
  · rw [List.length_append]
    have := h.len
    simp
    omega
/-- Within a return: the first j spans are done. -/
structure TR (es : List Evt) (W wr : World) (k : Nat) (sp : List Sp) (e : Evt) (j : Nat) (v : Value) : Prop where
  row : wr.ownsRow 0 36 4 v sp.length (spRow (setN sp e j))
  chg : Chg (fun _ => False) W wr
theorem TR.quiet {es : List Evt} {W wr wx : World} {k : Nat} {sp : List Sp} {e : Evt} {j : Nat} {v : Value} (h : TR es W wr k sp e j v) (hc : Chg (fun _ => False) wr wx) : TR es W wx k sp e j v :=
  ⟨row_kept h.row fun b hb => hc.block b (row_lt h.row b hb) (fun x => x), h.chg.trans hc (fun _ _ x => x) (fun _ _ x => x)⟩
theorem setN_no {sp : List Sp} {e : Evt} {j : Nat} {t : Sp} (ht : sp[j]? = some t) (hn : ¬ (t.th = e.th ∧ t.ix = e.ix)) : setN sp e (j + 1) = setN sp e j := by rw [setN, ht]; simp only; rw [if_neg hn]
theorem setN_yes {sp : List Sp} {e : Evt} {j : Nat} {t : Sp} (ht : sp[j]? = some t) (hn : t.th = e.th ∧ t.ix = e.ix) : setN sp e (j + 1) = (setN sp e j).set j ⟨t.th, t.ix, t.fr, e.st⟩ := by rw [setN, ht]; simp only; rw [if_pos hn]
theorem TR.set {es : List Evt} {W wr : World} {k g c j : Nat} {sp : List Sp} {e : Evt} {t : Sp} (h : TR es W wr k sp e j (.slice (some ⟨g, 0, none⟩) sp.length c)) (hg : W.heap.size ≤ g) (ht : sp[j]? = some t) (hm : t.th = e.th ∧ t.ix = e.ix) :
    TR es W (wr.setCell ⟨g, j * 4 + 3, none⟩ (.int .i64 e.st)) k sp e (j + 1) (.slice (some ⟨g, 0, none⟩) sp.length c) := by
  have hj := (List.getElem?_eq_some_iff.1 ht).1
  refine ⟨?_, h.chg.setCell (fun hlt => absurd hlt (Nat.not_lt.2 hg)) _⟩
  rw [setN_yes ht hm]
  have hs : (setN sp e j)[j]? = some t := by rw [setN_get sp e j j (Nat.le_refl _)]; exact ht
  have e1 := (World.ownsRow.stored h.row (j * 4 + 3) (.int .i64 e.st)).1
  rw [spRow, rowOf_set Sp.cells 4 (fun _ => rfl) (setN sp e j) j 3 (by omega) t ⟨t.th, t.ix, t.fr, e.st⟩ hs (.int .i64 e.st) rfl] at e1
  exact e1

theorem next_ret {sp : List Sp} {e : Evt} (h : evNext sp e ≠ none) (hr : e.ret = true) : ∃ n s, lastN sp sp.length e.th = some n ∧ sp[n]? = some s ∧ e.ix = s.ix ∧ evNext sp e = some (sp.set n ⟨s.th, s.ix, s.fr, e.st⟩) := by
  unfold evNext at h ⊢
  cases hl : lastN sp sp.length e.th with
  | none => rw [hl] at h; simp [hr] at h
  | some n =>
    rw [hl] at h
    obtain ⟨p1, ⟨s, ps, pth⟩, _⟩ := lastN_some hl
    simp only [ps] at h ⊢
    by_cases c : e.ret = true ∧ s.to = -1 ∧ e.ix = s.ix
    · rw [if_pos c]
      exact ⟨n, s, rfl, ps, c.2.2, rfl⟩
    · rw [if_neg c, if_neg (by simp [hr])] at h
      exact absurd rfl h
theorem next_call {sp : List Sp} {e : Evt} (h : evNext sp e ≠ none) (hr : e.ret = false) : evNext sp e = some (sp ++ [⟨e.th, e.ix, e.st, -1⟩]) := by
  unfold evNext at h ⊢
  cases hl : lastN sp sp.length e.th with
  | none =>
    rw [hl] at h
    simp only at h ⊢
    by_cases c : e.ret = false ∧ e.ix = 0
    · rw [if_pos c]
    · rw [if_neg c] at h
      exact absurd rfl h
  | some n =>
    rw [hl] at h
    obtain ⟨p1, ⟨s, ps, pth⟩, _⟩ := lastN_some hl
    simp only [ps] at h ⊢
    rw [if_neg (by simp [hr])] at h ⊢
    by_cases c : e.ret = false ∧ s.to ≠ -1 ∧ e.ix = wrap64 (s.ix + 1)
    · rw [if_pos c]
    · rw [if_neg c] at h
      exact absurd rfl h
theorem TI.back {es : List Evt} {W w0 wr : World} {k n : Nat} {sp : List Sp} {s : Sp} {e : Evt} {v : Value} (h : TI es W w0 k sp v) (he : es[k]? = some e) (ho : evOk es k e = true) (hk : k < 1000000000000000) (hl : lastN sp sp.length e.th = some n) (hs : sp[n]? = some s) (hx : e.ix = s.ix) (hn : evNext sp e = some (sp.set n ⟨s.th, s.ix, s.fr, e.st⟩))
    (ht : TR es W wr k sp e sp.length v) : TI es W wr (k + 1) (sp.set n ⟨s.th, s.ix, s.fr, e.st⟩) v := by
  have hR := (ev_inv k hk sp h.run).right
  have hln := (List.getElem?_eq_some_iff.1 hs).1
  have e1 := ht.row
  rw [setN_eq hR hl hs hx sp.length, if_pos hln] at e1
  exact ⟨by rw [runEv_succ h.run he, if_pos ho, hn], by rw [List.length_set]; exact e1, ht.chg, h.new, by rw [List.length_set]; have := h.len; omega⟩

set_option maxRecDepth 100000 in
set_option maxHeartbeats 8000000 in
theorem r_spans (p : Option Addr) (c : Nat) (es : List Evt) (W : World) (h : EReads W p es) (hl : es.length ≤ 4398046511000) (hcap : es.length ≤ c) :
    Calls Try.prog 9 #[.slice p es.length c] W fun e W' => Chg (fun _ => False) W W' ∧ ∃ v, (∃ sp, runEv es es.length = some sp ∧ e = .returned (.tuple #[v, .int .i64 0]) ∧ W'.ownsRow 0 36 4 v sp.length (spRow sp) ∧ (∀ b, v.ownBlock = some b → W.heap.size ≤ b)) ∨ (runEv es es.length = none ∧ e = .returned (.tuple #[.slice none 0 0, .int .i64 50])) := by
  obtain ⟨i0, hi, hz0, hz1, hz2⟩ := info_parts infoSpan
  have HP := keepH h
  have HES : Hid (es.length ≤ 4398046511104) := by show _ ≤ _; omega
  have HI := keepH hi
  clear h hi
  go_enter Try.func9, Try.ntmps9
  go_wp2_with fail
  go_loopw [4, 5] (fun v s wr => ∃ (k : Nat) (sp : List Sp), k ≤ es.length ∧ s = .int .i64 (k : Int) ∧ Hid (TI es W wr k sp v)) (fun _ s _ => es.length - (intOf s).toNat)
  case atStart => exact ⟨0, [], by omega, rfl, keepH ⟨rfl, World.ownsRow_nil _ _ _ _, Chg.refl _ _, fun b hb => by simp [Value.ownBlock] at hb, by simp⟩⟩
  case round =>
    rename_i vv _
    obtain ⟨k, sp, hk, rfl, HK⟩ := hrel
    by_cases hlt : k < es.length
    · have t1 : (k : Int) < (es.length : Int) := by omega
      have t2 : (k : Int) ≤ (c : Int) := by omega
      have hkle : k ≤ es.length := by omega
      have hkc : k ≤ c := by omega
      obtain ⟨e, he⟩ : ∃ e, es[k]? = some e := ⟨es[k], List.getElem?_eq_getElem hlt⟩
      have HPD := keepH (HP.out.chg HK.out.chg (fun _ _ x => x))
      obtain ⟨bk, off, rfl, hbk, c0, c1, c2, c3⟩ := HPD.out.get k e he
      have HX := keepH he
      have HPE := keepH (HPD.out.chg (chg0_drew wr) (fun _ _ x => x))
      have HFI : Hid (Fol es k e ↔ (evOk es k e = true ∧ evNext sp e ≠ none)) := fol_iff (evl_inv k (by omega) sp HK.out.run) he
      have HLN := keepH HK.out.len
      obtain ⟨pv, cv, hvv⟩ := slice_of HK.out.row
      subst hvv
      clear he hbk
      by_cases hF : Fol es k e
      · obtain ⟨ho, hn⟩ := HFI.out.1 hF
        have HO := keepH ho
        have HN := keepH hn
        clear ho hn
        go_upto_region 5 with fail
        refine wp_region_any (by kernel_rfl) ?_
        change wpAny _ _ _ _ _ _ _ (World.drew _)
        refine wpAny_take (i := 0) (v := ?_) rfl (by kernel_rfl) (by kernel_rfl) (by kernel_rfl) (fun _ _ _ h => h) (Or.inl ⟨by kernel_rfl, ?_⟩) ?_
        rotate_left
        · intro w
          go_simp
          try with_reducible rfl
        refine wpAny_take (i := 1) (v := ?_) rfl (by kernel_rfl) (by kernel_rfl) (by kernel_rfl) (fun _ _ _ h => h) (Or.inl ⟨by kernel_rfl, ?_⟩) ?_
        rotate_left
        · intro w
          go_simp
          try with_reducible rfl
        refine wpAny_take (i := 2) (v := ?_) rfl (by kernel_rfl) (by kernel_rfl) (by kernel_rfl) (fun _ _ _ h => h) (Or.inl ⟨by kernel_rfl, ?_⟩) ?_
        rotate_left
        · intro w
          go_simp
          try with_reducible rfl
        refine wpAny_take (i := 3) (v := ?_) rfl (by kernel_rfl) (by kernel_rfl) (by kernel_rfl) (fun _ _ _ h => h) (Or.inl ⟨by kernel_rfl, ?_⟩) ?_
        rotate_left
        · intro w
          go_simp
          try with_reducible rfl
        refine wpAny_take (i := 4) (v := ?_) rfl (by kernel_rfl) (by kernel_rfl) (by kernel_rfl) (fun _ _ _ h => h) (Or.inl ⟨by kernel_rfl, ?_⟩) ?_
        rotate_left
        · intro w
          go_simp
          try with_reducible rfl
        refine wpAny_take (i := 5) (v := ?_) rfl (by kernel_rfl) (by kernel_rfl) (by kernel_rfl) (fun _ _ _ h => h) (Or.inl ⟨by kernel_rfl, ?_⟩) ?_
        rotate_left
        · intro w
          go_simp
          try with_reducible rfl
        refine wpAny_ready (rs := [6]) (by kernel_rfl) (by simp) ?_
        refine AllReady.cons rfl (fun K hK => ?_) AllReady.nil
        go_simp
        refine hK _ _ ?_
        clear hK K
        refine wpAny_ready (rs := [7]) (by kernel_rfl) (by simp) ?_
        refine AllReady.cons rfl (fun K hK => ?_) AllReady.nil
        go_simp
        go_wp2_with (go_at_call 29; refine (r_follows _ _ k es e _ HPE.out hkle HES.out).mono ?_; rintro x w1 ⟨v, rfl, hv, C1⟩; have hv2 : v = .bool true := (by rcases hv with h | h; exact h.2; exact absurd hF h.1); subst hv2; have HC1 : Hid (Chg (fun _ => False) wr w1) := ⟨C1.os, C1.tape, C1.output, C1.size, C1.block⟩; clear C1 hv)
        refine wpAny_take (i := 8) (v := ?_) rfl (by kernel_rfl) (by kernel_rfl) (by kernel_rfl) (fun _ _ _ h => h) (Or.inl ⟨by kernel_rfl, ?_⟩) ?_
        rotate_left
        · intro w
          go_simp
          try with_reducible rfl
        refine wpAny_done (by kernel_rfl) ?_ _
        go_simp
        have HK1 := keepH (HK.out.quiet HC1.out)
        obtain ⟨bk2, off2, hbo, _, d0, d1, d2, d3⟩ := (HPD.out.chg HC1.out (fun _ _ x => x)).get k e HX.out
        simp only [Option.some.injEq, Addr.mk.injEq, and_true] at hbo
        obtain ⟨rfl, rfl⟩ := hbo
        clear c0 c1 c2 c3 HPD
        obtain ⟨er, her⟩ : ∃ er, e.ret = er := ⟨_, rfl⟩
        rw [her] at d3
        have HER := keepH her
        clear her
        cases er with
        | false =>
          have hi := HI.out
          have HKD := keepH (HK1.out.quiet (chg0_drew w1))
          have hspl : sp.length + 1 ≤ 4398046511104 := by have := HLN.out; omega
          go_upto_region 8 with fail
          go_region_law (refine step_append_own rfl (.tmp 28) (.tmp 45) 23 rfl 36 i0 (.agg #[.int .i64 0, .int .i64 0, .int .i64 0, .int .i64 0]) 4 32 Try.underlying23 hi hz0 hz1 hz2 rfl (by decide) (.slice pv sp.length cv) sp.length (spRow sp) rfl (HKD.out.row.alloc _) ⟨w1.heap.size, 0, none⟩ 1 1 [.int .i64 e.th, .int .i64 e.ix, .int .i64 e.st, .int .i64 (-1)] rfl rfl (cells_new _ _ rfl _ _) (by intro u hu; simp at hu; rcases hu with rfl | rfl | rfl | rfl <;> rfl) (by unfold maxLen; omega) (by omega) ?_; intro v2 w2 r1 r2 r3 r4; have R1 := keepH r1; have R2 := keepH r2; have R4 := keepH r4; clear r1 r2 r3 r4)
          all_goals (go_wp2_with fail)
          all_goals go_roundw
          all_goals first
            | (simp [intOf]; omega)
            | exact ⟨k + 1, _, by omega, by first | rfl | go_num, keepH (HKD.out.more HX.out HO.out (next_call HN.out HER.out) R1.out R2.out R4.out)⟩
        | true =>
          obtain ⟨n, s, hln, hsn, hix, hnx⟩ := next_ret HN.out HER.out
          have HLN2 := keepH hln
          have HSN := keepH hsn
          have HIX := keepH hix
          have HNX := keepH hnx
          have hnl := (List.getElem?_eq_some_iff.1 hsn).1
          obtain ⟨g, cg, hg⟩ := slice_pos HK1.out.row (by omega)
          simp only [Value.slice.injEq, true_and] at hg
          obtain ⟨rfl, rfl⟩ := hg
          have HG : Hid (W.heap.size ≤ g) := HK1.out.new g rfl
          have hspl : sp.length ≤ 4398046511104 := by have := HLN.out; omega
          have HPW := keepH (HP.out)
          clear hln hsn hix hnx hnl
          go_wp2_with fail
          clear d0 d1 d2 d3
          go_loopw [6] (fun s6 wx => ∃ j : Nat, j ≤ sp.length ∧ s6 = .int .i64 (j : Int) ∧ Hid (TR es W wx k sp e j (.slice (some ⟨g, 0, none⟩) sp.length cv))) (fun s6 _ => sp.length - (intOf s6).toNat)
          case atStart => exact ⟨0, by omega, rfl, keepH ⟨HK1.out.row, HK1.out.chg⟩⟩
          case round =>
            obtain ⟨wx, hwx⟩ : ∃ wx, wx = wr := ⟨_, rfl⟩
            rw [← hwx] at hrel ⊢
            clear hwx
            obtain ⟨j, hj, rfl, HJ⟩ := hrel
            by_cases hjl : j < sp.length
            · have t3 : (j : Int) < (sp.length : Int) := by omega
              obtain ⟨t, ht⟩ : ∃ t, sp[j]? = some t := ⟨sp[j], List.getElem?_eq_getElem hjl⟩
              have hts : (setN sp e j)[j]? = some t := by rw [setN_get sp e j j (Nat.le_refl _)]; exact ht
              have hrw : wx.ownsRow 0 36 4 (.slice (some ⟨g, 0, none⟩) (setN sp e j).length cv) (setN sp e j).length (spRow (setN sp e j)) := by rw [setN_length]; exact HJ.out.row
              obtain ⟨m0, m1, m2, m3⟩ := row_cells hrw hts
              obtain ⟨bk2, off2, hbo, _, d0, d1, d2, d3⟩ := (HPW.out.chg HJ.out.chg (fun _ _ x => x)).get k e HX.out
              simp only [Option.some.injEq, Addr.mk.injEq, and_true] at hbo
              obtain ⟨rfl, rfl⟩ := hbo
              have fz : wx.frozen? ⟨g, j * 4 + 3, none⟩ = false := by obtain ⟨cur, hc⟩ := row_block HJ.out.row g rfl; exact free_of hc _
              have HT := keepH ht
              have UJ : Hid (∀ q, TR es W (wx.drewN q) k sp e j (.slice (some ⟨g, 0, none⟩) sp.length cv)) := fun q => HJ.out.quiet ⟨rfl, rfl, rfl, Nat.le_refl _, fun _ _ _ => rfl⟩
              clear ht hts hrw
              by_cases g1 : t.th = e.th
              · have e1 : (t.th == e.th) = true := by simp [g1]
                have f1 : decide (t.th = e.th) = true := by simp [g1]
                have HG1 := keepH g1
                clear g1
                by_cases g2 : t.ix = e.ix
                · have e2 : (t.ix == e.ix) = true := by simp [g2]
                  have HG2 := keepH g2
                  clear g2
                  go_wp2_with fail
                  go_quiet (fail)
                  go_wp2_with fail
                  go_roundw
                  case rel =>
                    refine ⟨j + 1, by omega, by first | rfl | go_num, keepH ?_⟩
                    have q := HJ.out.set HG.out HT.out ⟨HG1.out, HG2.out⟩
                    exact q.quiet ⟨rfl, rfl, rfl, Nat.le_refl _, fun _ _ _ => rfl⟩
                  case measure => simp [intOf]; omega
                · have e2 : (t.ix == e.ix) = false := by simp [g2]
                  go_wp2_with fail
                  go_quiet (fail)
                  go_wp2_with fail
                  go_roundw
                  case rel =>
                    refine ⟨j + 1, by omega, by first | rfl | go_num, keepH ?_⟩
                    exact ⟨by rw [setN_no HT.out (fun h => g2 h.2)]; exact (UJ.out _).row, (UJ.out _).chg⟩
                  case measure => simp [intOf]; omega
              · have e1 : (t.th == e.th) = false := by simp [g1]
                have f1 : decide (t.th = e.th) = false := by simp [g1]
                go_wp2_with fail
                go_quiet (fail)
                go_wp2_with fail
                go_roundw
                case rel =>
                  refine ⟨j + 1, by omega, by first | rfl | go_num, keepH ?_⟩
                  exact ⟨by rw [setN_no HT.out (fun h => g1 h.1)]; exact (UJ.out _).row, (UJ.out _).chg⟩
                case measure => simp [intOf]; omega
            · obtain rfl : j = sp.length := by omega
              have t3 : ¬ (sp.length : Int) < (sp.length : Int) := by omega
              go_wp2_with fail
              go_roundw
              case rel => exact ⟨k + 1, _, by omega, by first | rfl | go_num, keepH (HK1.out.back HX.out HO.out (by omega) HLN2.out HSN.out HIX.out HNX.out HJ.out)⟩
              case measure => simp [intOf]; omega
      · have hno := fun h => hF (HFI.out.2 h)
        have HNO : Hid (runEv es es.length = none) := runEv_no HK.out.run HX.out hno
        clear hno
        go_upto_region 5 with fail
        refine wp_region_any (by kernel_rfl) ?_
        change wpAny _ _ _ _ _ _ _ (World.drew _)
        refine wpAny_take (i := 0) (v := ?_) rfl (by kernel_rfl) (by kernel_rfl) (by kernel_rfl) (fun _ _ _ h => h) (Or.inl ⟨by kernel_rfl, ?_⟩) ?_
        rotate_left
        · intro w
          go_simp
          try with_reducible rfl
        refine wpAny_take (i := 1) (v := ?_) rfl (by kernel_rfl) (by kernel_rfl) (by kernel_rfl) (fun _ _ _ h => h) (Or.inl ⟨by kernel_rfl, ?_⟩) ?_
        rotate_left
        · intro w
          go_simp
          try with_reducible rfl
        refine wpAny_take (i := 2) (v := ?_) rfl (by kernel_rfl) (by kernel_rfl) (by kernel_rfl) (fun _ _ _ h => h) (Or.inl ⟨by kernel_rfl, ?_⟩) ?_
        rotate_left
        · intro w
          go_simp
          try with_reducible rfl
        refine wpAny_take (i := 3) (v := ?_) rfl (by kernel_rfl) (by kernel_rfl) (by kernel_rfl) (fun _ _ _ h => h) (Or.inl ⟨by kernel_rfl, ?_⟩) ?_
        rotate_left
        · intro w
          go_simp
          try with_reducible rfl
        refine wpAny_take (i := 4) (v := ?_) rfl (by kernel_rfl) (by kernel_rfl) (by kernel_rfl) (fun _ _ _ h => h) (Or.inl ⟨by kernel_rfl, ?_⟩) ?_
        rotate_left
        · intro w
          go_simp
          try with_reducible rfl
        refine wpAny_take (i := 5) (v := ?_) rfl (by kernel_rfl) (by kernel_rfl) (by kernel_rfl) (fun _ _ _ h => h) (Or.inl ⟨by kernel_rfl, ?_⟩) ?_
        rotate_left
        · intro w
          go_simp
          try with_reducible rfl
        refine wpAny_ready (rs := [6]) (by kernel_rfl) (by simp) ?_
        refine AllReady.cons rfl (fun K hK => ?_) AllReady.nil
        go_simp
        refine hK _ _ ?_
        clear hK K
        refine wpAny_ready (rs := [7]) (by kernel_rfl) (by simp) ?_
        refine AllReady.cons rfl (fun K hK => ?_) AllReady.nil
        go_simp
        go_wp2_with (go_at_call 29; refine (r_follows _ _ k es e _ HPE.out hkle HES.out).mono ?_; rintro x w1 ⟨v, rfl, hv, C1⟩; have hv2 : v = .bool false := (by rcases hv with h | h; exact absurd h.1 hF; exact h.2); subst hv2; have HC1 : Hid (Chg (fun _ => False) wr w1) := ⟨C1.os, C1.tape, C1.output, C1.size, C1.block⟩; clear C1 hv)
        refine wpAny_take (i := 8) (v := ?_) rfl (by kernel_rfl) (by kernel_rfl) (by kernel_rfl) (fun _ _ _ h => h) (Or.inl ⟨by kernel_rfl, ?_⟩) ?_
        rotate_left
        · intro w
          go_simp
          try with_reducible rfl
        refine wpAny_done (by kernel_rfl) ?_ _
        go_simp
        go_wp2_with fail
        go_ret2
        exact ⟨HK.out.chg.trans HC1.out (fun _ _ x => x) (fun _ _ x => x), .slice none 0 0, .inr ⟨HNO.out, by simp⟩⟩
    · obtain rfl : k = es.length := by omega
      have t1 : ¬ (es.length : Int) < (es.length : Int) := by omega
      go_wp2_with fail
      go_ret2
      exact ⟨HK.out.chg, _, .inl ⟨sp, HK.out.run, by simp, HK.out.row, HK.out.new⟩⟩
end Go.Proofs.Ytmdeodijcmeflaa
