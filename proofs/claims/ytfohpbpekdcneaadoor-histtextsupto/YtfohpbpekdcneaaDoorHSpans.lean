/- hist.Spans: whatever events: their spans, or that they are none. -/
import Derived.Test.YtfohpbpekdcneaaDoorHSpansP
namespace Go.Proofs.YtfohpbpekdcneaaDoor
open Go.RowKit Go.Maps

theorem infoSpan : (Tryd.prog.info? 38).map (fun i => (i.zero, i.size, i.bytes)) = some (some (.agg #[.int .i64 0, .int .i64 0, .int .i64 0, .int .i64 0]), 4, 32) := by kernel_rfl
def EBox (W : World) (b : Nat) (e : Evt) : Prop := W.heap[b]? = some (.cells #[.int .i64 e.st, .int .i64 e.th, .int .i64 e.ix, .bool e.ret] 53)
theorem EBox.cells {W : World} {b : Nat} {e : Evt} (h : EBox W b e) : W.cell? ⟨b, 0, none⟩ = some (.int .i64 e.st) ∧ W.cell? ⟨b, 1, none⟩ = some (.int .i64 e.th) ∧ W.cell? ⟨b, 2, none⟩ = some (.int .i64 e.ix) ∧ W.cell? ⟨b, 3, none⟩ = some (.bool e.ret) :=
  ⟨(cell_of h 0).trans rfl, (cell_of h 1).trans rfl, (cell_of h 2).trans rfl, (cell_of h 3).trans rfl⟩
theorem EBox.chg {W X : World} {b : Nat} {e : Evt} {F : Nat → Prop} (h : EBox W b e) (hc : Chg F W X) (hF : ¬ F b) : EBox X b e := (hc.block b (lt_of h) hF).trans h
theorem h_mayFollow_b {a e : Evt} {B : Bool} (h : mayB a e = B) (W : World) : Calls Tryd.prog 37 #[.agg #[.int .i64 a.st, .int .i64 a.th, .int .i64 a.ix, .bool a.ret], .agg #[.int .i64 e.st, .int .i64 e.th, .int .i64 e.ix, .bool e.ret]] W fun x W' => x = .returned (.bool B) ∧ Chg (fun _ => False) W W' := by
  rw [← h]
  exact h_mayFollow a e W

structure SI (es : List Evt) (W wr : World) (k : Nat) (sp : List Sp) (v : Value) : Prop where
  run : runEv es k = some sp
  row : wr.ownsRow 0 38 4 v sp.length (spRow sp)
  last : IMap wr W.heap.size sp.length (lastF sp sp.length)
  chg : Chg (fun _ => False) W wr
  new : ∀ b, v.ownBlock = some b → W.heap.size < b
  len : sp.length ≤ k
theorem SI.quiet {es : List Evt} {W wr wx : World} {k : Nat} {sp : List Sp} {v : Value} (h : SI es W wr k sp v) (hc : Chg (fun _ => False) wr wx) : SI es W wx k sp v :=
  ⟨h.run, row_kept h.row fun b hb => hc.block b (row_lt h.row b hb) (fun x => x), h.last.chg hc (fun x => x), h.chg.trans hc (fun _ _ x => x) (fun _ _ x => x), h.new, h.len⟩
inductive Ls (sp : List Sp) (th : Int) : Int → Bool → Option (Nat × Sp) → Prop
  | none : lastN sp sp.length th = none → Ls sp th 0 false none
  | some (n : Nat) (s : Sp) : lastN sp sp.length th = some n → sp[n]? = some s → Ls sp th (n : Int) true (some (n, s))
theorem evNext_none {sp : List Sp} {e : Evt} (h : lastN sp sp.length e.th = none) : evNext sp e = if e.ret = false ∧ e.ix = 0 then some (sp ++ [⟨e.th, e.ix, e.st, -1⟩]) else none := by
  unfold evNext
  rw [h]
theorem evNext_some {sp : List Sp} {e : Evt} {n : Nat} {s : Sp} (h : lastN sp sp.length e.th = some n) (hs : sp[n]? = some s) : evNext sp e = if e.ret = true ∧ s.to = -1 ∧ e.ix = s.ix then some (sp.set n ⟨s.th, s.ix, s.fr, e.st⟩)
      else if e.ret = false ∧ s.to ≠ -1 ∧ e.ix = wrap64 (s.ix + 1) then some (sp ++ [⟨e.th, e.ix, e.st, -1⟩]) else none := by
  unfold evNext
  rw [h]
  simp only [hs]
theorem SI.more {es : List Evt} {W w0 w1 w2 : World} {k : Nat} {sp : List Sp} {v v' : Value} {e : Evt} {o : Obj} (h : SI es W w0 k sp v) (he : es[k]? = some e) (ho : evOk es k e = true) (hn : evNext sp e = some (sp ++ [⟨e.th, e.ix, e.st, -1⟩]))
    (hl : IMap w1 W.heap.size (sp.length + 1) (updI (lastF sp sp.length) e.th (sp.length : Int))) (h1 : Chg (fun i => i = W.heap.size) w0 w1) {x : Int} (hx : x = e.ix) (hr : w2.ownsRow 0 38 4 v' (sp.length + 1) (spRow sp ++ [.int .i64 e.th, .int .i64 x, .int .i64 e.st, .int .i64 (-1)]))
    (hg : (w1.alloc o).grownBy w2 v.ownBlock) (hw : v'.ownBlock = v.ownBlock ∨ v'.ownBlock = some (w1.alloc o).heap.size) : SI es W w2 (k + 1) (sp ++ [⟨e.th, e.ix, e.st, -1⟩]) v' := by
  subst hx
  have c2 : Chg (fun b => v.ownBlock = some b) w1 w2 := ((Chg.refl (fun b => v.ownBlock = some b) w1).alloc o).grown hg (fun k e _ => e)
  have hs := h.chg.size
  have hs1 := h1.size
  refine ⟨by rw [runEv_succ h.run he, if_pos ho, hn], ?_, ?_, ?_, ?_, ?_⟩
  · rw [List.length_append]
    unfold spRow at *
    rw [List.flatMap_append]
    exact hr
  · rw [← lastF_append, List.length_append]
    exact hl.chg c2 (fun x => by have := h.new _ x; omega)
  · exact (h.chg.trans h1 (H := fun _ => False) (fun _ _ x => x) (fun i hi x => by omega)).trans c2 (fun _ _ x => x) (fun i hi x => by have := h.new _ x; omega)
  · intro b hb
    rcases hw with e1 | e1
    · rw [e1] at hb
      exact h.new b hb
    · rw [e1] at hb
      simp at hb
      have := h.last.lt
      omega
  · rw [List.length_append]
    have := h.len
    simp
    omega
theorem SI.setTo {es : List Evt} {W w0 : World} {k g c n : Nat} {sp : List Sp} {s : Sp} {e : Evt} (h : SI es W w0 k sp (.slice (some ⟨g, 0, none⟩) sp.length c)) (he : es[k]? = some e) (ho : evOk es k e = true) (hs : sp[n]? = some s) (hn : evNext sp e = some (sp.set n ⟨s.th, s.ix, s.fr, e.st⟩)) :
    SI es W (w0.setCell ⟨g, n * 4 + 3, none⟩ (.int .i64 e.st)) (k + 1) (sp.set n ⟨s.th, s.ix, s.fr, e.st⟩) (.slice (some ⟨g, 0, none⟩) sp.length c) := by
  have hg : W.heap.size < g := h.new g rfl
  have c2 : Chg (fun b => b = g) w0 (w0.setCell ⟨g, n * 4 + 3, none⟩ (.int .i64 e.st)) := (Chg.refl (fun b => b = g) _).setCell (fun _ => rfl) _
  refine ⟨by rw [runEv_succ h.run he, if_pos ho, hn], ?_, ?_, h.chg.trans c2 (fun _ _ x => x) (fun i hi x => by omega), h.new, by rw [List.length_set]; have := h.len; omega⟩
  · have e1 := (World.ownsRow.stored h.row (n * 4 + 3) (.int .i64 e.st)).1
    rw [spRow, rowOf_set Sp.cells 4 (fun _ => rfl) sp n 3 (by omega) s ⟨s.th, s.ix, s.fr, e.st⟩ hs (.int .i64 e.st) rfl] at e1
    rw [List.length_set]
    exact e1
  · rw [lastF_set sp n s ⟨s.th, s.ix, s.fr, e.st⟩ hs rfl, List.length_set]
    exact h.last.chg c2 (fun x => by omega)
theorem row_cells {W : World} {g c : Nat} {sp : List Sp} {n : Nat} {s : Sp} (h : W.ownsRow 0 38 4 (.slice (some ⟨g, 0, none⟩) sp.length c) sp.length (spRow sp)) (hs : sp[n]? = some s) : W.cell? ⟨g, n * 4, none⟩ = some (.int .i64 s.th) ∧ W.cell? ⟨g, n * 4 + 1, none⟩ = some (.int .i64 s.ix) ∧ W.cell? ⟨g, n * 4 + 2, none⟩ = some (.int .i64 s.fr) ∧ W.cell? ⟨g, n * 4 + 3, none⟩ = some (.int .i64 s.to) := by
  obtain ⟨bk, off, e, _, h0, h1, h2, h3⟩ := (SReads.of_row h).get n s hs
  simp only [Option.some.injEq, Addr.mk.injEq, and_true] at e
  obtain ⟨rfl, rfl⟩ := e
  simp only [Nat.zero_add] at h0 h1 h2 h3
  exact ⟨h0, h1, h2, h3⟩

set_option maxRecDepth 100000 in
set_option maxHeartbeats 8000000 in
theorem h_spans (p : Option Addr) (c : Nat) (es : List Evt) (W : World) (h : EReads W p es) (hok : ∀ e ∈ es, e.Ok) (hl : es.length ≤ 4398046511000) :
    Calls Tryd.prog 23 #[.slice p es.length c] W fun x W' => Chg (fun _ => False) W W' ∧ ∃ v, (∃ sp, runEv es es.length = some sp ∧ x = .returned (.tuple #[v, .int .i64 0]) ∧ W'.ownsRow 0 38 4 v sp.length (spRow sp) ∧ (∀ b, v.ownBlock = some b → W.heap.size ≤ b)) ∨ (runEv es es.length = none ∧ x = .returned (.tuple #[.slice none 0 0, .int .i64 50])) := by
  obtain ⟨i0, hi, hz0, hz1, hz2⟩ := info_parts infoSpan
  have hmm := @run_makeMap Tryd.prog
  have HP := keepH h
  have HO := keepH hok
  have HS : Hid (SI es W (W.alloc (.map #[] 0)) 0 [] (.slice none 0 0)) := ⟨rfl, ⟨rfl, .inl ⟨rfl, rfl⟩⟩, IMap.made W, (Chg.refl _ _).alloc _, fun b e => by simp [Value.ownBlock] at e, Nat.le_refl _⟩
  clear h hok
  go_enter Tryd.func23, Tryd.ntmps23
  go_wp2_with fail
  go_loopw [4, 14] (fun s4 s wr => ∃ (k : Nat) (sp : List Sp), k ≤ es.length ∧ s = .int .i64 (k : Int) ∧ Hid (SI es W wr k sp s4)) (fun _ s _ => es.length - (intOf s).toNat)
  case atStart => exact ⟨0, [], by omega, rfl, HS⟩
  case round =>
    obtain ⟨k, sp, hk, rfl, HK⟩ := hrel
    obtain ⟨pv, cv, hv⟩ := slice_of HK.out.row
    subst hv
    by_cases hlt : k < es.length
    · have t1 : (k : Int) < (es.length : Int) := by omega
      obtain ⟨e, he⟩ : ∃ e, es[k]? = some e := ⟨es[k], List.getElem?_eq_getElem hlt⟩
      have HSO := keepH (HO.out e (List.mem_of_getElem? he))
      obtain ⟨bk, off, rfl, hbk, c0, c1, c2, c3⟩ := (HP.out.chg HK.out.chg (fun _ _ x => x)).get k e he
      have HX := keepH he
      have hspl : sp.length ≤ k := HK.out.len
      have HNO : Hid (¬ (evOk es k e = true ∧ evNext sp e ≠ none) → runEv es es.length = none) := runEv_no HK.out.run he
      obtain ⟨w0, hw0⟩ : ∃ w0, w0 = wr.alloc (.cells #[.int .i64 e.st, .int .i64 e.th, .int .i64 e.ix, .bool e.ret] 53) := ⟨_, rfl⟩
      have HB : Hid (EBox w0 wr.heap.size e) := by rw [hw0]; exact heap_alloc_new _ _
      have HQ : Hid (SI es W w0 k sp (.slice pv sp.length cv)) := by rw [hw0]; exact HK.out.quiet ((Chg.refl _ _).alloc _)
      have HW0 := keepH hw0
      obtain ⟨g6, hg6⟩ : ∃ g6, g6 = !evOk es k e := ⟨_, rfl⟩
      have HG6 := keepH hg6
      have hwl : Hid (W.heap.size < wr.heap.size) := HK.out.last.lt
      clear he hbk hw0 hg6
      go_upto_region 6 with fail
      rw [← HW0.out]
      obtain ⟨k0, k1, k2, k3⟩ := HB.out.cells
      clear HW0 c0 c1 c2 c3
      go_cut [14, 35] from 14 to 106 (fun s14 s35 wx => s14 = .int .i64 (k : Int) ∧ s35 = .bool g6 ∧ Hid (Chg (fun _ => False) w0 wx))
      case first =>
        by_cases hst : e.st < 0
        · have hd : decide (e.st < 0) = true := by simp [hst]
          have hev : evOk es k e = false := by unfold evOk; simp; intro h; omega
          have HEV := keepH hev
          clear hev
          refine wp_region_any (by kernel_rfl) ?_
          change wpAny _ _ _ _ _ _ _ (World.drew _)
          refine wpAny_take (i := 0) (v := ?_) rfl (by kernel_rfl) (by kernel_rfl) (by kernel_rfl) (fun _ _ _ h => h) (Or.inl ⟨by kernel_rfl, ?_⟩) ?_
          rotate_left
          · intro w
            go_simp
            try with_reducible rfl
          refine wpAny_ready (rs := [1]) (by kernel_rfl) (by simp) ?_
          refine AllReady.cons rfl (fun K hK => ?_) AllReady.nil
          go_simp
          refine hK _ _ ?_
          clear hK K
          refine wpAny_take (i := 2) (v := ?_) rfl (by kernel_rfl) (by kernel_rfl) (by kernel_rfl) (fun _ _ _ h => h) (Or.inl ⟨by kernel_rfl, ?_⟩) ?_
          rotate_left
          · intro w
            go_simp
            try with_reducible rfl
          refine wpAny_take (i := 3) (v := ?_) rfl (by kernel_rfl) (by kernel_rfl) (by kernel_rfl) (fun _ _ _ h => h) (Or.inl ⟨by kernel_rfl, ?_⟩) ?_
          rotate_left
          · intro w
            go_simp
            try with_reducible rfl
          refine wpAny_take (i := 4) (v := undef) rfl (by kernel_rfl) (by kernel_rfl) (by kernel_rfl) (fun _ _ _ h => h) (Or.inr ⟨by kernel_rfl, rfl⟩) ?_
          refine wpAny_take (i := 5) (v := undef) rfl (by kernel_rfl) (by kernel_rfl) (by kernel_rfl) (fun _ _ _ h => h) (Or.inr ⟨by kernel_rfl, rfl⟩) ?_
          refine wpAny_take (i := 6) (v := undef) rfl (by kernel_rfl) (by kernel_rfl) (by kernel_rfl) (fun _ _ _ h => h) (Or.inr ⟨by kernel_rfl, rfl⟩) ?_
          refine wpAny_take (i := 7) (v := undef) rfl (by kernel_rfl) (by kernel_rfl) (by kernel_rfl) (fun _ _ _ h => h) (Or.inr ⟨by kernel_rfl, rfl⟩) ?_
          refine wpAny_take (i := 8) (v := undef) rfl (by kernel_rfl) (by kernel_rfl) (by kernel_rfl) (fun _ _ _ h => h) (Or.inr ⟨by kernel_rfl, rfl⟩) ?_
          refine wpAny_take (i := 9) (v := undef) rfl (by kernel_rfl) (by kernel_rfl) (by kernel_rfl) (fun _ _ _ h => h) (Or.inr ⟨by kernel_rfl, rfl⟩) ?_
          refine wpAny_take (i := 10) (v := undef) rfl (by kernel_rfl) (by kernel_rfl) (by kernel_rfl) (fun _ _ _ h => h) (Or.inr ⟨by kernel_rfl, rfl⟩) ?_
          refine wpAny_take (i := 11) (v := undef) rfl (by kernel_rfl) (by kernel_rfl) (by kernel_rfl) (fun _ _ _ h => h) (Or.inr ⟨by kernel_rfl, rfl⟩) ?_
          refine wpAny_take (i := 12) (v := undef) rfl (by kernel_rfl) (by kernel_rfl) (by kernel_rfl) (fun _ _ _ h => h) (Or.inr ⟨by kernel_rfl, rfl⟩) ?_
          refine wpAny_take (i := 13) (v := undef) rfl (by kernel_rfl) (by kernel_rfl) (by kernel_rfl) (fun _ _ _ h => h) (Or.inr ⟨by kernel_rfl, rfl⟩) ?_
          refine wpAny_take (i := 14) (v := undef) rfl (by kernel_rfl) (by kernel_rfl) (by kernel_rfl) (fun _ _ _ h => h) (Or.inr ⟨by kernel_rfl, rfl⟩) ?_
          refine wpAny_take (i := 15) (v := undef) rfl (by kernel_rfl) (by kernel_rfl) (by kernel_rfl) (fun _ _ _ h => h) (Or.inr ⟨by kernel_rfl, rfl⟩) ?_
          refine wpAny_take (i := 16) (v := ?_) rfl (by kernel_rfl) (by kernel_rfl) (by kernel_rfl) (fun _ _ _ h => h) (Or.inl ⟨by kernel_rfl, ?_⟩) ?_
          rotate_left
          · intro w
            go_simp
            try with_reducible rfl
          refine wpAny_done (by kernel_rfl) ?_ _
          go_simp
          go_wp2_with fail
          go_meet
          exact ⟨rfl, by rw [HG6.out, HEV.out]; rfl, (Chg.refl _ _).drew⟩
        · have hd : decide (e.st < 0) = false := by simp [hst]
          by_cases hk0 : k = 0
          · have hd1 : decide ((0 : Int) < (k : Int)) = false := by simp; omega
            have hd2 : decide (0 < k) = false := by simp; omega
            have hev : evOk es k e = true := by unfold evOk; rw [if_pos hk0]; simp; omega
            have HEV := keepH hev
            clear hev hk0
            refine wp_region_any (by kernel_rfl) ?_
            change wpAny _ _ _ _ _ _ _ (World.drew _)
            refine wpAny_take (i := 0) (v := ?_) rfl (by kernel_rfl) (by kernel_rfl) (by kernel_rfl) (fun _ _ _ h => h) (Or.inl ⟨by kernel_rfl, ?_⟩) ?_
            rotate_left
            · intro w
              go_simp
              try with_reducible rfl
            refine wpAny_ready (rs := [1]) (by kernel_rfl) (by simp) ?_
            refine AllReady.cons rfl (fun K hK => ?_) AllReady.nil
            go_simp
            refine hK _ _ ?_
            clear hK K
            refine wpAny_take (i := 2) (v := .bool false) rfl (by kernel_rfl) (by kernel_rfl) (by kernel_rfl) (fun _ _ _ h => h) (Or.inl ⟨by kernel_rfl, ?_⟩) ?_
            · intro w
              go_simp
              all_goals (first | assumption | omega | (simp; omega))
            refine wpAny_take (i := 3) (v := ?_) rfl (by kernel_rfl) (by kernel_rfl) (by kernel_rfl) (fun _ _ _ h => h) (Or.inl ⟨by kernel_rfl, ?_⟩) ?_
            rotate_left
            · intro w
              go_simp
              try with_reducible rfl
            refine wpAny_take (i := 4) (v := ?_) rfl (by kernel_rfl) (by kernel_rfl) (by kernel_rfl) (fun _ _ _ h => h) (Or.inl ⟨by kernel_rfl, ?_⟩) ?_
            rotate_left
            · intro w
              go_simp
              try with_reducible rfl
            refine wpAny_take (i := 5) (v := .bool false) rfl (by kernel_rfl) (by kernel_rfl) (by kernel_rfl) (fun _ _ _ h => h) (Or.inl ⟨by kernel_rfl, ?_⟩) ?_
            · intro w
              go_simp
              all_goals (first | assumption | omega | (simp; omega))
            refine wpAny_take (i := 6) (v := ?_) rfl (by kernel_rfl) (by kernel_rfl) (by kernel_rfl) (fun _ _ _ h => h) (Or.inl ⟨by kernel_rfl, ?_⟩) ?_
            rotate_left
            · intro w
              go_simp
              try with_reducible rfl
            refine wpAny_take (i := 7) (v := undef) rfl (by kernel_rfl) (by kernel_rfl) (by kernel_rfl) (fun _ _ _ h => h) (Or.inr ⟨by kernel_rfl, rfl⟩) ?_
            refine wpAny_take (i := 8) (v := undef) rfl (by kernel_rfl) (by kernel_rfl) (by kernel_rfl) (fun _ _ _ h => h) (Or.inr ⟨by kernel_rfl, rfl⟩) ?_
            refine wpAny_take (i := 9) (v := undef) rfl (by kernel_rfl) (by kernel_rfl) (by kernel_rfl) (fun _ _ _ h => h) (Or.inr ⟨by kernel_rfl, rfl⟩) ?_
            refine wpAny_take (i := 10) (v := undef) rfl (by kernel_rfl) (by kernel_rfl) (by kernel_rfl) (fun _ _ _ h => h) (Or.inr ⟨by kernel_rfl, rfl⟩) ?_
            refine wpAny_take (i := 11) (v := undef) rfl (by kernel_rfl) (by kernel_rfl) (by kernel_rfl) (fun _ _ _ h => h) (Or.inr ⟨by kernel_rfl, rfl⟩) ?_
            refine wpAny_take (i := 12) (v := undef) rfl (by kernel_rfl) (by kernel_rfl) (by kernel_rfl) (fun _ _ _ h => h) (Or.inr ⟨by kernel_rfl, rfl⟩) ?_
            refine wpAny_take (i := 13) (v := undef) rfl (by kernel_rfl) (by kernel_rfl) (by kernel_rfl) (fun _ _ _ h => h) (Or.inr ⟨by kernel_rfl, rfl⟩) ?_
            refine wpAny_take (i := 14) (v := undef) rfl (by kernel_rfl) (by kernel_rfl) (by kernel_rfl) (fun _ _ _ h => h) (Or.inr ⟨by kernel_rfl, rfl⟩) ?_
            refine wpAny_take (i := 15) (v := ?_) rfl (by kernel_rfl) (by kernel_rfl) (by kernel_rfl) (fun _ _ _ h => h) (Or.inl ⟨by kernel_rfl, ?_⟩) ?_
            rotate_left
            · intro w
              go_simp
              try with_reducible rfl
            refine wpAny_take (i := 16) (v := ?_) rfl (by kernel_rfl) (by kernel_rfl) (by kernel_rfl) (fun _ _ _ h => h) (Or.inl ⟨by kernel_rfl, ?_⟩) ?_
            rotate_left
            · intro w
              go_simp
              try with_reducible rfl
            refine wpAny_done (by kernel_rfl) ?_ _
            go_simp
            go_wp2_with fail
            go_meet
            exact ⟨rfl, by rw [HG6.out, HEV.out]; rfl, (Chg.refl _ _).drew⟩
          · have hd1 : decide ((0 : Int) < (k : Int)) = true := by simp; omega
            have hd2 : decide (0 < k) = true := by simp; omega
            obtain ⟨kp, hkp⟩ : ∃ kp, kp = k - 1 := ⟨_, rfl⟩
            have s1 : (k : Int) - 1 = (kp : Int) := by omega
            have s2 : wrap64 ((k : Int) - 1) = (kp : Int) := by unfold wrap64; omega
            have s3 : IntKind.i64.wrap ((k : Int) - 1) = (kp : Int) := by rw [IntKind.wrap_i64]; omega
            have t2 : (kp : Int) < (es.length : Int) := by omega
            have s4 : IntKind.i64.wrap (kp : Int) = (kp : Int) := by rw [IntKind.wrap_i64]; omega
            obtain ⟨a, ha⟩ : ∃ a, es[kp]? = some a := ⟨es[kp], List.getElem?_eq_getElem (by omega)⟩
            obtain ⟨bk', off', hbo, _, d0, d1, d2, d3⟩ := (HP.out.chg HQ.out.chg (fun _ _ x => x)).get kp a ha
            simp only [Option.some.injEq, Addr.mk.injEq, and_true] at hbo
            obtain ⟨rfl, rfl⟩ := hbo
            obtain ⟨mb, hmb⟩ : ∃ mb, mayB a e = mb := ⟨_, rfl⟩
            have hev : evOk es k e = mb := by unfold evOk; rw [if_neg hk0, ← hkp, ha, ← hmb]; simp; omega
            have HEV := keepH hev
            have HMB := keepH hmb
            clear hev hk0 hkp ha hmb
            refine wp_region_any (by kernel_rfl) ?_
            change wpAny _ _ _ _ _ _ _ (World.drew _)
            refine wpAny_take (i := 0) (v := ?_) rfl (by kernel_rfl) (by kernel_rfl) (by kernel_rfl) (fun _ _ _ h => h) (Or.inl ⟨by kernel_rfl, ?_⟩) ?_
            rotate_left
            · intro w
              go_simp
              try with_reducible rfl
            refine wpAny_ready (rs := [1]) (by kernel_rfl) (by simp) ?_
            refine AllReady.cons rfl (fun K hK => ?_) AllReady.nil
            go_simp
            refine hK _ _ ?_
            clear hK K
            refine wpAny_take (i := 2) (v := .bool false) rfl (by kernel_rfl) (by kernel_rfl) (by kernel_rfl) (fun _ _ _ h => h) (Or.inl ⟨by kernel_rfl, ?_⟩) ?_
            · intro w
              go_simp
              all_goals (first | assumption | omega | (simp; omega))
            refine wpAny_take (i := 3) (v := ?_) rfl (by kernel_rfl) (by kernel_rfl) (by kernel_rfl) (fun _ _ _ h => h) (Or.inl ⟨by kernel_rfl, ?_⟩) ?_
            rotate_left
            · intro w
              go_simp
              try with_reducible rfl
            refine wpAny_take (i := 4) (v := ?_) rfl (by kernel_rfl) (by kernel_rfl) (by kernel_rfl) (fun _ _ _ h => h) (Or.inl ⟨by kernel_rfl, ?_⟩) ?_
            rotate_left
            · intro w
              go_simp
              try with_reducible rfl
            refine wpAny_take (i := 5) (v := .bool true) rfl (by kernel_rfl) (by kernel_rfl) (by kernel_rfl) (fun _ _ _ h => h) (Or.inl ⟨by kernel_rfl, ?_⟩) ?_
            · intro w
              go_simp
              all_goals (first | assumption | omega | (simp; omega))
            refine wpAny_take (i := 6) (v := ?_) rfl (by kernel_rfl) (by kernel_rfl) (by kernel_rfl) (fun _ _ _ h => h) (Or.inl ⟨by kernel_rfl, ?_⟩) ?_
            rotate_left
            · intro w
              go_simp
              try with_reducible rfl
            refine wpAny_take (i := 7) (v := ?_) rfl (by kernel_rfl) (by kernel_rfl) (by kernel_rfl) (fun _ _ _ h => h) (Or.inl ⟨by kernel_rfl, ?_⟩) ?_
            rotate_left
            · intro w
              go_simp
              try with_reducible rfl
            refine wpAny_take (i := 8) (v := ?_) rfl (by kernel_rfl) (by kernel_rfl) (by kernel_rfl) (fun _ _ _ h => h) (Or.inl ⟨by kernel_rfl, ?_⟩) ?_
            rotate_left
            · intro w
              go_simp
              try with_reducible rfl
            refine wpAny_take (i := 9) (v := .int .i64 (kp : Int)) rfl (by kernel_rfl) (by kernel_rfl) (by kernel_rfl) (fun _ _ _ h => h) (Or.inl ⟨by kernel_rfl, ?_⟩) ?_
            · intro w
              go_simp
              all_goals (first | assumption | omega | (simp; omega))
            refine wpAny_take (i := 10) (v := .pointer (some ⟨bk, off + kp * 4, none⟩)) rfl (by kernel_rfl) (by kernel_rfl) (by kernel_rfl) (fun _ _ _ h => h) (Or.inl ⟨by kernel_rfl, ?_⟩) ?_
            · intro w
              go_simp
              all_goals (first | assumption | omega | (simp; omega))
            refine wpAny_ready (rs := [11, 12]) (by kernel_rfl) (by simp) ?_
            refine AllReady.cons rfl (fun K hK => ?_) ?_
            · go_simp
              refine hK _ _ ?_
              clear hK K
              refine wpAny_ready (rs := [12]) (by kernel_rfl) (by simp) ?_
              refine AllReady.cons rfl (fun K hK => ?_) AllReady.nil
              go_simp
              refine hK _ _ ?_
              clear hK K
              refine wpAny_ready (rs := [13]) (by kernel_rfl) (by simp) ?_
              refine AllReady.cons rfl (fun K hK => ?_) AllReady.nil
              go_simp
              go_wp2_with (go_at_call 37; refine (h_mayFollow_b HMB.out _).mono ?_; rintro x w1 ⟨rfl, C1⟩; have HC1 : Hid (Chg (fun _ => False) w0 w1) := ⟨C1.os, C1.tape, C1.output, C1.size, C1.block⟩; clear C1)
              refine wpAny_take (i := 14) (v := ?_) rfl (by kernel_rfl) (by kernel_rfl) (by kernel_rfl) (fun _ _ _ h => h) (Or.inl ⟨by kernel_rfl, ?_⟩) ?_
              rotate_left
              · intro w
                go_simp
                try with_reducible rfl
              refine wpAny_take (i := 15) (v := ?_) rfl (by kernel_rfl) (by kernel_rfl) (by kernel_rfl) (fun _ _ _ h => h) (Or.inl ⟨by kernel_rfl, ?_⟩) ?_
              rotate_left
              · intro w
                go_simp
                try with_reducible rfl
              refine wpAny_take (i := 16) (v := ?_) rfl (by kernel_rfl) (by kernel_rfl) (by kernel_rfl) (fun _ _ _ h => h) (Or.inl ⟨by kernel_rfl, ?_⟩) ?_
              rotate_left
              · intro w
                go_simp
                try with_reducible rfl
              refine wpAny_done (by kernel_rfl) ?_ _
              go_simp
              go_wp2_with fail
              go_meet
              exact ⟨rfl, by rw [HG6.out, HEV.out], HC1⟩
            refine AllReady.cons rfl (fun K hK => ?_) AllReady.nil
            · go_simp
              refine hK _ _ ?_
              clear hK K
              refine wpAny_ready (rs := [11]) (by kernel_rfl) (by simp) ?_
              refine AllReady.cons rfl (fun K hK => ?_) AllReady.nil
              go_simp
              refine hK _ _ ?_
              clear hK K
              refine wpAny_ready (rs := [13]) (by kernel_rfl) (by simp) ?_
              refine AllReady.cons rfl (fun K hK => ?_) AllReady.nil
              go_simp
              go_wp2_with (go_at_call 37; refine (h_mayFollow_b HMB.out _).mono ?_; rintro x w1 ⟨rfl, C1⟩; have HC1 : Hid (Chg (fun _ => False) w0 w1) := ⟨C1.os, C1.tape, C1.output, C1.size, C1.block⟩; clear C1)
              refine wpAny_take (i := 14) (v := ?_) rfl (by kernel_rfl) (by kernel_rfl) (by kernel_rfl) (fun _ _ _ h => h) (Or.inl ⟨by kernel_rfl, ?_⟩) ?_
              rotate_left
              · intro w
                go_simp
                try with_reducible rfl
              refine wpAny_take (i := 15) (v := ?_) rfl (by kernel_rfl) (by kernel_rfl) (by kernel_rfl) (fun _ _ _ h => h) (Or.inl ⟨by kernel_rfl, ?_⟩) ?_
              rotate_left
              · intro w
                go_simp
                try with_reducible rfl
              refine wpAny_take (i := 16) (v := ?_) rfl (by kernel_rfl) (by kernel_rfl) (by kernel_rfl) (fun _ _ _ h => h) (Or.inl ⟨by kernel_rfl, ?_⟩) ?_
              rotate_left
              · intro w
                go_simp
                try with_reducible rfl
              refine wpAny_done (by kernel_rfl) ?_ _
              go_simp
              go_wp2_with fail
              go_meet
              exact ⟨rfl, by rw [HG6.out, HEV.out], HC1⟩
      case rest =>
        obtain ⟨rfl, rfl, HC⟩ := hcut
        have HW := keepH (HQ.out.quiet HC.out)
        have HB2 := keepH (HB.out.chg HC.out (fun x => x))
        clear k0 k1 k2 k3
        cases g6 with
        | true =>
          go_wp2_with fail
          go_ret2
          refine ⟨HW.out.chg, .slice none 0 0, .inr ⟨HNO.out (fun h => ?_), by simp⟩⟩
          have e2 := HG6.out
          rw [h.1] at e2
          simp at e2
        | false =>
          have HEV : Hid (evOk es k e = true) := by have e2 := HG6.out; simp at e2; exact e2
          obtain ⟨k0, k1, k2, k3⟩ := HB2.out.cells
          clear HG6 HQ HB
          have hml : sp.length < maxLen := by unfold maxLen; omega
          have hci : isI (sp.length : Int) := ⟨by omega, by omega⟩
          obtain ⟨rt, hrt⟩ : ∃ rt, e.ret = rt := ⟨_, rfl⟩
          rw [hrt] at k3
          have HRT := keepH hrt
          have ub : ∀ (q r : Nat), Chg (fun _ => False) W ((wc.drewN q).drewN r) := fun q r => HW.out.chg.trans (H := fun _ => False) ⟨rfl, rfl, rfl, Nat.le_refl _, fun _ _ _ => rfl⟩ (fun _ _ x => x) (fun _ _ x => x)
          have UB := keepH ub
          have HHI := keepH hi
          have HMM := keepH hmm
          clear hrt ub hi hmm
          cases hlast : lastN sp sp.length e.th with
          | none =>
            have HEN := keepH (evNext_none hlast)
            have HLF : Hid (lastF sp sp.length e.th = none) := by unfold lastF Hid; rw [hlast]; rfl
            clear hlast
            cases rt with
            | true =>
              go_upto_region 11 with (first | (at_lookup; refine look_none rfl _ _ rfl W.heap.size sp.length (lastF sp sp.length) rfl HW.out.last e.th rfl HSO.out.th HLF.out ?_) | go_in)
              go_quiet (fail)
              go_upto_region 13 with fail
              go_quiet (fail)
              go_wp2_with fail
              go_ret2
              refine ⟨UB.out _ _, .slice none 0 0, .inr ⟨HNO.out (fun h => h.2 ?_), by simp⟩⟩
              rw [HEN.out, if_neg (by rw [HRT.out]; simp)]
            | false =>
              have HNX : Hid (∀ q, Calls Tryd.prog 25 #[.slice pv sp.length cv, .int .i64 0, .bool false] q fun x W' => x = .returned (.int .i64 0) ∧ W' = q) := fun q => h_next0 _ _ _ _ q
              by_cases hix : e.ix = 0
              · go_upto_region 11 with (first | (at_lookup; refine look_none rfl _ _ rfl W.heap.size sp.length (lastF sp sp.length) rfl HW.out.last e.th rfl HSO.out.th HLF.out ?_) | go_in)
                go_quiet (fail)
                go_upto_region 13 with fail
                go_quiet (first | (go_at_call 25; refine (HNX.out _).mono ?_; rintro x y ⟨rfl, rfl⟩; exact ⟨rfl, _, rfl⟩))
                have hi := HHI.out
                go_wp2_with (first
                  | (at_mapUpdate; refine put_imap rfl _ _ _ rfl W.heap.size sp.length (lastF sp sp.length) rfl (HW.out.last.chg (F := fun _ => False) ⟨rfl, rfl, rfl, Nat.le_refl _, fun _ _ _ => rfl⟩ (fun x => x)) hml e.th (sp.length : Int) rfl rfl HSO.out.th hci ?_; intro w1 I1 C1; have HI1 := keepH I1; have HC1 : Hid (Chg (fun i => i = W.heap.size) wc w1) := ⟨C1.os, C1.tape, C1.output, C1.size, C1.block⟩; have HR1 : Hid (w1.ownsRow 0 38 4 (.slice pv sp.length cv) sp.length (spRow sp)) := row_kept (W := wc) HW.out.row fun b hb => HC1.out.block b (row_lt HW.out.row b hb) (fun x => by have := HW.out.new b hb; omega); obtain ⟨n0, n1, n2, n3⟩ := (HB2.out.chg HC1.out (fun x => by have := hwl.out; omega)).cells; clear I1 C1 k0 k1 k2 k3)
                  | (at_builtin; refine wpList_append_own_at _ rfl _ _ 22 rfl 0 38 i0 (.agg #[.int .i64 0, .int .i64 0, .int .i64 0, .int .i64 0]) 4 32 Tryd.underlying22 hi hz0 hz1 hz2 rfl (by decide) (.slice pv sp.length cv) sp.length (spRow sp) rfl (HR1.out.alloc _) ⟨w1.heap.size, 0, none⟩ 1 1 [.int .i64 e.th, .int .i64 0, .int .i64 e.st, .int .i64 (-1)] rfl rfl (cells_new _ _ rfl _ _) (by intro u hu; simp at hu; rcases hu with rfl | rfl | rfl | rfl <;> rfl) (by unfold maxLen; omega) (by omega) (Nat.zero_le _) ?_; intro v' w2 r1 r2 r3 r4; have R1 := keepH r1; have R2 := keepH r2; have R4 := keepH r4; clear r1 r2 r3 r4)
                  | go_in)
                go_roundw
                case rel =>
                  refine ⟨k + 1, _, by omega, by first | rfl | go_num, keepH (HW.out.more HX.out HEV.out (by rw [HEN.out]; rw [if_pos ⟨HRT.out, hix⟩]) HI1.out HC1.out hix.symm R1.out R2.out R4.out)⟩
                case measure => simp [intOf]; omega
              · go_upto_region 11 with (first | (at_lookup; refine look_none rfl _ _ rfl W.heap.size sp.length (lastF sp sp.length) rfl HW.out.last e.th rfl HSO.out.th HLF.out ?_) | go_in)
                go_quiet (fail)
                go_upto_region 13 with fail
                go_quiet (first | (go_at_call 25; refine (HNX.out _).mono ?_; rintro x y ⟨rfl, rfl⟩; exact ⟨rfl, _, rfl⟩))
                go_wp2_with fail
                go_ret2
                refine ⟨UB.out _ _, .slice none 0 0, .inr ⟨HNO.out (fun h => h.2 ?_), by simp⟩⟩
                rw [HEN.out]
                rw [if_neg (by simp [hix])]
          | some n =>
            obtain ⟨hn, ⟨s, hs, _⟩, _⟩ := lastN_some hlast
            have HEN := keepH (evNext_some hlast hs)
            have HLF : Hid (lastF sp sp.length e.th = some (n : Int)) := by unfold lastF Hid; rw [hlast]; rfl
            obtain ⟨g, cg, hg⟩ := slice_pos HW.out.row (by omega)
            simp only [Value.slice.injEq, true_and] at hg
            obtain ⟨rfl, rfl⟩ := hg
            obtain ⟨m0, m1, m2, m3⟩ := row_cells HW.out.row hs
            have HSN := keepH hs
            have t3 : (n : Int) < (sp.length : Int) := by omega
            clear hlast hs
            cases rt with
            | true =>
              by_cases hop : s.to = -1
              · have hd3 : decide (s.to = -1) = true := by simp [hop]
                have hd5 : (s.to == -1) = true := by simp [hop]
                by_cases hix : e.ix = s.ix
                · go_upto_region 11 with (first | (at_lookup; refine look_some rfl _ _ rfl W.heap.size sp.length (lastF sp sp.length) rfl HW.out.last e.th (n : Int) rfl HSO.out.th HLF.out ?_) | go_in)
                  go_quiet (fail)
                  have fz : wc.frozen? ⟨g, n * 4 + 3, none⟩ = false := by obtain ⟨cur, hc⟩ := row_block HW.out.row g rfl; exact free_of hc _
                  go_wp2_with fail
                  go_roundw
                  case rel =>
                    refine ⟨k + 1, sp.set n ⟨s.th, s.ix, s.fr, e.st⟩, by omega, by first | rfl | go_num, ?_⟩
                    have e1 := HW.out.setTo HX.out HEV.out HSN.out (by rw [HEN.out, if_pos ⟨HRT.out, hop, hix⟩])
                    exact keepH (e1.quiet ⟨rfl, rfl, rfl, Nat.le_refl _, fun _ _ _ => rfl⟩)
                  case measure => simp [intOf]; omega
                · go_upto_region 11 with (first | (at_lookup; refine look_some rfl _ _ rfl W.heap.size sp.length (lastF sp sp.length) rfl HW.out.last e.th (n : Int) rfl HSO.out.th HLF.out ?_) | go_in)
                  go_quiet (fail)
                  go_upto_region 13 with fail
                  go_quiet (fail)
                  go_wp2_with fail
                  go_ret2
                  refine ⟨UB.out _ _, .slice none 0 0, .inr ⟨HNO.out (fun h => h.2 ?_), by simp⟩⟩
                  rw [HEN.out, if_neg (by rw [HRT.out]; simp [hix]), if_neg (by rw [HRT.out]; simp)]
              · have hd3 : decide (s.to = -1) = false := by simp [hop]
                have hd5 : (s.to == -1) = false := by simp [hop]
                go_upto_region 11 with (first | (at_lookup; refine look_some rfl _ _ rfl W.heap.size sp.length (lastF sp sp.length) rfl HW.out.last e.th (n : Int) rfl HSO.out.th HLF.out ?_) | go_in)
                go_quiet (fail)
                go_upto_region 13 with fail
                go_quiet (fail)
                go_wp2_with fail
                go_ret2
                refine ⟨UB.out _ _, .slice none 0 0, .inr ⟨HNO.out (fun h => h.2 ?_), by simp⟩⟩
                rw [HEN.out, if_neg (by simp [hop]), if_neg (by rw [HRT.out]; simp)]
            | false =>
              by_cases hop : s.to = -1
              · have hd3 : decide (s.to = -1) = true := by simp [hop]
                have hd5 : (s.to == -1) = true := by simp [hop]
                go_upto_region 11 with (first | (at_lookup; refine look_some rfl _ _ rfl W.heap.size sp.length (lastF sp sp.length) rfl HW.out.last e.th (n : Int) rfl HSO.out.th HLF.out ?_) | go_in)
                go_quiet (fail)
                go_upto_region 13 with fail
                go_quiet (fail)
                go_wp2_with fail
                go_ret2
                refine ⟨UB.out _ _, .slice none 0 0, .inr ⟨HNO.out (fun h => h.2 ?_), by simp⟩⟩
                rw [HEN.out, if_neg (by rw [HRT.out]; simp), if_neg (by simp [hop])]
              · have hd3 : decide (s.to = -1) = false := by simp [hop]
                have hd5 : (s.to == -1) = false := by simp [hop]
                obtain ⟨nx, hnx⟩ : ∃ nx, nx = wrap64 (s.ix + 1) := ⟨_, rfl⟩
                have HNX : Hid (∀ q, Calls Tryd.prog 25 #[.slice (some ⟨g, 0, none⟩) sp.length cv, .int .i64 (n : Int), .bool true] (wc.drewN q) fun x W' => x = .returned (.int .i64 nx) ∧ W' = wc.drewN q) := fun q => h_next_b hnx _ _ _ (SReads.of_row (row_kept (W := wc) HW.out.row fun _ _ => rfl)) HSN.out
                have HNE := keepH hnx
                clear hnx m0 m1 m2
                by_cases hix : e.ix = nx
                · go_upto_region 11 with (first | (at_lookup; refine look_some rfl _ _ rfl W.heap.size sp.length (lastF sp sp.length) rfl HW.out.last e.th (n : Int) rfl HSO.out.th HLF.out ?_) | go_in)
                  go_quiet (fail)
                  go_upto_region 13 with fail
                  go_quiet (first | (go_at_call 25; refine (HNX.out _).mono ?_; rintro x y ⟨rfl, rfl⟩; exact ⟨rfl, _, rfl⟩))
                  have hi := HHI.out
                  go_wp2_with (first
                    | (at_mapUpdate; refine put_imap rfl _ _ _ rfl W.heap.size sp.length (lastF sp sp.length) rfl (HW.out.last.chg (F := fun _ => False) ⟨rfl, rfl, rfl, Nat.le_refl _, fun _ _ _ => rfl⟩ (fun x => x)) hml e.th (sp.length : Int) rfl rfl HSO.out.th hci ?_; intro w1 I1 C1; have HI1 := keepH I1; have HC1 : Hid (Chg (fun i => i = W.heap.size) wc w1) := ⟨C1.os, C1.tape, C1.output, C1.size, C1.block⟩; have HR1 : Hid (w1.ownsRow 0 38 4 (.slice (some ⟨g, 0, none⟩) sp.length cv) sp.length (spRow sp)) := row_kept (W := wc) HW.out.row fun b hb => HC1.out.block b (row_lt HW.out.row b hb) (fun x => by have := HW.out.new b hb; omega); obtain ⟨n0, n1, n2, n3⟩ := (HB2.out.chg HC1.out (fun x => by have := hwl.out; omega)).cells; clear I1 C1 k0 k1 k2 k3)
                    | (at_builtin; refine wpList_append_own_at _ rfl _ _ 22 rfl 0 38 i0 (.agg #[.int .i64 0, .int .i64 0, .int .i64 0, .int .i64 0]) 4 32 Tryd.underlying22 hi hz0 hz1 hz2 rfl (by decide) (.slice (some ⟨g, 0, none⟩) sp.length cv) sp.length (spRow sp) rfl (HR1.out.alloc _) ⟨w1.heap.size, 0, none⟩ 1 1 [.int .i64 e.th, .int .i64 nx, .int .i64 e.st, .int .i64 (-1)] rfl rfl (cells_new _ _ rfl _ _) (by intro u hu; simp at hu; rcases hu with rfl | rfl | rfl | rfl <;> rfl) (by unfold maxLen; omega) (by omega) (Nat.zero_le _) ?_; intro v' w2 r1 r2 r3 r4; have R1 := keepH r1; have R2 := keepH r2; have R4 := keepH r4; clear r1 r2 r3 r4)
                    | go_in)
                  go_roundw
                  case rel =>
                    refine ⟨k + 1, _, by omega, by first | rfl | go_num, keepH (HW.out.more HX.out HEV.out (by rw [HEN.out]; rw [if_neg (by simp [hop]), if_pos ⟨HRT.out, hop, by rw [hix]; exact HNE.out⟩]) HI1.out HC1.out hix.symm R1.out R2.out R4.out)⟩
                  case measure => simp [intOf]; omega
                · go_upto_region 11 with (first | (at_lookup; refine look_some rfl _ _ rfl W.heap.size sp.length (lastF sp sp.length) rfl HW.out.last e.th (n : Int) rfl HSO.out.th HLF.out ?_) | go_in)
                  go_quiet (fail)
                  go_upto_region 13 with fail
                  go_quiet (first | (go_at_call 25; refine (HNX.out _).mono ?_; rintro x y ⟨rfl, rfl⟩; exact ⟨rfl, _, rfl⟩))
                  go_wp2_with fail
                  go_ret2
                  refine ⟨UB.out _ _, .slice none 0 0, .inr ⟨HNO.out (fun h => h.2 ?_), by simp⟩⟩
                  rw [HEN.out]
                  rw [if_neg (by simp [hop]), if_neg (by rw [← HNE.out]; simp [hix])]
    · obtain rfl : k = es.length := by omega
      have t1 : ¬ (es.length : Int) < (es.length : Int) := by omega
      go_wp2_with fail
      go_ret2
      exact ⟨HK.out.chg, _, .inl ⟨sp, HK.out.run, by simp, HK.out.row, fun b hb => by have := HK.out.new b hb; omega⟩⟩
end Go.Proofs.YtfohpbpekdcneaaDoor
