/- A new runner. -/
import Derived.Test.YtkfmpebhibnniaaSNewA
import Derived.Deep.CutRange
namespace Go.Proofs.Ytkfmpebhibnniaa
open Go.RowKit Go.Shelf

def freshThr (x : Value × List Value) (t : Thr) : Prop := t.calls = x.2 ∧ t.next = 0 ∧ t.begun = false

/-- A runner that is being made: so many threads have their views. -/
structure Made (W X : World) (G : Nat → Prop) (r m b : Nat) (tv : Value) (tl : List (Value × List Value)) (ths : List Thr) (vbs : List Nat) (k : Nat) : Prop where
  run : RunAt X G r m (vwOf vbs) tv (.slice none 0 0) (.slice none 0 0) ths 0 [] []
  vl : vbs.length = k
  tlen : ths.length ≤ k
  views : ∀ (j v : Nat), vbs[j]? = some v → IsView X v b (j : Int) 0 ∧ W.heap.size ≤ v ∧ ¬ G v
  apart : ∀ (i j v w : Nat), i ≠ j → vbs[i]? = some v → vbs[j]? = some w → v ≠ w
  thr : ∀ (j : Nat) (t : Thr), ths[j]? = some t → ∃ x, tl[j]? = some x ∧ freshThr x t
  inG : ∀ k, G k → W.heap.size ≤ k
  chg : Chg (fun _ => False) W X

theorem Made.quiet {W X Y : World} {G : Nat → Prop} {r m b k : Nat} {tv : Value} {tl : List (Value × List Value)} {ths : List Thr} {vbs : List Nat} (h : Made W X G r m b tv tl ths vbs k) (hc : Chg (fun _ => False) X Y) : Made W Y G r m b tv tl ths vbs k :=
  ⟨h.run.chg hc (fun _ _ h => h), h.vl, h.tlen, fun j v hv => ⟨(h.views j v hv).1.chg hc (fun h => h), (h.views j v hv).2⟩, h.apart, h.thr, h.inG, h.chg.trans hc (fun _ _ x => x) (fun _ _ x => x)⟩

theorem Made.view {W X Y : World} {G : Nat → Prop} {r m b k : Nat} {tv : Value} {tl : List (Value × List Value)} {ths : List Thr} {vbs : List Nat} (h : Made W X G r m b tv tl ths vbs k) (hk : k < 64) (hY : Chg (fun _ => False) X Y) (v : Nat) (hv : IsView Y v b (k : Int) 0) (hn : X.heap.size ≤ v) :
    Made W (Y.setCell ⟨r, 1 + k, none⟩ (.pointer (some ⟨v, 0, none⟩))) G r m b tv tl ths (vbs ++ [v]) (k + 1) := by
  have h1 := h.quiet hY
  have hc : Chg (fun k => k = r) Y (Y.setCell ⟨r, 1 + k, none⟩ (.pointer (some ⟨v, 0, none⟩))) := (Chg.refl (fun k => k = r) Y).setCell (p := ⟨r, 1 + k, none⟩) (fun _ => rfl) _
  have hvG : ¬ G v := fun e => by have := h.run.lt v e; omega
  have hs := h.chg.size
  refine ⟨?_, by simp [h.vl], by have := h.tlen; omega, fun j u hu => ?_, fun i j u w hij hu hw => ?_, h.thr, h.inG, h1.chg.trans hc (fun _ _ x => x) (fun i hi x => by have := h.inG r h.run.inr; omega)⟩
  · have e := h1.run.setView k hk (.pointer (some ⟨v, 0, none⟩))
    have e2 := vwOf_set vbs v (by rw [h.vl]; exact hk)
    rw [h.vl] at e2
    rw [e2] at e
    exact e
  · by_cases hj : j < vbs.length
    · rw [List.getElem?_append_left hj] at hu
      obtain ⟨a1, a2, a3⟩ := h1.views j u hu
      exact ⟨a1.chg hc (fun e => a3 (by rw [e]; exact h.run.inr)), a2, a3⟩
    · have hjk : j = k := by
        have h2 := (List.getElem?_eq_some_iff.1 hu).1
        rw [List.length_append] at h2
        simp at h2
        have h3 := h.vl
        omega
      subst hjk
      rw [List.getElem?_append_right (by rw [h.vl]; omega)] at hu
      simp [h.vl] at hu
      subst hu
      exact ⟨hv.chg hc (fun e => hvG (by rw [e]; exact h.run.inr)), by omega, hvG⟩
  · have old : ∀ (j z : Nat), vbs[j]? = some z → z < X.heap.size := fun j z hz => (h.views j z hz).1.lt
    by_cases hi : i < vbs.length
    · rw [List.getElem?_append_left hi] at hu
      by_cases hj : j < vbs.length
      · rw [List.getElem?_append_left hj] at hw
        exact h.apart i j u w hij hu hw
      · rw [List.getElem?_append_right (by omega)] at hw
        have := List.mem_of_getElem? hw
        simp at this
        have := old i u hu
        omega
    · rw [List.getElem?_append_right (by omega)] at hu
      have hu' := List.mem_of_getElem? hu
      simp at hu'
      by_cases hj : j < vbs.length
      · rw [List.getElem?_append_left hj] at hw
        have := old j w hw
        omega
      · have h2 := (List.getElem?_eq_some_iff.1 hu).1
        rw [List.getElem?_append_right (by omega)] at hw
        have h3 := (List.getElem?_eq_some_iff.1 hw).1
        simp at h2 h3
        omega

theorem Made.start (W : World) (m b : Nat) (tl : List (Value × List Value)) (Y : World) (hY : Y = W.alloc (.cells (runL m (vwOf []) (.slice none 0 0) 0 (.slice none 0 0) (.slice none 0 0)).toArray 117)) : Made W Y (fun k => k = W.heap.size) W.heap.size m b (.slice none 0 0) tl [] [] 0 := by
  subst hY
  refine ⟨⟨heap_alloc_new _ _, by simp [vwOf], World.ownsRow_nil _ _ _ _, fun x hx => by simp at hx, World.ownsRow_nil _ _ _ _, World.ownsRow_nil _ _ _ _, rfl, fun k e => by simp [Value.ownBlock] at e, fun x hx => by simp at hx, fun k e => by simp [Value.ownBlock] at e, fun k e => by simp [Value.ownBlock] at e, fun k e => by simp [e], by simp, fun x hx => by simp at hx⟩, rfl, by simp, fun j v hv => by simp at hv, fun i j v w _ hv => by simp at hv, fun j t ht => by simp at ht, fun k e => by omega, (Chg.refl _ W).alloc _⟩

theorem Made.more {W X w3 Y : World} {G : Nat → Prop} {r m b k g' c4 : Nat} {tv v3 : Value} {tl : List (Value × List Value)} {ths : List Thr} {vbs : List Nat} {x : Value × List Value} {ob : Obj} (h : Made W X G r m b tv tl ths vbs (k + 1)) (htl : ths.length = k) (hx : tl[k]? = some x) (hk : k < 64)
    (hC : Chg (fun _ => False) X w3) (r3 : w3.ownsRow 0 40 1 v3 x.2.length x.2) (f3 : ∀ j, v3.ownBlock = some j → X.heap.size ≤ j) (t3 : w3.ownsRow 0 123 3 tv k (thrRow ths)) (hg : (w3.alloc ob).grownBy Y tv.ownBlock)
    (ho : Y.ownsRow 0 123 3 (.slice (some ⟨g', 0, none⟩) (k + 1) c4) (k + 1) (thrRow ths ++ [v3, .int .i64 0, .bool false])) (hw : tv.ownBlock = some g' ∨ w3.heap.size ≤ g') (hl : x.2.length ≤ 4096) :
    Made W (Y.setCell ⟨r, 65, none⟩ (.slice (some ⟨g', 0, none⟩) (k + 1) c4)) (fun j => (G j ∨ (Value.slice (some ⟨g', 0, none⟩) (k + 1) c4).ownBlock = some j) ∨ v3.ownBlock = some j) r m b (.slice (some ⟨g', 0, none⟩) (k + 1) c4) tl (ths ++ [⟨v3, x.2, 0, false⟩]) vbs (k + 1) := by
  have s1 := hC.size
  have s2 : w3.heap.size + 1 ≤ Y.heap.size := by have := hg.size; simpa using this
  have sW := h.chg.size
  have yw : ∀ j, j < w3.heap.size → tv.ownBlock ≠ some j → Y.heap[j]? = w3.heap[j]? := fun j hj hn => (hg.block j (by simp; omega) (fun e => hn e.symm)).trans (Below.heap_alloc _ _ _ hj)
  have yx : ∀ j, j < X.heap.size → tv.ownBlock ≠ some j → Y.heap[j]? = X.heap[j]? := fun j hj hn => (yw j (by omega) hn).trans (hC.block j hj (fun h => h))
  have hrow : Y.ownsRow 0 123 3 (.slice (some ⟨g', 0, none⟩) (k + 1) c4) (ths ++ [(⟨v3, x.2, 0, false⟩ : Thr)]).length (thrRow (ths ++ [(⟨v3, x.2, 0, false⟩ : Thr)])) := by
    rw [List.length_append, htl]
    simpa [thrRow, Thr.cells] using ho
  have hcr : Y.ownsRow 0 40 1 v3 x.2.length x.2 := row_kept r3 fun j e => yw j (row_lt r3 j e) (fun e2 => rows_apart r3 t3 (by decide) j e e2)
  have e := h.run.moreThr (Y := Y) (x := ⟨v3, x.2, 0, false⟩) (fun j hj hn => yx j (h.run.lt j hj) hn) (by omega) hrow hcr (by omega) ⟨Nat.zero_le _, hl⟩
  have gin : ∀ j, (Value.slice (some ⟨g', 0, none⟩) (k + 1) c4).ownBlock = some j → G j ∨ w3.heap.size ≤ j := fun j ej => by
    simp [Value.ownBlock] at ej
    subst ej
    exact hw.imp (h.run.int g') (fun e => e)
  refine ⟨e, h.vl, by simp [htl], fun j v hv => ?_, h.apart, fun j t ht => ?_, fun j ej => ?_, ?_⟩
  · obtain ⟨a1, a2, a3⟩ := h.views j v hv
    have hvl := a1.lt
    refine ⟨?_, a2, fun ej => ?_⟩
    · exact (Below.heap_setCell _ _ _ _ (fun e => a3 (by rw [show v = r from e]; exact h.run.inr))).trans ((yx v hvl (fun e => a3 (h.run.int v e))).trans a1)
    · rcases ej with (ej | ej) | ej
      · exact a3 ej
      · rcases gin v ej with e | e
        · exact a3 e
        · omega
      · have := f3 v ej
        omega
  · by_cases hj : j < ths.length
    · rw [List.getElem?_append_left hj] at ht
      exact h.thr j t ht
    · rw [List.getElem?_append_right (by omega)] at ht
      have h2 := (List.getElem?_eq_some_iff.1 ht).1
      have ht' := List.mem_of_getElem? ht
      simp at h2 ht'
      have hjk : j = k := by omega
      subst hjk
      subst ht'
      exact ⟨x, hx, rfl, rfl, rfl⟩
  · rcases ej with (ej | ej) | ej
    · exact h.inG j ej
    · rcases gin j ej with e | e
      · exact h.inG j e
      · omega
    · have := f3 j ej
      omega
  · refine ⟨hg.os.trans (hC.os.trans h.chg.os), hg.tape.trans (hC.tape.trans h.chg.tape), hg.output.trans (hC.output.trans h.chg.output), ?_, fun j hj _ => ?_⟩
    · simp [World.setCell]
      omega
    · have nG : ¬ G j := fun e => by have := h.inG j e; omega
      exact (Below.heap_setCell _ _ _ _ (fun e => nG (by rw [show j = r from e]; exact h.run.inr))).trans ((yx j (by omega) (fun e => nG (h.run.int j e))).trans (h.chg.block j hj (fun h => h)))

set_option maxRecDepth 100000 in
theorem s_new_nil (v : Value) (W : World) : Calls Try.prog 30 #[.pointer none, v] W fun e W' => e = .returned (.tuple #[.pointer none, .int .i64 1]) ∧ W' = W := by
  go_enter Try.func30, Try.ntmps30
  go_wp2_with fail
  go_ret2
  exact ⟨by simp, rfl⟩
set_option maxRecDepth 100000 in
theorem s_new_long (m : Nat) (v : Value) (tl : List (Value × List Value)) (W : World) (h : Lists W v tl) (hl : tl.length ≤ 1099511627776) (hi : ∀ x ∈ tl, x.2.length ≤ 1099511627776) (hb : tooLongB tl = true) :
    Calls Try.prog 30 #[.pointer (some ⟨m, 0, none⟩), v] W fun e W' => e = .returned (.tuple #[.pointer none, .int .i64 6]) ∧ W' = W := by
  have H := keepH h
  have HI := keepH hi
  clear h hi
  go_enter Try.func30, Try.ntmps30
  go_wp2_with fail
  refine (s_tooLong v tl _ H.out hl HI.out).mono ?_
  rintro e w' ⟨rfl, rfl⟩
  go_wp2_with fail
  go_ret2
  exact ⟨by simp, rfl⟩

set_option maxRecDepth 100000 in
set_option maxHeartbeats 8000000 in
theorem s_new (m b : Nat) (v : Value) (tl : List (Value × List Value)) (W : World) (hm : IsMem W m b) (h : Lists W v tl) (hb : tooLongB tl = false) :
    Calls Try.prog 30 #[.pointer (some ⟨m, 0, none⟩), v] W fun e W' => ∃ r G tv ths vbs, e = .returned (.tuple #[.pointer (some ⟨r, 0, none⟩), .int .i64 0]) ∧ Made W W' G r m b tv tl ths vbs tl.length ∧ ths.length = tl.length := by
  obtain ⟨i0, hi, hz0, hz1, hz2⟩ := info_parts infoT
  have hb64 : tl.length ≤ 64 := by
    simp only [tooLongB, Bool.or_eq_false_iff, decide_eq_false_iff_not] at hb
    omega
  have hbi : ∀ x ∈ tl, x.2.length ≤ 4096 := by
    simp only [tooLongB, Bool.or_eq_false_iff, decide_eq_false_iff_not, List.any_eq_false, decide_eq_true_eq] at hb
    intro x hx
    have := hb.2 x hx
    omega
  have H := keepH h
  have HM := keepH hm
  have HBI := keepH hbi
  obtain ⟨p, c, hv⟩ := slice_of h.outer
  subst hv
  clear h hm hbi
  go_enter Try.func30, Try.ntmps30
  go_wp2_with fail
  refine (s_tooLong _ tl _ H.out (by omega) (fun x hx => by have := HBI.out x hx; omega)).mono ?_
  rintro e w' ⟨rfl, rfl⟩
  have M0 := keepH (Made.start w' m b tl _ rfl)
  go_wp2_with fail
  go_loopw [18] (fun s wr => ∃ (k : Nat) (G : Nat → Prop) (tv : Value) (ths : List Thr) (vbs : List Nat), k ≤ tl.length ∧ s = .int .i64 (k : Int) ∧ ths.length = k ∧ Hid (Made w' wr G w'.heap.size m b tv tl ths vbs k)) (fun s _ => tl.length - (intOf s).toNat)
  case atStart => exact ⟨0, _, _, _, _, by omega, rfl, rfl, M0⟩
  case round =>
    obtain ⟨k, G, tv, ths, vbs, hk, rfl, htl, HK⟩ := hrel
    by_cases hlt : k < tl.length
    · have t2 : (k : Int) < (tl.length : Int) := by omega
      obtain ⟨x, hx⟩ : ∃ x, tl[k]? = some x := ⟨tl[k], List.getElem?_eq_getElem hlt⟩
      obtain ⟨g, c', hg⟩ := slice_pos H.out.outer (by omega)
      simp only [Value.slice.injEq, true_and] at hg
      obtain ⟨rfl, rfl⟩ := hg
      have hc : wr.cell? ⟨g, k, none⟩ = some x.1 := cell_chg HK.out.chg (H.out.cell k x hx) (fun h => h)
      obtain ⟨px, cx, hxs⟩ := slice_of (H.out.inner x (List.mem_of_getElem? hx))
      rw [hxs] at hc
      have HXS := keepH hxs
      have HX := keepH hx
      have u1 : (k : Int) < 64 := by omega
      have fr : wr.frozen? ⟨w'.heap.size, 1 + k, none⟩ = false := HK.out.run.free (1 + k)
      clear hxs hx
      go_upto_region 9 with fail
      have hrl : w'.heap.size < wr.heap.size := lt_of HK.out.run.blk
      have cv0 : wr.cell? ⟨w'.heap.size, 1 + k, none⟩ = some (.pointer none) := by
        rw [HK.out.run.cellv k (by omega)]
        have e := HK.out.vl
        rw [vwOf, List.getElem?_append_right (by rw [List.length_map]; omega), List.length_map, e, Nat.sub_self, List.getElem?_replicate, if_pos (by omega)]
      have cva : ∀ o, (wr.alloc o).cell? ⟨w'.heap.size, 1 + k, none⟩ = some (.pointer none) := fun o => (World.cell?_of_block (w := wr) (Below.heap_alloc _ _ _ hrl)).trans cv0
      have fra : ∀ o, (wr.alloc o).frozen? ⟨w'.heap.size, 1 + k, none⟩ = false := fun o => (World.frozen?_of_block (w := wr) (Below.heap_alloc _ _ _ hrl)).trans fr
      have HMr : Hid (IsMem wr m b) := HM.out.chg HK.out.chg (fun h => h)
      go_cut [18] from 18 to 43 (fun s18 wx => s18 = .int .i64 (k : Int) ∧ ∃ vb, Hid (Made w' wx G w'.heap.size m b tv tl ths (vbs ++ [vb]) (k + 1)))
      case first =>
        go_region_with (go_at_call 11; refine (m_view m b (k : Int) wr.drew (HMr.out.chg (W' := wr.drew) (Goes.drewN wr (fun _ => False) 1).chg (fun h => h))).mono ?_; rintro e w2 ⟨rfl, rfl⟩)
        all_goals (try go_wp2_with fail)
        all_goals go_meet
        all_goals
          have e := HK.out.view (by omega) (Y := (wr.alloc (.cells #[.iface 93 (.pointer (some ⟨b, 0, none⟩)), .int .i64 (k : Int), .int .i64 0] 99))) ((Chg.refl _ wr).alloc _) wr.heap.size (heap_alloc_new _ _) (Nat.le_refl _)
          rw [World.setCell_alloc_past _ _ _ _ hrl] at e
          exact ⟨rfl, wr.heap.size, e.quiet (Goes.drewN _ (fun _ => False) 1).chg⟩
      case rest =>
        obtain ⟨rfl, vb, HK2⟩ := hcut
        have h65 : wc.cell? ⟨w'.heap.size, 65, none⟩ = some tv := HK2.out.run.cellk 0
        have hrl2 : w'.heap.size < wc.heap.size := lt_of HK2.out.run.blk
        have hxr : Hid (wc.ownsRow 0 40 1 (.slice px x.2.length cx) x.2.length x.2) := by
          have e := row_kept (H.out.inner x (List.mem_of_getElem? HX.out)) (W' := wc) fun j e => HK2.out.chg.block j (row_lt (H.out.inner x (List.mem_of_getElem? HX.out)) j e) (fun h => h)
          rw [HXS.out] at e
          exact e
        have hxo : Hid (∀ u ∈ x.2, u.oneCell' = true) := H.out.one x (List.mem_of_getElem? HX.out)
        have hx96 : x.2.length ≤ 4096 := HBI.out x (List.mem_of_getElem? HX.out)
        obtain ⟨pt, ct, htv⟩ := slice_of HK2.out.run.tr
        rw [htl] at htv
        subst htv
        have HTR : Hid (wc.ownsRow 0 123 3 (.slice pt k ct) k (thrRow ths)) := by have e := HK2.out.run.tr; rw [htl] at e; exact e
        clear hc cv0 cva fra fr
        go_upto_region 10 with fail
        go_region_law (first
          | (refine step_append_own rfl (.tmp 35) (.tmp 39) 115 rfl 123 i0 (thrV (.slice none 0 0) 0 false) 3 40 Try.underlying115 hi hz0 hz1 hz2 rfl (by decide) (.slice pt k ct) k (thrRow ths) rfl (HT3.out.alloc _) ⟨w3.heap.size, 0, none⟩ 1 1 [.slice p3 x.2.length q3, .int .i64 0, .bool false] rfl rfl (cells_new _ _ rfl _ _) hone.out (by unfold maxLen; omega) (by omega) ?_; intro v' w4 hown4 hgr4 _ hwh4; obtain ⟨g', c4, rfl⟩ := slice_pos hown4 (Nat.succ_pos _); have hb4 := keepH ((hgr4.block w'.heap.size (by have := lt_of hb3.out; simp; omega) (fun e => block_apart HT3.out hb3.out (by decide) e.symm)).trans (alloc_of hb3.out _)); have r8 : w4.cell? ⟨w'.heap.size, 65, none⟩ = some (.slice pt k ct) := (cell_of hb4.out 65).trans ((cell_of HK2.out.run.blk 65).symm.trans h65); have rf := free_of hb4.out 65; have HO := keepH hown4; have HW4 := keepH hwh4; have HG4 := keepH hgr4; clear hown4 hwh4 hgr4)
          | (go_simp; go_at_call 36; refine (clone_p _ x.2.length x.2 wc.drew (row_kept (W := wc) hxr.out fun _ _ => rfl) (by omega) hxo.out).mono ?_; rintro e w3 ⟨v3, rfl, R3, C3, B3⟩; have HR3 := keepH R3; have HC3 : Hid (Chg (fun _ => False) wc w3) := ⟨C3.os, C3.tape, C3.output, C3.size, C3.block⟩; have HB3 := keepH B3; have HT3 : Hid (w3.ownsRow 0 123 3 (.slice pt k ct) k (thrRow ths)) := row_kept (W := wc) HTR.out fun j e => HC3.out.block j (row_lt HTR.out j e) (fun h => h); have hb3 := keepH ((HC3.out.block w'.heap.size hrl2 (fun h => h)).trans HK2.out.run.blk); have d65 : w3.cell? ⟨w'.heap.size, 65, none⟩ = some (.slice pt k ct) := (cell_of hb3.out 65).trans ((cell_of HK2.out.run.blk 65).symm.trans h65); have d65a : ∀ o, (w3.alloc o).cell? ⟨w'.heap.size, 65, none⟩ = some (.slice pt k ct) := (fun o => (cell_of (alloc_of hb3.out o) 65).trans ((cell_of HK2.out.run.blk 65).symm.trans h65)); have hone : Hid (∀ u ∈ [v3, .int .i64 0, .bool false], u.oneCell' = true) := (by intro u hu; simp at hu; rcases hu with rfl | rfl | rfl; exact one_slice R3; rfl; rfl); obtain ⟨p3, q3, rfl⟩ := slice_of R3; clear R3 C3 B3))
        all_goals (try go_wp2_with fail)
        all_goals go_roundw
        all_goals first
          | (simp [intOf]; omega)
          | (have hwx : (Value.slice pt k ct).ownBlock = some g' ∨ w3.heap.size ≤ g' := by
               rcases HW4.out with e | e
               · exact .inl e.symm
               · simp [Value.ownBlock] at e
                 exact .inr (by omega)
             exact ⟨k + 1, _, _, ths ++ [⟨.slice p3 x.2.length q3, x.2, 0, false⟩], vbs ++ [vb], by omega, by first | rfl | go_num, by simp [htl], keepH (HK2.out.more htl HX.out (by omega) HC3.out HR3.out HB3.out HT3.out HG4.out HO.out hwx hx96)⟩)
    · obtain rfl : k = tl.length := by omega
      go_wp2_with fail
      go_ret2
      exact ⟨_, G, tv, ths, vbs, by simp, HK.out, htl⟩
end Go.Proofs.Ytkfmpebhibnniaa
