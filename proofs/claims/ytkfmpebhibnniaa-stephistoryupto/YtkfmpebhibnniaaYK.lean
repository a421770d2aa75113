/- StepHistory, walked. -/
import Derived.Test.YtkfmpebhibnniaaYN
import Derived.Deep.RegionHeld3
import Derived.Deep.Cut
import Derived.Deep.CutBlock
import Derived.Deep.CutRange
import Derived.Deep.DeepCutAuto
namespace Go.Proofs.Ytkfmpebhibnniaa
open Go.RowKit Go.Shelf
set_option linter.unusedVariables false

/-- A fence round what is new. -/
theorem HW.fence {W V0 Y1 Y2 : World} {ll : List (List PlP)} {p : Option Addr} {c8 : Nat} {c : Cfg PS} {wb q nm m r b : Nat} {sv : Value} {vb : Nat → Nat} {pb : Nat → Nat → Nat} {st : Nat} {call at_ : Nat → Nat} {qv : Nat → Value} {K : Nat → Prop} (hwb : Y1.heap[wb]? = some (.cells #[.pointer (some ⟨m, 0, none⟩), .pointer (some ⟨r, 0, none⟩), sv] 73 (0, 0))) (hV : V0.heap.size ≤ wb) (g : GR (plK W.heap.size W) 200 m b ll.length (clOf ll) vb (pvOf ll pb) c V0 Y1 Y1 (fun k => mineS ll.length sv qv k ∨ K k ∨ k = wb) r) (d : D4 Y1 W.heap.size q nm ll.length st p c8 call at_ K) (hK : ∀ k, K k → V0.heap.size ≤ k ∧ k < wb) (cc : Chg (fun _ => False) Y1 Y2) : HW W V0 Y2 ll p c8 c wb q nm m r b sv vb pb st call at_ (fun k => Y1.heap.size ≤ k ∧ k < Y2.heap.size) := by
  have lw := lt_of hwb
  refine ⟨K, g.rebase cc (fun k e => ?_), d.keep2 (fun k e => cc.block k (by have := (hK k e).2; omega) (fun x => x)), (cc.block wb lw (fun x => x)).trans hwb, hV, fun k e => ⟨(hK k e).1, fun x => by have := (hK k e).2; omega, by have := (hK k e).2; omega⟩, fun x => by omega⟩
  rcases e with e | e | e
  · exact .inl (.inr (.inl e))
  · exact .inl (.inr (.inr e))
  · exact .inr e
/-- The other run, behind the first one's. -/
theorem gu_shift {W V0 Y1 Y2 X2 : World} {ll : List (List PlP)} {c : Cfg PS} {wb m r b : Nat} {vb : Nat → Nat} {pv : Nat → Nat → Value} {S : Nat → Prop} (h : GR (plK W.heap.size W) 200 m b ll.length (clOf ll) vb pv c Y1 Y2 Y2 S r) (hS : S wb) (lo : W.heap.size ≤ V0.heap.size) (hV : V0.heap.size ≤ Y1.heap.size) (hwb : Y1.heap.size ≤ wb) (cV : Chg (fun _ => False) V0 X2) (cV1 : Chg (fun _ => False) V0 Y2) (hE : ∀ k, Y1.heap.size ≤ k ∧ k < Y2.heap.size → X2.heap[k]? = Y2.heap[k]?) : Y2.heap.size ≤ X2.heap.size ∧ GR (plK W.heap.size W) 200 m b ll.length (clOf ll) vb pv c V0 X2 X2 (fun k => W.heap.size ≤ k ∧ k < X2.heap.size ∧ (k < Y1.heap.size ∨ Y2.heap.size ≤ k ∨ k = wb)) r := by
  have lw := (h.kept wb hS).2
  have hs : Y2.heap.size ≤ X2.heap.size := by
    have e := hE (Y2.heap.size - 1) ⟨by omega, by omega⟩
    have := lt_kept (X := Y2) (Y := X2) (k := Y2.heap.size - 1) (by omega) e
    omega
  refine ⟨hs, h.shift hV lo cV hs (fun _ => False) (fun _ x => x.elim) (fun k a1 _ a3 => ?_) (fun k e => ?_)⟩
  · rcases a3 with z | z
    · exact (cV.block k (by omega) (fun x => x)).trans (cV1.block k (by omega) (fun x => x)).symm
    · exact hE k ⟨z, a1⟩
  · obtain ⟨e1, e2, e3⟩ := e
    refine ⟨e1, e2, ?_⟩
    rcases e3 with z | z | z
    · exact .inl z
    · exact .inr (.inl z)
    · exact .inr (.inr (by rw [z]; exact hS))
theorem rem_start (ll : List (List PlP)) (lp : Nat → Nat → Option Addr) (lc : Nat → Nat → Nat) : rem ll.length (clOf ll) (c0Of ll lp lc) = sumTo (fun i => match ll[i]? with | some l => pre l l.length | none => 0) ll.length := by
  unfold rem
  refine sumTo_congr (fun i hi => ?_)
  rw [lOf_get hi]
  show remT (clOf ll) (c0Of ll lp lc) i = pre (lOf ll i) (lOf ll i).length
  rw [pre_sum _ _ (Nat.le_refl _)]
  unfold remT
  refine sumTo_congr (fun j hj => ?_)
  rw [qOf_get hj]
  show (if j < 0 then 0 else rp (s0Of ll lp lc i j)) = nst (qOf ll i j)
  rw [if_neg (by omega)]
  rfl
section
variable {W V0 X : World} {ll : List (List PlP)} {p : Option Addr} {c8 : Nat} {c : Cfg PS} {wb q nm m r b : Nat} {sv : Value} {vb : Nat → Nat} {pb : Nat → Nat → Nat} {st : Nat} {call at_ : Nat → Nat} {E : Nat → Prop}
theorem hw_finish (h : HW W V0 X ll p c8 c wb q nm m r b sv vb pb st call at_ E) (hI : PInv ll.length (clOf ll) (qOf ll) c) (hb : c.st + rem ll.length (clOf ll) c ≤ 16777216) (lim : Nat) (hl : lim ≤ 4194304) : Calls Try.prog 26 #[.pointer (some ⟨r, 0, none⟩), .int .i64 (lim : Int)] X fun e Y => e = .returned (.bool (decide (rem ll.length (clOf ll) c ≤ lim))) ∧ ∃ c', HW W V0 Y ll p c8 c' wb q nm m r b sv vb pb st call at_ E ∧ PInv ll.length (clOf ll) (qOf ll) c' ∧ rem ll.length (clOf ll) c' = rem ll.length (clOf ll) c - lim ∧ c'.st + rem ll.length (clOf ll) c' ≤ 16777216 := by
  obtain ⟨S, g, _, f⟩ := h.on
  refine (gr_finish (fun c => PInv ll.length (clOf ll) (qOf ll) c ∧ c.st + rem ll.length (clOf ll) c ≤ 16777216) (fun c z => by have := z.2; omega) (fun c j z hc => ?_) ⟨hI, hb⟩ g lim (by omega)).mono ?_
  · have hp := z.1.pick (Lo := W.heap.size) (W0 := W) (most := 200) j
    rw [if_pos hc] at hp
    exact ⟨hp.1, by rw [pick_st]; have := hp.2; have := z.2; omega⟩
  · rintro e Y ⟨rfl, g', z1, z2⟩
    obtain ⟨r1, r2⟩ := fin_rem (Lo := W.heap.size) (W0 := W) (most := 200) lim c hI
    refine ⟨?_, _, f _ _ g', r1, r2, z2⟩
    have e1 := rem_done r1
    rw [r2] at e1
    have : (doneP ll.length (clOf ll) (finR (plK W.heap.size W) 200 ll.length (clOf ll) lim lim c)) ↔ rem ll.length (clOf ll) c ≤ lim := ⟨fun z => by have := e1.2 z; omega, fun z => e1.1 (by omega)⟩
    rw [decide_eq_decide.2 this]
theorem hw_done (h : HW W V0 X ll p c8 c wb q nm m r b sv vb pb st call at_ E) (hI : PInv ll.length (clOf ll) (qOf ll) c) (h0 : rem ll.length (clOf ll) c = 0) : Calls Try.prog 27 #[.pointer (some ⟨r, 0, none⟩)] X fun e Y => e = .returned (.bool true) ∧ HW W V0 Y ll p c8 c wb q nm m r b sv vb pb st call at_ E := by
  obtain ⟨S, g, _, f⟩ := h.on
  refine (gr_done g).mono ?_
  rintro e Y ⟨rfl, g'⟩
  exact ⟨by rw [decide_eq_true ((rem_done hI).1 h0)], f _ _ g'⟩
theorem hw_pending (h : HW W V0 X ll p c8 c wb q nm m r b sv vb pb st call at_ E) (hI : PInv ll.length (clOf ll) (qOf ll) c) (h0 : rem ll.length (clOf ll) c = 0) : Calls Try.prog 28 #[.pointer (some ⟨r, 0, none⟩)] X fun e Y => e = .returned (.slice none 0 0) ∧ Chg (fun _ => False) V0 Y := by
  obtain ⟨S, g, _, f⟩ := h.on
  have hd := (rem_done hI).1 h0
  refine (gr_pending g (fun i hi => ?_)).mono ?_
  · cases hb : c.bg i with
    | false => rfl
    | true => have := hI.bg i hi hb; have := hd i hi; omega
  · rintro e Y ⟨rfl, nq, hY⟩
    exact ⟨rfl, by rw [hY]; exact h.chg.trans (drewN_chgY _ _) (fun _ _ x => x) (fun _ _ x => x)⟩
end
def SameW (w w' : World) : Prop := w = w'
theorem sumTo_le {f : Nat → Nat} {i n : Nat} (h : i ≤ n) : sumTo f i ≤ sumTo f n := by
  induction n with
  | zero => have : i = 0 := by omega
            subst this; exact Nat.le_refl _
  | succ n ih =>
    by_cases e : i = n + 1
    · subst e; exact Nat.le_refl _
    · have := ih (by omega); simp only [sumTo]; omega
theorem hinv_start (ll : List (List PlP)) (lp : Nat → Nat → Option Addr) (lc : Nat → Nat → Nat) : HInv (c0Of ll lp lc) := ⟨fun i e h => by simp [c0Of] at h, fun t => rfl, fun t => rfl, fun e h => by simp [c0Of] at h⟩
set_option maxRecDepth 100000 in
set_option maxHeartbeats 16000000 in
theorem history_walk {W : World} {p : Option Addr} {c8 : Nat} {ll : List (List PlP)} {ap : Nat → Option Addr} {ac : Nat → Nat} {lp : Nat → Nat → Option Addr} {lc : Nat → Nat → Nat} (hP : ThsAt W W.heap.size p ll ap ac lp lc) (hll : ll.length ≤ 1048576) (hls : ∀ l ∈ ll, l.length ≤ 1048576) (hL : ∀ l ∈ ll, ∀ q ∈ l, q.L.length ≤ 1048576) (hsum : sumTo (fun i => match ll[i]? with | some l => pre l l.length | none => 0) ll.length ≤ 1048576) {pa pc : Option Addr} {ca cc : Nat} {la lb : List Int} (hA : IReads W pa la) (hla : la.length ≤ 1048576) (hB : IReads W pc lb) (hlb : lb.length ≤ 1048576) :
    Calls Try.prog 4 #[.slice p ll.length c8, .slice pa la.length ca, .slice pc lb.length cc] W fun e W' => e = .returned (.bool true) ∧ Chg (fun _ => False) W W' := by
  have HP := keepH hP
  have HLS := keepH hls
  have HL := keepH hL
  have HSM := keepH hsum
  have HA := keepH hA
  have HBB := keepH hB
  have HL1 := keepH (s_live W)
  clear hP hls hL hsum hA hB
  go_enter Try.func4, Try.ntmps4
  go_wp2_with fail
  refine HL1.out.mono ?_
  rintro e V0 ⟨rfl, c0⟩
  have HC0 := keepH c0
  clear c0 HL1
  cases hb : tooL ll with
  | true =>
    as_aux_lemma =>
      have HB1 := keepH (fun (V : World) (hV : Chg (fun _ => False) W V) => both_long (c8 := c8) hV HP.out hll HLS.out HL.out hb)
      clear hb
      go_wp2_with fail
      refine (HB1.out V0 HC0.out).mono ?_
      rintro e Y1 ⟨wb1, rfl, c1⟩
      have HC1 : Hid (Chg (fun _ => False) W Y1) := HC0.out.trans c1 (fun _ _ x => x) (fun _ _ x => x)
      clear c1
      go_wp2_with fail
      refine (HB1.out Y1 HC1.out).mono ?_
      rintro e Y2 ⟨wb2, rfl, c2⟩
      have HC2 : Hid (Chg (fun _ => False) W Y2) := HC1.out.trans c2 (fun _ _ x => x) (fun _ _ x => x)
      clear c2
      go_wp2_with fail
      go_ret
      exact ⟨by simp, HC2.out⟩
  | false =>
    as_aux_lemma =>
      have HB1 := keepH (fun (V : World) (hV : Chg (fun _ => False) W V) => both_ok (c8 := c8) hV HP.out hll HLS.out HL.out hb)
      clear hb
      go_wp2_with fail
      refine (HB1.out V0 HC0.out).mono ?_
      rintro e Y1 ⟨wb, q, rfl, m, r, b, nm, sv, qv, vb, pb, K, hwb, hV, g1, d1, hK⟩
      have HC1 : Hid (Chg (fun _ => False) V0 Y1) := g1.chgW
      have HCW1 : Hid (Chg (fun _ => False) W Y1) := HC0.out.trans HC1.out (fun _ _ x => x) (fun _ _ x => x)
      have HF := keepH (fun (Y2 : World) (z : Chg (fun _ => False) Y1 Y2) => HW.fence hwb hV g1 d1 hK z)
      clear hwb hV g1 d1 hK
      go_wp2_with fail
      refine (HB1.out Y1 HCW1.out).mono ?_
      rintro e Y2 ⟨wb2, q2, rfl, m2, r2, b2, nm2, sv2, qv2, vb2, pb2, K2, hwb2, hV2, g2, d2, hK2⟩
      have HH := keepH (HF.out Y2 g2.chgW)
      have HG2 := keepH g2
      have HW2 := keepH hwb2
      have HV2 := keepH hV2
      clear hwb2 hV2 g2 d2 hK2 HF HB1
      obtain ⟨c0, hc0⟩ : ∃ c0, c0 = c0Of ll lp lc := ⟨_, rfl⟩
      rw [← hc0] at HH HG2
      have hst0 : c0.st = 0 := by rw [hc0]; rfl
      have HC00 := keepH hc0
      clear hc0
      have HIA : Hid (IReads V0 pa la) := HA.out.chg HC0.out
      have HIB : Hid (IReads V0 pc lb) := HBB.out.chg HC0.out
      have u1 := HH.out.cell.1
      go_wp2_with fail
      refine (hw_run HH.out pa ca la HIA.out (by omega)).mono ?_
      rintro e X1 ⟨rfl, h1, k1⟩
      have HH1 := keepH h1
      have HK1 := keepH k1
      clear h1 k1 u1
      have u1 := HH1.out.cell.1
      obtain ⟨c1, hc1⟩ : ∃ c1, c1 = c0.run (plK W.heap.size W) 200 ll.length (clOf ll) la := ⟨_, rfl⟩
      rw [← hc1] at HH1
      have hst1 : c1.st = la.length := by rw [hc1, run_st, hst0]; omega
      have HC11 := keepH hc1
      clear hc1
      go_wp2_with fail
      refine (hw_run HH1.out pc cc lb HIB.out (by omega)).mono ?_
      rintro e X2 ⟨rfl, h2, k2⟩
      have HH2 := keepH h2
      have HE2 : Hid (∀ k, Y1.heap.size ≤ k ∧ k < Y2.heap.size → X2.heap[k]? = Y2.heap[k]?) := fun k e => (k2 k e).trans (HK1.out k e)
      clear h2 k2 u1 HK1 HH1
      obtain ⟨lab, hlab⟩ : ∃ lab, lab = la ++ lb := ⟨_, rfl⟩
      have hlen : lab.length = la.length + lb.length := by rw [hlab]; simp
      have HLAB := keepH hlab
      obtain ⟨c2, hc2⟩ : ∃ c2, c2 = c0.run (plK W.heap.size W) 200 ll.length (clOf ll) lab := ⟨_, rfl⟩
      rw [HC11.out, ← run_append, ← hlab, ← hc2] at HH2
      have hst2 : c2.st = la.length + lb.length := by rw [hc2, run_st, hst0]; omega
      have HLEN := keepH hlen
      clear hlab hlen
      have HC22 := keepH hc2
      clear hc2 HC11 hst1
      obtain ⟨hs2, hg2⟩ := gu_shift HG2.out (.inr (.inr rfl)) HH2.out.lo HC1.out.size HV2.out HH2.out.chg HH.out.chg HE2.out
      have HS2 := keepH hs2
      have HGU := keepH hg2
      have HW22 : Hid (X2.heap[wb2]? = some (.cells #[.pointer (some ⟨m2, 0, none⟩), .pointer (some ⟨r2, 0, none⟩), sv2] 73 (0, 0))) := (HE2.out wb2 ⟨HV2.out, lt_of HW2.out⟩).trans HW2.out
      have HLW2 : Hid (wb2 < Y2.heap.size ∧ wb2 < X2.heap.size) := ⟨lt_of HW2.out, lt_of HW22.out⟩
      clear hg2 hs2 HG2 HE2 HH HW2
      go_upto_region 9 with fail
      go_cut [] from 59 to 68 (fun X4 => Hid (HW W V0 X4 ll p c8 c2 wb q nm m r b sv vb pb 0 (fun _ => 0) (fun _ => 0) (fun _ => False)) ∧ (∃ Zz Sz, Hid (GR (plK W.heap.size W) 200 m2 b2 ll.length (clOf ll) vb2 (pvOf ll pb2) c2 V0 Zz X4 Sz r2)) ∧ Hid (X4.heap[wb2]? = some (.cells #[.pointer (some ⟨m2, 0, none⟩), .pointer (some ⟨r2, 0, none⟩), sv2] 73 (0, 0))))
      case first =>
        as_aux_lemma =>
          obtain ⟨w0, hw0⟩ : ∃ w0, w0 = X2.drew := ⟨_, rfl⟩
          have hC9 : Chg (fun _ => False) X2 w0 := by rw [hw0]; exact (Chg.refl _ _).drew
          have HB9 : Hid (w0.heap[wb2]? = some (.cells #[.pointer (some ⟨m2, 0, none⟩), .pointer (some ⟨r2, 0, none⟩), sv2] 73 (0, 0))) := by rw [hw0]; exact HW22.out
          have HC9 := keepH hC9
          have HZ9 : Hid (w0.heap.size = X2.heap.size) := by rw [hw0]; rfl
          refine wp_region_held_drew (S := fun w => w.cell? ⟨wb2, 1, none⟩ = some (.pointer (some ⟨r2, 0, none⟩))) (by kernel_rfl) (by rw [← hw0]; exact cell_of HB9.out 1) ?_
          rw [← hw0]
          clear hw0 hC9
          intro hHeld
          refine wpAnyH_take (i := 0) (v := ?_) rfl (by kernel_rfl) (by kernel_rfl) (by kernel_rfl) (fun _ _ _ h => h) (Or.inl ⟨by first | rfl | kernel_rfl, ?_⟩) hHeld ?_
          rotate_left
          · intro w hSw
            (try dsimp only at hSw)
            go_simp
            try with_reducible rfl
          (try simp only [Act.put, List.getElem_toArray, List.getElem_cons_zero]); (try simp only [List.setIfInBounds_toArray]); (repeat (first | simp only [List.set_cons_succ] | simp only [List.set_cons_zero]))
          refine wpAnyH_take (i := 1) (v := ?_) rfl (by kernel_rfl) (by kernel_rfl) (by kernel_rfl) (fun _ _ _ h => h) (Or.inl ⟨by first | rfl | kernel_rfl, ?_⟩) hHeld ?_
          rotate_left
          · intro w hSw
            (try dsimp only at hSw)
            go_simp
            try with_reducible rfl
          (try simp only [Act.put, List.getElem_toArray, List.getElem_cons_succ, List.getElem_cons_zero]); (try simp only [List.setIfInBounds_toArray]); (repeat (first | simp only [List.set_cons_succ] | simp only [List.set_cons_zero]))
          refine wpAnyH_take (i := 2) (v := ?_) rfl (by kernel_rfl) (by kernel_rfl) (by kernel_rfl) (fun _ _ _ h => h) (Or.inl ⟨by first | rfl | kernel_rfl, ?_⟩) hHeld ?_
          rotate_left
          · intro w hSw
            (try dsimp only at hSw)
            go_simp
            try with_reducible rfl
          (try simp only [Act.put, List.getElem_toArray, List.getElem_cons_succ, List.getElem_cons_zero]); (try simp only [List.setIfInBounds_toArray]); (repeat (first | simp only [List.set_cons_succ] | simp only [List.set_cons_zero]))
          refine wpAnyH_take (i := 3) (v := ?_) rfl (by kernel_rfl) (by kernel_rfl) (by kernel_rfl) (fun _ _ _ h => h) (Or.inl ⟨by first | rfl | kernel_rfl, ?_⟩) hHeld ?_
          rotate_left
          · intro w hSw
            (try dsimp only at hSw)
            go_simp
            try with_reducible rfl
          (try simp only [Act.put, List.getElem_toArray, List.getElem_cons_succ, List.getElem_cons_zero]); (try simp only [List.setIfInBounds_toArray]); (repeat (first | simp only [List.set_cons_succ] | simp only [List.set_cons_zero]))
          refine wpAnyH_take (i := 5) (v := ?_) rfl (by kernel_rfl) (by kernel_rfl) (by kernel_rfl) (fun _ _ _ h => h) (Or.inl ⟨by first | rfl | kernel_rfl, ?_⟩) hHeld ?_
          rotate_left
          · intro w hSw
            (try dsimp only at hSw)
            go_simp
            try with_reducible rfl
          (try simp only [Act.put, List.getElem_toArray, List.getElem_cons_succ, List.getElem_cons_zero]); (try simp only [List.setIfInBounds_toArray]); (repeat (first | simp only [List.set_cons_succ] | simp only [List.set_cons_zero]))
          refine wpAnyH_take (i := 7) (v := ?_) rfl (by kernel_rfl) (by kernel_rfl) (by kernel_rfl) (fun _ _ _ h => h) (Or.inl ⟨by first | rfl | kernel_rfl, ?_⟩) hHeld ?_
          rotate_left
          · intro w hSw
            (try dsimp only at hSw)
            go_simp
            try with_reducible rfl
          (try simp only [Act.put, List.getElem_toArray, List.getElem_cons_succ, List.getElem_cons_zero]); (try simp only [List.setIfInBounds_toArray]); (repeat (first | simp only [List.set_cons_succ] | simp only [List.set_cons_zero]))
          refine wpAnyH_ready (rs := [4]) (by kernel_rfl) (by simp) ?_
          refine (AllReadyH.cons rfl (fun KK hKK => ?_) AllReadyH.nil)
          go_simp
          refine hKK.out _ _ ?_ (fun hHeld => ?_)
          · exact cell_of ((Below.heap_alloc _ _ wb2 (lt_of HB9.out)).trans HB9.out) 1
          clear hKK KK
          (try simp only [Act.put, List.getElem_toArray, List.getElem_cons_succ, List.getElem_cons_zero]); (try simp only [List.setIfInBounds_toArray]); (repeat (first | simp only [List.set_cons_succ] | simp only [List.set_cons_zero]))
          refine wpAnyH_ready (rs := [6]) (by kernel_rfl) (by simp) ?_
          refine (AllReadyH.cons rfl (fun KK hKK => ?_) AllReadyH.nil)
          obtain ⟨v1, z1, hr1, ho1, hg1, hn1⟩ := appI (xs := []) (c := ca) (row_emptyI (heap_alloc_new w0 _)) (l := la) (p := pa) ((HA.out.chg HC0.out).chg (HH2.out.chg.trans (HC9.out.alloc _) (H := fun _ => False) (fun _ _ x => x) (fun _ _ x => x))) (by simp; omega) 66
          rw [List.nil_append] at ho1
          have CZ1 : Chg (fun _ => False) w0 z1 := (((Chg.refl (fun k => w0.heap.size ≤ k) w0).alloc _).grown hg1 (fun k e _ => by simp [Value.ownBlock] at e; omega)).trans (Chg.refl (fun _ => False) z1) (fun k hk e => by omega) (fun _ _ x => x)
          have HO1 := keepH ho1
          have HZ1 := keepH CZ1
          have hzs : w0.heap.size < z1.heap.size := by have := hg1.size; rw [World.size_alloc] at this; omega
          have HN1 : Hid (∀ k, v1.ownBlock = some k → w0.heap.size ≤ k) := fun k e => by
            rcases hn1 with z | z
            · rw [z] at e; simp [Value.ownBlock] at e; omega
            · rw [z] at e; simp at e; omega
          have HBZ : Hid (z1.heap[wb2]? = some (.cells #[.pointer (some ⟨m2, 0, none⟩), .pointer (some ⟨r2, 0, none⟩), sv2] 73 (0, 0))) := (CZ1.block wb2 (lt_of HB9.out) (fun x => x)).trans HB9.out
          obtain ⟨pv1, cv1, hv1⟩ := slice_of ho1
          refine step_append_run rfl (.tmp 63) (.tmp 64) 66 rfl _ _ _ _ rfl rfl hr1 ?_
          clear hr1 ho1 hg1 hn1 CZ1
          subst hv1
          refine hKK.out _ _ ?_ (fun hHeld => ?_)
          · exact cell_of HBZ.out 1
          clear hKK KK
          (try simp only [Act.put, List.getElem_toArray, List.getElem_cons_succ, List.getElem_cons_zero]); (try simp only [List.setIfInBounds_toArray]); (repeat (first | simp only [List.set_cons_succ] | simp only [List.set_cons_zero]))
          refine wpAnyH_ready (rs := [8]) (by kernel_rfl) (by simp) ?_
          refine (AllReadyH.cons rfl (fun KK hKK => ?_) AllReadyH.nil)
          obtain ⟨v2, z2, hr2, ho2, hg2, hn2⟩ := appI (c := cc) HO1.out (l := lb) (p := pc) ((HBB.out.chg HC0.out).chg (HH2.out.chg.trans (HC9.out.trans HZ1.out (H := fun _ => False) (fun _ _ x => x) (fun _ _ x => x)) (H := fun _ => False) (fun _ _ x => x) (fun _ _ x => x))) (by omega) 66
          rw [← HLAB.out] at ho2
          have CZ2 : Chg (fun k => w0.heap.size ≤ k) z1 z2 := (Chg.refl (fun k => w0.heap.size ≤ k) z1).grown hg2 (fun k e _ => HN1.out k e)
          have HO2 := keepH ho2
          have HZ2 : Hid (Chg (fun _ => False) w0 z2) := HZ1.out.trans CZ2 (fun _ _ x => x) (fun k hk e => by omega)
          have HSZ : Hid (w0.heap.size < z2.heap.size) := by have := CZ2.size; show _ < _; omega
          have HN2 : Hid (∀ k, v2.ownBlock = some k → w0.heap.size ≤ k) := fun k e => by
            rcases hn2 with z | z
            · exact HN1.out k (by rw [← z]; exact e)
            · rw [z] at e; simp at e; omega
          have HBY : Hid (z2.heap[wb2]? = some (.cells #[.pointer (some ⟨m2, 0, none⟩), .pointer (some ⟨r2, 0, none⟩), sv2] 73 (0, 0))) := (HZ2.out.block wb2 (lt_of HB9.out) (fun x => x)).trans HB9.out
          obtain ⟨pv2, cv2, hv2⟩ := slice_of ho2
          refine step_append_run rfl (.tmp 65) (.tmp 66) 66 rfl _ _ _ _ rfl rfl hr2 ?_
          clear hr2 ho2 hg2 hn2 CZ2
          subst hv2
          have hGZ := HGU.out.rebase (HC9.out.trans HZ2.out (H := fun _ => False) (fun _ _ x => x) (fun _ _ x => x)) (S' := fun k => (W.heap.size ≤ k ∧ k < X2.heap.size ∧ (k < Y1.heap.size ∨ Y2.heap.size ≤ k ∨ k = wb2)) ∨ (X2.heap.size ≤ k ∧ k < z2.heap.size)) (fun k e => e)
          have HGZ := keepH hGZ
          have HRUN := keepH (gr_runS pv2 cv2 lab hGZ (fun c w g => IReads.of_row (row_kept HO2.out (fun k e => (g.kept k (.inr ⟨by have := HN2.out k e; have := HZ9.out; omega, row_lt HO2.out k e⟩)).1))) (by have := HLEN.out; rw [hst0]; omega))
          rw [← HC22.out] at HRUN
          clear hGZ
          refine hKK.out _ _ ?_ (fun hHeld => ?_)
          · exact cell_of HBY.out 1
          clear hKK KK
          (try simp only [Act.put, List.getElem_toArray, List.getElem_cons_succ, List.getElem_cons_zero]); (try simp only [List.setIfInBounds_toArray]); (repeat (first | simp only [List.set_cons_succ] | simp only [List.set_cons_zero]))
          refine wpAnyH_ready (rs := [9]) (by kernel_rfl) (by simp) ?_
          refine (AllReadyH.cons rfl (fun KK hKK => ?_) AllReadyH.nil)
          go_simp
          go_at_call 20
          refine HRUN.out.mono ?_
          rintro e X4 ⟨rfl, g4⟩
          have HG4 := keepH g4
          have hs4 : z2.heap.size ≤ X4.heap.size := by
            have := (g4.kept (z2.heap.size - 1) (.inr ⟨by have := HSZ.out; have := HZ9.out; omega, by have := HSZ.out; omega⟩)).2
            omega
          have HK4 : Hid (∀ k, k < z2.heap.size → ¬ (Y1.heap.size ≤ k ∧ k < Y2.heap.size) → X4.heap[k]? = z2.heap[k]?) := fun k a1 a2 => by
            by_cases lw : k < W.heap.size
            · exact (g4.chgW.block k (by have := HH2.out.lo; omega) (fun x => x)).trans (HGZ.out.chgW.block k (by have := HH2.out.lo; omega) (fun x => x)).symm
            · by_cases lx : k < X2.heap.size
              · exact (g4.kept k (.inl ⟨by omega, lx, by omega⟩)).1
              · exact (g4.kept k (.inr ⟨by omega, a1⟩)).1
          have HH4 := keepH ((HH2.out.quiet (HC9.out.trans HZ2.out (H := fun _ => False) (fun _ _ x => x) (fun _ _ x => x))).beside hs4 g4.chgW HK4.out)
          have HWB4 : Hid (X4.heap[wb2]? = some (.cells #[.pointer (some ⟨m2, 0, none⟩), .pointer (some ⟨r2, 0, none⟩), sv2] 73 (0, 0))) := ((g4.kept wb2 (.inl ⟨by have := HH2.out.lo; have := HC1.out.size; have := HV2.out; omega, HLW2.out.2, .inr (.inr rfl)⟩)).1).trans HBY.out
          clear g4 hs4 HK4 HRUN
          (try go_wp2_with fail)
          refine hKK.out _ _ ?_ (fun hHeld => ?_)
          · exact cell_of HWB4.out 1
          clear hKK KK
          (try simp only [Act.put, List.getElem_toArray, List.getElem_cons_succ, List.getElem_cons_zero]); (try simp only [List.setIfInBounds_toArray]); (repeat (first | simp only [List.set_cons_succ] | simp only [List.set_cons_zero]))
          refine wpAnyH_done (by kernel_rfl) ?_ _
          go_simp
          (try go_wp2_with fail)
          go_meet
          exact ⟨HH4, ⟨_, _, HG4⟩, HWB4⟩
      case rest =>
        as_aux_lemma =>
          obtain ⟨HH4, ⟨Zz, Sz, HG4⟩, HWB4⟩ := hcut
          obtain ⟨X4, hX4⟩ : ∃ X4, X4 = wc := ⟨_, rfl⟩
          subst hX4
          clear HGU HH2 HW22 HLW2 HS2
          have HPI : Hid (PInv ll.length (clOf ll) (qOf ll) c2 ∧ ∀ x ∈ c2.t, x.vals.length ≤ 1099511627776) := by
            rw [HC22.out, HC00.out]
            exact run_vals (fun i j hi hj d hd => (((HP.out i (lOf ll i) (lOf_get hi)).2 j (qOf ll i j) (qOf_get hj)).2 _ d (List.getElem?_of_mem hd).choose_spec).1.len) lab _ (pinv_start ll lp lc) (fun x hx => by
              have hx' : x ∈ [(⟨9, 2, 50, 3, 0, .slice none 0 0, [], 0, false⟩ : Acc)] := hx
              simp at hx'
              rw [hx']
              simp)
          have hwr : IntKind.i64.wrap ((la.length : Int) + (lb.length : Int)) = (la.length : Int) + (lb.length : Int) := by rw [IntKind.wrap_i64]; omega
          have hce : c2.evs.length ≤ 1099511627776 := by
            obtain ⟨S1, G1, _, _⟩ := HH4.out.on
            obtain ⟨_, _, _, _, _, _, _, gg⟩ := G1
            have := gg.evl
            omega
          have hct : c2.t.length ≤ 1099511627776 := by
            obtain ⟨S1, G1, _, _⟩ := HH4.out.on
            obtain ⟨_, _, _, _, _, _, _, gg⟩ := G1
            have := gg.ma.tlen
            omega
          go_upto_region 10 with fail
          go_cut [107] from 69 to 106 (fun s107 wx => s107 = .bool false ∧ Hid (Chg (fun _ => False) X4 wx))
          case first =>
            as_aux_lemma =>
              obtain ⟨S1, G1, _, _⟩ := HH4.out.on
              have HG1 := keepH G1
              have HSS : Hid (∀ w, Chg (fun _ => False) X4 w → (w.cell? ⟨wb, 1, none⟩ = some (.pointer (some ⟨r, 0, none⟩)) ∧ w.cell? ⟨wb, 0, none⟩ = some (.pointer (some ⟨m, 0, none⟩)) ∧ w.cell? ⟨wb2, 1, none⟩ = some (.pointer (some ⟨r2, 0, none⟩)) ∧ w.cell? ⟨wb2, 0, none⟩ = some (.pointer (some ⟨m2, 0, none⟩)))) := fun w cw => by
                have z := (HH4.out.quiet cw).cell
                have zz := (cw.block wb2 (lt_of HWB4.out) (fun x => x)).trans HWB4.out
                exact ⟨z.1, z.2, cell_of zz 1, cell_of zz 0⟩
              clear G1
              refine wp_region_held_drew (S := fun w => w.cell? ⟨wb, 1, none⟩ = some (.pointer (some ⟨r, 0, none⟩)) ∧ w.cell? ⟨wb, 0, none⟩ = some (.pointer (some ⟨m, 0, none⟩)) ∧ w.cell? ⟨wb2, 1, none⟩ = some (.pointer (some ⟨r2, 0, none⟩)) ∧ w.cell? ⟨wb2, 0, none⟩ = some (.pointer (some ⟨m2, 0, none⟩))) (by kernel_rfl) (HSS.out _ ((Chg.refl _ _).drew)) ?_
              obtain ⟨x0, hx0⟩ : ∃ x0, x0 = X4.drew := ⟨_, rfl⟩
              have HX0 : Hid (Chg (fun _ => False) X4 x0) := by rw [hx0]; exact (Chg.refl _ _).drew
              rw [← hx0]
              clear hx0
              intro hHeld
              refine wpAnyH_take (i := 0) (v := ?_) rfl (by kernel_rfl) (by kernel_rfl) (by kernel_rfl) (fun _ _ _ h => h) (Or.inl ⟨by first | rfl | kernel_rfl, ?_⟩) hHeld ?_
              rotate_left
              · intro w hSw
                (try dsimp only at hSw)
                go_simp
                try with_reducible rfl
              (try simp only [Act.put, List.getElem_toArray, List.getElem_cons_zero]); (try simp only [List.setIfInBounds_toArray]); (repeat (first | simp only [List.set_cons_succ] | simp only [List.set_cons_zero]))
              refine wpAnyH_take (i := 1) (v := ?_) rfl (by kernel_rfl) (by kernel_rfl) (by kernel_rfl) (fun _ _ _ h => h) (Or.inl ⟨by first | rfl | kernel_rfl, ?_⟩) hHeld ?_
              rotate_left
              · intro w hSw
                (try dsimp only at hSw)
                go_simp
                try with_reducible rfl
              (try simp only [Act.put, List.getElem_toArray, List.getElem_cons_succ, List.getElem_cons_zero]); (try simp only [List.setIfInBounds_toArray]); (repeat (first | simp only [List.set_cons_succ] | simp only [List.set_cons_zero]))
              refine wpAnyH_take (i := 2) (v := ?_) rfl (by kernel_rfl) (by kernel_rfl) (by kernel_rfl) (fun _ _ _ h => h) (Or.inl ⟨by first | rfl | kernel_rfl, ?_⟩) hHeld ?_
              rotate_left
              · intro w hSw
                (try dsimp only at hSw)
                go_simp
                try with_reducible rfl
              (try simp only [Act.put, List.getElem_toArray, List.getElem_cons_succ, List.getElem_cons_zero]); (try simp only [List.setIfInBounds_toArray]); (repeat (first | simp only [List.set_cons_succ] | simp only [List.set_cons_zero]))
              refine wpAnyH_take (i := 3) (v := ?_) rfl (by kernel_rfl) (by kernel_rfl) (by kernel_rfl) (fun _ _ _ h => h) (Or.inl ⟨by first | rfl | kernel_rfl, ?_⟩) hHeld ?_
              rotate_left
              · intro w hSw
                (try dsimp only at hSw)
                go_simp
                try with_reducible rfl
              (try simp only [Act.put, List.getElem_toArray, List.getElem_cons_succ, List.getElem_cons_zero]); (try simp only [List.setIfInBounds_toArray]); (repeat (first | simp only [List.set_cons_succ] | simp only [List.set_cons_zero]))
              refine wpAnyH_take (i := 5) (v := ?_) rfl (by kernel_rfl) (by kernel_rfl) (by kernel_rfl) (fun _ _ _ h => h) (Or.inl ⟨by first | rfl | kernel_rfl, ?_⟩) hHeld ?_
              rotate_left
              · intro w hSw
                (try dsimp only at hSw)
                go_simp
                try with_reducible rfl
              (try simp only [Act.put, List.getElem_toArray, List.getElem_cons_succ, List.getElem_cons_zero]); (try simp only [List.setIfInBounds_toArray]); (repeat (first | simp only [List.set_cons_succ] | simp only [List.set_cons_zero]))
              refine wpAnyH_take (i := 6) (v := ?_) rfl (by kernel_rfl) (by kernel_rfl) (by kernel_rfl) (fun _ _ _ h => h) (Or.inl ⟨by first | rfl | kernel_rfl, ?_⟩) hHeld ?_
              rotate_left
              · intro w hSw
                (try dsimp only at hSw)
                go_simp
                try with_reducible rfl
              (try simp only [Act.put, List.getElem_toArray, List.getElem_cons_succ, List.getElem_cons_zero]); (try simp only [List.setIfInBounds_toArray]); (repeat (first | simp only [List.set_cons_succ] | simp only [List.set_cons_zero]))
              refine wpAnyH_take (i := 7) (v := ?_) rfl (by kernel_rfl) (by kernel_rfl) (by kernel_rfl) (fun _ _ _ h => h) (Or.inl ⟨by first | rfl | kernel_rfl, ?_⟩) hHeld ?_
              rotate_left
              · intro w hSw
                (try dsimp only at hSw)
                go_simp
                try with_reducible rfl
              (try simp only [Act.put, List.getElem_toArray, List.getElem_cons_succ, List.getElem_cons_zero]); (try simp only [List.setIfInBounds_toArray]); (repeat (first | simp only [List.set_cons_succ] | simp only [List.set_cons_zero]))
              refine wpAnyH_take (i := 8) (v := ?_) rfl (by kernel_rfl) (by kernel_rfl) (by kernel_rfl) (fun _ _ _ h => h) (Or.inl ⟨by first | rfl | kernel_rfl, ?_⟩) hHeld ?_
              rotate_left
              · intro w hSw
                (try dsimp only at hSw)
                go_simp
                try with_reducible rfl
              (try simp only [Act.put, List.getElem_toArray, List.getElem_cons_succ, List.getElem_cons_zero]); (try simp only [List.setIfInBounds_toArray]); (repeat (first | simp only [List.set_cons_succ] | simp only [List.set_cons_zero]))
              refine wpAnyH_ready (rs := [4]) (by kernel_rfl) (by simp) ?_
              refine (AllReadyH.cons rfl (fun KK hKK => ?_) AllReadyH.nil)
              go_simp
              go_at_call 22
              refine (gr_events (HG1.out.quiet HX0.out) (by omega)).mono ?_
              rintro e x1 ⟨pe1, ce1, rfl, o1, cx⟩
              have HX1 : Hid (Chg (fun _ => False) X4 x1) := HX0.out.trans cx (fun _ _ x => x) (fun _ _ x => x)
              have HO1 := keepH o1
              clear o1 cx
              (try go_wp2_with fail)
              refine hKK.out _ _ ?_ (fun hHeld => ?_)
              · exact HSS.out _ HX1.out
              clear hKK KK
              (try simp only [Act.put, List.getElem_toArray, List.getElem_cons_succ, List.getElem_cons_zero]); (try simp only [List.setIfInBounds_toArray]); (repeat (first | simp only [List.set_cons_succ] | simp only [List.set_cons_zero]))
              refine wpAnyH_ready (rs := [9]) (by kernel_rfl) (by simp) ?_
              refine (AllReadyH.cons rfl (fun KK hKK => ?_) AllReadyH.nil)
              go_simp
              go_at_call 22
              refine (gr_events (HG4.out.quiet HX1.out) (by omega)).mono ?_
              rintro e x2 ⟨pe2, ce2, rfl, o2, cx⟩
              have HX2 : Hid (Chg (fun _ => False) X4 x2) := HX1.out.trans cx (fun _ _ x => x) (fun _ _ x => x)
              have HO2 := keepH o2
              have HO1b : Hid (x2.ownsRow 0 112 4 (.slice pe1 c2.evs.length ce1) c2.evs.length (evRow c2.evs)) := row_kept HO1.out (fun k z => cx.block k (row_lt HO1.out k z) (fun q => q))
              clear o2 cx HO1
              (try go_wp2_with fail)
              refine hKK.out _ _ ?_ (fun hHeld => ?_)
              · exact HSS.out _ HX2.out
              clear hKK KK
              (try simp only [Act.put, List.getElem_toArray, List.getElem_cons_succ, List.getElem_cons_zero]); (try simp only [List.setIfInBounds_toArray]); (repeat (first | simp only [List.set_cons_succ] | simp only [List.set_cons_zero]))
              refine wpAnyH_ready (rs := [10]) (by kernel_rfl) (by simp) ?_
              refine (AllReadyH.cons rfl (fun KK hKK => ?_) AllReadyH.nil)
              go_simp
              go_at_call 21
              refine (s_sameE pe1 pe2 ce1 ce2 c2.evs.length c2.evs _ HO1b.out HO2.out rfl hce).mono ?_
              rintro e x3 ⟨rfl, nq3, hx3⟩
              have HX3 : Hid (Chg (fun _ => False) X4 x3) := by rw [hx3]; exact HX2.out.trans (drewN_chgY _ _) (fun _ _ x => x) (fun _ _ x => x)
              clear hx3 HO1b HO2
              (try go_wp2_with fail)
              refine hKK.out _ _ ?_ (fun hHeld => ?_)
              · exact HSS.out _ HX3.out
              clear hKK KK
              (try simp only [Act.put, List.getElem_toArray, List.getElem_cons_succ, List.getElem_cons_zero]); (try simp only [List.setIfInBounds_toArray]); (repeat (first | simp only [List.set_cons_succ] | simp only [List.set_cons_zero]))
              refine wpAnyH_take (i := 11) (v := ?_) rfl (by kernel_rfl) (by kernel_rfl) (by kernel_rfl) (fun _ _ _ h => h) (Or.inl ⟨by first | rfl | kernel_rfl, ?_⟩) hHeld ?_
              rotate_left
              · intro w hSw
                (try dsimp only at hSw)
                go_simp
                try with_reducible rfl
              (try simp only [Act.put, List.getElem_toArray, List.getElem_cons_succ, List.getElem_cons_zero]); (try simp only [List.setIfInBounds_toArray]); (repeat (first | simp only [List.set_cons_succ] | simp only [List.set_cons_zero]))
              refine wpAnyH_take (i := 12) (v := ?_) rfl (by kernel_rfl) (by kernel_rfl) (by kernel_rfl) (fun _ _ _ h => h) (Or.inl ⟨by first | rfl | kernel_rfl, ?_⟩) hHeld ?_
              rotate_left
              · intro w hSw
                (try dsimp only at hSw)
                go_simp
                try with_reducible rfl
              (try simp only [Act.put, List.getElem_toArray, List.getElem_cons_succ, List.getElem_cons_zero]); (try simp only [List.setIfInBounds_toArray]); (repeat (first | simp only [List.set_cons_succ] | simp only [List.set_cons_zero]))
              refine wpAnyH_take (i := 13) (v := ?_) rfl (by kernel_rfl) (by kernel_rfl) (by kernel_rfl) (fun _ _ _ h => h) (Or.inl ⟨by first | rfl | kernel_rfl, ?_⟩) hHeld ?_
              rotate_left
              · intro w hSw
                (try dsimp only at hSw)
                go_simp
                try with_reducible rfl
              (try simp only [Act.put, List.getElem_toArray, List.getElem_cons_succ, List.getElem_cons_zero]); (try simp only [List.setIfInBounds_toArray]); (repeat (first | simp only [List.set_cons_succ] | simp only [List.set_cons_zero]))
              refine wpAnyH_take (i := 14) (v := ?_) rfl (by kernel_rfl) (by kernel_rfl) (by kernel_rfl) (fun _ _ _ h => h) (Or.inl ⟨by first | rfl | kernel_rfl, ?_⟩) hHeld ?_
              rotate_left
              · intro w hSw
                (try dsimp only at hSw)
                go_simp
                try with_reducible rfl
              (try simp only [Act.put, List.getElem_toArray, List.getElem_cons_succ, List.getElem_cons_zero]); (try simp only [List.setIfInBounds_toArray]); (repeat (first | simp only [List.set_cons_succ] | simp only [List.set_cons_zero]))
              refine wpAnyH_take (i := 15) (v := ?_) rfl (by kernel_rfl) (by kernel_rfl) (by kernel_rfl) (fun _ _ _ h => h) (Or.inl ⟨by first | rfl | kernel_rfl, ?_⟩) hHeld ?_
              rotate_left
              · intro w hSw
                (try dsimp only at hSw)
                go_simp
                try with_reducible rfl
              (try simp only [Act.put, List.getElem_toArray, List.getElem_cons_succ, List.getElem_cons_zero]); (try simp only [List.setIfInBounds_toArray]); (repeat (first | simp only [List.set_cons_succ] | simp only [List.set_cons_zero]))
              refine wpAnyH_take (i := 16) (v := ?_) rfl (by kernel_rfl) (by kernel_rfl) (by kernel_rfl) (fun _ _ _ h => h) (Or.inl ⟨by first | rfl | kernel_rfl, ?_⟩) hHeld ?_
              rotate_left
              · intro w hSw
                (try dsimp only at hSw)
                go_simp
                try with_reducible rfl
              (try simp only [Act.put, List.getElem_toArray, List.getElem_cons_succ, List.getElem_cons_zero]); (try simp only [List.setIfInBounds_toArray]); (repeat (first | simp only [List.set_cons_succ] | simp only [List.set_cons_zero]))
              refine wpAnyH_take (i := 18) (v := ?_) rfl (by kernel_rfl) (by kernel_rfl) (by kernel_rfl) (fun _ _ _ h => h) (Or.inl ⟨by first | rfl | kernel_rfl, ?_⟩) hHeld ?_
              rotate_left
              · intro w hSw
                (try dsimp only at hSw)
                go_simp
                try with_reducible rfl
              (try simp only [Act.put, List.getElem_toArray, List.getElem_cons_succ, List.getElem_cons_zero]); (try simp only [List.setIfInBounds_toArray]); (repeat (first | simp only [List.set_cons_succ] | simp only [List.set_cons_zero]))
              refine wpAnyH_take (i := 19) (v := ?_) rfl (by kernel_rfl) (by kernel_rfl) (by kernel_rfl) (fun _ _ _ h => h) (Or.inl ⟨by first | rfl | kernel_rfl, ?_⟩) hHeld ?_
              rotate_left
              · intro w hSw
                (try dsimp only at hSw)
                go_simp
                try with_reducible rfl
              (try simp only [Act.put, List.getElem_toArray, List.getElem_cons_succ, List.getElem_cons_zero]); (try simp only [List.setIfInBounds_toArray]); (repeat (first | simp only [List.set_cons_succ] | simp only [List.set_cons_zero]))
              refine wpAnyH_take (i := 20) (v := ?_) rfl (by kernel_rfl) (by kernel_rfl) (by kernel_rfl) (fun _ _ _ h => h) (Or.inl ⟨by first | rfl | kernel_rfl, ?_⟩) hHeld ?_
              rotate_left
              · intro w hSw
                (try dsimp only at hSw)
                go_simp
                try with_reducible rfl
              (try simp only [Act.put, List.getElem_toArray, List.getElem_cons_succ, List.getElem_cons_zero]); (try simp only [List.setIfInBounds_toArray]); (repeat (first | simp only [List.set_cons_succ] | simp only [List.set_cons_zero]))
              refine wpAnyH_take (i := 21) (v := ?_) rfl (by kernel_rfl) (by kernel_rfl) (by kernel_rfl) (fun _ _ _ h => h) (Or.inl ⟨by first | rfl | kernel_rfl, ?_⟩) hHeld ?_
              rotate_left
              · intro w hSw
                (try dsimp only at hSw)
                go_simp
                try with_reducible rfl
              (try simp only [Act.put, List.getElem_toArray, List.getElem_cons_succ, List.getElem_cons_zero]); (try simp only [List.setIfInBounds_toArray]); (repeat (first | simp only [List.set_cons_succ] | simp only [List.set_cons_zero]))
              refine wpAnyH_ready (rs := [17]) (by kernel_rfl) (by simp) ?_
              refine (AllReadyH.cons rfl (fun KK hKK => ?_) AllReadyH.nil)
              go_simp
              go_at_call 18
              refine (gr_trace (HG1.out.quiet HX3.out) (by omega) HPI.out.2).mono ?_
              rintro e x4 ⟨pt1, ct1, rfl, cx, l1, lk1, t1, e1⟩
              have HX4 : Hid (Chg (fun _ => False) X4 x4) := HX3.out.trans cx (fun _ _ x => x) (fun _ _ x => x)
              have HT1 := keepH t1
              have HE1 := keepH e1
              clear t1 e1 cx
              (try go_wp2_with fail)
              refine hKK.out _ _ ?_ (fun hHeld => ?_)
              · exact HSS.out _ HX4.out
              clear hKK KK
              (try simp only [Act.put, List.getElem_toArray, List.getElem_cons_succ, List.getElem_cons_zero]); (try simp only [List.setIfInBounds_toArray]); (repeat (first | simp only [List.set_cons_succ] | simp only [List.set_cons_zero]))
              refine wpAnyH_ready (rs := [22]) (by kernel_rfl) (by simp) ?_
              refine (AllReadyH.cons rfl (fun KK hKK => ?_) AllReadyH.nil)
              go_simp
              go_at_call 18
              refine (gr_trace (HG4.out.quiet HX4.out) (by omega) HPI.out.2).mono ?_
              rintro e x5 ⟨pt2, ct2, rfl, cx, l2, lk2, t2, e2⟩
              have HX5 : Hid (Chg (fun _ => False) X4 x5) := HX4.out.trans cx (fun _ _ x => x) (fun _ _ x => x)
              have HT2 := keepH t2
              have HE2 := keepH e2
              have HCX5 := keepH cx
              clear t2 e2 cx
              have HLK := keepH (s_sameAV pt1 pt2 ct1 ct2 c2.t.length lk1 lk2 x5 (hist_row HT1.out HE1.out HCX5.out) (hist_row HT2.out HE2.out (Chg.refl _ _)) (hist_len HT1.out HE1.out) (hist_len HT2.out HE2.out) (traces_like HT1.out HT2.out HCX5.out (Chg.refl _ _) (by rw [HE1.out, HE2.out]) (by rw [HE1.out]; exact HPI.out.2)) hct)
              (try go_wp2_with fail)
              refine hKK.out _ _ ?_ (fun hHeld => ?_)
              · exact HSS.out _ HX5.out
              clear hKK KK
              (try simp only [Act.put, List.getElem_toArray, List.getElem_cons_succ, List.getElem_cons_zero]); (try simp only [List.setIfInBounds_toArray]); (repeat (first | simp only [List.set_cons_succ] | simp only [List.set_cons_zero]))
              refine wpAnyH_ready (rs := [23]) (by kernel_rfl) (by simp) ?_
              refine (AllReadyH.cons rfl (fun KK hKK => ?_) AllReadyH.nil)
              go_simp
              go_at_call 17
              refine (HLK.out).mono ?_
              rintro e x6 ⟨rfl, nq6, hx6⟩
              have HX6 : Hid (Chg (fun _ => False) X4 x6) := by rw [hx6]; exact HX5.out.trans (drewN_chgY _ _) (fun _ _ x => x) (fun _ _ x => x)
              clear hx6 HLK HT1 HT2 HE1 HE2 HCX5
              (try go_wp2_with fail)
              refine hKK.out _ _ ?_ (fun hHeld => ?_)
              · exact HSS.out _ HX6.out
              clear hKK KK
              (try simp only [Act.put, List.getElem_toArray, List.getElem_cons_succ, List.getElem_cons_zero]); (try simp only [List.setIfInBounds_toArray]); (repeat (first | simp only [List.set_cons_succ] | simp only [List.set_cons_zero]))
              refine wpAnyH_take (i := 24) (v := ?_) rfl (by kernel_rfl) (by kernel_rfl) (by kernel_rfl) (fun _ _ _ h => h) (Or.inl ⟨by first | rfl | kernel_rfl, ?_⟩) hHeld ?_
              rotate_left
              · intro w hSw
                (try dsimp only at hSw)
                go_simp
                try with_reducible rfl
              (try simp only [Act.put, List.getElem_toArray, List.getElem_cons_succ, List.getElem_cons_zero]); (try simp only [List.setIfInBounds_toArray]); (repeat (first | simp only [List.set_cons_succ] | simp only [List.set_cons_zero]))
              refine wpAnyH_take (i := 25) (v := ?_) rfl (by kernel_rfl) (by kernel_rfl) (by kernel_rfl) (fun _ _ _ h => h) (Or.inl ⟨by first | rfl | kernel_rfl, ?_⟩) hHeld ?_
              rotate_left
              · intro w hSw
                (try dsimp only at hSw)
                go_simp
                try with_reducible rfl
              (try simp only [Act.put, List.getElem_toArray, List.getElem_cons_succ, List.getElem_cons_zero]); (try simp only [List.setIfInBounds_toArray]); (repeat (first | simp only [List.set_cons_succ] | simp only [List.set_cons_zero]))
              refine wpAnyH_take (i := 26) (v := ?_) rfl (by kernel_rfl) (by kernel_rfl) (by kernel_rfl) (fun _ _ _ h => h) (Or.inl ⟨by first | rfl | kernel_rfl, ?_⟩) hHeld ?_
              rotate_left
              · intro w hSw
                (try dsimp only at hSw)
                go_simp
                try with_reducible rfl
              (try simp only [Act.put, List.getElem_toArray, List.getElem_cons_succ, List.getElem_cons_zero]); (try simp only [List.setIfInBounds_toArray]); (repeat (first | simp only [List.set_cons_succ] | simp only [List.set_cons_zero]))
              refine wpAnyH_take (i := 27) (v := ?_) rfl (by kernel_rfl) (by kernel_rfl) (by kernel_rfl) (fun _ _ _ h => h) (Or.inl ⟨by first | rfl | kernel_rfl, ?_⟩) hHeld ?_
              rotate_left
              · intro w hSw
                (try dsimp only at hSw)
                go_simp
                try with_reducible rfl
              (try simp only [Act.put, List.getElem_toArray, List.getElem_cons_succ, List.getElem_cons_zero]); (try simp only [List.setIfInBounds_toArray]); (repeat (first | simp only [List.set_cons_succ] | simp only [List.set_cons_zero]))
              refine wpAnyH_take (i := 28) (v := ?_) rfl (by kernel_rfl) (by kernel_rfl) (by kernel_rfl) (fun _ _ _ h => h) (Or.inl ⟨by first | rfl | kernel_rfl, ?_⟩) hHeld ?_
              rotate_left
              · intro w hSw
                (try dsimp only at hSw)
                go_simp
                try with_reducible rfl
              (try simp only [Act.put, List.getElem_toArray, List.getElem_cons_succ, List.getElem_cons_zero]); (try simp only [List.setIfInBounds_toArray]); (repeat (first | simp only [List.set_cons_succ] | simp only [List.set_cons_zero]))
              refine wpAnyH_take (i := 29) (v := ?_) rfl (by kernel_rfl) (by kernel_rfl) (by kernel_rfl) (fun _ _ _ h => h) (Or.inl ⟨by first | rfl | kernel_rfl, ?_⟩) hHeld ?_
              rotate_left
              · intro w hSw
                (try dsimp only at hSw)
                go_simp
                try with_reducible rfl
              (try simp only [Act.put, List.getElem_toArray, List.getElem_cons_succ, List.getElem_cons_zero]); (try simp only [List.setIfInBounds_toArray]); (repeat (first | simp only [List.set_cons_succ] | simp only [List.set_cons_zero]))
              refine wpAnyH_take (i := 30) (v := ?_) rfl (by kernel_rfl) (by kernel_rfl) (by kernel_rfl) (fun _ _ _ h => h) (Or.inl ⟨by first | rfl | kernel_rfl, ?_⟩) hHeld ?_
              rotate_left
              · intro w hSw
                (try dsimp only at hSw)
                go_simp
                try with_reducible rfl
              (try simp only [Act.put, List.getElem_toArray, List.getElem_cons_succ, List.getElem_cons_zero]); (try simp only [List.setIfInBounds_toArray]); (repeat (first | simp only [List.set_cons_succ] | simp only [List.set_cons_zero]))
              refine wpAnyH_take (i := 32) (v := ?_) rfl (by kernel_rfl) (by kernel_rfl) (by kernel_rfl) (fun _ _ _ h => h) (Or.inl ⟨by first | rfl | kernel_rfl, ?_⟩) hHeld ?_
              rotate_left
              · intro w hSw
                (try dsimp only at hSw)
                go_simp
                try with_reducible rfl
              (try simp only [Act.put, List.getElem_toArray, List.getElem_cons_succ, List.getElem_cons_zero]); (try simp only [List.setIfInBounds_toArray]); (repeat (first | simp only [List.set_cons_succ] | simp only [List.set_cons_zero]))
              refine wpAnyH_take (i := 33) (v := ?_) rfl (by kernel_rfl) (by kernel_rfl) (by kernel_rfl) (fun _ _ _ h => h) (Or.inl ⟨by first | rfl | kernel_rfl, ?_⟩) hHeld ?_
              rotate_left
              · intro w hSw
                (try dsimp only at hSw)
                go_simp
                try with_reducible rfl
              (try simp only [Act.put, List.getElem_toArray, List.getElem_cons_succ, List.getElem_cons_zero]); (try simp only [List.setIfInBounds_toArray]); (repeat (first | simp only [List.set_cons_succ] | simp only [List.set_cons_zero]))
              refine wpAnyH_take (i := 34) (v := ?_) rfl (by kernel_rfl) (by kernel_rfl) (by kernel_rfl) (fun _ _ _ h => h) (Or.inl ⟨by first | rfl | kernel_rfl, ?_⟩) hHeld ?_
              rotate_left
              · intro w hSw
                (try dsimp only at hSw)
                go_simp
                try with_reducible rfl
              (try simp only [Act.put, List.getElem_toArray, List.getElem_cons_succ, List.getElem_cons_zero]); (try simp only [List.setIfInBounds_toArray]); (repeat (first | simp only [List.set_cons_succ] | simp only [List.set_cons_zero]))
              refine wpAnyH_take (i := 35) (v := ?_) rfl (by kernel_rfl) (by kernel_rfl) (by kernel_rfl) (fun _ _ _ h => h) (Or.inl ⟨by first | rfl | kernel_rfl, ?_⟩) hHeld ?_
              rotate_left
              · intro w hSw
                (try dsimp only at hSw)
                go_simp
                try with_reducible rfl
              (try simp only [Act.put, List.getElem_toArray, List.getElem_cons_succ, List.getElem_cons_zero]); (try simp only [List.setIfInBounds_toArray]); (repeat (first | simp only [List.set_cons_succ] | simp only [List.set_cons_zero]))
              refine wpAnyH_take (i := 36) (v := ?_) rfl (by kernel_rfl) (by kernel_rfl) (by kernel_rfl) (fun _ _ _ h => h) (Or.inl ⟨by first | rfl | kernel_rfl, ?_⟩) hHeld ?_
              rotate_left
              · intro w hSw
                (try dsimp only at hSw)
                go_simp
                try with_reducible rfl
              (try simp only [Act.put, List.getElem_toArray, List.getElem_cons_succ, List.getElem_cons_zero]); (try simp only [List.setIfInBounds_toArray]); (repeat (first | simp only [List.set_cons_succ] | simp only [List.set_cons_zero]))
              refine wpAnyH_ready (rs := [31]) (by kernel_rfl) (by simp) ?_
              refine (AllReadyH.cons rfl (fun KK hKK => ?_) AllReadyH.nil)
              go_simp
              go_at_call 23
              refine (gr_steps (HG1.out.quiet HX6.out)).mono ?_
              rintro e x7 ⟨rfl, hx7⟩
              have HX7 : Hid (Chg (fun _ => False) X4 x7) := by rw [hx7]; exact HX6.out
              clear hx7
              have est : (c2.st : Int) = (la.length : Int) + (lb.length : Int) := by omega
              rw [est]
              clear est
              (try go_wp2_with fail)
              refine hKK.out _ _ ?_ (fun hHeld => ?_)
              · exact HSS.out _ HX7.out
              clear hKK KK
              (try simp only [Act.put, List.getElem_toArray, List.getElem_cons_succ, List.getElem_cons_zero]); (try simp only [List.setIfInBounds_toArray]); (repeat (first | simp only [List.set_cons_succ] | simp only [List.set_cons_zero]))
              refine wpAnyH_take (i := 37) (v := ?_) rfl (by kernel_rfl) (by kernel_rfl) (by kernel_rfl) (fun _ _ _ h => h) (Or.inl ⟨by first | rfl | kernel_rfl, ?_⟩) hHeld ?_
              rotate_left
              · intro w hSw
                (try dsimp only at hSw)
                go_simp
                try with_reducible rfl
              (try simp only [Act.put, List.getElem_toArray, List.getElem_cons_succ, List.getElem_cons_zero]); (try simp only [List.setIfInBounds_toArray]); (repeat (first | simp only [List.set_cons_succ] | simp only [List.set_cons_zero]))
              refine wpAnyH_take (i := 38) (v := ?_) rfl (by kernel_rfl) (by kernel_rfl) (by kernel_rfl) (fun _ _ _ h => h) (Or.inl ⟨by first | rfl | kernel_rfl, ?_⟩) hHeld ?_
              rotate_left
              · intro w hSw
                (try dsimp only at hSw)
                go_simp
                try with_reducible rfl
              (try simp only [Act.put, List.getElem_toArray, List.getElem_cons_succ, List.getElem_cons_zero]); (try simp only [List.setIfInBounds_toArray]); (repeat (first | simp only [List.set_cons_succ] | simp only [List.set_cons_zero]))
              refine wpAnyH_done (by kernel_rfl) ?_ _
              go_simp
              (try go_wp2_with fail)
              go_meet
              exact ⟨rfl, HX7⟩
          case rest =>
            as_aux_lemma =>
              obtain ⟨rfl, HX7⟩ := hcut
              obtain ⟨x7, hx7⟩ : ∃ x7, x7 = wc := ⟨_, rfl⟩
              subst hx7
              have HH7 := keepH (HH4.out.quiet HX7.out)
              clear HX7 HG4 HWB4 HH4
              go_upto_region 12 with fail
              have u1 := HH7.out.cell.1
              obtain ⟨S1, G1, _, _⟩ := HH7.out.on
              have HG1 := keepH G1
              clear G1
              have HHO : Hid (HistOk c2.evs) := by
                rw [HC22.out, HC00.out]
                exact ((hinv_start ll lp lc).run lab).ok
              go_wp2_with fail
              refine (gr_events HG1.out (by omega)).mono ?_
              rintro e x8 ⟨pe1, ce1, rfl, o1, cx⟩
              have HO1 := keepH o1
              have HH8 := keepH (HH7.out.quiet cx)
              clear o1 cx u1 HG1 HH7
              go_wp2_with fail
              refine (l_history HO1.out rfl hce HHO.out).mono ?_
              rintro e x9 ⟨rfl, hx9⟩
              have HH9 : Hid (HW W V0 x9 ll p c8 c2 wb q nm m r b sv vb pb 0 (fun _ => 0) (fun _ => 0) (fun _ => False)) := HH8.out.quiet hx9
              clear hx9 HO1 HH8 HHO
              obtain ⟨tot, htot⟩ : ∃ tot, tot = fun i => sumTo (fun i => match ll[i]? with | some l => pre l l.length | none => 0) i := ⟨_, rfl⟩
              have HTOT := keepH htot
              have ht0 : tot 0 = 0 := by rw [htot]; rfl
              have HTS : Hid (∀ i l, ll[i]? = some l → tot (i + 1) = tot i + pre l l.length) := fun i l e => by rw [htot]; simp only [sumTo]; rw [e]
              have HTM : Hid (∀ i, i ≤ ll.length → tot i ≤ 1048576) := fun i hi => Nat.le_trans (by rw [htot]; exact sumTo_le hi) HSM.out
              have HPX : Hid (ThsAt x9 W.heap.size p ll ap ac lp lc) := HP.out.chg (Nat.le_refl _) (HC0.out.trans HH9.out.chg (fun _ _ x => x) (fun _ _ x => x))
              clear htot
              go_wp2_with fail
              go_loopw [13, 14] (fun s13 s14 wx => ∃ i : Nat, i ≤ ll.length ∧ s14 = .int .i64 (i : Int) ∧ ∃ v : Nat, s13 = .int .i64 (v : Int) ∧ Hid (v = tot i) ∧ SameW wx x9) (fun _ s _ => ll.length - (intOf s).toNat)
              case atStart => exact ⟨0, Nat.zero_le _, rfl, 0, rfl, ht0.symm, rfl⟩
              case round =>
                obtain ⟨i, hil, rfl, ti, rfl, HTI, hsw⟩ := hrel
                obtain rfl : wr = x9 := hsw
                by_cases hi : i < ll.length
                · have z1 : (i : Int) < (ll.length : Int) := by omega
                  obtain ⟨l, hl⟩ : ∃ l, ll[i]? = some l := ⟨ll[i], List.getElem?_eq_getElem hi⟩
                  obtain ⟨⟨bk, off, rfl, hbk, d0⟩, hPl⟩ := HPX.out i l hl
                  have HPL := keepH hPl
                  have hts := HTS.out i l hl
                  have htm := HTM.out (i + 1) (by omega)
                  have HTSI := keepH hts
                  have hpl : ti + pre l l.length ≤ 1048576 := by have := HTI.out; omega
                  have hl48 : l.length ≤ 1048576 := HLS.out l (List.mem_of_getElem? hl)
                  have HLQ := keepH (HL.out l (List.mem_of_getElem? hl))
                  obtain ⟨wo, hwo⟩ : ∃ wo, wo = wr := ⟨_, rfl⟩
                  have HWO : Hid (wo = wr) := hwo
                  clear hts htm hl hPl hbk hwo
                  go_wp2_with fail
                  go_loopw [13, 15] (fun s13 s15 wx => ∃ k : Nat, k ≤ l.length ∧ s15 = .int .i64 (k : Int) ∧ ∃ v : Nat, s13 = .int .i64 (v : Int) ∧ Hid (v = ti + pre l k) ∧ SameW wx wo) (fun _ s _ => l.length - (intOf s).toNat)
                  case atStart => exact ⟨0, Nat.zero_le _, rfl, ti, rfl, by show _ = _; rw [pre_zero]; rfl, HWO.out.symm⟩
                  case round =>
                    obtain ⟨k, hkl, rfl, vk, rfl, HVK, hsw2⟩ := hrel
                    have hsw3 : wr = wo := hsw2
                    subst hsw3
                    have hwx := HWO.out
                    subst hwx
                    by_cases hk : k < l.length
                    · have z2 : (k : Int) < (l.length : Int) := by omega
                      obtain ⟨qq, hq⟩ : ∃ qq, l[k]? = some qq := ⟨l[k], List.getElem?_eq_getElem hk⟩
                      obtain ⟨⟨bl, ol, e5, hbl, d1, d2⟩, _⟩ := HPL.out k qq hq
                      have hqL := HLQ.out qq (List.mem_of_getElem? hq)
                      have e1 := pre_succ hq
                      have e2 := pre_mono l (show k + 1 ≤ l.length by omega)
                      have hvb : vk + nst qq ≤ 1048576 := by have := HVK.out; omega
                      have HVN : Hid (vk + nst qq = ti + pre l (k + 1)) := by have := HVK.out; show _ = _; omega
                      rw [e5] at d0
                      clear e1 e2 hbl hq e5
                      cases hn : qq.none with
                      | true =>
                        as_aux_lemma =>
                          rw [hn] at d1
                          have e3 : nst qq = 1 := by unfold nst; rw [if_pos hn]
                          rw [e3] at hvb HVN
                          clear hn e3
                          go_wp2_with fail
                          go_roundw
                          case rel => exact ⟨k + 1, by omega, by first | rfl | go_num, vk + 1, by first | rfl | go_num, HVN, rfl⟩
                          case measure => simp [intOf]; omega
                      | false =>
                        as_aux_lemma =>
                          rw [hn] at d1
                          have e3 : nst qq = if qq.L.length < 1 then 1 else qq.L.length := by unfold nst; rw [if_neg (by simp [hn])]
                          by_cases hz : qq.L.length < 1
                          · have q2 : ((qq.L.length : Nat) : Int) < 1 := by omega
                            rw [if_pos hz] at e3
                            rw [e3] at hvb HVN
                            clear hn e3
                            go_wp2_with fail
                            go_roundw
                            case rel => exact ⟨k + 1, by omega, by first | rfl | go_num, vk + 1, by first | rfl | go_num, HVN, rfl⟩
                            case measure => simp [intOf]; omega
                          · have q2 : ¬ ((qq.L.length : Nat) : Int) < 1 := by omega
                            rw [if_neg hz] at e3
                            rw [e3] at hvb HVN
                            clear hn e3
                            go_wp2_with fail
                            go_roundw
                            case rel => exact ⟨k + 1, by omega, by first | rfl | go_num, vk + qq.L.length, by first | rfl | go_num, HVN, rfl⟩
                            case measure => simp [intOf]; omega
                    · have z2 : ¬ (k : Int) < (l.length : Int) := by omega
                      obtain rfl : k = l.length := by omega
                      go_wp2_with fail
                      go_roundw
                      case rel => exact ⟨i + 1, by omega, by first | rfl | go_num, vk, rfl, by show _ = _; rw [HTSI.out, HVK.out, HTI.out], rfl⟩
                      case measure => simp [intOf]; omega
                · have z1 : ¬ (i : Int) < (ll.length : Int) := by omega
                  obtain rfl : i = ll.length := by omega
                  have HRM : Hid (ti = rem ll.length (clOf ll) c0) := by show _ = _; rw [HTI.out, HTOT.out, HC00.out]; exact (rem_start ll lp lc).symm
                  have hti : ti ≤ 1048576 := by have := HTI.out; have := HTM.out ll.length (Nat.le_refl _); omega
                  obtain ⟨x10, hx10⟩ : ∃ x10, x10 = wr := ⟨_, rfl⟩
                  subst hx10
                  have HPI0 : Hid (PInv ll.length (clOf ll) (qOf ll) c0) := by rw [HC00.out]; exact pinv_start ll lp lc
                  have HDR0 : Hid (DRel ll.length (clOf ll) c0 (fun _ => 0) (fun _ => 0)) := by rw [HC00.out]; exact drel_start ll lp lc
                  have HAX : Hid (∀ w, Chg (fun _ => False) V0 w → IReads w pa la ∧ IReads w pc lb) := fun w cw => ⟨(HA.out.chg HC0.out).chg cw, (HBB.out.chg HC0.out).chg cw⟩
                  clear HTI HTS HTM HTOT ht0 HPX
                  go_wp2_with fail
                  go_loopw [13, 17] (fun s13 s17 wx => ∃ k : Nat, k ≤ lab.length ∧ s17 = .int .i64 (k : Int) ∧ ∃ v : Nat, v ≤ 1048576 ∧ s13 = .int .i64 (v : Int) ∧ Hid (∃ d call at_, d = c0.run (plK W.heap.size W) 200 ll.length (clOf ll) (lab.take k) ∧ v = rem ll.length (clOf ll) d ∧ PInv ll.length (clOf ll) (qOf ll) d ∧ DRel ll.length (clOf ll) d call at_ ∧ HW W V0 wx ll p c8 c2 wb q nm m r b sv vb pb k call at_ (fun _ => False))) (fun _ s _ => lab.length - (intOf s).toNat)
                  case atStart => exact ⟨0, Nat.zero_le _, rfl, ti, hti, rfl, c0, _, _, rfl, HRM.out, HPI0.out, HDR0.out, HH9.out⟩
                  case round =>
                    clear HH9
                    obtain ⟨k, hkl, rfl, vk, hvk, rfl, HXK⟩ := hrel
                    obtain ⟨w11, hw11⟩ : ∃ w11, w11 = wr := ⟨_, rfl⟩
                    subst hw11
                    obtain ⟨d, call, at_, hd, hv, hI, hR, hH⟩ := HXK.out
                    have HDD := keepH hd
                    have HVV := keepH hv
                    have HII := keepH hI
                    have HRR := keepH hR
                    have HHK := keepH hH
                    have hlen := HLEN.out
                    clear HXK hd hv hI hR hH
                    by_cases hk : k < lab.length
                    · have z1 : (k : Int) < (la.length : Int) + (lb.length : Int) := by omega
                      obtain ⟨x, hx⟩ : ∃ x, lab[k]? = some x := ⟨lab[k], List.getElem?_eq_getElem hk⟩
                      have HPK := keepH (hw_pick HHK.out HC0.out HP.out HLS.out HL.out HRR.out HII.out (by omega) x)
                      have HPC := keepH (HII.out.pick (Lo := W.heap.size) (W0 := W) (most := 200) x)
                      have HRN : Hid (c0.run (plK W.heap.size W) 200 ll.length (clOf ll) (lab.take (k + 1)) = d.pick (plK W.heap.size W) 200 ll.length (clOf ll) x) := by rw [HDD.out]; exact Cfg.run_more _ _ _ _ _ _ _ _ hx
                      obtain ⟨hia, hib⟩ := HAX.out w11 HHK.out.chg
                      by_cases hka : k < la.length
                      · have z2 : (k : Int) < (la.length : Int) := by omega
                        obtain ⟨bk, off, e5, _, cx⟩ := hia.get k x (by rw [HLAB.out, List.getElem?_append_left hka] at hx; exact hx)
                        subst e5
                        clear hx hib
                        by_cases hc : Cfg.can ll.length (clOf ll) d x
                        · rw [decide_eq_true hc] at HPK
                          rw [if_pos hc] at HPC
                          have hv1 : 1 ≤ vk := by have := HVV.out; have := HPC.out.2; omega
                          have HCN := keepH hc
                          clear hc
                          go_wp2_with fail
                          refine HPK.out.mono ?_
                          rintro e w12 ⟨rfl, call', at', h12, r12⟩
                          have HH12 := keepH h12
                          have HR12 := keepH r12
                          clear h12 r12
                          go_wp2_with fail
                          go_roundw
                          case rel => exact ⟨k + 1, by omega, by first | rfl | go_num, vk - 1, by omega, by first | rfl | go_num | (congr 1; omega), _, call', at', rfl, by rw [HRN.out]; have := HVV.out; have := HPC.out.2; omega, by rw [HRN.out]; exact HPC.out.1, by rw [HRN.out]; exact HR12.out, HH12.out⟩
                          case measure => simp [intOf]; omega
                        · rw [decide_eq_false hc] at HPK
                          rw [if_neg hc] at HPC
                          have HCN := keepH hc
                          clear hc
                          go_wp2_with fail
                          refine HPK.out.mono ?_
                          rintro e w12 ⟨rfl, call', at', h12, r12⟩
                          have HH12 := keepH h12
                          have HR12 := keepH r12
                          clear h12 r12
                          go_wp2_with fail
                          go_roundw
                          case rel => exact ⟨k + 1, by omega, by first | rfl | go_num, vk, hvk, rfl, _, call', at', rfl, by rw [HRN.out]; have := HVV.out; have := HPC.out.2; omega, by rw [HRN.out]; exact HPC.out.1, by rw [HRN.out]; exact HR12.out, HH12.out⟩
                          case measure => simp [intOf]; omega
                      · have z2 : ¬ (k : Int) < (la.length : Int) := by omega
                        obtain ⟨j, hj⟩ : ∃ j, j = k - la.length := ⟨_, rfl⟩
                        have ej : (k : Int) - (la.length : Int) = (j : Int) := by omega
                        have ej2 : (j : Int) < (lb.length : Int) := by omega
                        obtain ⟨bk, off, e5, _, cx⟩ := hib.get j x (by rw [HLAB.out, List.getElem?_append_right (by omega), ← hj] at hx; exact hx)
                        subst e5
                        clear hx hia hj
                        by_cases hc : Cfg.can ll.length (clOf ll) d x
                        · rw [decide_eq_true hc] at HPK
                          rw [if_pos hc] at HPC
                          have hv1 : 1 ≤ vk := by have := HVV.out; have := HPC.out.2; omega
                          have HCN := keepH hc
                          clear hc
                          go_wp2_with fail
                          refine HPK.out.mono ?_
                          rintro e w12 ⟨rfl, call', at', h12, r12⟩
                          have HH12 := keepH h12
                          have HR12 := keepH r12
                          clear h12 r12
                          go_wp2_with fail
                          go_roundw
                          case rel => exact ⟨k + 1, by omega, by first | rfl | go_num, vk - 1, by omega, by first | rfl | go_num | (congr 1; omega), _, call', at', rfl, by rw [HRN.out]; have := HVV.out; have := HPC.out.2; omega, by rw [HRN.out]; exact HPC.out.1, by rw [HRN.out]; exact HR12.out, HH12.out⟩
                          case measure => simp [intOf]; omega
                        · rw [decide_eq_false hc] at HPK
                          rw [if_neg hc] at HPC
                          have HCN := keepH hc
                          clear hc
                          go_wp2_with fail
                          refine HPK.out.mono ?_
                          rintro e w12 ⟨rfl, call', at', h12, r12⟩
                          have HH12 := keepH h12
                          have HR12 := keepH r12
                          clear h12 r12
                          go_wp2_with fail
                          go_roundw
                          case rel => exact ⟨k + 1, by omega, by first | rfl | go_num, vk, hvk, rfl, _, call', at', rfl, by rw [HRN.out]; have := HVV.out; have := HPC.out.2; omega, by rw [HRN.out]; exact HPC.out.1, by rw [HRN.out]; exact HR12.out, HH12.out⟩
                          case measure => simp [intOf]; omega
                    · have z1 : ¬ (k : Int) < (la.length : Int) + (lb.length : Int) := by omega
                      obtain rfl : k = lab.length := by omega
                      have ed : d = c2 := by rw [HDD.out, HC22.out, List.take_of_length_le (Nat.le_refl _)]
                      have HV2 : Hid (vk = rem ll.length (clOf ll) c2) := by show _ = _; rw [← ed]; exact HVV.out
                      have HB2 : Hid (c2.st + rem ll.length (clOf ll) c2 ≤ 16777216) := by have := HV2.out; show _ ≤ _; omega
                      have u1 := HHK.out.cell.1
                      clear HVV HII HRR HDD ed
                      by_cases h0 : vk = 0
                      · have t0 : ¬ (0 : Int) < (vk : Int) := by omega
                        have HHX := keepH HHK.out
                        have HIX := keepH HPI.out.1
                        have HBX := keepH HB2.out
                        have HRX : Hid (rem ll.length (clOf ll) c2 = 0) := by have := HV2.out; show _ = _; omega
                        have H0 := keepH h0
                        clear h0
                        go_wp2_with fail
                        refine (hw_finish HHX.out HIX.out HBX.out vk (by omega)).mono ?_
                        rintro e y2 ⟨rfl, c4, h4, i4, r4, b4⟩
                        rw [decide_eq_true (by have := HRX.out; omega)]
                        have HH4 := keepH h4
                        have HI4 := keepH i4
                        have HR4 : Hid (rem ll.length (clOf ll) c4 = 0) := by rw [HRX.out] at r4; show _ = _; omega
                        have u2 := h4.cell.1
                        clear h4 i4 r4 b4 u1
                        go_wp2_with fail
                        refine (hw_done HH4.out HI4.out HR4.out).mono ?_
                        rintro e y3 ⟨rfl, h5⟩
                        have HH5 := keepH h5
                        have u3 := h5.cell.1
                        clear h5 u2
                        go_wp2_with fail
                        refine (hw_pending HH5.out HI4.out HR4.out).mono ?_
                        rintro e y4 ⟨rfl, hcy⟩
                        have HCY := keepH hcy
                        clear hcy u3
                        go_wp2_with fail
                        go_ret
                        exact ⟨by simp, HC0.out.trans HCY.out (fun _ _ x => x) (fun _ _ x => x)⟩
                      · have t0 : (0 : Int) < (vk : Int) := by omega
                        obtain ⟨v1, hv1⟩ : ∃ v1, v1 = vk - 1 := ⟨_, rfl⟩
                        have ev1 : (vk : Int) - 1 = (v1 : Int) := by omega
                        have HF := keepH (hw_finish HHK.out HPI.out.1 HB2.out v1 (by omega))
                        rw [decide_eq_false (by have := HV2.out; omega)] at HF
                        have HV1 : Hid (rem ll.length (clOf ll) c2 - v1 = 1) := by have := HV2.out; show _ = _; omega
                        clear h0 hv1
                        go_wp2_with fail
                        refine HF.out.mono ?_
                        rintro e y1 ⟨rfl, c3, h3, i3, r3, b3⟩
                        have HHX := keepH h3
                        have HIX := keepH i3
                        have HBX := keepH b3
                        have HRX : Hid (rem ll.length (clOf ll) c3 = 1) := by rw [r3]; exact HV1.out
                        have u1 := h3.cell.1
                        clear h3 i3 r3 b3 HHK
                        have hvk1 : 1 ≤ vk := by omega
                        go_wp2_with fail
                        refine (hw_finish HHX.out HIX.out HBX.out vk (by omega)).mono ?_
                        rintro e y2 ⟨rfl, c4, h4, i4, r4, b4⟩
                        rw [decide_eq_true (by have := HRX.out; omega)]
                        have HH4 := keepH h4
                        have HI4 := keepH i4
                        have HR4 : Hid (rem ll.length (clOf ll) c4 = 0) := by rw [HRX.out] at r4; show _ = _; omega
                        have u2 := h4.cell.1
                        clear h4 i4 r4 b4 u1
                        go_wp2_with fail
                        refine (hw_done HH4.out HI4.out HR4.out).mono ?_
                        rintro e y3 ⟨rfl, h5⟩
                        have HH5 := keepH h5
                        have u3 := h5.cell.1
                        clear h5 u2
                        go_wp2_with fail
                        refine (hw_pending HH5.out HI4.out HR4.out).mono ?_
                        rintro e y4 ⟨rfl, hcy⟩
                        have HCY := keepH hcy
                        clear hcy u3
                        go_wp2_with fail
                        go_ret
                        exact ⟨by simp, HC0.out.trans HCY.out (fun _ _ x => x) (fun _ _ x => x)⟩
end Go.Proofs.Ytkfmpebhibnniaa
