/- StepHistory: the document's Pick beside the program's run; both traces. -/
import Derived.Test.YtkfmpebhibnniaaYM
import Derived.Test.YtkfmpebhibnniaaYH
import Derived.Test.YtkfmpebhibnniaaSPickIn
namespace Go.Proofs.Ytkfmpebhibnniaa
open Go.RowKit Go.Shelf
set_option linter.unusedVariables false

theorem D4.small {X : World} {B r nm T st : Nat} {p : Option Addr} {c8 : Nat} {call at_ : Nat → Nat} {K : Nat → Prop} (h : D4 X B r nm T st p c8 call at_ K) : D4 X B r nm T st p c8 call at_ (fun k => K k ∧ k < X.heap.size) := by
  obtain ⟨tg, gc, ga, gg, ev, wv, es, ws, gv, gl, R, m, t, h, hK⟩ := h
  exact ⟨tg, gc, ga, gg, ev, wv, es, ws, gv, gl, R, m, t, h, fun k e => ⟨hK k e, (h.lo k e).2⟩⟩
section
variable {W V0 X Y : World} {ll : List (List PlP)} {p : Option Addr} {c8 : Nat} {c : Cfg PS} {wb q nm m r b : Nat} {sv : Value} {vb : Nat → Nat} {pb : Nat → Nat → Nat} {st : Nat} {call at_ : Nat → Nat} {E : Nat → Prop}
theorem HW.lo (h : HW W V0 X ll p c8 c wb q nm m r b sv vb pb st call at_ E) : W.heap.size ≤ V0.heap.size := by
  obtain ⟨K, h1, _⟩ := h
  obtain ⟨G, K', vw, tv, ev, av, ths, g⟩ := h1
  exact g.lo
/-- Another run went on. -/
theorem HW.beside (h : HW W V0 X ll p c8 c wb q nm m r b sv vb pb st call at_ E) (hs : X.heap.size ≤ Y.heap.size) (hc : Chg (fun _ => False) V0 Y) (hk : ∀ k, k < X.heap.size → ¬ E k → Y.heap[k]? = X.heap[k]?) : HW W V0 Y ll p c8 c wb q nm m r b sv vb pb st call at_ (fun _ => False) := by
  have lo := h.lo
  obtain ⟨K, h1, h2, h3, h4, h5, h6⟩ := h
  have lk := fun k (e : K k) => (h1.kept k (.inl e)).2
  refine ⟨K, h1.shift (Nat.le_refl _) lo hc hs E (fun k e => .inr (.inr e)) (fun k a1 a2 _ => hk k a1 a2) (fun k e => ?_), h2.keep2 (fun k e => hk k (lk k e) (h5 k e).2.1), (hk wb (lt_of h3) h6).trans h3, h4, fun k e => ⟨(h5 k e).1, fun x => x, (h5 k e).2.2⟩, fun x => x⟩
  rcases e with e | e | e
  · have := h5 k e; have := lk k e; exact ⟨by omega, by omega, .inr (.inr (.inl e))⟩
  · subst e; have := lt_of h3; exact ⟨by omega, by omega, .inr (.inr (.inr (.inl rfl)))⟩
  · exact e.elim
/-- The document's runner went on. -/
theorem hw_doc {K K' : Nat → Prop} (h1 : GR (plK W.heap.size W) 200 m b ll.length (clOf ll) vb (pvOf ll pb) c V0 X X (fun k => K k ∨ k = wb ∨ False) r) (h3 : X.heap[wb]? = some (.cells #[.pointer (some ⟨m, 0, none⟩), .pointer (some ⟨r, 0, none⟩), sv] 73 (0, 0))) (h4 : V0.heap.size ≤ wb) (h5 : ∀ k, K k → V0.heap.size ≤ k ∧ ¬ False ∧ k ≠ wb) (lo : W.heap.size ≤ V0.heap.size) {st' : Nat} {call' at' : Nat → Nat} (d : D4 Y W.heap.size q nm ll.length st' p c8 call' at' K') (g : Goes X Y K K') : HW W V0 Y ll p c8 c wb q nm m r b sv vb pb st' call' at' (fun _ => False) := by
  have hs := g.chg.size
  have cV : Chg (fun _ => False) V0 Y := h1.chgW.trans g.chg (fun _ _ x => x) (fun k hk e => by have := (h5 k e).1; omega)
  refine ⟨fun k => K' k ∧ k < Y.heap.size, h1.shift (Nat.le_refl _) lo cV hs K (fun k e => .inl e) (fun k a1 a2 _ => g.chg.block k a1 a2) (fun k e => ?_), d.small, (g.chg.block wb (lt_of h3) (fun e => (h5 wb e).2.2 rfl)).trans h3, h4, fun k e => ⟨?_, fun x => x, fun x => ?_⟩, fun x => x⟩
  · have lw := lt_of h3
    rcases e with e | e | e
    · rcases g.new k e.1 with z | z
      · have := h5 k z; exact ⟨by omega, e.2, .inr (.inr (.inl z))⟩
      · have := h1.chgW.size; exact ⟨by omega, e.2, .inr (.inl z)⟩
    · subst e; exact ⟨by omega, by omega, .inr (.inr (.inr (.inl rfl)))⟩
    · exact e.elim
  · rcases g.new k e.1 with z | z
    · exact (h5 k z).1
    · have := h1.chgW.size; omega
  · rcases g.new k e.1 with z | z
    · exact (h5 k z).2.2 x
    · have := lt_of h3; omega
/-- The document's Pick tells whether the pure run can go on there, and goes on with it. -/
theorem hw_pick (h : HW W V0 X ll p c8 c wb q nm m r b sv vb pb st call at_ (fun _ => False)) (hWV : Chg (fun _ => False) W V0) {ap : Nat → Option Addr} {ac : Nat → Nat} {lp : Nat → Nat → Option Addr} {lc : Nat → Nat → Nat} (hP : ThsAt W W.heap.size p ll ap ac lp lc) (hls : ∀ l ∈ ll, l.length ≤ 1048576) (hL : ∀ l ∈ ll, ∀ q ∈ l, q.L.length ≤ 1048576) {d : Cfg PS} (hD : DRel ll.length (clOf ll) d call at_) (hI : PInv ll.length (clOf ll) (qOf ll) d) (hst : st ≤ 16777216) (th : Int) :
    Calls Try.prog 25 #[.pointer (some ⟨q, 0, none⟩), .int .i64 th] X fun e Y => e = .returned (.bool (decide (Cfg.can ll.length (clOf ll) d th))) ∧ ∃ call' at', HW W V0 Y ll p c8 c wb q nm m r b sv vb pb (st + 1) call' at' (fun _ => False) ∧ DRel ll.length (clOf ll) (d.pick (plK W.heap.size W) 200 ll.length (clOf ll) th) call' at' := by
  have cX := h.chg
  have lo := h.lo
  have hPX : ThsAt X W.heap.size p ll ap ac lp lc := hP.low (fun k hk => (cX.block k (by omega) (fun x => x)).trans (hWV.block k hk (fun x => x)))
  have hcl : ∀ i l, ll[i]? = some l → l.length = clOf ll i := fun i l e => by
    have hi := (List.getElem?_eq_some_iff.1 e).1
    rw [lOf_get hi] at e
    injection e with e
    rw [← e]; rfl
  obtain ⟨K, h1, h2, h3, h4, h5, h6⟩ := h
  have hBX : W.heap.size ≤ X.heap.size := by have := cX.size; omega
  by_cases hc : Cfg.can ll.length (clOf ll) d th
  · obtain ⟨z1, z2, z3⟩ := hc
    obtain ⟨i, rfl⟩ : ∃ i : Nat, th = (i : Int) := ⟨th.toNat, by omega⟩
    have hi : i < ll.length := by omega
    have hix : d.ix i < clOf ll i := by simpa using z3
    have hci := hD.ix i hi
    have hcan : Cfg.can ll.length (clOf ll) d (i : Int) := ⟨z1, z2, z3⟩
    have hll := lOf_get hi
    have hqq : (lOf ll i)[call i]? = some (qOf ll i (d.ix i)) := by rw [hci]; exact qOf_get hix
    have hat : at_ i < nst (qOf ll i (d.ix i)) := by
      have a1 := hI.at_ i _ hi hix (Nat.le_refl _)
      rw [hI.pl i _ hi hix] at a1
      rw [hD.at_ i hi hix]; exact a1
    obtain ⟨es, ws, gl, mm, tt, hx⟩ := h2.ex
    refine (d4_pick_yes hx hPX rfl (clOf ll) hcl i hi hst (by show call i < _; omega) hll hqq hat (hL _ (List.mem_of_getElem? hll) _ (List.mem_of_getElem? hqq)) (hls _ (List.mem_of_getElem? hll)) hBX).mono ?_
    rintro e Y ⟨rfl, K', hx', g⟩
    refine ⟨by rw [decide_eq_true hcan], _, _, hw_doc h1 h3 h4 h5 lo hx'.hid g, ?_⟩
    have hr := hD.pick (Lo := W.heap.size) (W0 := W) (most := 200) hI i hi hix
    have e : d.pick (plK W.heap.size W) 200 ll.length (clOf ll) (i : Int) = (d.go (plK W.heap.size W) 200 i).tick := by
      unfold Cfg.pick
      rw [if_pos hcan]
      rfl
    rw [e]
    exact hr
  · have hn : ¬ (0 ≤ th ∧ th < (ll.length : Int) ∧ call th.toNat < clOf ll th.toNat) := fun ⟨z1, z2, z3⟩ => hc ⟨z1, z2, by rw [← hD.ix th.toNat (by omega)]; exact z3⟩
    refine (d4_pick_no h2 hPX rfl (clOf ll) hcl th hst hn).mono ?_
    rintro e Y ⟨rfl, hx', g⟩
    refine ⟨by rw [decide_eq_false hc], _, _, hw_doc h1 h3 h4 h5 lo hx' ⟨g, fun k e => .inl e⟩, ?_⟩
    have e : d.pick (plK W.heap.size W) 200 ll.length (clOf ll) th = d.tick := by
      unfold Cfg.pick
      rw [if_neg hc]
    rw [e]
    exact hD.tick
end
end Go.Proofs.Ytkfmpebhibnniaa
/- StepHistory: what both runs are asked; two traces; picks laid behind picks. -/
namespace Go.Proofs.Ytkfmpebhibnniaa
open Go.RowKit Go.Shelf
set_option linter.unusedVariables false

section
variable {P : Type} {Lo : Nat} {W0 : World} {κ : KindL P Lo W0} {most m b T : Nat} {cl : Nat → Nat} {vb : Nat → Nat} {pv : Nat → Nat → Value} {c : Cfg P} {W Z X Y : World} {S : Nat → Prop} {r : Nat}
theorem gr_events (h : GR κ most m b T cl vb pv c W Z X S r) (hst : c.st ≤ 500000000) : Calls Try.prog 22 #[.pointer (some ⟨r, 0, none⟩)] X fun e Y => ∃ p' c', e = .returned (.slice p' c.evs.length c') ∧ Y.ownsRow 0 112 4 (.slice p' c.evs.length c') c.evs.length (evRow c.evs) ∧ Chg (fun _ => False) X Y := by
  obtain ⟨G, K, vw, tv, ev, av, ths, h⟩ := h
  refine (r_events X h.run (by have := h.evl; omega)).mono ?_
  rintro e Y ⟨p', c', rfl, h1, h2, _⟩
  exact ⟨p', c', rfl, h1, h2⟩
theorem gr_steps (h : GR κ most m b T cl vb pv c W Z X S r) : Calls Try.prog 23 #[.pointer (some ⟨r, 0, none⟩)] X fun e Y => e = .returned (.int .i64 (c.st : Int)) ∧ Y = X := by
  obtain ⟨G, K, vw, tv, ev, av, ths, h⟩ := h
  exact r_steps X h.run
theorem gr_trace (h : GR κ most m b T cl vb pv c W Z X S r) (hst : c.st ≤ 500000000) (hv : ∀ x ∈ c.t, x.vals.length ≤ 1099511627776) : Calls Try.prog 18 #[.pointer (some ⟨m, 0, none⟩)] X fun e Y => ∃ p' c', e = .returned (.slice p' c.t.length c') ∧ Chg (fun _ => False) X Y ∧ ∃ l lk, Traced X Y (.slice p' c.t.length c') l lk l.length ∧ l.map Acc.bare = c.t := by
  obtain ⟨G, K, vw, tv, ev, av, ths, h⟩ := h
  obtain ⟨F, D, md, tg, g⟩ := h.ma
  obtain ⟨l, B, L⟩ := g.bank
  have hl : l.length = c.t.length := by rw [← L]; simp
  refine (m_trace m b most c.next F c.cs l X g.mem B (by have := g.tn; omega) (fun x hx => ?_)).mono ?_
  · have : x.bare ∈ c.t := by rw [← L]; exact List.mem_map_of_mem hx
    have := hv _ this
    show x.bare.vals.length ≤ _
    omega
  · rintro e Y ⟨p', c', lk, rfl, h1⟩
    rw [hl] at h1 ⊢
    exact ⟨p', c', rfl, h1.chg, l, lk, by rw [hl]; exact h1, L⟩
end
theorem traces_like {X1 Y1 X2 Y2 Z : World} {v1 v2 : Value} {l1 lk1 l2 lk2 : List Acc} (t1 : Traced X1 Y1 v1 l1 lk1 l1.length) (t2 : Traced X2 Y2 v2 l2 lk2 l2.length) (c1 : Chg (fun _ => False) Y1 Z) (c2 : Chg (fun _ => False) Y2 Z) (e : l1.map Acc.bare = l2.map Acc.bare) (hv : ∀ x ∈ l1.map Acc.bare, x.vals.length ≤ 1099511627776) : ∀ (i : Nat) (x y : Acc), lk1[i]? = some x → lk2[i]? = some y → LikeV Z x y := by
  intro i x y hx hy
  have i1 : i < l1.length := by rw [← t1.len]; exact (List.getElem?_eq_some_iff.1 hx).1
  have i2 : i < l2.length := by rw [← t2.len]; exact (List.getElem?_eq_some_iff.1 hy).1
  obtain ⟨a, ha⟩ : ∃ a, l1[i]? = some a := ⟨l1[i], List.getElem?_eq_getElem i1⟩
  obtain ⟨d, hd⟩ : ∃ d, l2[i]? = some d := ⟨l2[i], List.getElem?_eq_getElem i2⟩
  obtain ⟨u, hu⟩ := t1.same i a ha
  obtain ⟨w, hw⟩ := t2.same i d hd
  rw [hx] at hu
  rw [hy] at hw
  injection hu with hu
  injection hw with hw
  have eb : a.bare = d.bare := by
    have e1 : (l1.map Acc.bare)[i]? = some a.bare := by rw [List.getElem?_map, ha]; rfl
    have e2 : (l2.map Acc.bare)[i]? = some d.bare := by rw [List.getElem?_map, hd]; rfl
    rw [e, e2] at e1
    injection e1 with e1
    exact e1.symm
  have v1r := row_kept (t1.vals i x i1 hx) (fun k z => c1.block k (row_lt (t1.vals i x i1 hx) k z) (fun q => q))
  have v2r := row_kept (t2.vals i y i2 hy) (fun k z => c2.block k (row_lt (t2.vals i y i2 hy) k z) (fun q => q))
  have hvl : a.vals.length ≤ 1099511627776 := hv a.bare (List.mem_map_of_mem (List.mem_of_getElem? ha))
  obtain ⟨a1, a2, a3, a4, a5, a6, a7, a8, a9⟩ := a
  obtain ⟨b1, b2, b3, b4, b5, b6, b7, b8, b9⟩ := d
  simp only [Acc.bare, Acc.mk.injEq] at eb
  obtain ⟨f1, f2, f3, f4, f5, _, f7, f8, f9⟩ := eb
  subst hu hw
  simp only at v1r v2r hvl
  obtain ⟨p1, c1', e1⟩ := slice_of v1r
  obtain ⟨p2, c2', e2⟩ := slice_of v2r
  subst e1 e2
  subst f7
  exact ⟨f1, f2, f3, f4, f5, f8, f9, a7, by omega, ⟨p1, c1', rfl, UReads.of_row v1r⟩, p2, c2', rfl, UReads.of_row v2r⟩
theorem hist_len {X Y : World} {v : Value} {l lk t : List Acc} (h : Traced X Y v l lk l.length) (e : l.map Acc.bare = t) : lk.length = t.length := by rw [h.len, ← e]; simp
theorem hist_row {X Y Z : World} {v : Value} {l lk t : List Acc} (h : Traced X Y v l lk l.length) (e : l.map Acc.bare = t) (c : Chg (fun _ => False) Y Z) : Z.ownsRow 0 107 8 v t.length (accRow lk) := by
  have el : t.length = l.length := by rw [← e]; simp
  rw [el]
  exact row_kept h.row (fun k z => c.block k (row_lt h.row k z) (fun q => q))
/-- Lengths of what is laid, over the run. -/
theorem run_vals {Lo : Nat} {W0 : World} {most T : Nat} {cl : Nat → Nat} {pl : Nat → Nat → PlP} (hp : ∀ i j, i < T → j < cl i → ∀ d ∈ (pl i j).L, d.vals.length ≤ 1099511627776) : ∀ (l : List Int) (c : Cfg PS), PInv T cl pl c → (∀ x ∈ c.t, x.vals.length ≤ 1099511627776) → PInv T cl pl (c.run (plK Lo W0) most T cl l) ∧ ∀ x ∈ (c.run (plK Lo W0) most T cl l).t, x.vals.length ≤ 1099511627776
  | [], c, h, hv => ⟨h, hv⟩
  | th :: l, c, h, hv => by
    refine run_vals hp l (c.pick (plK Lo W0) most T cl th) (h.pick th).1 ?_
    unfold Cfg.pick
    split
    · rename_i hc
      intro x hx
      have hx' : x ∈ c.t ++ (psS (th.toNat : Int) most c.next c.cs (c.σ th.toNat (c.ix th.toNat))).acc := hx
      rcases List.mem_append.1 hx' with z | z
      · exact hv x z
      · have hpl := h.pl th.toNat _ (by have := hc.1; have := hc.2.1; omega) hc.2.2
        unfold psS at z
        split at z
        · simp at z
        · rw [hpl] at z
          cases hd : (pl th.toNat (c.ix th.toNat)).L[(c.σ th.toNat (c.ix th.toNat)).at_]? with
          | none => rw [hd] at z; simp [nxtT] at z
          | some d =>
            rw [hd] at z
            have hdl := hp th.toNat _ (by have := hc.1; have := hc.2.1; omega) hc.2.2 d (List.mem_of_getElem? hd)
            simp only [nxtT, mkT] at z
            split at z
            · simp at z
              subst z
              unfold mkA
              split
              · simp
              split
              · simp
              split
              · simp
              split
              · simp
              · exact hdl
            · simp at z
    · exact hv
theorem infoIk : (Try.prog.info? 3).map (fun i => (i.zero, i.size, i.bytes)) = some (some (.int .i64 0), 1, 8) := by kernel_rfl
theorem row_emptyI {W : World} {g : Nat} (hg : W.heap[g]? = some (.cells #[] 3 (0, 0))) : W.ownsRow 0 3 1 (.slice (some ⟨g, 0, none⟩) 0 0) ([] : List Int).length (([] : List Int).map i64V) :=
  ⟨rfl, .inr ⟨g, 0, #[], rfl, Nat.zero_le _, hg, Nat.le_refl _, by unfold maxLen; omega, rfl, rfl⟩⟩
theorem run_append_emptyI {P : Program} (w : World) (t ty e : TypeId) (i : TypeInfo) (ht : P.underlying t = some (.slice e)) (hi : P.info? e = some i) (p : Option Addr) (c : Nat) :
    (Builtin.append_ #[t, t] ty #[.slice none 0 0, .slice p 0 c]).run P w = .ok (.slice none 0 0) w := by
  cases p <;> simp [Builtin.append_, run_underlying ht, sizeOf, typeInfo, hi, Builtin.lenOf, Builtin.firstCells, loadCells, loadCellsFrom]
set_option maxRecDepth 100000 in
theorem appI {W : World} {v : Value} {xs l : List Int} {p : Option Addr} {c : Nat} (hv : W.ownsRow 0 3 1 v xs.length (xs.map i64V)) (h : IReads W p l) (h63 : xs.length + l.length ≤ 2199023255552) (ty : TypeId) :
    ∃ v' W', (Builtin.append_ #[66, 66] ty #[v, .slice p l.length c]).run Try.prog W = .ok v' W' ∧ W'.ownsRow 0 3 1 v' (xs ++ l).length ((xs ++ l).map i64V) ∧ W.grownBy W' v.ownBlock ∧ (v'.ownBlock = v.ownBlock ∨ v'.ownBlock = some W.heap.size) := by
  obtain ⟨i0, hi, hz0, hz1, hz2⟩ := info_parts infoIk
  rcases h with rfl | ⟨bk, off, rfl, hb, hc⟩
  · refine ⟨v, W, ?_, by simpa using hv, ⟨rfl, rfl, rfl, Nat.le_refl _, fun _ _ _ => rfl⟩, .inl rfl⟩
    rcases hv.2 with ⟨rfl, h0⟩ | ⟨g, cap, cur, rfl, _, _, hnc, _⟩
    · exact run_append_emptyI (P := Try.prog) W 66 ty 3 i0 Try.underlying66 hi p c
    · cases p <;> simp [Builtin.append_, run_underlying Try.underlying66, sizeOf, typeInfo, hi, Builtin.lenOf, Builtin.firstCells, loadCells, loadCellsFrom, storeCells, hnc]
  · obtain ⟨v', w', hr, h2, h3, h4, h5⟩ := run_append_own_at (P := Try.prog) W 0 66 ty 3 i0 (.int .i64 0) 1 8 Try.underlying66 hi hz0 hz1 hz2 rfl (by decide) v xs.length (xs.map i64V) hv ⟨bk, off, none⟩ l.length c (l.map i64V) (by simp) (fun j u hj => by
      rw [add_plain]
      rw [List.getElem?_map] at hj
      cases hx : l[j]? with
      | none => rw [hx] at hj; cases hj
      | some x => rw [hx] at hj; injection hj with hj; rw [← hj]; exact hc j x hx) (by intro u hu; obtain ⟨x, _, rfl⟩ := List.mem_map.1 hu; rfl) (by unfold maxLen; omega) (by omega) (Nat.zero_le _)
    exact ⟨v', w', hr, by simpa using h2, h3, h5⟩
theorem IReads.of_row {W : World} {p : Option Addr} {c : Nat} {l : List Int} (h : W.ownsRow 0 3 1 (.slice p l.length c) l.length (l.map i64V)) : IReads W p l := by
  rcases h.2 with ⟨e, h0⟩ | ⟨g, cap, cur, e, _, hg, h1, h2, h3, h4⟩
  · exact .inl (List.eq_nil_of_length_eq_zero h0)
  · injection e with e _ _
    subst e
    refine .inr ⟨g, 0, rfl, lt_of hg, fun i x hx => ?_⟩
    have hl := (List.getElem?_eq_some_iff.1 hx).1
    rw [Nat.zero_add]
    rw [World.ownsRow.cellAt h i (by omega), List.getElem?_map, hx]
    rfl
section
variable {W V0 X Y : World} {ll : List (List PlP)} {p : Option Addr} {c8 : Nat} {c : Cfg PS} {wb q nm m r b : Nat} {sv : Value} {vb : Nat → Nat} {pb : Nat → Nat → Nat} {st : Nat} {call at_ : Nat → Nat} {E : Nat → Prop}
theorem hw_run (h : HW W V0 X ll p c8 c wb q nm m r b sv vb pb st call at_ E) (pa : Option Addr) (ca : Nat) (l : List Int) (hl : IReads V0 pa l) (hn : c.st + l.length ≤ 16777216) : Calls Try.prog 20 #[.pointer (some ⟨r, 0, none⟩), .slice pa l.length ca] X fun e Y => e = .returned (.tuple #[]) ∧ HW W V0 Y ll p c8 (c.run (plK W.heap.size W) 200 ll.length (clOf ll) l) wb q nm m r b sv vb pb st call at_ E ∧ ∀ k, E k → Y.heap[k]? = X.heap[k]? := by
  obtain ⟨S, g, hE, f⟩ := h.on
  refine (gr_run pa ca l g hl hn).mono ?_
  rintro e Y ⟨rfl, g'⟩
  exact ⟨rfl, f _ _ g', fun k e => (g'.kept k (hE k e)).1⟩
end
end Go.Proofs.Ytkfmpebhibnniaa
/- Two Loads, a thread each: what their steps do. -/
namespace Go.Proofs.Ytkfmpebhibnniaa
open Go.RowKit Go.Shelf

def bN (d : Bool) : Nat := if d then 1 else 0
theorem bN_lt (d : Bool) : bN d < 1099511627776 := by cases d <;> decide

/-- A memory, two views, two Loads. -/
structure LSt (X : World) (F : Nat → Prop) (m b v0 v1 p0 p1 : Nat) (l : List Acc) (d0 d1 : Bool) (x0 x1 : Nat) : Prop where
  bank : Bank X F b 128 1 [] l
  mem : IsMem X m b
  w0 : IsView X v0 b 0 (bN d0)
  w1 : IsView X v1 b 1 (bN d1)
  q0 : IsLoad X p0 5 x0 d0
  q1 : IsLoad X p1 6 x1 d1
  nm : ¬ F m
  n0 : ¬ F v0
  n1 : ¬ F v1
  k0 : ¬ F p0
  k1 : ¬ F p1
  mv : m ≠ v0 ∧ m ≠ v1 ∧ m ≠ p0 ∧ m ≠ p1
  vv : v0 ≠ v1 ∧ v0 ≠ p0 ∧ v0 ≠ p1 ∧ v1 ≠ p0 ∧ v1 ≠ p1 ∧ p0 ≠ p1
def inK (F : Nat → Prop) (m v0 v1 p0 p1 : Nat) (k : Nat) : Prop := F k ∨ k = m ∨ k = v0 ∨ k = v1 ∨ k = p0 ∨ k = p1
def LS (m b v0 v1 p0 p1 : Nat) (n : Nat) (d0 d1 : Bool) (X : World) (K : Nat → Prop) : Prop := ∃ F l x0 x1, LSt X F m b v0 v1 p0 p1 l d0 d1 x0 x1 ∧ l.length = n ∧ K = inK F m v0 v1 p0 p1

theorem LS.keep {m b v0 v1 p0 p1 n : Nat} {d0 d1 : Bool} {X Y : World} {K : Nat → Prop} (h : LS m b v0 v1 p0 p1 n d0 d1 X K) (hs : X.heap.size ≤ Y.heap.size) (hk : ∀ k, K k → Y.heap[k]? = X.heap[k]?) : LS m b v0 v1 p0 p1 n d0 d1 Y K := by
  obtain ⟨F, l, x0, x1, h, hl, rfl⟩ := h
  exact ⟨F, l, x0, x1, { h with bank := h.bank.kept hs (fun k e => hk k (.inl e)), mem := (hk m (.inr (.inl rfl))).trans h.mem, w0 := (hk v0 (.inr (.inr (.inl rfl)))).trans h.w0, w1 := (hk v1 (.inr (.inr (.inr (.inl rfl))))).trans h.w1, q0 := (hk p0 (.inr (.inr (.inr (.inr (.inl rfl)))))).trans h.q0, q1 := (hk p1 (.inr (.inr (.inr (.inr (.inr rfl)))))).trans h.q1 }, hl, rfl⟩
theorem LS.lt {m b v0 v1 p0 p1 n : Nat} {d0 d1 : Bool} {X : World} {K : Nat → Prop} (h : LS m b v0 v1 p0 p1 n d0 d1 X K) (k : Nat) (hk : K k) : k < X.heap.size := by
  obtain ⟨F, l, x0, x1, h, hl, rfl⟩ := h
  obtain ⟨_, _, B⟩ := h.bank
  rcases hk with e | rfl | rfl | rfl | rfl | rfl
  · exact B.lt k e
  · exact h.mem.lt
  · exact h.w0.lt
  · exact h.w1.lt
  · exact lt_of h.q0
  · exact lt_of h.q1
theorem LS.mem {m b v0 v1 p0 p1 n : Nat} {d0 d1 : Bool} {X : World} {K : Nat → Prop} (h : LS m b v0 v1 p0 p1 n d0 d1 X K) : ∃ b F most next cs l, IsMem X m b ∧ Bank X F b most next cs l ∧ l.length = n ∧ (∀ k, F k → K k) ∧ K m := by
  obtain ⟨F, l, x0, x1, h, hl, rfl⟩ := h
  exact ⟨b, F, 128, 1, [], l, h.mem, h.bank, hl, fun k e => .inl e, .inr (.inl rfl)⟩

set_option maxRecDepth 100000 in
theorem ls_step1 {m b v0 v1 p0 p1 n : Nat} {d0 : Bool} (X : World) (K : Nat → Prop) (h : LS m b v0 v1 p0 p1 n d0 false X K) (hn : n < 1099511627776) :
    Calls Try.prog 37 #[.iface 85 (.pointer (some ⟨p1, 0, none⟩)), .pointer (some ⟨v1, 0, none⟩)] X fun e X' => ∃ d K', e = .returned (.bool d) ∧ (d = true ∧ LS m b v0 v1 p0 p1 (n + 1) d0 true X' K') ∧ Goes X X' K K' := by
  obtain ⟨F, l, x0, x1, h, hl, rfl⟩ := h
  obtain ⟨mv0, mv1, mp0, mp1⟩ := h.mv
  obtain ⟨a1, a2, a3, a4, a5, a6⟩ := h.vv
  have cA : Chg (fun _ => False) X (X.alloc (.cells #[.bool false] 4)) := (Chg.refl _ X).alloc _
  have hsz : (X.alloc (.cells #[.bool false] 4)).heap.size = X.heap.size + 1 := by simp
  obtain ⟨_, _, B0⟩ := h.bank
  have st := s_stepOf_load ⟨p1, 0, none⟩ (.pointer (some ⟨v1, 0, none⟩)) (fun d X1 => d = true ∧ ∃ F' vs, Bank X1 F' b 128 1 [] (l ++ [⟨1, 1, 6, 0, 0, vs, [], cellN [] 6, false⟩]) ∧ IsView X1 v1 b 1 1 ∧ IsLoad X1 p1 6 (cellN [] 6) true ∧ ¬ F' p1 ∧ ¬ F' v1 ∧ Chg (fun k => (F k ∨ k = v1) ∨ k = p1) (X.alloc (.cells #[.bool false] 4)) X1 ∧ ∀ k, F' k → F k ∨ X.heap.size + 1 ≤ k) X ?_
  · refine st.mono ?_
    rintro e X' ⟨d, X1, rfl, ⟨rfl, F', vs, B1, V1, L1, nf1, nf2, C1, N1⟩, hcell, rfl⟩
    have c2 : Chg (fun k => k = X.heap.size) X1 (X1.setCell ⟨X.heap.size, 0, none⟩ (.bool true)) := (Chg.refl (fun k => k = X.heap.size) X1).setCell (p := ⟨X.heap.size, 0, none⟩) (fun _ => rfl) _
    have cX : Chg (fun k => (F k ∨ k = v1) ∨ k = p1) X (X1.setCell ⟨X.heap.size, 0, none⟩ (.bool true)) := (cA.trans C1 (fun _ _ x => x.elim) (fun _ _ x => x)).trans c2 (fun _ _ x => x) (fun i hi x => by omega)
    have ne : ∀ z, z < X.heap.size → z ≠ X.heap.size := fun z hz => by omega
    have nF' : ∀ z, z < X.heap.size → ¬ F z → ¬ F' z := fun z hz hf e => (N1 z e).elim hf (fun e => by omega)
    have nFx : ¬ F' X.heap.size := fun e => (N1 _ e).elim (fun e => by have := B0.lt _ e; omega) (fun e => by omega)
    refine ⟨true, _, rfl, ⟨rfl, F', _, x0, _, ⟨B1.chg c2 (fun k e e2 => nFx (by rw [← e2]; exact e)), h.mem.chg cX (fun e => by rcases e with (e | e) | e; exact h.nm e; exact mv1 e; exact mp1 e), h.w0.chg cX (fun e => by rcases e with (e | e) | e; exact h.n0 e; exact a1 e; exact a3 e), V1.chg c2 (ne _ h.w1.lt), h.q0.chg cX (fun e => by rcases e with (e | e) | e; exact h.k0 e; exact a4 e.symm; exact a6 e), L1.chg c2 (ne _ (lt_of h.q1)), nF' _ h.mem.lt h.nm, nF' _ h.w0.lt h.n0, nf2, nF' _ (lt_of h.q0) h.k0, nf1, h.mv, h.vv⟩, by simp [hl], rfl⟩, ⟨cX.mono (fun k _ e => by rcases e with (e | e) | e; exact .inl e; exact .inr (.inr (.inr (.inl e))); exact .inr (.inr (.inr (.inr (.inr e))))), fun k e => ?_⟩⟩
    rcases e with e | e
    · exact (N1 k e).elim (fun e => .inl (.inl e)) (fun e => .inr (by omega))
    · exact .inl (.inr e)
  · refine (load_step p1 6 x1 v1 b 128 1 0 1 F [] l _ (h.q1.chg cA (fun h => h)) (h.w1.chg cA (fun h => h)) (h.bank.chg cA (fun _ _ h => h)) h.n1 h.k1 (fun e => a5 e.symm) (by omega) (by omega) (by omega)).mono ?_
    rintro e X1 ⟨rfl, F', vs, B1, V1, L1, nf1, nf2, C1, N1⟩
    refine ⟨true, rfl, ⟨rfl, F', vs, B1, V1, L1, nf1, nf2, C1, fun k e => by have := N1 k e; rw [hsz] at this; exact this⟩, ?_⟩
    exact (C1.block _ (by simp) (fun e => by
      rcases e with (e | e) | e
      · have := B0.lt _ e
        omega
      · have := h.w1.lt
        omega
      · have := lt_of h.q1
        omega)).trans (heap_alloc_new _ _)
set_option maxRecDepth 100000 in
theorem ls_step0 {m b v0 v1 p0 p1 n : Nat} {d1 : Bool} (X : World) (K : Nat → Prop) (h : LS m b v0 v1 p0 p1 n false d1 X K) (hn : n < 1099511627776) :
    Calls Try.prog 37 #[.iface 85 (.pointer (some ⟨p0, 0, none⟩)), .pointer (some ⟨v0, 0, none⟩)] X fun e X' => ∃ d K', e = .returned (.bool d) ∧ (d = true ∧ LS m b v0 v1 p0 p1 (n + 1) true d1 X' K') ∧ Goes X X' K K' := by
  obtain ⟨F, l, x0, x1, h, hl, rfl⟩ := h
  obtain ⟨mv0, mv1, mp0, mp1⟩ := h.mv
  obtain ⟨a1, a2, a3, a4, a5, a6⟩ := h.vv
  have cA : Chg (fun _ => False) X (X.alloc (.cells #[.bool false] 4)) := (Chg.refl _ X).alloc _
  have hsz : (X.alloc (.cells #[.bool false] 4)).heap.size = X.heap.size + 1 := by simp
  obtain ⟨_, _, B0⟩ := h.bank
  have st := s_stepOf_load ⟨p0, 0, none⟩ (.pointer (some ⟨v0, 0, none⟩)) (fun d X1 => d = true ∧ ∃ F' vs, Bank X1 F' b 128 1 [] (l ++ [⟨0, 1, 5, 0, 0, vs, [], cellN [] 5, false⟩]) ∧ IsView X1 v0 b 0 1 ∧ IsLoad X1 p0 5 (cellN [] 5) true ∧ ¬ F' p0 ∧ ¬ F' v0 ∧ Chg (fun k => (F k ∨ k = v0) ∨ k = p0) (X.alloc (.cells #[.bool false] 4)) X1 ∧ ∀ k, F' k → F k ∨ X.heap.size + 1 ≤ k) X ?_
  · refine st.mono ?_
    rintro e X' ⟨d, X1, rfl, ⟨rfl, F', vs, B1, V1, L1, nf1, nf2, C1, N1⟩, hcell, rfl⟩
    have c2 : Chg (fun k => k = X.heap.size) X1 (X1.setCell ⟨X.heap.size, 0, none⟩ (.bool true)) := (Chg.refl (fun k => k = X.heap.size) X1).setCell (p := ⟨X.heap.size, 0, none⟩) (fun _ => rfl) _
    have cX : Chg (fun k => (F k ∨ k = v0) ∨ k = p0) X (X1.setCell ⟨X.heap.size, 0, none⟩ (.bool true)) := (cA.trans C1 (fun _ _ x => x.elim) (fun _ _ x => x)).trans c2 (fun _ _ x => x) (fun i hi x => by omega)
    have ne : ∀ z, z < X.heap.size → z ≠ X.heap.size := fun z hz => by omega
    have nF' : ∀ z, z < X.heap.size → ¬ F z → ¬ F' z := fun z hz hf e => (N1 z e).elim hf (fun e => by omega)
    have nFx : ¬ F' X.heap.size := fun e => (N1 _ e).elim (fun e => by have := B0.lt _ e; omega) (fun e => by omega)
    refine ⟨true, _, rfl, ⟨rfl, F', _, _, x1, ⟨B1.chg c2 (fun k e e2 => nFx (by rw [← e2]; exact e)), h.mem.chg cX (fun e => by rcases e with (e | e) | e; exact h.nm e; exact mv0 e; exact mp0 e), V1.chg c2 (ne _ h.w0.lt), h.w1.chg cX (fun e => by rcases e with (e | e) | e; exact h.n1 e; exact a1 e.symm; exact a4 e), L1.chg c2 (ne _ (lt_of h.q0)), h.q1.chg cX (fun e => by rcases e with (e | e) | e; exact h.k1 e; exact a3 e.symm; exact a6 e.symm), nF' _ h.mem.lt h.nm, nf2, nF' _ h.w1.lt h.n1, nf1, nF' _ (lt_of h.q1) h.k1, h.mv, h.vv⟩, by simp [hl], rfl⟩, ⟨cX.mono (fun k _ e => by rcases e with (e | e) | e; exact .inl e; exact .inr (.inr (.inl e)); exact .inr (.inr (.inr (.inr (.inl e))))), fun k e => ?_⟩⟩
    rcases e with e | e
    · exact (N1 k e).elim (fun e => .inl (.inl e)) (fun e => .inr (by omega))
    · exact .inl (.inr e)
  · refine (load_step p0 5 x0 v0 b 128 1 0 0 F [] l _ (h.q0.chg cA (fun h => h)) (h.w0.chg cA (fun h => h)) (h.bank.chg cA (fun _ _ h => h)) h.n0 h.k0 (fun e => a2 e.symm) (by omega) (by omega) (by omega)).mono ?_
    rintro e X1 ⟨rfl, F', vs, B1, V1, L1, nf1, nf2, C1, N1⟩
    refine ⟨true, rfl, ⟨rfl, F', vs, B1, V1, L1, nf1, nf2, C1, fun k e => by have := N1 k e; rw [hsz] at this; exact this⟩, ?_⟩
    exact (C1.block _ (by simp) (fun e => by
      rcases e with (e | e) | e
      · have := B0.lt _ e
        omega
      · have := h.w0.lt
        omega
      · have := lt_of h.q0
        omega)).trans (heap_alloc_new _ _)
end Go.Proofs.Ytkfmpebhibnniaa
/- What must be whatever is asked (package step). -/
namespace Go.Proofs.Ytkfmpebhibnniaa
open Go.RowKit Go.Shelf

theorem row_of {W : World} {g n s : Nat} {cs : Array Value} {e : TypeId} (h : W.heap[g]? = some (.cells cs e (0, 0))) (hs : cs.size = n * s) (hn : n ≤ 1099511627776) : W.ownsRow 0 e s (.slice (some ⟨g, 0, none⟩) n n) n cs.toList :=
  ⟨by simpa using hs, .inr ⟨g, n, cs, rfl, Nat.zero_le _, h, Nat.le_refl _, by unfold maxLen; omega, hs, by rw [List.take_of_length_le]; simp; omega⟩⟩

def loadI (p : Nat) : Value := .iface 85 (.pointer (some ⟨p, 0, none⟩))
def twoL (p0 s0 p1 s1 : Nat) : List (Value × List Value) := [(.slice (some ⟨s0, 0, none⟩) 1 1, [loadI p0]), (.slice (some ⟨s1, 0, none⟩) 1 1, [loadI p1])]
theorem twoL_ok (p0 s0 p1 s1 : Nat) : tooLongB (twoL p0 s0 p1 s1) = false := by simp [tooLongB, twoL]

theorem two_of {α : Type} {l : List α} (h : l.length = 2) : ∃ a b, l = [a, b] := by
  match l, h with
  | [a, b], _ => exact ⟨a, b, rfl⟩

/-- A runner of two Loads that has had no pick. -/
theorem live_start {W6 W7 : World} {G : Nat → Prop} {r m b p0 s0 p1 s1 : Nat} {tv : Value} {ths : List Thr} {vbs : List Nat} (hm : IsMem W6 m b) (hb : Bank W6 (fun k => k = b) b 128 1 [] []) (q0 : IsLoad W6 p0 5 0 false) (q1 : IsLoad W6 p1 6 0 false) (h : Made W6 W7 G r m b tv (twoL p0 s0 p1 s1) ths vbs 2) (hl : ths.length = 2) (hd : m ≠ b ∧ p0 ≠ b ∧ p1 ≠ b ∧ m ≠ p0 ∧ m ≠ p1 ∧ p0 ≠ p1) :
    ∃ v0 v1 c0 c1 g c, vbs = [v0, v1] ∧ ths = [⟨c0, [loadI p0], 0, false⟩, ⟨c1, [loadI p1], 0, false⟩] ∧ tv = .slice (some ⟨g, 0, none⟩) 2 c ∧ LS m b v0 v1 p0 p1 0 false false W7 (inK (fun k => k = b) m v0 v1 p0 p1) ∧ (∀ k, G k → ¬ inK (fun k => k = b) m v0 v1 p0 p1 k) := by
  obtain ⟨v0, v1, rfl⟩ := two_of h.vl
  obtain ⟨t0, t1, rfl⟩ := two_of hl
  obtain ⟨g, c, htv⟩ := slice_pos h.run.tr (by simp)
  obtain ⟨y0, hy0, e0, e1, e2⟩ := h.thr 0 t0 rfl
  obtain ⟨y1, hy1, f0, f1, f2⟩ := h.thr 1 t1 rfl
  simp [twoL] at hy0 hy1
  subst hy0 hy1
  obtain ⟨a0, a1, a2⟩ := h.views 0 v0 rfl
  obtain ⟨b0, b1, b2⟩ := h.views 1 v1 rfl
  have hvv := h.apart 0 1 v0 v1 (by omega) rfl rfl
  have lm := hm.lt
  have l0 := lt_of q0
  have l1 := lt_of q1
  have lb : b < W6.heap.size := by obtain ⟨_, _, B⟩ := hb; exact B.lt b rfl
  refine ⟨v0, v1, t0.cv, t1.cv, g, c, rfl, ?_, by simpa using htv, ⟨fun k => k = b, [], 0, 0, ⟨hb.chg h.chg (fun _ _ h => h), hm.chg h.chg (fun h => h), a0, b0, q0.chg h.chg (fun h => h), q1.chg h.chg (fun h => h), by omega, by omega, by omega, by omega, by omega, by omega, by omega⟩, rfl, rfl⟩, fun k hk e => ?_⟩
  · cases t0
    cases t1
    simp_all
  · have hW := h.inG k hk
    rcases e with e | e | e | e | e | e
    · omega
    · omega
    · exact a2 (by rw [← e]; exact hk)
    · exact b2 (by rw [← e]; exact hk)
    · omega
    · omega

theorem live_lists (W1 W6 : World) (hW : W6 = (((((W1.alloc (.cells #[.int .u64 5, .int .u64 0, .bool false] 126)).alloc (.cells #[.iface 85 (.pointer (some ⟨W1.heap.size, 0, none⟩))] 40)).alloc (.cells #[.int .u64 6, .int .u64 0, .bool false] 126)).alloc (.cells #[.iface 85 (.pointer (some ⟨W1.heap.size + 1 + 1, 0, none⟩))] 40)).alloc (.cells #[.slice (some ⟨W1.heap.size + 1, 0, none⟩) 1 1, .slice (some ⟨W1.heap.size + 1 + 1 + 1, 0, none⟩) 1 1] 38))) :
    Chg (fun _ => False) W1 W6 ∧ IsLoad W6 W1.heap.size 5 0 false ∧ IsLoad W6 (W1.heap.size + 1 + 1) 6 0 false ∧ Lists W6 (.slice (some ⟨W1.heap.size + 1 + 1 + 1 + 1, 0, none⟩) 2 2) (twoL W1.heap.size (W1.heap.size + 1) (W1.heap.size + 1 + 1) (W1.heap.size + 1 + 1 + 1)) := by
  obtain ⟨a1, ha1⟩ : ∃ a1, a1 = W1.alloc (.cells #[.int .u64 5, .int .u64 0, .bool false] 126) := ⟨_, rfl⟩
  obtain ⟨a2, ha2⟩ : ∃ a2, a2 = a1.alloc (.cells #[.iface 85 (.pointer (some ⟨W1.heap.size, 0, none⟩))] 40) := ⟨_, rfl⟩
  obtain ⟨a3, ha3⟩ : ∃ a3, a3 = a2.alloc (.cells #[.int .u64 6, .int .u64 0, .bool false] 126) := ⟨_, rfl⟩
  obtain ⟨a4, ha4⟩ : ∃ a4, a4 = a3.alloc (.cells #[.iface 85 (.pointer (some ⟨W1.heap.size + 1 + 1, 0, none⟩))] 40) := ⟨_, rfl⟩
  rw [← ha1, ← ha2, ← ha3, ← ha4] at hW
  have z1 : a1.heap.size = W1.heap.size + 1 := by rw [ha1]; simp
  have z2 : a2.heap.size = W1.heap.size + 1 + 1 := by rw [ha2]; simp [z1]
  have z3 : a3.heap.size = W1.heap.size + 1 + 1 + 1 := by rw [ha3]; simp [z2]
  have z4 : a4.heap.size = W1.heap.size + 1 + 1 + 1 + 1 := by rw [ha4]; simp [z3]
  have g1 : a1.heap[W1.heap.size]? = some (.cells #[.int .u64 5, .int .u64 0, .bool false] 126 (0, 0)) := by rw [ha1]; exact heap_alloc_new _ _
  have g2 : a2.heap[W1.heap.size + 1]? = some (.cells #[.iface 85 (.pointer (some ⟨W1.heap.size, 0, none⟩))] 40 (0, 0)) := by rw [ha2, ← z1]; exact heap_alloc_new _ _
  have g3 : a3.heap[W1.heap.size + 1 + 1]? = some (.cells #[.int .u64 6, .int .u64 0, .bool false] 126 (0, 0)) := by rw [ha3, ← z2]; exact heap_alloc_new _ _
  have g4 : a4.heap[W1.heap.size + 1 + 1 + 1]? = some (.cells #[.iface 85 (.pointer (some ⟨W1.heap.size + 1 + 1, 0, none⟩))] 40 (0, 0)) := by rw [ha4, ← z3]; exact heap_alloc_new _ _
  have g5 : W6.heap[W1.heap.size + 1 + 1 + 1 + 1]? = some (.cells #[.slice (some ⟨W1.heap.size + 1, 0, none⟩) 1 1, .slice (some ⟨W1.heap.size + 1 + 1 + 1, 0, none⟩) 1 1] 38 (0, 0)) := by rw [hW, ← z4]; exact heap_alloc_new _ _
  have c6 : Chg (fun _ => False) a4 W6 := by rw [hW]; exact (Chg.refl _ _).alloc _
  have c4 : Chg (fun _ => False) a3 W6 := by rw [ha4] at c6; exact ((Chg.refl _ a3).alloc _).trans c6 (fun _ _ x => x) (fun _ _ x => x)
  have c3 : Chg (fun _ => False) a2 W6 := by rw [ha3] at c4; exact ((Chg.refl _ a2).alloc _).trans c4 (fun _ _ x => x) (fun _ _ x => x)
  have c2 : Chg (fun _ => False) a1 W6 := by rw [ha2] at c3; exact ((Chg.refl _ a1).alloc _).trans c3 (fun _ _ x => x) (fun _ _ x => x)
  have c1 : Chg (fun _ => False) W1 W6 := by rw [ha1] at c2; exact ((Chg.refl _ W1).alloc _).trans c2 (fun _ _ x => x) (fun _ _ x => x)
  have h2 := (c3.block _ (by omega) (fun h => h)).trans g2
  have h4 := (c6.block _ (by omega) (fun h => h)).trans g4
  refine ⟨c1, (c2.block _ (by omega) (fun h => h)).trans g1, (c4.block _ (by omega) (fun h => h)).trans g3, ⟨?_, ?_, ?_⟩⟩
  · exact row_of (n := 2) (s := 1) g5 rfl (by omega)
  · intro x hx
    simp [twoL] at hx
    rcases hx with rfl | rfl
    · exact row_of (n := 1) (s := 1) h2 rfl (by omega)
    · exact row_of (n := 1) (s := 1) h4 rfl (by omega)
  · intro x hx u hu
    simp [twoL] at hx
    rcases hx with rfl | rfl
    · simp at hu
      subst hu
      rfl
    · simp at hu
      subst hu
      rfl

set_option maxRecDepth 100000 in
set_option maxHeartbeats 8000000 in
theorem s_live (W : World) : Calls Try.prog 6 #[] W fun e W' => e = .returned (.bool true) ∧ Chg (fun _ => False) W W' := by
  go_enter Try.func6, Try.ntmps6
  go_wp2_with fail
  refine (m_new 128 W (by omega)).mono ?_
  rintro e W1 ⟨rfl, M1, B1, C1, S1⟩
  have HM1 := keepH M1
  have HB1 := keepH B1
  have HS1 := keepH S1
  have HC1 := keepH C1
  clear M1 B1 S1 C1
  go_wp2_with fail
  refine (load_new 5 _).mono ?_
  rintro e w ⟨rfl, rfl⟩
  go_wp2_with fail
  refine (load_new 6 _).mono ?_
  rintro e w ⟨rfl, rfl⟩
  go_wp2_with fail
  obtain ⟨W6, hW6⟩ : ∃ W6, W6 = (((((W1.alloc (.cells #[.int .u64 5, .int .u64 0, .bool false] 126)).alloc (.cells #[.iface 85 (.pointer (some ⟨W1.heap.size, 0, none⟩))] 40)).alloc (.cells #[.int .u64 6, .int .u64 0, .bool false] 126)).alloc (.cells #[.iface 85 (.pointer (some ⟨W1.heap.size + 1 + 1, 0, none⟩))] 40)).alloc (.cells #[.slice (some ⟨W1.heap.size + 1, 0, none⟩) 1 1, .slice (some ⟨W1.heap.size + 1 + 1 + 1, 0, none⟩) 1 1] 38)) := ⟨_, rfl⟩
  rw [← hW6]
  obtain ⟨cL, l0, l1, LL⟩ := live_lists W1 W6 hW6
  have HL := keepH LL
  have HC6 := keepH (HC1.out.trans cL (H := fun _ => False) (fun _ _ x => x) (fun _ _ x => x))
  have HM6 := keepH (HM1.out.chg cL (fun h => h))
  have HB6 := keepH (HB1.out.chg cL (fun _ _ h => h))
  have Hl0 := keepH l0
  have Hl1 := keepH l1
  obtain ⟨n, hn⟩ : ∃ n, n = W1.heap.size := ⟨_, rfl⟩
  rw [← hn] at HL Hl0 Hl1 ⊢
  have HN := keepH hn
  clear hW6 cL l0 l1 LL hn
  refine (s_new (W.heap.size + 1) W.heap.size _ _ W6 HM6.out HL.out (twoL_ok _ _ _ _)).mono ?_
  rintro e W7 ⟨r, G, tv, ths, vbs, rfl, MD, hl⟩
  obtain ⟨v0, v1, c0, c1, g, c, rfl, rfl, rfl, LS7, D7⟩ := live_start HM6.out HB6.out Hl0.out Hl1.out MD hl (by have := HS1.out; have := HN.out; omega)
  have HR7 := keepH MD.run
  have HC7 := keepH (HC6.out.trans MD.chg (H := fun _ => False) (fun _ _ x => x) (fun _ _ x => x))
  have HLS7 := keepH LS7
  have HD7 := keepH D7
  have hGW : Hid (∀ k, G k → W.heap.size ≤ k) := fun k e => by have := MD.inG k e; have := HC6.out.size; omega
  have hKW : Hid (∀ k, inK (fun k => k = W.heap.size) (W.heap.size + 1) v0 v1 n (n + 1 + 1) k → W.heap.size ≤ k) := fun k e => by
    have h1 := (MD.views 0 v0 rfl).2.1
    have h2 := (MD.views 1 v1 rfl).2.1
    have h3 := HN.out
    have h4 := HS1.out
    have h5 := HC6.out.size
    rcases e with e | e | e | e | e | e <;> omega
  clear LS7 D7 MD hl HM6 HB6 Hl0 Hl1 HL HM1 HB1 HC1
  go_wp2_with fail
  refine (r_pick_in (vb := v1) (ths := [⟨c0, [loadI n], 0, false⟩, ⟨c1, [loadI (n + 1 + 1)], 0, false⟩]) (LS (W.heap.size + 1) W.heap.size v0 v1 n (n + 1 + 1) 0 false false) (fun d X K => d = true ∧ LS (W.heap.size + 1) W.heap.size v0 v1 n (n + 1 + 1) 1 false true X K) 0 (fun _ => 1) 1 ⟨c1, [loadI (n + 1 + 1)], 0, false⟩ (loadI (n + 1 + 1)) W7 HR7.out rfl (by simp) rfl rfl HLS7.out HD7.out
    (fun X Y K h hs hk => LS.keep h hs hk) (fun X K h => LS.lt h) (fun X K h => LS.mem h) (fun d X Y K h hs hk => ⟨h.1, LS.keep h.2 hs hk⟩) (fun d X K h => LS.lt h.2) (fun d X K h => LS.mem h.2)
    (fun X K h => ls_step1 X K h (by omega)) (by omega) (by simp) (by omega) (fun _ => by omega)).mono ?_
  rintro e W8 ⟨d, G8, K8, ev8, av8, rfl, R8, ⟨rfl, LS8⟩, D8, GG8⟩
  have HR8 := keepH R8
  have HLS8 := keepH LS8
  have HD8 := keepH D8
  have HG8 := keepH GG8
  clear R8 LS8 D8 GG8 HR7 HLS7 HD7
  go_wp2_with fail
  refine (r_pick_out 7 W8 HR8.out (.inr (by simp)) (by omega)).mono ?_
  rintro e W9 ⟨rfl, R9, GG9⟩
  have HR9 := keepH R9
  have HG9 := keepH GG9
  clear R9 GG9 HR8
  go_wp2_with fail
  refine (r_pick_done (ths := [⟨c0, [loadI n], 0, false⟩, pickThr ⟨c1, [loadI (n + 1 + 1)], 0, false⟩ true]) 1 (pickThr ⟨c1, [loadI (n + 1 + 1)], 0, false⟩ true) W9 HR9.out rfl (by simp [pickThr]) (by omega)).mono ?_
  rintro e W10 ⟨rfl, R10, GG10⟩
  have HR10 := keepH R10
  have HG10 := keepH GG10
  clear R10 GG10 HR9
  go_wp2_with fail
  refine (r_done W10 HR10.out).mono ?_
  rintro e w ⟨rfl, q, rfl⟩
  have t1 : allDone [⟨c0, [loadI n], 0, false⟩, pickThr ⟨c1, [loadI (n + 1 + 1)], 0, false⟩ true] = false := rfl
  have LS10 : Hid (LS (W.heap.size + 1) W.heap.size v0 v1 n (n + 1 + 1) 1 false true (W10.drewN q) K8) := (HLS8.out.keep HG9.out.chg.size (fun k hk => HG9.out.chg.block k (HLS8.out.lt k hk) (fun e => HD8.out k e hk))).keep (Nat.le_trans HG10.out.chg.size (Nat.le_refl _)) (fun k hk => HG10.out.chg.block k (Nat.lt_of_lt_of_le (HLS8.out.lt k hk) HG9.out.chg.size) (fun e => HD8.out k e hk))
  have HR11 := keepH (HR10.out.kept (W' := W10.drewN q) (Nat.le_refl _) (fun _ _ => rfl))
  clear HR10
  go_wp2_with fail
  refine (r_pick_in (vb := v0) (ths := [⟨c0, [loadI n], 0, false⟩, pickThr ⟨c1, [loadI (n + 1 + 1)], 0, false⟩ true]) (LS (W.heap.size + 1) W.heap.size v0 v1 n (n + 1 + 1) 1 false true) (fun d X K => d = true ∧ LS (W.heap.size + 1) W.heap.size v0 v1 n (n + 1 + 1) 2 true true X K) 1 (fun _ => 2) 0 ⟨c0, [loadI n], 0, false⟩ (loadI n) (W10.drewN q) HR11.out rfl (by simp) rfl rfl LS10.out HD8.out
    (fun X Y K h hs hk => LS.keep h hs hk) (fun X K h => LS.lt h) (fun X K h => LS.mem h) (fun d X Y K h hs hk => ⟨h.1, LS.keep h.2 hs hk⟩) (fun d X K h => LS.lt h.2) (fun d X K h => LS.mem h.2)
    (fun X K h => ls_step0 X K h (by omega)) (by omega) (by simp [pickEvs]) (by omega) (fun _ => by omega)).mono ?_
  rintro e W12 ⟨d, G12, K12, ev12, av12, rfl, R12, ⟨rfl, LS12⟩, D12, GG12⟩
  have HR12 := keepH R12
  have HLS12 := keepH LS12
  have HC12 : Hid (Chg (fun _ => False) W W12) := by
    have a1 := HC7.out.trans HG8.out.chg (H := fun _ => False) (fun _ _ x => x) (fun k hk e => by rcases e with e | e; have := hGW.out k e; omega; have := hKW.out k e; omega)
    have n8 : ∀ k, G8 k ∨ K8 k → W.heap.size ≤ k := fun k e => (HG8.out.new k e).elim (fun e => e.elim (hGW.out k) (hKW.out k)) (fun e => Nat.le_trans HC7.out.size e)
    have a2 := a1.trans HG9.out.chg (H := fun _ => False) (fun _ _ x => x) (fun k hk e => by have := n8 k (.inl e); omega)
    have a3 := a2.trans HG10.out.chg (H := fun _ => False) (fun _ _ x => x) (fun k hk e => by have := n8 k (.inl e); omega)
    have a4 := a3.trans (Goes.drewN W10 (fun _ => False) q).chg (H := fun _ => False) (fun _ _ x => x) (fun _ _ x => x)
    exact a4.trans GG12.chg (fun _ _ x => x) (fun k hk e => by have := n8 k e; omega)
  clear R12 LS12 D12 GG12 HR11 LS10 HG8 HG9 HG10 HC7
  go_wp2_with fail
  refine (r_done W12 HR12.out).mono ?_
  rintro e w ⟨rfl, q2, rfl⟩
  have t2 : allDone [pickThr ⟨c0, [loadI n], 0, false⟩ true, pickThr ⟨c1, [loadI (n + 1 + 1)], 0, false⟩ true] = true := rfl
  have HR13 := keepH (HR12.out.kept (W' := W12.drewN q2) (Nat.le_refl _) (fun _ _ => rfl))
  go_wp2_with fail
  refine (r_steps _ HR13.out).mono ?_
  rintro e w ⟨rfl, rfl⟩
  obtain ⟨evs, ats, hel, hal, ev13, av13, G13, HRx⟩ : ∃ (evs : List Ev) (ats : List Int), evs.length = 4 ∧ ats.length = 2 ∧ ∃ ev av G, Hid (RunAt (W12.drewN q2) G r (W.heap.size + 1) (vwOf [v0, v1]) (.slice (some ⟨g, 0, none⟩) 2 c) ev av [pickThr ⟨c0, [loadI n], 0, false⟩ true, pickThr ⟨c1, [loadI (n + 1 + 1)], 0, false⟩ true] 4 evs ats) := ⟨_, _, rfl, rfl, _, _, _, HR13.out⟩
  clear HR12 HR13
  go_wp2_with fail
  refine (r_events _ HRx.out (by omega)).mono ?_
  rintro e W14 ⟨p14, c14, rfl, R14, C14, B14⟩
  have HR14 := keepH (HRx.out.chg C14 (fun _ _ h => h))
  have LS14 := keepH ((HLS12.out.keep (Y := W12.drewN q2) (Nat.le_refl _) (fun _ _ => rfl)).keep C14.size (fun k hk => C14.block k (HLS12.out.lt k hk) (fun h => h)))
  have HC14 := keepH ((HC12.out.trans (Goes.drewN W12 (fun _ => False) q2).chg (H := fun _ => False) (fun _ _ x => x) (fun _ _ x => x)).trans C14 (H := fun _ => False) (fun _ _ x => x) (fun _ _ x => x))
  clear R14 C14 B14 HRx
  go_wp2_with fail
  obtain ⟨b', F', most', next', cs', l', hm', hb', hll', _, _⟩ := LS14.out.mem
  have he2 : (extN ats l'.length (-1)).length = 2 := by rw [extN_length, hal, hll']; rfl
  refine (r_at _ HR14.out hm' hb' (by omega) (by omega)).mono ?_
  rintro e W15 ⟨p15, c15, rfl, R15, C15, B15⟩
  have HC15 := keepH (HC14.out.trans C15 (H := fun _ => False) (fun _ _ x => x) (fun _ _ x => x))
  clear R15 C15 B15 hm' hb' hll'
  go_wp2_with fail
  go_ret
  exact ⟨by simp, HC15.out⟩
end Go.Proofs.Ytkfmpebhibnniaa
/- Picks that come in. -/
namespace Go.Proofs.Ytkfmpebhibnniaa
open Go.RowKit Go.Shelf Go.Joins Go.ChangeShapes Go.WideShapes Go.Deep
set_option linter.unusedVariables false

theorem coInt : Try.prog.cellsOf 3 = 1 := by kernel_rfl

set_option maxRecDepth 100000 in
theorem ints_open {H : Type} {enc : TypeId × Value → H} {W : World} {sp : Nat → Bool} {held : Bool} {p : Option Addr} {n c : Nat} {d : DataW H} {ps : List MemPlace} (h : DataW.Trod enc Try.prog W 0 sp held 66 (.slice p n c) d ps) :
    ∃ xs : List Int, xs.length = n ∧ IReads W p xs ∧ n ≤ Rows.uptoBulk d ∧ ∀ x ∈ xs, (Lit.int .i64 x).wf = true := by
  obtain ⟨fuel, hf⟩ := h
  rcases open_ints Try.underlying66 Try.underlying3 coInt hf with ⟨hcs, _⟩ | ⟨a, len, cap, zs, hcs, _, hl, hm, hme, hx, hi, hw⟩
  · simp [Value.cells] at hcs
    obtain ⟨rfl, rfl, rfl⟩ := hcs
    exact ⟨[], rfl, .inl rfl, Nat.zero_le _, fun x hx => by simp at hx⟩
  · simp [Value.cells] at hcs
    obtain ⟨rfl, rfl, rfl⟩ := hcs
    have hmn : n ≤ zs.length := by rw [hme]; split <;> omega
    have hb : n ≤ Rows.uptoBulk d := by
      simp only [Prod.mk.injEq] at hx
      rw [hx.1]
      have := bulk_length (H := H) (lits .i64 (zs.take n))
      simp only [Rows.uptoBulk]
      have e : (lits (H := H) .i64 (zs.take n)).length = n := by simp [lits]; omega
      omega
    refine ⟨zs.take n, by simp; omega, ?_, hb, fun x hx => hw x (List.mem_of_mem_take hx)⟩
    rcases Nat.eq_zero_or_pos n with h0 | h0
    · exact .inl (by rw [h0]; rfl)
    · obtain ⟨bk, off, spot⟩ := a
      have c0 := hi 0 (by omega)
      have hspot : spot = none := by simpa [Addr.add] using World.cell?_spot c0
      subst hspot
      have hbk : bk < W.heap.size := by
        by_cases cb : bk < W.heap.size
        · exact cb
        · simp [World.cell?, Addr.add, Array.getElem?_eq_none (show W.heap.size ≤ bk by omega)] at c0
      refine .inr ⟨bk, off, rfl, hbk, fun i x hx => ?_⟩
      have hin : i < n := by
        have := (List.getElem?_eq_some_iff.1 hx).1
        simp at this
        omega
      rw [List.getElem?_take, if_pos hin] at hx
      have e := hi i (by omega)
      rw [List.getD_eq_getElem?_getD, hx] at e
      have e3 : (⟨bk, off, none⟩ : Addr).add i = ⟨bk, off + i, none⟩ := by
        unfold Addr.add
        split <;> simp
      rw [← e3]
      simpa using e
end Go.Proofs.Ytkfmpebhibnniaa
