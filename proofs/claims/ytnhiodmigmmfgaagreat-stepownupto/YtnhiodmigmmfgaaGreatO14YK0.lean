/- The document's runner beside the pure run; what lies in memory between the parts of StepHistory. -/
import Derived.Test.YtnhiodmigmmfgaaGreatO11YI1
import Derived.Test.YtnhiodmigmmfgaaGreatO12Yu
import Derived.Test.YtnhiodmigmmfgaaGreatO7Y6
import Derived.Test.YtnhiodmigmmfgaaGreatO13YD
namespace Go.Proofs.YtnhiodmigmmfgaaGreat
open Go.RowKit Go.Shelf
set_option linter.unusedVariables false

/-- The document's calls and steps are the pure run's. -/
structure DRel (T : Nat) (cl : Nat → Nat) (d : Cfg PS) (call at_ : Nat → Nat) : Prop where
  ix : ∀ i, i < T → call i = d.ix i
  at_ : ∀ i, i < T → d.ix i < cl i → at_ i = (d.σ i (d.ix i)).at_
  nx : ∀ i j, i < T → j < cl i → d.ix i < j → (d.σ i j).at_ = 0
section
variable {Lo : Nat} {W0 : World} {most T : Nat} {cl : Nat → Nat} {pl : Nat → Nat → PlP} {c : Cfg PS}
theorem ps_done {s : PS} (h : s.at_ < nst s.pl) (th : Int) (next : Nat) (cs : List Nat) : (psS th most next cs s).done = decide (nst s.pl ≤ s.at_ + 1) ∧ ((psS th most next cs s).done = false → (psS th most next cs s).s.at_ = s.at_ + 1) := by
  rw [nst_done]
  unfold psS
  by_cases hn : s.pl.none = true
  · simp [hn]
  · simp only [if_neg hn]
    refine ⟨by simp [hn], fun z => ?_⟩
    have z' := of_decide_eq_false z
    rw [List.getElem?_eq_getElem (show s.at_ < s.pl.L.length by omega)]
    rfl
theorem DRel.pick {call at_ : Nat → Nat} (h : DRel T cl c call at_) (hP : PInv T cl pl c) (i : Nat) (hi : i < T) (hj : c.ix i < cl i) : DRel T cl (c.go (plK Lo W0) most i).tick (fun j => if j = i then (if nst (pl i (c.ix i)) ≤ at_ i + 1 then call i + 1 else call i) else call j) (fun j => if j = i then (if nst (pl i (c.ix i)) ≤ at_ i + 1 then 0 else at_ i + 1) else at_ j) := by
  have hpl := hP.pl i _ hi hj
  have hat := hP.at_ i _ hi hj (Nat.le_refl _)
  have ha := h.at_ i hi hj
  obtain ⟨d1, d2⟩ := ps_done (most := most) hat (i : Int) c.next c.cs
  rw [hpl, ← ha] at d1
  obtain ⟨d, hd⟩ : ∃ d, d = (psS (i : Int) most c.next c.cs (c.σ i (c.ix i))).done := ⟨_, rfl⟩
  obtain ⟨s', hs'⟩ : ∃ s', s' = (psS (i : Int) most c.next c.cs (c.σ i (c.ix i))).s := ⟨_, rfl⟩
  rw [← hd] at d1 d2
  rw [← hs'] at d2
  have hix : ∀ t, (c.go (plK Lo W0) most i).tick.ix t = if t = i then (if d = true then c.ix i + 1 else c.ix i) else c.ix t := fun t => by
    show updN c.ix i _ t = _
    unfold updN
    rw [hd]
    rfl
  have hsg : ∀ t q, (c.go (plK Lo W0) most i).tick.σ t q = if t = i then (if q = c.ix i then s' else c.σ i q) else c.σ t q := fun t q => by
    show updN c.σ i _ t q = _
    unfold updN
    rw [hs']
    split <;> rfl
  refine ⟨fun t ht => ?_, fun t ht hlt => ?_, fun t q ht hq hlt => ?_⟩
  · rw [hix]
    by_cases e : t = i
    · subst e
      rw [if_pos rfl, if_pos rfl, h.ix t ht, d1]
      by_cases z : nst (pl t (c.ix t)) ≤ at_ t + 1
      · rw [if_pos z, if_pos (decide_eq_true z)]
      · rw [if_neg z, if_neg (by simpa using z)]
    · rw [if_neg e, if_neg e]; exact h.ix t ht
  · rw [hix] at hlt ⊢
    rw [hsg]
    by_cases e : t = i
    · subst e
      rw [if_pos rfl] at hlt
      rw [if_pos rfl, if_pos rfl, if_pos rfl]
      by_cases z : nst (pl t (c.ix t)) ≤ at_ t + 1
      · have dt : d = true := by rw [d1]; exact decide_eq_true z
        rw [if_pos z]
        rw [if_pos dt] at hlt ⊢
        rw [if_neg (by omega)]
        exact (h.nx t _ ht hlt (by omega)).symm
      · have df : d = false := by rw [d1]; exact decide_eq_false z
        rw [if_neg z, df]
        simp only [Bool.false_eq_true, if_false, if_true]
        rw [d2 df, ← ha]
    · rw [if_neg e] at hlt
      rw [if_neg e, if_neg e, if_neg e]
      exact h.at_ t ht hlt
  · rw [hix] at hlt
    rw [hsg]
    by_cases e : t = i
    · subst e
      rw [if_pos rfl] at hlt
      rw [if_pos rfl]
      have : c.ix t < q := by split at hlt <;> omega
      rw [if_neg (by omega)]
      exact h.nx t q ht hq this
    · rw [if_neg e] at hlt
      rw [if_neg e]
      exact h.nx t q ht hq hlt
theorem DRel.tick {call at_ : Nat → Nat} (h : DRel T cl c call at_) : DRel T cl c.tick call at_ := ⟨h.ix, h.at_, h.nx⟩
end
theorem pinv_start (ll : List (List PlP)) (lp : Nat → Nat → Option Addr) (lc : Nat → Nat → Nat) : PInv ll.length (clOf ll) (qOf ll) (c0Of ll lp lc) := ⟨fun i j _ _ => rfl, fun i j _ _ _ => nst_pos _, fun i _ h => by cases h⟩
theorem drel_start (ll : List (List PlP)) (lp : Nat → Nat → Option Addr) (lc : Nat → Nat → Nat) : DRel ll.length (clOf ll) (c0Of ll lp lc) (fun _ => 0) (fun _ => 0) := ⟨fun _ _ => rfl, fun _ _ _ => rfl, fun _ _ _ _ _ => rfl⟩
theorem lt_kept {X Y : World} {k : Nat} (h : k < X.heap.size) (e : Y.heap[k]? = X.heap[k]?) : k < Y.heap.size := by
  rw [Array.getElem?_eq_getElem h] at e
  exact (Array.getElem?_eq_some_iff.1 e).1
theorem D4.keep2 {X Y : World} {B r nm T st : Nat} {p : Option Addr} {c8 : Nat} {call at_ : Nat → Nat} {K : Nat → Prop} (h : D4 X B r nm T st p c8 call at_ K) (hk : ∀ k, K k → Y.heap[k]? = X.heap[k]?) : D4 Y B r nm T st p c8 call at_ K := by
  obtain ⟨tg, gc, ga, gg, ev, wv, es, ws, gv, gl, R, m, t, h, hK⟩ := h
  have kk : ∀ k, tg k ≠ 0 → Y.heap[k]? = X.heap[k]? := fun k e => hk k (hK k e)
  obtain ⟨l, ⟨nc, av, os, g⟩, hl2⟩ := h.rm
  have kR : ∀ k, R k → Y.heap[k]? = X.heap[k]? := fun k e => kk k (by rw [h.tR k e]; decide)
  have g2 : RMemAt Y R nm nc av 200 m.next os m.cs l := ⟨(kR nm g.inn).trans g.blk, (kR nc g.inc).trans g.own, g.os, row_kept g.acc fun k e => kR k (g.ina k e), fun x hx => row_kept (g.vals x hx) fun k e => kR k (g.inv x hx k e), g.inn, g.inc, g.ina, g.inv, g.ne, fun k e => lt_kept (g.lt k e) (kR k e), g.nn, g.small⟩
  exact ⟨tg, gc, ga, gg, ev, wv, es, ws, gv, gl, R, m, t, ⟨(kk r (by rw [h.tr]; decide)).trans h.blk, (kk gc (by rw [h.tc]; decide)).trans h.cb, (kk ga (by rw [h.ta]; decide)).trans h.ab, (kk gg (by rw [h.tG]; decide)).trans h.gb, row_kept h.er (fun k e => kk k (by rw [h.te k e]; decide)), row_kept h.wr (fun k e => kk k (by rw [h.tw k e]; decide)), fun i hi => row_kept (h.gr i hi) (fun k e => kk k (by rw [h.tg_ i k hi e]; omega)), ⟨l, ⟨nc, av, os, g2⟩, hl2⟩, h.tr, h.tc, h.ta, h.tG, h.te, h.tw, h.tR, h.tg_, fun k e => ⟨(h.lo k e).1, lt_kept (h.lo k e).2 (kk k e)⟩, h.bd⟩, hK⟩
/-- The program's run and the document's runner, with the block that holds them. -/
def HW (W V0 X : World) (ll : List (List PlP)) (p : Option Addr) (c8 : Nat) (c : Cfg PS) (wb q nm m r b : Nat) (sv : Value) (vb : Nat → Nat) (pb : Nat → Nat → Nat) (st : Nat) (call at_ : Nat → Nat) (E : Nat → Prop) : Prop :=
  ∃ K, GR (plK W.heap.size W) 200 m b ll.length (clOf ll) vb (pvOf ll pb) c V0 X X (fun k => K k ∨ k = wb ∨ E k) r ∧ D4 X W.heap.size q nm ll.length st p c8 call at_ K ∧ X.heap[wb]? = some (.cells #[.pointer (some ⟨m, 0, none⟩), .pointer (some ⟨r, 0, none⟩), sv] 33 (0, 0)) ∧ V0.heap.size ≤ wb ∧ (∀ k, K k → V0.heap.size ≤ k ∧ ¬ E k ∧ k ≠ wb) ∧ ¬ E wb
section
variable {W V0 X Y : World} {ll : List (List PlP)} {p : Option Addr} {c8 : Nat} {c : Cfg PS} {wb q nm m r b : Nat} {sv : Value} {vb : Nat → Nat} {pb : Nat → Nat → Nat} {st : Nat} {call at_ : Nat → Nat} {E E' : Nat → Prop}
theorem HW.quiet (h : HW W V0 X ll p c8 c wb q nm m r b sv vb pb st call at_ E) (g : Chg (fun _ => False) X Y) : HW W V0 Y ll p c8 c wb q nm m r b sv vb pb st call at_ E := by
  obtain ⟨K, h1, h2, h3, h4, h5, h6⟩ := h
  refine ⟨K, h1.rebase g (fun k e => .inl e), h2.keep2 (fun k e => g.block k (h1.kept k (.inl e)).2 (fun x => x)), (g.block wb (lt_of h3) (fun x => x)).trans h3, h4, h5, h6⟩
theorem HW.chg (h : HW W V0 X ll p c8 c wb q nm m r b sv vb pb st call at_ E) : Chg (fun _ => False) V0 X := by
  obtain ⟨K, h1, _⟩ := h
  exact h1.chgW
theorem HW.cell (h : HW W V0 X ll p c8 c wb q nm m r b sv vb pb st call at_ E) : X.cell? ⟨wb, 1, none⟩ = some (.pointer (some ⟨r, 0, none⟩)) ∧ X.cell? ⟨wb, 0, none⟩ = some (.pointer (some ⟨m, 0, none⟩)) := by
  obtain ⟨K, h1, h2, h3, _⟩ := h
  exact ⟨cell_of h3 1, cell_of h3 0⟩
/-- What the run itself did. -/
theorem HW.on (h : HW W V0 X ll p c8 c wb q nm m r b sv vb pb st call at_ E) : ∃ S, GR (plK W.heap.size W) 200 m b ll.length (clOf ll) vb (pvOf ll pb) c V0 X X S r ∧ (∀ k, E k → S k) ∧ ∀ c' Y, GR (plK W.heap.size W) 200 m b ll.length (clOf ll) vb (pvOf ll pb) c' V0 X Y S r → HW W V0 Y ll p c8 c' wb q nm m r b sv vb pb st call at_ E := by
  obtain ⟨K, h1, h2, h3, h4, h5, h6⟩ := h
  refine ⟨_, h1, fun k e => .inr (.inr e), fun c' Y g => ?_⟩
  have kp := fun k e => (g.kept k e).1
  exact ⟨K, g.rebase (Chg.refl _ _) (fun k e => .inl e), h2.keep2 (fun k e => kp k (.inl e)), (kp wb (.inr (.inl rfl))).trans h3, h4, h5, h6⟩
end
end Go.Proofs.YtnhiodmigmmfgaaGreat
/- StepHistory: what both runs are asked; two traces; picks laid behind picks. -/
namespace Go.Proofs.YtnhiodmigmmfgaaGreat
open Go.RowKit Go.Shelf
set_option linter.unusedVariables false

section
variable {P : Type} {Lo : Nat} {W0 : World} {κ : KindL P Lo W0} {most m b T : Nat} {cl : Nat → Nat} {vb : Nat → Nat} {pv : Nat → Nat → Value} {c : Cfg P} {W Z X Y : World} {S : Nat → Prop} {r : Nat}
theorem gr_events (h : GR κ most m b T cl vb pv c W Z X S r) (hst : c.st ≤ 500000000) : Calls Tryz.prog 17 #[.pointer (some ⟨r, 0, none⟩)] X fun e Y => ∃ p' c', e = .returned (.slice p' c.evs.length c') ∧ Y.ownsRow 0 100 4 (.slice p' c.evs.length c') c.evs.length (evRow c.evs) ∧ Chg (fun _ => False) X Y := by
  obtain ⟨G, K, vw, tv, ev, av, ths, h⟩ := h
  refine (r_events X h.run (by have := h.evl; omega)).mono ?_
  rintro e Y ⟨p', c', rfl, h1, h2, _⟩
  exact ⟨p', c', rfl, h1, h2⟩
theorem gr_steps (h : GR κ most m b T cl vb pv c W Z X S r) : Calls Tryz.prog 26 #[.pointer (some ⟨r, 0, none⟩)] X fun e Y => e = .returned (.int .i64 (c.st : Int)) ∧ Y = X := by
  obtain ⟨G, K, vw, tv, ev, av, ths, h⟩ := h
  exact r_steps X h.run
theorem gr_trace (h : GR κ most m b T cl vb pv c W Z X S r) (hst : c.st ≤ 500000000) (hv : ∀ x ∈ c.t, x.vals.length ≤ 1099511627776) : Calls Tryz.prog 47 #[.pointer (some ⟨m, 0, none⟩)] X fun e Y => ∃ p' c', e = .returned (.slice p' c.t.length c') ∧ Chg (fun _ => False) X Y ∧ ∃ l lk, Traced X Y (.slice p' c.t.length c') l lk l.length ∧ l.map Acc.bare = c.t := by
  obtain ⟨G, K, vw, tv, ev, av, ths, h⟩ := h
  obtain ⟨F, D, md, tg, g⟩ := h.ma
  obtain ⟨l, B, L⟩ := g.bank
  have hl : l.length = c.t.length := by rw [← L]; simp
  refine (m_trace m b most c.next F c.cs l X g.mem B (by have := g.tn; omega) (fun x hx => ?_)).mono ?_
  · have : x.bare ∈ c.t := by rw [← L]; exact List.mem_map_of_mem hx
    have := hv _ this
    show x.bare.vals.length ≤ _
    omega
  · rintro e Y ⟨p', c', lk, rfl, h1⟩
    rw [hl] at h1 ⊢
    exact ⟨p', c', rfl, h1.chg, l, lk, by rw [hl]; exact h1, L⟩
end
theorem hist_len {X Y : World} {v : Value} {l lk t : List Acc} (h : Traced X Y v l lk l.length) (e : l.map Acc.bare = t) : lk.length = t.length := by rw [h.len, ← e]; simp
theorem hist_row {X Y Z : World} {v : Value} {l lk t : List Acc} (h : Traced X Y v l lk l.length) (e : l.map Acc.bare = t) (c : Chg (fun _ => False) Y Z) : Z.ownsRow 0 144 8 v t.length (accRow lk) := by
  have el : t.length = l.length := by rw [← e]; simp
  rw [el]
  exact row_kept h.row (fun k z => c.block k (row_lt h.row k z) (fun q => q))
/-- Lengths of what is laid, over the run. -/
theorem run_vals {Lo : Nat} {W0 : World} {most T : Nat} {cl : Nat → Nat} {pl : Nat → Nat → PlP} (hp : ∀ i j, i < T → j < cl i → ∀ d ∈ (pl i j).L, d.vals.length ≤ 1099511627776) : ∀ (l : List Int) (c : Cfg PS), PInv T cl pl c → (∀ x ∈ c.t, x.vals.length ≤ 1099511627776) → PInv T cl pl (c.run (plK Lo W0) most T cl l) ∧ ∀ x ∈ (c.run (plK Lo W0) most T cl l).t, x.vals.length ≤ 1099511627776
  | [], c, h, hv => ⟨h, hv⟩
  | th :: l, c, h, hv => by
    refine run_vals hp l (c.pick (plK Lo W0) most T cl th) (h.pick th).1 ?_
    unfold Cfg.pick
    split
    · rename_i hc
      intro x hx
      have hx' : x ∈ c.t ++ (psS (th.toNat : Int) most c.next c.cs (c.σ th.toNat (c.ix th.toNat))).acc := hx
      rcases List.mem_append.1 hx' with z | z
      · exact hv x z
      · have hpl := h.pl th.toNat _ (by have := hc.1; have := hc.2.1; omega) hc.2.2
        unfold psS at z
        split at z
        · simp at z
        · rw [hpl] at z
          cases hd : (pl th.toNat (c.ix th.toNat)).L[(c.σ th.toNat (c.ix th.toNat)).at_]? with
          | none => rw [hd] at z; simp [nxtT] at z
          | some d =>
            rw [hd] at z
            have hdl := hp th.toNat _ (by have := hc.1; have := hc.2.1; omega) hc.2.2 d (List.mem_of_getElem? hd)
            simp only [nxtT, mkT] at z
            split at z
            · simp at z
              subst z
              unfold mkA
              split
              · simp
              split
              · simp
              split
              · simp
              split
              · simp
              · exact hdl
            · simp at z
    · exact hv
theorem infoIk : (Tryz.prog.info? 3).map (fun i => (i.zero, i.size, i.bytes)) = some (some (.int .i64 0), 1, 8) := by kernel_rfl
theorem IReads.of_row {W : World} {p : Option Addr} {c : Nat} {l : List Int} (h : W.ownsRow 0 3 1 (.slice p l.length c) l.length (l.map i64V)) : IReads W p l := by
  rcases h.2 with ⟨e, h0⟩ | ⟨g, cap, cur, e, _, hg, h1, h2, h3, h4⟩
  · exact .inl (List.eq_nil_of_length_eq_zero h0)
  · injection e with e _ _
    subst e
    refine .inr ⟨g, 0, rfl, lt_of hg, fun i x hx => ?_⟩
    have hl := (List.getElem?_eq_some_iff.1 hx).1
    rw [Nat.zero_add]
    rw [World.ownsRow.cellAt h i (by omega), List.getElem?_map, hx]
    rfl
section
variable {W V0 X Y : World} {ll : List (List PlP)} {p : Option Addr} {c8 : Nat} {c : Cfg PS} {wb q nm m r b : Nat} {sv : Value} {vb : Nat → Nat} {pb : Nat → Nat → Nat} {st : Nat} {call at_ : Nat → Nat} {E : Nat → Prop}
end
end Go.Proofs.YtnhiodmigmmfgaaGreat
