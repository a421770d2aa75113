/- Two runs that take turns, with all that the law keeps of both (for StepApart). -/
import Derived.Test.YtnhiodmigmmfgaaQ11YS
import Derived.Test.YtnhiodmigmmfgaaQ7SAsk
import Derived.Test.YtnhiodmigmmfgaaQ3SPickIn
namespace Go.Proofs.Ytnhiodmigmmfgaa
open Go.RowKit Go.Shelf
set_option linter.unusedVariables false

section
variable {Lo : Nat} {W0 : World} {T : Nat} {cl : Nat → Nat} {pl : Nat → Nat → PlP} {m b r : Nat} {vb : Nat → Nat} {pv : Nat → Nat → Value} {c c0 : Cfg PS} {V0 Z X Y : World} {S : Nat → Prop}
theorem ps_got (th : Int) (most next : Nat) (cs : List Nat) (s : PS) : (psS th most next cs s).s.got.length ≤ s.got.length + 1 := by
  unfold psS
  split
  · exact Nat.le_succ _
  · show (s.got ++ nxtG most ⟨next, cs⟩ s.pl.L[s.at_]?).length ≤ _
    have := nxtG_few most ⟨next, cs⟩ s.pl.L[s.at_]?
    rw [List.length_append]
    omega
def GN (c : Cfg PS) : Prop := ∀ i j, (c.σ i j).got.length ≤ c.st
theorem GN.pick (h : GN c) (th : Int) : GN (c.pick (plK Lo W0) 200 T cl th) := by
  unfold Cfg.pick
  split
  · intro i j
    show (updN c.σ th.toNat (updN (c.σ th.toNat) (c.ix th.toNat) (psS (th.toNat : Int) 200 c.next c.cs (c.σ th.toNat (c.ix th.toNat))).s) i j).got.length ≤ c.st + 1
    have hs := ps_got (th.toNat : Int) 200 c.next c.cs (c.σ th.toNat (c.ix th.toNat))
    have h0 := h th.toNat (c.ix th.toNat)
    have h1 := h i j
    unfold updN
    by_cases e : i = th.toNat
    · subst e
      by_cases e2 : j = c.ix th.toNat
      · rw [if_pos rfl, if_pos e2]; omega
      · rw [if_pos rfl, if_neg e2]; omega
    · rw [if_neg e]; omega
  · intro i j
    exact Nat.le_succ_of_le (h i j)
theorem GN.run : ∀ (l : List Int) (c : Cfg PS), GN c → GN (c.run (plK Lo W0) 200 T cl l)
  | [], c, h => h
  | th :: l, c, h => GN.run l _ (h.pick th)
/-- A run that is taken to its end. -/
theorem gr_fin (h : GR (plK Lo W0) 200 m b T cl vb pv c V0 Z X S r) (hA : AInv T cl pl c0 c) (hG : GN c) (hb : c.st + rem T cl c ≤ 16777216) (hT : T ≤ 10) (hp : ∀ i j, i < T → j < cl i → OwnP i (pl i j)) : Calls Try.prog 7 #[.pointer (some ⟨r, 0, none⟩), .int .i64 1099511627776] X fun e Y => e = .returned (.bool true) ∧ ∃ c', GR (plK Lo W0) 200 m b T cl vb pv c' V0 Z Y S r ∧ AInv T cl pl c0 c' ∧ doneP T cl c' ∧ ∀ i j, (c'.σ i j).got.length ≤ 16777216 := by
  have e0 : (1099511627776 : Int) = ((1099511627776 : Nat) : Int) := rfl
  rw [e0]
  refine (gr_finish (fun c => AInv T cl pl c0 c ∧ c.st + rem T cl c ≤ 16777216 ∧ GN c) (fun c z => by have := z.2.1; omega) (fun c j z hc => ?_) ⟨hA, hb, hG⟩ h 1099511627776 (by omega)).mono ?_
  · have hq := z.1.inv.pick (Lo := Lo) (W0 := W0) (most := 200) j
    rw [if_pos hc] at hq
    exact ⟨z.1.pick hT hp j, by rw [pick_st]; have := hq.2; have := z.2.1; omega, z.2.2.pick j⟩
  · rintro e Y ⟨rfl, g', z1, z2, z3⟩
    obtain ⟨r1, r2⟩ := fin_rem (Lo := Lo) (W0 := W0) (most := 200) 1099511627776 c hA.inv
    have d := (rem_done r1).1 (by rw [r2]; omega)
    exact ⟨by rw [decide_eq_true d], _, g', z1, d, fun i j => Nat.le_trans (z3 i j) (by omega)⟩
theorem run_rem : ∀ (l : List Int) (c : Cfg PS), PInv T cl pl c → rem T cl (c.run (plK Lo W0) 200 T cl l) ≤ rem T cl c
  | [], c, h => Nat.le_refl _
  | th :: l, c, h => by
    have hq := h.pick (Lo := Lo) (W0 := W0) (most := 200) th
    have := run_rem l _ hq.1
    have e : c.run (plK Lo W0) 200 T cl (th :: l) = (c.pick (plK Lo W0) 200 T cl th).run (plK Lo W0) 200 T cl l := rfl
    rw [e]
    have := hq.2
    omega
theorem gr_peek {most : Nat} {κ : KindL PS Lo W0} (h : GR κ most m b T cl vb pv c V0 Z X S r) (a : Nat) (ha : a < 18446744073709551616) : Calls Try.prog 8 #[.pointer (some ⟨m, 0, none⟩), .int .u64 (a : Int)] X fun e W' => e = .returned (.int .u64 (cellN c.cs a : Int)) ∧ W' = X := by
  obtain ⟨G, K, vw, tv, ev, av, ths, h⟩ := h
  obtain ⟨F, D, md, tg, g⟩ := h.ma
  obtain ⟨l, B, L⟩ := g.bank
  exact m_peek m b _ _ a F _ l X g.mem B ha
end
/-- What a plan's proc was told. -/
theorem gr_got {W W0 Z X : World} {Lo most m b : Nat} {ll : List (List PlP)} {vb : Nat → Nat} {pb : Nat → Nat → Nat} {c : Cfg PS} {S : Nat → Prop} {r : Nat} (h : GR (plK Lo W0) most m b ll.length (clOf ll) vb (pvOf ll pb) c W Z X S r) {i j : Nat} (hi : i < ll.length) (hj : j < clOf ll i) (hpl : (c.σ i j).pl = qOf ll i j) (hn : (qOf ll i j).none = false) : ∃ gv, X.cell? ⟨pb i j, 2, none⟩ = some gv ∧ X.ownsRow 0 30 1 gv (c.σ i j).got.length ((c.σ i j).got.map u64V) := by
  obtain ⟨G, K, vw, tv, ev, av, ths, h⟩ := h
  obtain ⟨F, D, md, tg, g⟩ := h.ma
  have q := g.procs i j hi hj
  have q2 : psH Lo X (D i j) (pvOf ll pb i j) (c.σ i j) := q
  unfold psH at q2
  rw [hpl, if_neg (by simp [hn])] at q2
  obtain ⟨_, pb', e, pa⟩ := q2
  have e2 : pvOf ll pb i j = .iface 50 (.pointer (some ⟨pb i j, 0, none⟩)) := by
    unfold pvOf ifV
    rw [qOf_get hj]
    simp [hn]
  rw [e2] at e
  injection e with _ e
  injection e with e
  injection e with e
  injection e with e
  subst e
  obtain ⟨gv, h1, h2, _⟩ := pa.ex
  exact ⟨gv, cell_of h1 2, h2⟩
def isP (l : List PlP) (j : Nat) : Bool := match l[j]? with
  | some q => !q.none
  | none => false
def idxL (l : List PlP) : List Nat := (List.range l.length).filter (isP l)
theorem isP_some {l : List PlP} {j : Nat} {q : PlP} (h : l[j]? = some q) : isP l j = !q.none := by unfold isP; rw [h]
theorem idxL_lt {l : List PlP} {j : Nat} (h : j ∈ idxL l) : j < l.length ∧ ∀ q, l[j]? = some q → q.none = false := by
  unfold idxL at h
  rw [List.mem_filter] at h
  obtain ⟨h1, h2⟩ := h
  refine ⟨List.mem_range.1 h1, fun q e => ?_⟩
  rw [isP_some e] at h2
  simpa using h2
theorem ptO_is (l : List PlP) (pb : Nat → Nat) (j : Nat) : ptO l pb j = if isP l j = true then some (.pointer (some ⟨pb j, 0, none⟩)) else none := by
  unfold ptO isP
  cases e : l[j]? with
  | none => simp
  | some q => cases hn : q.none <;> simp [hn]
theorem ptL_idx (l : List PlP) (pb : Nat → Nat) : ptL l pb l.length = (idxL l).map (fun j => .pointer (some ⟨pb j, 0, none⟩)) := by
  unfold ptL idxL
  generalize List.range l.length = rs
  induction rs with
  | nil => rfl
  | cons j rs ih =>
    rw [List.filterMap_cons, List.filter_cons, ptO_is]
    cases hb : isP l j with
    | true => simp [ih]
    | false => simp [ih]
theorem idxL_len (l : List PlP) : (idxL l).length ≤ l.length := by
  have := List.length_filter_le (isP l) (List.range l.length)
  simpa [idxL] using this
/-- Two runs that take turns; M1, M2: what the law keeps beside each, as it was in Y0. -/
def GQ {Lo : Nat} {W0 : World} (κ : KindL PS Lo W0) (T : Nat) (cl : Nat → Nat) (m1 b1 : Nat) (vb1 : Nat → Nat) (pv1 : Nat → Nat → Value) (r1 m2 b2 : Nat) (vb2 : Nat → Nat) (pv2 : Nat → Nat → Value) (r2 : Nat) (M1 M2 : Nat → Prop) (Y0 : World) (c1 c2 : Cfg PS) (V0 X : World) : Prop := ∃ F, GP κ T cl m1 b1 vb1 pv1 r1 m2 b2 vb2 pv2 r2 M1 M2 c1 c2 V0 X F ∧ (∀ k, M1 k → F k ∧ V0.heap.size ≤ k) ∧ (∀ k, M2 k → ¬ F k ∧ V0.heap.size ≤ k) ∧ ∀ k, M1 k ∨ M2 k → k < X.heap.size ∧ X.heap[k]? = Y0.heap[k]?
section
variable {Lo : Nat} {W0 : World} {κ : KindL PS Lo W0} {T : Nat} {cl : Nat → Nat} {m1 b1 : Nat} {vb1 : Nat → Nat} {pv1 : Nat → Nat → Value} {r1 m2 b2 : Nat} {vb2 : Nat → Nat} {pv2 : Nat → Nat → Value} {r2 : Nat} {M1 M2 : Nat → Prop} {Y0 : World} {c1 c2 c' : Cfg PS} {V0 X Y : World}
theorem GQ.first (h : GQ κ T cl m1 b1 vb1 pv1 r1 m2 b2 vb2 pv2 r2 M1 M2 Y0 c1 c2 V0 X) : ∃ S, GR κ 200 m1 b1 T cl vb1 pv1 c1 V0 X X S r1 ∧ ∀ c' Y, GR κ 200 m1 b1 T cl vb1 pv1 c' V0 X Y S r1 → GQ κ T cl m1 b1 vb1 pv1 r1 m2 b2 vb2 pv2 r2 M1 M2 Y0 c' c2 V0 Y := by
  obtain ⟨F, h, f1, f2, f3⟩ := h
  refine ⟨_, h.g1, fun c' Y g => ⟨_, h.first g, fun k e => ⟨.inl (f1 k e).1, (f1 k e).2⟩, fun k e => ⟨fun z => ?_, (f2 k e).2⟩, fun k e => ?_⟩⟩
  · rcases z with z | z
    · exact (f2 k e).1 z
    · have := (f3 k (.inr e)).1; omega
  · have hx := f3 k e
    have : (fun k => (V0.heap.size ≤ k ∧ k < X.heap.size ∧ ¬ F k) ∨ M1 k) k := by
      rcases e with e | e
      · exact .inr e
      · exact .inl ⟨(f2 k e).2, hx.1, (f2 k e).1⟩
    exact ⟨(g.kept k this).2, (g.kept k this).1.trans hx.2⟩
theorem GQ.second (h : GQ κ T cl m1 b1 vb1 pv1 r1 m2 b2 vb2 pv2 r2 M1 M2 Y0 c1 c2 V0 X) : ∃ S, GR κ 200 m2 b2 T cl vb2 pv2 c2 V0 X X S r2 ∧ ∀ c' Y, GR κ 200 m2 b2 T cl vb2 pv2 c' V0 X Y S r2 → GQ κ T cl m1 b1 vb1 pv1 r1 m2 b2 vb2 pv2 r2 M1 M2 Y0 c1 c' V0 Y := by
  obtain ⟨F, h, f1, f2, f3⟩ := h
  refine ⟨_, h.g2, fun c' Y g => ⟨_, h.second g, fun k e => ⟨⟨(f1 k e).1, (f3 k (.inl e)).1⟩, (f1 k e).2⟩, fun k e => ⟨fun z => (f2 k e).1 z.1, (f2 k e).2⟩, fun k e => ?_⟩⟩
  have hx := f3 k e
  have : (fun k => (V0.heap.size ≤ k ∧ k < X.heap.size ∧ F k) ∨ M2 k) k := by
    rcases e with e | e
    · exact .inl ⟨(f1 k e).2, hx.1, (f1 k e).1⟩
    · exact .inr e
  exact ⟨(g.kept k this).2, (g.kept k this).1.trans hx.2⟩
theorem GQ.quiet (h : GQ κ T cl m1 b1 vb1 pv1 r1 m2 b2 vb2 pv2 r2 M1 M2 Y0 c1 c2 V0 X) (q : Chg (fun _ => False) X Y) : GQ κ T cl m1 b1 vb1 pv1 r1 m2 b2 vb2 pv2 r2 M1 M2 Y0 c1 c2 V0 Y := by
  obtain ⟨S, g, f⟩ := h.first
  exact f _ _ (g.quiet q)
theorem GQ.chg (h : GQ κ T cl m1 b1 vb1 pv1 r1 m2 b2 vb2 pv2 r2 M1 M2 Y0 c1 c2 V0 X) : Chg (fun _ => False) V0 X := by
  obtain ⟨S, g, f⟩ := h.first
  exact g.chgW
theorem GQ.keep (h : GQ κ T cl m1 b1 vb1 pv1 r1 m2 b2 vb2 pv2 r2 M1 M2 Y0 c1 c2 V0 X) (k : Nat) (hk : M1 k ∨ M2 k) : X.heap[k]? = Y0.heap[k]? := by
  obtain ⟨F, h, f1, f2, f3⟩ := h
  exact (f3 k hk).2
/-- Two runs that were made one behind the other. -/
theorem gq_start {Y1 Y2 : World} {S1 S2 : Nat → Prop} (g1 : GR κ 200 m1 b1 T cl vb1 pv1 c1 V0 Y1 Y1 S1 r1) (g2 : GR κ 200 m2 b2 T cl vb2 pv2 c2 Y1 Y2 Y2 S2 r2) (lo : Lo = V0.heap.size) (h1 : ∀ k, M1 k → S1 k) (h2 : ∀ k, M2 k → S2 k ∧ Y1.heap.size ≤ k) : GQ κ T cl m1 b1 vb1 pv1 r1 m2 b2 vb2 pv2 r2 M1 M2 Y2 c1 c2 V0 Y2 := by
  have c12 := g2.chgW
  have z1 := g1.zsize
  have cV1 := g1.chgW
  have hs := c12.size
  refine ⟨fun k => k < Y1.heap.size, ⟨g1.rebase c12 (fun k e => ?_), g2.shift cV1.size (by omega) (cV1.trans c12 (fun _ _ x => x) (fun _ _ x => x)) (Nat.le_refl _) (fun _ => False) (fun _ x => x.elim) (fun k _ _ _ => rfl) (fun k e => ?_)⟩, fun k e => ⟨(g1.kept k (h1 k e)).2, by rw [← lo]; exact g1.keepLo k (h1 k e)⟩, fun k e => ⟨fun z => by have := (h2 k e).2; omega, by have := (h2 k e).2; have := cV1.size; omega⟩, fun k e => ⟨?_, rfl⟩⟩
  · rcases e with ⟨e1, e2, e3⟩ | e
    · exact .inr ⟨by omega, e2⟩
    · exact .inl (h1 k e)
  · rcases e with ⟨e1, e2, e3⟩ | e
    · exact ⟨by omega, e2, .inl e3⟩
    · have := (h2 k e).2
      exact ⟨by have := cV1.size; omega, (g2.kept k (h2 k e).1).2, .inr (.inr (h2 k e).1)⟩
  · rcases e with e | e
    · have := (g1.kept k (h1 k e)).2; omega
    · exact (g2.kept k (h2 k e).1).2
end
/-- The lists that the law lays anew: as long as those that came in. -/
theorem own_nst (i : Nat) (q : PlP) : nst (ownQ i q) = nst q := by unfold nst ownQ; simp
theorem own_lOf {ll : List (List PlP)} {n i : Nat} (hi : i < n) : lOf (ownLL ll n) i = (lOf ll i).map (ownQ i) := by
  unfold ownLL
  unfold lOf
  rw [List.getD_eq_getElem?_getD, List.getElem?_map, List.getElem?_range hi]
  rfl
theorem own_get {ll : List (List PlP)} {n i : Nat} (hi : i < n) : (ownLL ll n)[i]? = some ((lOf ll i).map (ownQ i)) := by
  unfold ownLL
  rw [List.getElem?_map, List.getElem?_range hi]
  rfl
theorem own_mem {ll : List (List PlP)} {n : Nat} (hn : n ≤ ll.length) {l : List PlP} (h : l ∈ ownLL ll n) : ∃ i, i < n ∧ l = (lOf ll i).map (ownQ i) ∧ lOf ll i ∈ ll := by
  unfold ownLL at h
  obtain ⟨i, hi, rfl⟩ := List.mem_map.1 h
  have := List.mem_range.1 hi
  exact ⟨i, this, rfl, List.mem_of_getElem? (lOf_get (by omega))⟩
theorem own_pre (i : Nat) (l : List PlP) : pre (l.map (ownQ i)) (l.map (ownQ i)).length = pre l l.length := by
  rw [pre_sum _ _ (Nat.le_refl _), pre_sum _ _ (Nat.le_refl _), List.length_map]
  refine sumTo_congr (fun j hj => ?_)
  rw [List.getElem?_map]
  cases l[j]? with
  | none => rfl
  | some q => exact own_nst i q
theorem sumTo_upto {f : Nat → Nat} {i n : Nat} (h : i ≤ n) : sumTo f i ≤ sumTo f n := by
  induction n with
  | zero => have : i = 0 := by omega
            subst this; exact Nat.le_refl _
  | succ n ih =>
    by_cases e : i = n + 1
    · subst e; exact Nat.le_refl _
    · have := ih (by omega); simp only [sumTo]; omega
theorem own_sum {ll : List (List PlP)} {n : Nat} (hn : n ≤ ll.length) : sumTo (fun i => match (ownLL ll n)[i]? with | some l => pre l l.length | none => 0) (ownLL ll n).length ≤ sumTo (fun i => match ll[i]? with | some l => pre l l.length | none => 0) ll.length := by
  have hl : (ownLL ll n).length = n := by simp [ownLL]
  rw [hl]
  refine Nat.le_trans (Nat.le_of_eq (sumTo_congr (fun i hi => ?_))) (sumTo_upto hn)
  rw [own_get hi, lOf_get (show i < ll.length by omega)]
  exact own_pre i _
theorem own_own {ll : List (List PlP)} {n i j : Nat} (hi : i < n) (hj : j < clOf (ownLL ll n) i) : OwnP i (qOf (ownLL ll n) i j) := by
  have e := qOf_get hj
  rw [own_lOf hi, List.getElem?_map] at e
  cases hq : (lOf ll i)[j]? with
  | none => rw [hq] at e; cases e
  | some q => rw [hq] at e; injection e with e; rw [← e]; exact ownQ_own q
theorem rem_start (ll : List (List PlP)) (lp : Nat → Nat → Option Addr) (lc : Nat → Nat → Nat) : rem ll.length (clOf ll) (c0Of ll lp lc) = sumTo (fun i => match ll[i]? with | some l => pre l l.length | none => 0) ll.length := by
  unfold rem
  refine sumTo_congr (fun i hi => ?_)
  rw [lOf_get hi]
  show remT (clOf ll) (c0Of ll lp lc) i = pre (lOf ll i) (lOf ll i).length
  rw [pre_sum _ _ (Nat.le_refl _)]
  unfold remT
  refine sumTo_congr (fun j hj => ?_)
  rw [qOf_get hj]
  show (if j < 0 then 0 else rp (s0Of ll lp lc i j)) = nst (qOf ll i j)
  rw [if_neg (by omega)]
  rfl
theorem pinv_start (ll : List (List PlP)) (lp : Nat → Nat → Option Addr) (lc : Nat → Nat → Nat) : PInv ll.length (clOf ll) (qOf ll) (c0Of ll lp lc) := ⟨fun i j _ _ => rfl, fun i j _ _ _ => nst_pos _, fun i _ h => by cases h⟩
end Go.Proofs.Ytnhiodmigmmfgaa
/- Two Loads, a thread each: what their steps do. -/
namespace Go.Proofs.Ytnhiodmigmmfgaa
open Go.RowKit Go.Shelf

def bN (d : Bool) : Nat := if d then 1 else 0
/-- A memory, two views, two Loads. -/
structure LSt (X : World) (F : Nat → Prop) (m b v0 v1 p0 p1 : Nat) (l : List Acc) (d0 d1 : Bool) (x0 x1 : Nat) : Prop where
  bank : Bank X F b 128 1 [] l
  mem : IsMem X m b
  w0 : IsView X v0 b 0 (bN d0)
  w1 : IsView X v1 b 1 (bN d1)
  q0 : IsLoad X p0 5 x0 d0
  q1 : IsLoad X p1 6 x1 d1
  nm : ¬ F m
  n0 : ¬ F v0
  n1 : ¬ F v1
  k0 : ¬ F p0
  k1 : ¬ F p1
  mv : m ≠ v0 ∧ m ≠ v1 ∧ m ≠ p0 ∧ m ≠ p1
  vv : v0 ≠ v1 ∧ v0 ≠ p0 ∧ v0 ≠ p1 ∧ v1 ≠ p0 ∧ v1 ≠ p1 ∧ p0 ≠ p1
def inK (F : Nat → Prop) (m v0 v1 p0 p1 : Nat) (k : Nat) : Prop := F k ∨ k = m ∨ k = v0 ∨ k = v1 ∨ k = p0 ∨ k = p1
def LS (m b v0 v1 p0 p1 : Nat) (n : Nat) (d0 d1 : Bool) (X : World) (K : Nat → Prop) : Prop := ∃ F l x0 x1, LSt X F m b v0 v1 p0 p1 l d0 d1 x0 x1 ∧ l.length = n ∧ K = inK F m v0 v1 p0 p1

theorem LS.keep {m b v0 v1 p0 p1 n : Nat} {d0 d1 : Bool} {X Y : World} {K : Nat → Prop} (h : LS m b v0 v1 p0 p1 n d0 d1 X K) (hs : X.heap.size ≤ Y.heap.size) (hk : ∀ k, K k → Y.heap[k]? = X.heap[k]?) : LS m b v0 v1 p0 p1 n d0 d1 Y K := by
  obtain ⟨F, l, x0, x1, h, hl, rfl⟩ := h
  exact ⟨F, l, x0, x1, { h with bank := h.bank.kept hs (fun k e => hk k (.inl e)), mem := (hk m (.inr (.inl rfl))).trans h.mem, w0 := (hk v0 (.inr (.inr (.inl rfl)))).trans h.w0, w1 := (hk v1 (.inr (.inr (.inr (.inl rfl))))).trans h.w1, q0 := (hk p0 (.inr (.inr (.inr (.inr (.inl rfl)))))).trans h.q0, q1 := (hk p1 (.inr (.inr (.inr (.inr (.inr rfl)))))).trans h.q1 }, hl, rfl⟩
theorem LS.lt {m b v0 v1 p0 p1 n : Nat} {d0 d1 : Bool} {X : World} {K : Nat → Prop} (h : LS m b v0 v1 p0 p1 n d0 d1 X K) (k : Nat) (hk : K k) : k < X.heap.size := by
  obtain ⟨F, l, x0, x1, h, hl, rfl⟩ := h
  obtain ⟨_, _, B⟩ := h.bank
  rcases hk with e | rfl | rfl | rfl | rfl | rfl
  · exact B.lt k e
  · exact h.mem.lt
  · exact h.w0.lt
  · exact h.w1.lt
  · exact lt_of h.q0
  · exact lt_of h.q1
theorem LS.mem {m b v0 v1 p0 p1 n : Nat} {d0 d1 : Bool} {X : World} {K : Nat → Prop} (h : LS m b v0 v1 p0 p1 n d0 d1 X K) : ∃ b F most next cs l, IsMem X m b ∧ Bank X F b most next cs l ∧ l.length = n ∧ (∀ k, F k → K k) ∧ K m := by
  obtain ⟨F, l, x0, x1, h, hl, rfl⟩ := h
  exact ⟨b, F, 128, 1, [], l, h.mem, h.bank, hl, fun k e => .inl e, .inr (.inl rfl)⟩

set_option maxRecDepth 100000 in
theorem ls_step1 {m b v0 v1 p0 p1 n : Nat} {d0 : Bool} (X : World) (K : Nat → Prop) (h : LS m b v0 v1 p0 p1 n d0 false X K) (hn : n < 1099511627776) :
    Calls Try.prog 31 #[.iface 57 (.pointer (some ⟨p1, 0, none⟩)), .pointer (some ⟨v1, 0, none⟩)] X fun e X' => ∃ d K', e = .returned (.bool d) ∧ (d = true ∧ LS m b v0 v1 p0 p1 (n + 1) d0 true X' K') ∧ Goes X X' K K' := by
  obtain ⟨F, l, x0, x1, h, hl, rfl⟩ := h
  obtain ⟨mv0, mv1, mp0, mp1⟩ := h.mv
  obtain ⟨a1, a2, a3, a4, a5, a6⟩ := h.vv
  have cA : Chg (fun _ => False) X (X.alloc (.cells #[.bool false] 4)) := (Chg.refl _ X).alloc _
  have hsz : (X.alloc (.cells #[.bool false] 4)).heap.size = X.heap.size + 1 := by simp
  obtain ⟨_, _, B0⟩ := h.bank
  have st := s_stepOf_load ⟨p1, 0, none⟩ (.pointer (some ⟨v1, 0, none⟩)) (fun d X1 => d = true ∧ ∃ F' vs, Bank X1 F' b 128 1 [] (l ++ [⟨1, 1, 6, 0, 0, vs, [], cellN [] 6, false⟩]) ∧ IsView X1 v1 b 1 1 ∧ IsLoad X1 p1 6 (cellN [] 6) true ∧ ¬ F' p1 ∧ ¬ F' v1 ∧ Chg (fun k => (F k ∨ k = v1) ∨ k = p1) (X.alloc (.cells #[.bool false] 4)) X1 ∧ ∀ k, F' k → F k ∨ X.heap.size + 1 ≤ k) X ?_
  · refine st.mono ?_
    rintro e X' ⟨d, X1, rfl, ⟨rfl, F', vs, B1, V1, L1, nf1, nf2, C1, N1⟩, hcell, rfl⟩
    have c2 : Chg (fun k => k = X.heap.size) X1 (X1.setCell ⟨X.heap.size, 0, none⟩ (.bool true)) := (Chg.refl (fun k => k = X.heap.size) X1).setCell (p := ⟨X.heap.size, 0, none⟩) (fun _ => rfl) _
    have cX : Chg (fun k => (F k ∨ k = v1) ∨ k = p1) X (X1.setCell ⟨X.heap.size, 0, none⟩ (.bool true)) := (cA.trans C1 (fun _ _ x => x.elim) (fun _ _ x => x)).trans c2 (fun _ _ x => x) (fun i hi x => by omega)
    have ne : ∀ z, z < X.heap.size → z ≠ X.heap.size := fun z hz => by omega
    have nF' : ∀ z, z < X.heap.size → ¬ F z → ¬ F' z := fun z hz hf e => (N1 z e).elim hf (fun e => by omega)
    have nFx : ¬ F' X.heap.size := fun e => (N1 _ e).elim (fun e => by have := B0.lt _ e; omega) (fun e => by omega)
    refine ⟨true, _, rfl, ⟨rfl, F', _, x0, _, ⟨B1.chg c2 (fun k e e2 => nFx (by rw [← e2]; exact e)), h.mem.chg cX (fun e => by rcases e with (e | e) | e; exact h.nm e; exact mv1 e; exact mp1 e), h.w0.chg cX (fun e => by rcases e with (e | e) | e; exact h.n0 e; exact a1 e; exact a3 e), V1.chg c2 (ne _ h.w1.lt), h.q0.chg cX (fun e => by rcases e with (e | e) | e; exact h.k0 e; exact a4 e.symm; exact a6 e), L1.chg c2 (ne _ (lt_of h.q1)), nF' _ h.mem.lt h.nm, nF' _ h.w0.lt h.n0, nf2, nF' _ (lt_of h.q0) h.k0, nf1, h.mv, h.vv⟩, by simp [hl], rfl⟩, ⟨cX.mono (fun k _ e => by rcases e with (e | e) | e; exact .inl e; exact .inr (.inr (.inr (.inl e))); exact .inr (.inr (.inr (.inr (.inr e))))), fun k e => ?_⟩⟩
    rcases e with e | e
    · exact (N1 k e).elim (fun e => .inl (.inl e)) (fun e => .inr (by omega))
    · exact .inl (.inr e)
  · refine (load_step p1 6 x1 v1 b 128 1 0 1 F [] l _ (h.q1.chg cA (fun h => h)) (h.w1.chg cA (fun h => h)) (h.bank.chg cA (fun _ _ h => h)) h.n1 h.k1 (fun e => a5 e.symm) (by omega) (by omega) (by omega)).mono ?_
    rintro e X1 ⟨rfl, F', vs, B1, V1, L1, nf1, nf2, C1, N1⟩
    refine ⟨true, rfl, ⟨rfl, F', vs, B1, V1, L1, nf1, nf2, C1, fun k e => by have := N1 k e; rw [hsz] at this; exact this⟩, ?_⟩
    exact (C1.block _ (by simp) (fun e => by
      rcases e with (e | e) | e
      · have := B0.lt _ e
        omega
      · have := h.w1.lt
        omega
      · have := lt_of h.q1
        omega)).trans (heap_alloc_new _ _)
set_option maxRecDepth 100000 in
theorem ls_step0 {m b v0 v1 p0 p1 n : Nat} {d1 : Bool} (X : World) (K : Nat → Prop) (h : LS m b v0 v1 p0 p1 n false d1 X K) (hn : n < 1099511627776) :
    Calls Try.prog 31 #[.iface 57 (.pointer (some ⟨p0, 0, none⟩)), .pointer (some ⟨v0, 0, none⟩)] X fun e X' => ∃ d K', e = .returned (.bool d) ∧ (d = true ∧ LS m b v0 v1 p0 p1 (n + 1) true d1 X' K') ∧ Goes X X' K K' := by
  obtain ⟨F, l, x0, x1, h, hl, rfl⟩ := h
  obtain ⟨mv0, mv1, mp0, mp1⟩ := h.mv
  obtain ⟨a1, a2, a3, a4, a5, a6⟩ := h.vv
  have cA : Chg (fun _ => False) X (X.alloc (.cells #[.bool false] 4)) := (Chg.refl _ X).alloc _
  have hsz : (X.alloc (.cells #[.bool false] 4)).heap.size = X.heap.size + 1 := by simp
  obtain ⟨_, _, B0⟩ := h.bank
  have st := s_stepOf_load ⟨p0, 0, none⟩ (.pointer (some ⟨v0, 0, none⟩)) (fun d X1 => d = true ∧ ∃ F' vs, Bank X1 F' b 128 1 [] (l ++ [⟨0, 1, 5, 0, 0, vs, [], cellN [] 5, false⟩]) ∧ IsView X1 v0 b 0 1 ∧ IsLoad X1 p0 5 (cellN [] 5) true ∧ ¬ F' p0 ∧ ¬ F' v0 ∧ Chg (fun k => (F k ∨ k = v0) ∨ k = p0) (X.alloc (.cells #[.bool false] 4)) X1 ∧ ∀ k, F' k → F k ∨ X.heap.size + 1 ≤ k) X ?_
  · refine st.mono ?_
    rintro e X' ⟨d, X1, rfl, ⟨rfl, F', vs, B1, V1, L1, nf1, nf2, C1, N1⟩, hcell, rfl⟩
    have c2 : Chg (fun k => k = X.heap.size) X1 (X1.setCell ⟨X.heap.size, 0, none⟩ (.bool true)) := (Chg.refl (fun k => k = X.heap.size) X1).setCell (p := ⟨X.heap.size, 0, none⟩) (fun _ => rfl) _
    have cX : Chg (fun k => (F k ∨ k = v0) ∨ k = p0) X (X1.setCell ⟨X.heap.size, 0, none⟩ (.bool true)) := (cA.trans C1 (fun _ _ x => x.elim) (fun _ _ x => x)).trans c2 (fun _ _ x => x) (fun i hi x => by omega)
    have ne : ∀ z, z < X.heap.size → z ≠ X.heap.size := fun z hz => by omega
    have nF' : ∀ z, z < X.heap.size → ¬ F z → ¬ F' z := fun z hz hf e => (N1 z e).elim hf (fun e => by omega)
    have nFx : ¬ F' X.heap.size := fun e => (N1 _ e).elim (fun e => by have := B0.lt _ e; omega) (fun e => by omega)
    refine ⟨true, _, rfl, ⟨rfl, F', _, _, x1, ⟨B1.chg c2 (fun k e e2 => nFx (by rw [← e2]; exact e)), h.mem.chg cX (fun e => by rcases e with (e | e) | e; exact h.nm e; exact mv0 e; exact mp0 e), V1.chg c2 (ne _ h.w0.lt), h.w1.chg cX (fun e => by rcases e with (e | e) | e; exact h.n1 e; exact a1 e.symm; exact a4 e), L1.chg c2 (ne _ (lt_of h.q0)), h.q1.chg cX (fun e => by rcases e with (e | e) | e; exact h.k1 e; exact a3 e.symm; exact a6 e.symm), nF' _ h.mem.lt h.nm, nf2, nF' _ h.w1.lt h.n1, nf1, nF' _ (lt_of h.q1) h.k1, h.mv, h.vv⟩, by simp [hl], rfl⟩, ⟨cX.mono (fun k _ e => by rcases e with (e | e) | e; exact .inl e; exact .inr (.inr (.inl e)); exact .inr (.inr (.inr (.inr (.inl e))))), fun k e => ?_⟩⟩
    rcases e with e | e
    · exact (N1 k e).elim (fun e => .inl (.inl e)) (fun e => .inr (by omega))
    · exact .inl (.inr e)
  · refine (load_step p0 5 x0 v0 b 128 1 0 0 F [] l _ (h.q0.chg cA (fun h => h)) (h.w0.chg cA (fun h => h)) (h.bank.chg cA (fun _ _ h => h)) h.n0 h.k0 (fun e => a2 e.symm) (by omega) (by omega) (by omega)).mono ?_
    rintro e X1 ⟨rfl, F', vs, B1, V1, L1, nf1, nf2, C1, N1⟩
    refine ⟨true, rfl, ⟨rfl, F', vs, B1, V1, L1, nf1, nf2, C1, fun k e => by have := N1 k e; rw [hsz] at this; exact this⟩, ?_⟩
    exact (C1.block _ (by simp) (fun e => by
      rcases e with (e | e) | e
      · have := B0.lt _ e
        omega
      · have := h.w0.lt
        omega
      · have := lt_of h.q0
        omega)).trans (heap_alloc_new _ _)
end Go.Proofs.Ytnhiodmigmmfgaa
/- What must be whatever is asked (package step). -/
namespace Go.Proofs.Ytnhiodmigmmfgaa
open Go.RowKit Go.Shelf

theorem row_of {W : World} {g n s : Nat} {cs : Array Value} {e : TypeId} (h : W.heap[g]? = some (.cells cs e (0, 0))) (hs : cs.size = n * s) (hn : n ≤ 1099511627776) : W.ownsRow 0 e s (.slice (some ⟨g, 0, none⟩) n n) n cs.toList :=
  ⟨by simpa using hs, .inr ⟨g, n, cs, rfl, Nat.zero_le _, h, Nat.le_refl _, by unfold maxLen; omega, hs, by rw [List.take_of_length_le]; simp; omega⟩⟩

def loadI (p : Nat) : Value := .iface 57 (.pointer (some ⟨p, 0, none⟩))
def twoL (p0 s0 p1 s1 : Nat) : List (Value × List Value) := [(.slice (some ⟨s0, 0, none⟩) 1 1, [loadI p0]), (.slice (some ⟨s1, 0, none⟩) 1 1, [loadI p1])]
theorem twoL_ok (p0 s0 p1 s1 : Nat) : tooLongB (twoL p0 s0 p1 s1) = false := by simp [tooLongB, twoL]

theorem two_of {α : Type} {l : List α} (h : l.length = 2) : ∃ a b, l = [a, b] := by
  match l, h with
  | [a, b], _ => exact ⟨a, b, rfl⟩

/-- A runner of two Loads that has had no pick. -/
theorem live_start {W6 W7 : World} {G : Nat → Prop} {r m b p0 s0 p1 s1 : Nat} {tv : Value} {ths : List Thr} {vbs : List Nat} (hm : IsMem W6 m b) (hb : Bank W6 (fun k => k = b) b 128 1 [] []) (q0 : IsLoad W6 p0 5 0 false) (q1 : IsLoad W6 p1 6 0 false) (h : Made W6 W7 G r m b tv (twoL p0 s0 p1 s1) ths vbs 2) (hl : ths.length = 2) (hd : m ≠ b ∧ p0 ≠ b ∧ p1 ≠ b ∧ m ≠ p0 ∧ m ≠ p1 ∧ p0 ≠ p1) :
    ∃ v0 v1 c0 c1 g c, vbs = [v0, v1] ∧ ths = [⟨c0, [loadI p0], 0, false⟩, ⟨c1, [loadI p1], 0, false⟩] ∧ tv = .slice (some ⟨g, 0, none⟩) 2 c ∧ LS m b v0 v1 p0 p1 0 false false W7 (inK (fun k => k = b) m v0 v1 p0 p1) ∧ (∀ k, G k → ¬ inK (fun k => k = b) m v0 v1 p0 p1 k) := by
  obtain ⟨v0, v1, rfl⟩ := two_of h.vl
  obtain ⟨t0, t1, rfl⟩ := two_of hl
  obtain ⟨g, c, htv⟩ := slice_pos h.run.tr (by simp)
  obtain ⟨y0, hy0, e0, e1, e2⟩ := h.thr 0 t0 rfl
  obtain ⟨y1, hy1, f0, f1, f2⟩ := h.thr 1 t1 rfl
  simp [twoL] at hy0 hy1
  subst hy0 hy1
  obtain ⟨a0, a1, a2⟩ := h.views 0 v0 rfl
  obtain ⟨b0, b1, b2⟩ := h.views 1 v1 rfl
  have hvv := h.apart 0 1 v0 v1 (by omega) rfl rfl
  have lm := hm.lt
  have l0 := lt_of q0
  have l1 := lt_of q1
  have lb : b < W6.heap.size := by obtain ⟨_, _, B⟩ := hb; exact B.lt b rfl
  refine ⟨v0, v1, t0.cv, t1.cv, g, c, rfl, ?_, by simpa using htv, ⟨fun k => k = b, [], 0, 0, ⟨hb.chg h.chg (fun _ _ h => h), hm.chg h.chg (fun h => h), a0, b0, q0.chg h.chg (fun h => h), q1.chg h.chg (fun h => h), by omega, by omega, by omega, by omega, by omega, by omega, by omega⟩, rfl, rfl⟩, fun k hk e => ?_⟩
  · cases t0
    cases t1
    simp_all
  · have hW := h.inG k hk
    rcases e with e | e | e | e | e | e
    · omega
    · omega
    · exact a2 (by rw [← e]; exact hk)
    · exact b2 (by rw [← e]; exact hk)
    · omega
    · omega

theorem live_lists (W1 W6 : World) (hW : W6 = (((((W1.alloc (.cells #[.int .u64 5, .int .u64 0, .bool false] 96)).alloc (.cells #[.iface 57 (.pointer (some ⟨W1.heap.size, 0, none⟩))] 77)).alloc (.cells #[.int .u64 6, .int .u64 0, .bool false] 96)).alloc (.cells #[.iface 57 (.pointer (some ⟨W1.heap.size + 1 + 1, 0, none⟩))] 77)).alloc (.cells #[.slice (some ⟨W1.heap.size + 1, 0, none⟩) 1 1, .slice (some ⟨W1.heap.size + 1 + 1 + 1, 0, none⟩) 1 1] 59))) :
    Chg (fun _ => False) W1 W6 ∧ IsLoad W6 W1.heap.size 5 0 false ∧ IsLoad W6 (W1.heap.size + 1 + 1) 6 0 false ∧ Lists W6 (.slice (some ⟨W1.heap.size + 1 + 1 + 1 + 1, 0, none⟩) 2 2) (twoL W1.heap.size (W1.heap.size + 1) (W1.heap.size + 1 + 1) (W1.heap.size + 1 + 1 + 1)) := by
  obtain ⟨a1, ha1⟩ : ∃ a1, a1 = W1.alloc (.cells #[.int .u64 5, .int .u64 0, .bool false] 96) := ⟨_, rfl⟩
  obtain ⟨a2, ha2⟩ : ∃ a2, a2 = a1.alloc (.cells #[.iface 57 (.pointer (some ⟨W1.heap.size, 0, none⟩))] 77) := ⟨_, rfl⟩
  obtain ⟨a3, ha3⟩ : ∃ a3, a3 = a2.alloc (.cells #[.int .u64 6, .int .u64 0, .bool false] 96) := ⟨_, rfl⟩
  obtain ⟨a4, ha4⟩ : ∃ a4, a4 = a3.alloc (.cells #[.iface 57 (.pointer (some ⟨W1.heap.size + 1 + 1, 0, none⟩))] 77) := ⟨_, rfl⟩
  rw [← ha1, ← ha2, ← ha3, ← ha4] at hW
  have z1 : a1.heap.size = W1.heap.size + 1 := by rw [ha1]; simp
  have z2 : a2.heap.size = W1.heap.size + 1 + 1 := by rw [ha2]; simp [z1]
  have z3 : a3.heap.size = W1.heap.size + 1 + 1 + 1 := by rw [ha3]; simp [z2]
  have z4 : a4.heap.size = W1.heap.size + 1 + 1 + 1 + 1 := by rw [ha4]; simp [z3]
  have g1 : a1.heap[W1.heap.size]? = some (.cells #[.int .u64 5, .int .u64 0, .bool false] 96 (0, 0)) := by rw [ha1]; exact heap_alloc_new _ _
  have g2 : a2.heap[W1.heap.size + 1]? = some (.cells #[.iface 57 (.pointer (some ⟨W1.heap.size, 0, none⟩))] 77 (0, 0)) := by rw [ha2, ← z1]; exact heap_alloc_new _ _
  have g3 : a3.heap[W1.heap.size + 1 + 1]? = some (.cells #[.int .u64 6, .int .u64 0, .bool false] 96 (0, 0)) := by rw [ha3, ← z2]; exact heap_alloc_new _ _
  have g4 : a4.heap[W1.heap.size + 1 + 1 + 1]? = some (.cells #[.iface 57 (.pointer (some ⟨W1.heap.size + 1 + 1, 0, none⟩))] 77 (0, 0)) := by rw [ha4, ← z3]; exact heap_alloc_new _ _
  have g5 : W6.heap[W1.heap.size + 1 + 1 + 1 + 1]? = some (.cells #[.slice (some ⟨W1.heap.size + 1, 0, none⟩) 1 1, .slice (some ⟨W1.heap.size + 1 + 1 + 1, 0, none⟩) 1 1] 59 (0, 0)) := by rw [hW, ← z4]; exact heap_alloc_new _ _
  have c6 : Chg (fun _ => False) a4 W6 := by rw [hW]; exact (Chg.refl _ _).alloc _
  have c4 : Chg (fun _ => False) a3 W6 := by rw [ha4] at c6; exact ((Chg.refl _ a3).alloc _).trans c6 (fun _ _ x => x) (fun _ _ x => x)
  have c3 : Chg (fun _ => False) a2 W6 := by rw [ha3] at c4; exact ((Chg.refl _ a2).alloc _).trans c4 (fun _ _ x => x) (fun _ _ x => x)
  have c2 : Chg (fun _ => False) a1 W6 := by rw [ha2] at c3; exact ((Chg.refl _ a1).alloc _).trans c3 (fun _ _ x => x) (fun _ _ x => x)
  have c1 : Chg (fun _ => False) W1 W6 := by rw [ha1] at c2; exact ((Chg.refl _ W1).alloc _).trans c2 (fun _ _ x => x) (fun _ _ x => x)
  have h2 := (c3.block _ (by omega) (fun h => h)).trans g2
  have h4 := (c6.block _ (by omega) (fun h => h)).trans g4
  refine ⟨c1, (c2.block _ (by omega) (fun h => h)).trans g1, (c4.block _ (by omega) (fun h => h)).trans g3, ⟨?_, ?_, ?_⟩⟩
  · exact row_of (n := 2) (s := 1) g5 rfl (by omega)
  · intro x hx
    simp [twoL] at hx
    rcases hx with rfl | rfl
    · exact row_of (n := 1) (s := 1) h2 rfl (by omega)
    · exact row_of (n := 1) (s := 1) h4 rfl (by omega)
  · intro x hx u hu
    simp [twoL] at hx
    rcases hx with rfl | rfl
    · simp at hu
      subst hu
      rfl
    · simp at hu
      subst hu
      rfl

set_option maxRecDepth 100000 in
set_option maxHeartbeats 8000000 in
theorem s_live (W : World) : Calls Try.prog 4 #[] W fun e W' => e = .returned (.bool true) ∧ Chg (fun _ => False) W W' := by
  go_enter Try.func4, Try.ntmps4
  go_wp2_with fail
  refine (m_new 128 W (by omega)).mono ?_
  rintro e W1 ⟨rfl, M1, B1, C1, S1⟩
  have HM1 := keepH M1
  have HB1 := keepH B1
  have HS1 := keepH S1
  have HC1 := keepH C1
  clear M1 B1 S1 C1
  go_wp2_with fail
  refine (load_new 5 _).mono ?_
  rintro e w ⟨rfl, rfl⟩
  go_wp2_with fail
  refine (load_new 6 _).mono ?_
  rintro e w ⟨rfl, rfl⟩
  go_wp2_with fail
  obtain ⟨W6, hW6⟩ : ∃ W6, W6 = (((((W1.alloc (.cells #[.int .u64 5, .int .u64 0, .bool false] 96)).alloc (.cells #[.iface 57 (.pointer (some ⟨W1.heap.size, 0, none⟩))] 77)).alloc (.cells #[.int .u64 6, .int .u64 0, .bool false] 96)).alloc (.cells #[.iface 57 (.pointer (some ⟨W1.heap.size + 1 + 1, 0, none⟩))] 77)).alloc (.cells #[.slice (some ⟨W1.heap.size + 1, 0, none⟩) 1 1, .slice (some ⟨W1.heap.size + 1 + 1 + 1, 0, none⟩) 1 1] 59)) := ⟨_, rfl⟩
  rw [← hW6]
  obtain ⟨cL, l0, l1, LL⟩ := live_lists W1 W6 hW6
  have HL := keepH LL
  have HC6 := keepH (HC1.out.trans cL (H := fun _ => False) (fun _ _ x => x) (fun _ _ x => x))
  have HM6 := keepH (HM1.out.chg cL (fun h => h))
  have HB6 := keepH (HB1.out.chg cL (fun _ _ h => h))
  have Hl0 := keepH l0
  have Hl1 := keepH l1
  obtain ⟨n, hn⟩ : ∃ n, n = W1.heap.size := ⟨_, rfl⟩
  rw [← hn] at HL Hl0 Hl1 ⊢
  have HN := keepH hn
  clear hW6 cL l0 l1 LL hn
  refine (s_new (W.heap.size + 1) W.heap.size _ _ W6 HM6.out HL.out (twoL_ok _ _ _ _)).mono ?_
  rintro e W7 ⟨r, G, tv, ths, vbs, rfl, MD, hl⟩
  obtain ⟨v0, v1, c0, c1, g, c, rfl, rfl, rfl, LS7, D7⟩ := live_start HM6.out HB6.out Hl0.out Hl1.out MD hl (by have := HS1.out; have := HN.out; omega)
  have HR7 := keepH MD.run
  have HC7 := keepH (HC6.out.trans MD.chg (H := fun _ => False) (fun _ _ x => x) (fun _ _ x => x))
  have HLS7 := keepH LS7
  have HD7 := keepH D7
  have hGW : Hid (∀ k, G k → W.heap.size ≤ k) := fun k e => by have := MD.inG k e; have := HC6.out.size; omega
  have hKW : Hid (∀ k, inK (fun k => k = W.heap.size) (W.heap.size + 1) v0 v1 n (n + 1 + 1) k → W.heap.size ≤ k) := fun k e => by
    have h1 := (MD.views 0 v0 rfl).2.1
    have h2 := (MD.views 1 v1 rfl).2.1
    have h3 := HN.out
    have h4 := HS1.out
    have h5 := HC6.out.size
    rcases e with e | e | e | e | e | e <;> omega
  clear LS7 D7 MD hl HM6 HB6 Hl0 Hl1 HL HM1 HB1 HC1
  go_wp2_with fail
  refine (r_pick_in (vb := v1) (ths := [⟨c0, [loadI n], 0, false⟩, ⟨c1, [loadI (n + 1 + 1)], 0, false⟩]) (LS (W.heap.size + 1) W.heap.size v0 v1 n (n + 1 + 1) 0 false false) (fun d X K => d = true ∧ LS (W.heap.size + 1) W.heap.size v0 v1 n (n + 1 + 1) 1 false true X K) 0 (fun _ => 1) 1 ⟨c1, [loadI (n + 1 + 1)], 0, false⟩ (loadI (n + 1 + 1)) W7 HR7.out rfl (by simp) rfl rfl HLS7.out HD7.out
    (fun X Y K h hs hk => LS.keep h hs hk) (fun X K h => LS.lt h) (fun X K h => LS.mem h) (fun d X Y K h hs hk => ⟨h.1, LS.keep h.2 hs hk⟩) (fun d X K h => LS.lt h.2) (fun d X K h => LS.mem h.2)
    (fun X K h => ls_step1 X K h (by omega)) (by omega) (by simp) (by omega) (fun _ => by omega)).mono ?_
  rintro e W8 ⟨d, G8, K8, ev8, av8, rfl, R8, ⟨rfl, LS8⟩, D8, GG8⟩
  have HR8 := keepH R8
  have HLS8 := keepH LS8
  have HD8 := keepH D8
  have HG8 := keepH GG8
  clear R8 LS8 D8 GG8 HR7 HLS7 HD7
  go_wp2_with fail
  refine (r_pick_out 7 W8 HR8.out (.inr (by simp)) (by omega)).mono ?_
  rintro e W9 ⟨rfl, R9, GG9⟩
  have HR9 := keepH R9
  have HG9 := keepH GG9
  clear R9 GG9 HR8
  go_wp2_with fail
  refine (r_pick_done (ths := [⟨c0, [loadI n], 0, false⟩, pickThr ⟨c1, [loadI (n + 1 + 1)], 0, false⟩ true]) 1 (pickThr ⟨c1, [loadI (n + 1 + 1)], 0, false⟩ true) W9 HR9.out rfl (by simp [pickThr]) (by omega)).mono ?_
  rintro e W10 ⟨rfl, R10, GG10⟩
  have HR10 := keepH R10
  have HG10 := keepH GG10
  clear R10 GG10 HR9
  go_wp2_with fail
  refine (r_done W10 HR10.out).mono ?_
  rintro e w ⟨rfl, q, rfl⟩
  have t1 : allDone [⟨c0, [loadI n], 0, false⟩, pickThr ⟨c1, [loadI (n + 1 + 1)], 0, false⟩ true] = false := rfl
  have LS10 : Hid (LS (W.heap.size + 1) W.heap.size v0 v1 n (n + 1 + 1) 1 false true (W10.drewN q) K8) := (HLS8.out.keep HG9.out.chg.size (fun k hk => HG9.out.chg.block k (HLS8.out.lt k hk) (fun e => HD8.out k e hk))).keep (Nat.le_trans HG10.out.chg.size (Nat.le_refl _)) (fun k hk => HG10.out.chg.block k (Nat.lt_of_lt_of_le (HLS8.out.lt k hk) HG9.out.chg.size) (fun e => HD8.out k e hk))
  have HR11 := keepH (HR10.out.kept (W' := W10.drewN q) (Nat.le_refl _) (fun _ _ => rfl))
  clear HR10
  go_wp2_with fail
  refine (r_pick_in (vb := v0) (ths := [⟨c0, [loadI n], 0, false⟩, pickThr ⟨c1, [loadI (n + 1 + 1)], 0, false⟩ true]) (LS (W.heap.size + 1) W.heap.size v0 v1 n (n + 1 + 1) 1 false true) (fun d X K => d = true ∧ LS (W.heap.size + 1) W.heap.size v0 v1 n (n + 1 + 1) 2 true true X K) 1 (fun _ => 2) 0 ⟨c0, [loadI n], 0, false⟩ (loadI n) (W10.drewN q) HR11.out rfl (by simp) rfl rfl LS10.out HD8.out
    (fun X Y K h hs hk => LS.keep h hs hk) (fun X K h => LS.lt h) (fun X K h => LS.mem h) (fun d X Y K h hs hk => ⟨h.1, LS.keep h.2 hs hk⟩) (fun d X K h => LS.lt h.2) (fun d X K h => LS.mem h.2)
    (fun X K h => ls_step0 X K h (by omega)) (by omega) (by simp [pickEvs]) (by omega) (fun _ => by omega)).mono ?_
  rintro e W12 ⟨d, G12, K12, ev12, av12, rfl, R12, ⟨rfl, LS12⟩, D12, GG12⟩
  have HR12 := keepH R12
  have HLS12 := keepH LS12
  have HC12 : Hid (Chg (fun _ => False) W W12) := by
    have a1 := HC7.out.trans HG8.out.chg (H := fun _ => False) (fun _ _ x => x) (fun k hk e => by rcases e with e | e; have := hGW.out k e; omega; have := hKW.out k e; omega)
    have n8 : ∀ k, G8 k ∨ K8 k → W.heap.size ≤ k := fun k e => (HG8.out.new k e).elim (fun e => e.elim (hGW.out k) (hKW.out k)) (fun e => Nat.le_trans HC7.out.size e)
    have a2 := a1.trans HG9.out.chg (H := fun _ => False) (fun _ _ x => x) (fun k hk e => by have := n8 k (.inl e); omega)
    have a3 := a2.trans HG10.out.chg (H := fun _ => False) (fun _ _ x => x) (fun k hk e => by have := n8 k (.inl e); omega)
    have a4 := a3.trans (Goes.drewN W10 (fun _ => False) q).chg (H := fun _ => False) (fun _ _ x => x) (fun _ _ x => x)
    exact a4.trans GG12.chg (fun _ _ x => x) (fun k hk e => by have := n8 k e; omega)
  clear R12 LS12 D12 GG12 HR11 LS10 HG8 HG9 HG10 HC7
  go_wp2_with fail
  refine (r_done W12 HR12.out).mono ?_
  rintro e w ⟨rfl, q2, rfl⟩
  have t2 : allDone [pickThr ⟨c0, [loadI n], 0, false⟩ true, pickThr ⟨c1, [loadI (n + 1 + 1)], 0, false⟩ true] = true := rfl
  have HR13 := keepH (HR12.out.kept (W' := W12.drewN q2) (Nat.le_refl _) (fun _ _ => rfl))
  go_wp2_with fail
  refine (r_steps _ HR13.out).mono ?_
  rintro e w ⟨rfl, rfl⟩
  obtain ⟨evs, ats, hel, hal, ev13, av13, G13, HRx⟩ : ∃ (evs : List Ev) (ats : List Int), evs.length = 4 ∧ ats.length = 2 ∧ ∃ ev av G, Hid (RunAt (W12.drewN q2) G r (W.heap.size + 1) (vwOf [v0, v1]) (.slice (some ⟨g, 0, none⟩) 2 c) ev av [pickThr ⟨c0, [loadI n], 0, false⟩ true, pickThr ⟨c1, [loadI (n + 1 + 1)], 0, false⟩ true] 4 evs ats) := ⟨_, _, rfl, rfl, _, _, _, HR13.out⟩
  clear HR12 HR13
  go_wp2_with fail
  refine (r_events _ HRx.out (by omega)).mono ?_
  rintro e W14 ⟨p14, c14, rfl, R14, C14, B14⟩
  have HR14 := keepH (HRx.out.chg C14 (fun _ _ h => h))
  have LS14 := keepH ((HLS12.out.keep (Y := W12.drewN q2) (Nat.le_refl _) (fun _ _ => rfl)).keep C14.size (fun k hk => C14.block k (HLS12.out.lt k hk) (fun h => h)))
  have HC14 := keepH ((HC12.out.trans (Goes.drewN W12 (fun _ => False) q2).chg (H := fun _ => False) (fun _ _ x => x) (fun _ _ x => x)).trans C14 (H := fun _ => False) (fun _ _ x => x) (fun _ _ x => x))
  clear R14 C14 B14 HRx
  go_wp2_with fail
  obtain ⟨b', F', most', next', cs', l', hm', hb', hll', _, _⟩ := LS14.out.mem
  have he2 : (extN ats l'.length (-1)).length = 2 := by rw [extN_length, hal, hll']; rfl
  refine (r_at _ HR14.out hm' hb' (by omega) (by omega)).mono ?_
  rintro e W15 ⟨p15, c15, rfl, R15, C15, B15⟩
  have HC15 := keepH (HC14.out.trans C15 (H := fun _ => False) (fun _ _ x => x) (fun _ _ x => x))
  clear R15 C15 B15 hm' hb' hll'
  go_wp2_with fail
  go_ret
  exact ⟨by simp, HC15.out⟩
end Go.Proofs.Ytnhiodmigmmfgaa
