/- How many steps are left of plans' procs; what a turn and Finish leave of them. -/
import Derived.Test.YtnhiodmigmmfgaaGreatO11YI1
import Derived.Test.YtnhiodmigmmfgaaGreatO9Yk
import Derived.Test.YtnhiodmigmmfgaaGreatO10YE
import Derived.Test.YtnhiodmigmmfgaaGreatO4SNew
import Derived.Lib.SmallJoins
import Derived.Deep.Slices
import Derived.Carry
import Derived.OpenShut
import Derived.SizedLaws
import Derived.Test.YtnhiodmigmmfgaaGreatRows
namespace Go.Proofs.YtnhiodmigmmfgaaGreat
open Go.RowKit Go.Shelf
set_option linter.unusedVariables false

def sumTo (f : Nat → Nat) : Nat → Nat
  | 0 => 0
  | n + 1 => sumTo f n + f n
theorem sumTo_congr {f g : Nat → Nat} : ∀ {n : Nat}, (∀ j, j < n → f j = g j) → sumTo f n = sumTo g n
  | 0, _ => rfl
  | n + 1, h => by simp only [sumTo]; rw [sumTo_congr (fun j hj => h j (by omega)), h n (by omega)]
theorem sumTo_dec {f g : Nat → Nat} {i n : Nat} (hi : i < n) (h : ∀ j, j ≠ i → g j = f j) (hf : f i = g i + 1) : sumTo f n = sumTo g n + 1 := by
  induction n with
  | zero => omega
  | succ n ih =>
    simp only [sumTo]
    by_cases e : i = n
    · subst e
      rw [sumTo_congr (f := g) (g := f) (fun j hj => h j (by omega))]
      omega
    · rw [ih (by omega), h n (fun z => e z.symm)]
      omega
def rp (s : PS) : Nat := nst s.pl - s.at_
def remT (cl : Nat → Nat) (c : Cfg PS) (i : Nat) : Nat := sumTo (fun j => if j < c.ix i then 0 else rp (c.σ i j)) (cl i)
def rem (T : Nat) (cl : Nat → Nat) (c : Cfg PS) : Nat := sumTo (remT cl c) T
structure PInv (T : Nat) (cl : Nat → Nat) (pl : Nat → Nat → PlP) (c : Cfg PS) : Prop where
  pl : ∀ i j, i < T → j < cl i → (c.σ i j).pl = pl i j
  at_ : ∀ i j, i < T → j < cl i → c.ix i ≤ j → (c.σ i j).at_ < nst (c.σ i j).pl
  bg : ∀ i, i < T → c.bg i = true → c.ix i < cl i
section
variable {Lo : Nat} {W0 : World} {most T : Nat} {cl : Nat → Nat} {pl : Nat → Nat → PlP} {c : Cfg PS}
theorem ps_step {s : PS} (h : s.at_ < nst s.pl) (th : Int) (next : Nat) (cs : List Nat) : (psS th most next cs s).s.pl = s.pl ∧ ((psS th most next cs s).done = true → rp s = 1) ∧ ((psS th most next cs s).done = false → rp s = rp (psS th most next cs s).s + 1 ∧ (psS th most next cs s).s.at_ < nst s.pl) := by
  unfold psS rp
  by_cases hn : s.pl.none = true
  · simp only [if_pos hn]
    have e : nst s.pl = 1 := by unfold nst; rw [if_pos hn]
    refine ⟨trivial, fun _ => by omega, fun z => by simp at z⟩
  · simp only [if_neg hn]
    have e : nst s.pl = if s.pl.L.length < 1 then 1 else s.pl.L.length := by unfold nst; rw [if_neg hn]
    refine ⟨trivial, fun z => ?_, fun z => ?_⟩
    · have z' := of_decide_eq_true z
      split at e <;> omega
    · have z' := of_decide_eq_false z
      rw [List.getElem?_eq_getElem (show s.at_ < s.pl.L.length by omega)]
      simp only [nxtA]
      split at e <;> omega
theorem PInv.go (h : PInv T cl pl c) (i : Nat) (hi : i < T) (hj : c.ix i < cl i) : PInv T cl pl (c.go (plK Lo W0) most i).tick ∧ rem T cl c = rem T cl (c.go (plK Lo W0) most i).tick + 1 := by
  have hs := ps_step (most := most) (h.at_ i _ hi hj (Nat.le_refl _)) (i : Int) c.next c.cs
  obtain ⟨d, hd⟩ : ∃ d, d = (psS (i : Int) most c.next c.cs (c.σ i (c.ix i))).done := ⟨_, rfl⟩
  obtain ⟨s', hs'⟩ : ∃ s', s' = (psS (i : Int) most c.next c.cs (c.σ i (c.ix i))).s := ⟨_, rfl⟩
  rw [← hd, ← hs'] at hs
  obtain ⟨g1, g2, g3⟩ := hs
  have hix : ∀ t, (c.go (plK Lo W0) most i).tick.ix t = if t = i then (if d = true then c.ix i + 1 else c.ix i) else c.ix t := fun t => by
    show updN c.ix i _ t = _
    unfold updN
    rw [hd]
    rfl
  have hsg : ∀ t q, (c.go (plK Lo W0) most i).tick.σ t q = if t = i then (if q = c.ix i then s' else c.σ i q) else c.σ t q := fun t q => by
    show updN c.σ i _ t q = _
    unfold updN
    rw [hs']
    split <;> rfl
  have hbg : ∀ t, (c.go (plK Lo W0) most i).tick.bg t = if t = i then !d else c.bg t := fun t => by
    show updN c.bg i _ t = _
    unfold updN
    rw [hd]
    rfl
  refine ⟨⟨fun t q ht hq => ?_, fun t q ht hq hle => ?_, fun t ht hb => ?_⟩, ?_⟩
  · rw [hsg]
    split
    · rename_i e; subst e
      split
      · rename_i e2; subst e2; rw [g1]; exact h.pl t _ ht hq
      · exact h.pl t q ht hq
    · exact h.pl t q ht hq
  · rw [hix] at hle
    rw [hsg]
    split at hle
    · rename_i e; subst e
      simp only [if_true]
      cases d with
      | true =>
        simp only [if_true] at hle
        rw [if_neg (by omega)]
        exact h.at_ t q ht hq (by omega)
      | false =>
        simp only [Bool.false_eq_true, if_false] at hle
        split
        · rename_i e2; subst e2; rw [g1]; exact (g3 rfl).2
        · exact h.at_ t q ht hq hle
    · rename_i e
      rw [if_neg e]
      exact h.at_ t q ht hq hle
  · rw [hbg] at hb
    rw [hix]
    split at hb
    · rename_i e; subst e
      cases d with
      | true => simp at hb
      | false => simpa using hj
    · rename_i e
      rw [if_neg e]
      exact h.bg t ht hb
  · unfold rem
    refine sumTo_dec hi (fun t ht => ?_) ?_
    · unfold remT
      rw [hix, if_neg ht]
      exact sumTo_congr (fun q _ => by rw [hsg, if_neg ht])
    · unfold remT
      refine sumTo_dec hj (fun q hq => ?_) ?_
      · rw [hix, if_pos rfl, hsg, if_pos rfl, if_neg hq]
        cases d with
        | true =>
          simp only [if_true]
          by_cases z : q < c.ix i
          · rw [if_pos z, if_pos (by omega)]
          · rw [if_neg z, if_neg (by omega)]
        | false => rfl
      · rw [hix, if_pos rfl, hsg, if_pos rfl, if_pos rfl, if_neg (Nat.lt_irrefl _)]
        cases d with
        | true =>
          simp only [if_true]
          rw [if_pos (by omega)]
          exact g2 rfl
        | false =>
          simp only [Bool.false_eq_true, if_false]
          rw [if_neg (Nat.lt_irrefl _)]
          exact (g3 rfl).1
theorem PInv.tick (h : PInv T cl pl c) : PInv T cl pl c.tick := ⟨h.pl, h.at_, h.bg⟩
theorem PInv.pick (h : PInv T cl pl c) (th : Int) : PInv T cl pl (c.pick (plK Lo W0) most T cl th) ∧ rem T cl c = rem T cl (c.pick (plK Lo W0) most T cl th) + (if Cfg.can T cl c th then 1 else 0) := by
  unfold Cfg.pick
  by_cases hc : Cfg.can T cl c th
  · rw [if_pos hc, if_pos hc]
    exact h.go th.toNat (by have := hc.1; have := hc.2.1; omega) hc.2.2
  · rw [if_neg hc, if_neg hc]
    exact ⟨h.tick, rfl⟩
end
end Go.Proofs.YtnhiodmigmmfgaaGreat
/- A new row of procs; the start. -/
namespace Go.Proofs.YtnhiodmigmmfgaaGreat
open Go.RowKit Go.Shelf
set_option linter.unusedVariables false

theorem row_base {W : World} {B : Nat} {e : TypeId} {s : Nat} {v : Value} {n : Nat} {xs : List Value} (h : W.ownsRow B e s v n xs) : W.ownsRow 0 e s v n xs := by
  obtain ⟨h0, h1⟩ := h
  refine ⟨h0, ?_⟩
  rcases h1 with h1 | ⟨g, cap, cur, rfl, hB, hg, r⟩
  · exact .inl h1
  · exact .inr ⟨g, cap, cur, rfl, Nat.zero_le _, hg, r⟩
theorem ifL_one (l : List PlP) (pb : Nat → Nat) (i : Nat) : ∀ u ∈ ifL l pb i, u.oneCell' = true := by
  intro u hu
  obtain ⟨j, _, rfl⟩ := List.mem_map.1 hu
  unfold ifV
  split
  · split <;> rfl
  · rfl
end Go.Proofs.YtnhiodmigmmfgaaGreat
/- The start of a run of plans' procs. -/
namespace Go.Proofs.YtnhiodmigmmfgaaGreat
open Go.RowKit Go.Shelf
set_option linter.unusedVariables false

def lOf (ll : List (List PlP)) (i : Nat) : List PlP := ll.getD i []
def qOf (ll : List (List PlP)) (i j : Nat) : PlP := (lOf ll i).getD j ⟨true, []⟩
def clOf (ll : List (List PlP)) (i : Nat) : Nat := (lOf ll i).length
def pvOf (ll : List (List PlP)) (pb : Nat → Nat → Nat) (i j : Nat) : Value := ifV (lOf ll i) (pb i) j
def s0Of (ll : List (List PlP)) (lp : Nat → Nat → Option Addr) (lc : Nat → Nat → Nat) (i j : Nat) : PS := ⟨qOf ll i j, lp i j, lc i j, 0, []⟩
def tlOfP (ll : List (List PlP)) (rv : Nat → Value) (pb : Nat → Nat → Nat) : List (Value × List Value) := (List.range ll.length).map fun i => (rv i, ifL (lOf ll i) (pb i) (lOf ll i).length)
/-- The law's own rows: the procs that it keeps, and those that it handed in. -/
def mineS (T : Nat) (sv : Value) (qv : Nat → Value) : Nat → Prop := fun k => sv.ownBlock = some k ∨ ∃ i, i < T ∧ (qv i).ownBlock = some k
theorem lOf_get {ll : List (List PlP)} {i : Nat} (h : i < ll.length) : ll[i]? = some (lOf ll i) := by unfold lOf; rw [List.getD_eq_getElem?_getD, List.getElem?_eq_getElem h]; rfl
theorem qOf_get {ll : List (List PlP)} {i j : Nat} (h : j < clOf ll i) : (lOf ll i)[j]? = some (qOf ll i j) := by unfold qOf; rw [List.getD_eq_getElem?_getD, List.getElem?_eq_getElem h]; rfl
/-- Its lists are the runner's. -/
theorem PM.lists {W X : World} {ll : List (List PlP)} {lp : Nat → Nat → Option Addr} {lc : Nat → Nat → Nat} {tv sv : Value} {rv qv : Nat → Value} {pb : Nat → Nat → Nat} (h : PM W X ll lp lc ll.length tv sv rv qv pb) : Lists X tv (tlOfP ll rv pb) := by
  refine ⟨?_, fun x hx => ?_, fun x hx u hu => ?_⟩
  · have e := row_base h.o1
    have e1 : (tlOfP ll rv pb).length = ll.length := by simp [tlOfP]
    have e2 : (tlOfP ll rv pb).map Prod.fst = (List.range ll.length).map rv := by simp [tlOfP, Function.comp_def]
    rw [e1, e2]
    exact e
  · obtain ⟨i, hi, rfl⟩ := List.mem_map.1 hx
    have hi' := List.mem_range.1 hi
    have e := row_base (h.r1 i (lOf ll i) hi' (lOf_get hi'))
    have e1 : (ifL (lOf ll i) (pb i) (lOf ll i).length).length = (lOf ll i).length := by simp [ifL]
    show X.ownsRow 0 91 1 (rv i) (ifL (lOf ll i) (pb i) (lOf ll i).length).length _
    rw [e1]
    exact e
  · obtain ⟨i, hi, rfl⟩ := List.mem_map.1 hx
    exact ifL_one _ _ _ u hu
theorem gr_start {W V W3 X Y : World} {F G S0 : Nat → Prop} {r m b next : Nat} {tv0 sv tv : Value} {rv qv : Nat → Value} {pb : Nat → Nat → Nat} {ths : List Thr} {vbs : List Nat} {cs : List Nat} {la : List Acc} {p : Option Addr} {ll : List (List PlP)} {ap : Nat → Option Addr} {ac : Nat → Nat} {lp : Nat → Nat → Option Addr} {lc : Nat → Nat → Nat}
    (hW : Chg (fun _ => False) W V) (hC : Chg (fun _ => False) V W3) (hm : IsMem W3 m b) (hb : Bank W3 F b 200 next cs la) (hla : la.length ≤ 16000000) (hF : ∀ k, F k → V.heap.size ≤ k) (hmW : V.heap.size ≤ m) (nm : ¬ F m) (B : PM W3 X ll lp lc ll.length tv0 sv rv qv pb) (M : Made X Y G r m b tv (tlOfP ll rv pb) ths vbs ll.length) (hl : ths.length = ll.length) (hP : ThsAt W W.heap.size p ll ap ac lp lc) (hL : ∀ l ∈ ll, ∀ q ∈ l, q.L.length ≤ 1048576) (hS0 : ∀ k, S0 k → k < W3.heap.size ∧ W.heap.size ≤ k ∧ ¬ F k ∧ k ≠ m) :
    GR (plK W.heap.size W) 200 m b ll.length (clOf ll) (fun j => vbs.getD j 0) (pvOf ll pb) ⟨next, cs, la.map Acc.bare, fun _ => 0, s0Of ll lp lc, 0, fun _ => false, [], []⟩ V Y Y (fun k => mineS ll.length sv qv k ∨ mineS ll.length tv0 rv k ∨ S0 k) r := by
  have s0 := hW.size
  have s1 := hC.size
  have s2 := B.chg.size
  have s3 := M.chg.size
  have cY := B.chg.trans M.chg (H := fun _ => False) (fun _ _ x => x) (fun _ _ x => x)
  have lm := hm.lt
  have lF : ∀ k, F k → k < W3.heap.size := hb.ltF
  have hv : ∀ j, j < ll.length → vbs[j]? = some (vbs.getD j 0) := fun j hj => by
    have : j < vbs.length := by rw [M.vl]; exact hj
    simp [List.getElem?_eq_getElem this]
  have vws := fun j (hj : j < ll.length) => M.views j _ (hv j hj)
  have pr : ∀ i j, i < ll.length → j < clOf ll i → (qOf ll i j).none = false → X.heap[pb i j]? = some (.cells #[.slice (lp i j) (qOf ll i j).L.length (lc i j), .int .i64 0, .slice none 0 0] 122 (0, 0)) ∧ W3.heap.size ≤ pb i j := fun i j hi hj hn => B.pr i (lOf ll i) j (qOf ll i j) hi (lOf_get hi) (qOf_get hj) hn
  have inj : ∀ i j i' j', i < ll.length → j < clOf ll i → (qOf ll i j).none = false → i' < ll.length → j' < clOf ll i' → (qOf ll i' j').none = false → pb i j = pb i' j' → i = i' ∧ j = j' := fun i j i' j' hi hj hn hi' hj' hn' e => by
    have key := fun a a' c c' ha hc hn ha' hc' hn' z => B.inj a a' (lOf ll a) (lOf ll a') c c' (qOf ll a c) (qOf ll a' c') ha ha' (lOf_get ha) (lOf_get ha') (qOf_get hc) (qOf_get hc') hn hn' z
    rcases Nat.lt_trichotomy i i' with h | h | h
    · have := key i i' j j' hi hj hn hi' hj' hn' (.inl h); omega
    · subst h
      rcases Nat.lt_trichotomy j j' with h | h | h
      · have := key i i j j' hi hj hn hi' hj' hn' (.inr ⟨rfl, h⟩); omega
      · exact ⟨rfl, h⟩
      · have := key i i j' j hi hj' hn' hi hj hn (.inr ⟨rfl, h⟩); omega
    · have := key i' i j' j hi' hj' hn' hi hj hn (.inl h); omega
  have hvi : ∀ i, i < ll.length → X.heap.size ≤ vbs.getD i 0 ∧ vbs.getD i 0 < Y.heap.size ∧ ¬ G (vbs.getD i 0) := fun i hi => ⟨(vws i hi).2.1, lt_of (vws i hi).1, (vws i hi).2.2⟩
  have hS : ∀ k, (mineS ll.length sv qv k ∨ mineS ll.length tv0 rv k ∨ S0 k) → k < X.heap.size ∧ W.heap.size ≤ k ∧ ¬ F k ∧ k ≠ m ∧ ∀ i j, i < ll.length → j < clOf ll i → (qOf ll i j).none = false → k ≠ pb i j := fun k e => by
    have row : ∀ {tp : TypeId} {cur : Array Value}, W3.heap.size ≤ k → X.heap[k]? = some (.cells cur tp (0, 0)) → tp ≠ 122 → k < X.heap.size ∧ W.heap.size ≤ k ∧ ¬ F k ∧ k ≠ m ∧ ∀ i j, i < ll.length → j < clOf ll i → (qOf ll i j).none = false → k ≠ pb i j := fun z1 z2 tn => ⟨lt_of z2, by omega, fun q => by have := lF k q; omega, fun q => by rw [q] at z1; exact absurd lm (by omega), fun a c ha hc hn q => typ_ne z2 (pr a c ha hc hn).1 tn q⟩
    rcases e with (e | ⟨i, hi, e⟩) | (e | ⟨i, hi, e⟩) | e
    · obtain ⟨z1, cur, z2⟩ := row_typ B.o2 e
      exact row z1 z2 (by decide)
    · obtain ⟨z1, cur, z2⟩ := row_typ (B.r2 i _ hi (lOf_get hi)) e
      exact row z1 z2 (by decide)
    · obtain ⟨z1, cur, z2⟩ := row_typ B.o1 e
      exact row z1 z2 (by decide)
    · obtain ⟨z1, cur, z2⟩ := row_typ (B.r1 i _ hi (lOf_get hi)) e
      exact row z1 z2 (by decide)
    · obtain ⟨z1, z2, z3, z4⟩ := hS0 k e
      exact ⟨by omega, z2, z3, z4, fun a c ha hc hn q => by have := (pr a c ha hc hn).2; omega⟩
  refine ⟨G, fun k => F k ∨ k = m ∨ (∃ i, i < ll.length ∧ k = vbs.getD i 0) ∨ (∃ i j, i < ll.length ∧ j < clOf ll i ∧ (qOf ll i j).none = false ∧ k = pb i j) ∨ k < W.heap.size, vwOf vbs, tv, _, _, ths, M.run, ⟨F, fun i j k => (qOf ll i j).none = false ∧ k = pb i j, fun _ => 0, fun k => open Classical in if k < W3.heap.size then (if F k then .mem else .main) else if k < X.heap.size then (if h : ∃ ij : Nat × Nat, ij.1 < ll.length ∧ ij.2 < clOf ll ij.1 ∧ (qOf ll ij.1 ij.2).none = false ∧ k = pb ij.1 ij.2 then .proc h.choose.1 h.choose.2 else .none) else if h : ∃ j, j < ll.length ∧ vbs.getD j 0 = k then .view h.choose else .none, ⟨⟨la, hb.chg cY (fun _ _ h => h), rfl⟩, hm.chg cY (fun h => h), fun i hi => ⟨(vws i hi).1, Nat.le_refl _⟩, fun i j hi hj => ?_, fun i j hi hj _ => ?_, fun k e => ⟨.inl e, ?_⟩, ⟨.inr (.inl rfl), ?_⟩, fun i hi => ⟨.inr (.inr (.inl ⟨i, hi, rfl⟩)), ?_⟩, fun i j k hi hj e => ⟨.inr (.inr (.inr (.inl ⟨i, j, hi, hj, e.1, e.2⟩))), ?_⟩, fun k e => ?_, by show (la.map Acc.bare).length ≤ 0 + 16000000; simpa using hla, by omega, fun k e => .inr (.inr (.inr (.inr e))), fun k e => ((hW.trans hC (H := fun _ => False) (fun _ _ x => x) (fun _ _ x => x)).trans cY (H := fun _ => False) (fun _ _ x => x) (fun _ _ x => x)).block k e (fun x => x), ⟨fun k e => by have := hF k e; omega, by omega, fun i hi => by have := (hvi i hi).1; omega⟩⟩⟩, fun j e hk => ?_, hl, fun j t ht => ?_, fun j hj => vwOf_get _ _ _ (hv j hj), by simp, fun j e => ?_, hW.size, hC.trans cY (fun _ _ x => x) (fun _ _ x => x), Nat.le_refl _, fun j e => ⟨by have := (hS j e).1; omega, rfl, fun g => by have := M.inG j g; have := (hS j e).1; omega, fun k => ?_⟩⟩
  · show psH W.heap.size Y _ (ifV (lOf ll i) (pb i) j) (s0Of ll lp lc i j)
    refine ⟨fun k e => by have := (pr i j hi hj e.1).2; rw [e.2]; omega, ?_⟩
    have ev : ifV (lOf ll i) (pb i) j = if (qOf ll i j).none = true then .nilIface else .iface 123 (.pointer (some ⟨pb i j, 0, none⟩)) := by unfold ifV; rw [qOf_get hj]
    rw [ev]
    show if (qOf ll i j).none = true then _ else _
    split
    · rename_i hn
      exact ⟨rfl, fun k e => by rw [hn] at e; exact absurd e.1 (by decide)⟩
    · rename_i hn
      have hn' : (qOf ll i j).none = false := by simpa using hn
      refine ⟨pb i j, rfl, ⟨.slice none 0 0, (M.chg.block _ (lt_of (pr i j hi hj hn').1) (fun x => x)).trans (pr i j hi hj hn').1, World.ownsRow_nil _ _ _ _, fun k => ?_⟩⟩
      simp [hn', Value.ownBlock]
  · have hd := ((hP i (lOf ll i) (lOf_get hi)).2 j (qOf ll i j) (qOf_get hj)).2
    exact ⟨hd, hL _ (List.mem_of_getElem? (lOf_get hi)) _ (List.mem_of_getElem? (qOf_get hj)), Nat.zero_le _⟩
  · simp only [if_pos (lF k e), if_pos e]
  · simp only [if_pos lm, if_neg nm]
  · obtain ⟨z1, z2, z3⟩ := hvi i hi
    simp only [if_neg (show ¬ vbs.getD i 0 < W3.heap.size by omega), if_neg (show ¬ vbs.getD i 0 < X.heap.size by omega)]
    have ex : ∃ j, j < ll.length ∧ vbs.getD j 0 = vbs.getD i 0 := ⟨i, hi, rfl⟩
    rw [dif_pos ex]
    congr 1
    obtain ⟨c1, c2⟩ := ex.choose_spec
    exact Decidable.byContradiction fun ne => M.apart _ _ _ _ ne (hv _ c1) (hv _ hi) c2
  · obtain ⟨e1, e2⟩ := e
    subst e2
    have z := pr i j hi hj e1
    simp only [if_neg (show ¬ pb i j < W3.heap.size by omega), if_pos (lt_of z.1)]
    have ex : ∃ ij : Nat × Nat, ij.1 < ll.length ∧ ij.2 < clOf ll ij.1 ∧ (qOf ll ij.1 ij.2).none = false ∧ pb i j = pb ij.1 ij.2 := ⟨(i, j), hi, hj, e1, rfl⟩
    rw [dif_pos ex]
    obtain ⟨c1, c2, c3, c4⟩ := ex.choose_spec
    obtain ⟨d1, d2⟩ := inj _ _ _ _ hi hj e1 c1 c2 c3 c4
    rw [← d1, ← d2]
  · rcases e with e | e | ⟨i, hi, e⟩ | ⟨i, j, hi, hj, hn, e⟩ | e
    · have := lF k e; omega
    · omega
    · have := (hvi i hi).2.1; omega
    · have := lt_of (pr i j hi hj hn).1; omega
    · omega
  · have g := M.inG j e
    rcases hk with z | z | ⟨i, hi, z⟩ | ⟨i, q, hi, hq, hn, z⟩ | z
    · have := lF j z; omega
    · omega
    · rw [z] at e; exact (hvi i hi).2.2 e
    · have := lt_of (pr i q hi hq hn).1; omega
    · omega
  · obtain ⟨x, hx, h1, h2, h3⟩ := M.thr j t ht
    have hj : j < ll.length := by
      have := (List.getElem?_eq_some_iff.1 hx).1
      simpa [tlOfP] using this
    simp [tlOfP, hj] at hx
    subst hx
    rw [h1]
    refine ⟨by simp [ifL, clOf], fun q hq => ?_, by rw [h2], by rw [h3]⟩
    have hq' : q < (lOf ll j).length := hq
    simp [ifL, hq', pvOf]
  · rcases e with e | ⟨e, q⟩
    · have := M.inG j e; omega
    · rcases e with e | e | ⟨i, hi, e⟩ | ⟨i, c, hi, hc, hn, e⟩ | e
      · exact hF j e
      · omega
      · have := (hvi i hi).1; omega
      · have := (pr i c hi hc hn).2; omega
      · omega
  · obtain ⟨y1, y2, y3, y4, y5⟩ := hS j e
    rcases k with z | z | ⟨i, hi, z⟩ | ⟨i, q, hi, hq, hn, z⟩ | z
    · exact y3 z
    · exact y4 z
    · have := (hvi i hi).1; omega
    · exact y5 i q hi hq hn z
    · omega
section
variable {P : Type} {Lo : Nat} {W0 : World} {κ : KindL P Lo W0} {most m b T : Nat} {cl : Nat → Nat} {vb : Nat → Nat} {pv : Nat → Nat → Value} {c : Cfg P} {W Z X Y : World} {S S' : Nat → Prop} {r : Nat}
/-- What is new beside a run is kept by it from now on. -/
theorem GR.rebase (h : GR κ most m b T cl vb pv c W Z X S r) (q : Chg (fun _ => False) X Y) (hS : ∀ k, S' k → S k ∨ (X.heap.size ≤ k ∧ k < Y.heap.size)) : GR κ most m b T cl vb pv c W Y Y S' r := by
  obtain ⟨G, K, vw, tv, ev, av, ths, h⟩ := h
  exact ⟨G, K, vw, tv, ev, av, ths, h.run.kept q.size (fun k e => q.block k (h.run.lt k e) (fun x => x)), h.ma.keep q.size (fun k e => q.block k (h.ma.ltK k e) (fun x => x)), h.apart, h.len, h.thr, h.vws, h.evl, h.inW, h.lo, h.chg.trans q (fun _ _ x => x) (fun _ _ x => x), Nat.le_refl _, fun j hj => by
    rcases hS j hj with e | e
    · exact ⟨Nat.lt_of_lt_of_le (h.keep j e).1 q.size, rfl, (h.keep j e).2.2⟩
    · exact ⟨e.2, rfl, fun g => by have := h.run.lt j g; omega, fun g => by have := h.ma.ltK j g; omega⟩⟩
/-- What a run keeps may be changed by others. -/
theorem GR.drop (h : GR κ most m b T cl vb pv c W Z X S r) {H : Nat → Prop} (q : Chg H X Y) (hH : ∀ k, H k → S k ∧ W.heap.size ≤ k) (hS : ∀ k, S' k → S k ∧ ¬ H k) : GR κ most m b T cl vb pv c W Z Y S' r := by
  obtain ⟨G, K, vw, tv, ev, av, ths, h⟩ := h
  refine ⟨G, K, vw, tv, ev, av, ths, h.run.kept q.size (fun k e => q.block k (h.run.lt k e) (fun z => (h.keep k (hH k z).1).2.2.1 e)), h.ma.keep q.size (fun k e => q.block k (h.ma.ltK k e) (fun z => (h.keep k (hH k z).1).2.2.2 e)), h.apart, h.len, h.thr, h.vws, h.evl, h.inW, h.lo, h.chg.trans q (fun _ _ x => x) (fun k hk z => by have := (hH k z).2; omega), Nat.le_trans h.zs q.size, fun j hj => ?_⟩
  obtain ⟨s1, s2⟩ := hS j hj
  exact ⟨Nat.lt_of_lt_of_le (h.keep j s1).1 q.size, (q.block j (h.keep j s1).1 s2).trans (h.keep j s1).2.1, (h.keep j s1).2.2⟩
end
end Go.Proofs.YtnhiodmigmmfgaaGreat
/- Plans that come in. -/
namespace Go.Proofs.YtnhiodmigmmfgaaGreat
open Go.RowKit Go.Shelf Go.Joins Go.ChangeShapes Go.WideShapes Go.Deep
set_option linter.unusedVariables false

theorem bulk_one {H : Type} (d : DataW H) : 1 ≤ Rows.uptoBulk d := by
  cases d with
  | lit l => cases l <;> simp [Rows.uptoBulk]
  | nil => simp [Rows.uptoBulk]
  | ptr d => simp [Rows.uptoBulk]
  | slice elems spare => simp [Rows.uptoBulk]
  | agg parts => simp [Rows.uptoBulk]
  | iface t d => simp [Rows.uptoBulk]
  | map entries => simp [Rows.uptoBulk]
  | held h => simp [Rows.uptoBulk]
theorem bulk_length {H : Type} (l : List (DataW H)) : l.length ≤ Rows.uptoBulkAll l := by
  induction l with
  | nil => simp [Rows.uptoBulkAll]
  | cons x r ih => have := bulk_one x; simp only [Rows.uptoBulkAll, List.length_cons]; omega
theorem bulk_mem {H : Type} {d : DataW H} {l : List (DataW H)} (h : d ∈ l) : Rows.uptoBulk d ≤ Rows.uptoBulkAll l := by
  induction l with
  | nil => simp at h
  | cons x r ih =>
    simp only [Rows.uptoBulkAll]
    rcases List.mem_cons.1 h with rfl | h
    · omega
    · have := ih h
      omega
theorem cells_each {w : World} {a : Addr} {n : Nat} {cs : List Value} (h : w.cells? 0 a n = some cs) : ∀ j u, cs[j]? = some u → w.cell? (a.add j) = some u := by
  obtain ⟨_, hl, hc⟩ := World.cells?_some h
  intro j u hj
  have hlt : j < n := by
    have := (List.getElem?_eq_some_iff.1 hj).1
    omega
  rw [hc j hlt, hj]
theorem choose_list {α : Type} {P : Nat → α → Prop} (n : Nat) (h : ∀ i, i < n → ∃ a, P i a) : ∃ l : List α, l.length = n ∧ ∀ (i : Nat) (a : α), l[i]? = some a → P i a := by
  induction n with
  | zero => exact ⟨[], rfl, fun i a e => by simp at e⟩
  | succ n ih =>
    obtain ⟨l, hl, hp⟩ := ih (fun i hi => h i (by omega))
    obtain ⟨a, ha⟩ := h n (by omega)
    refine ⟨l ++ [a], by simp [hl], fun i b e => ?_⟩
    by_cases c : i < n
    · rw [List.getElem?_append_left (by omega)] at e
      exact hp i b e
    · have hi : i = n := by
        have := (List.getElem?_eq_some_iff.1 e).1
        simp [hl] at this
        omega
      subst hi
      rw [← hl] at e
      simp at e
      subst e
      exact ha
theorem slice_rowsM {H : Type} {enc : TypeId × Value → H} {W : World} {sp : Nat → Bool} {held : Bool} {fuel : Nat} {cs : List Value} {x : DataW H × List MemPlace} {T E : TypeId} {s : Nat} {Q : List Value → Prop} {M : Nat} (hM : Rows.uptoBulk x.1 ≤ M) (hT : Tryz.prog.underlying T = some (.slice E)) (hs : Tryz.prog.cellsOf E = s) (hs0 : 0 < s)
    (hQ : ∀ fuel cs y, DataW.trod enc Tryz.prog W 0 sp held fuel E cs = some y → Rows.uptoBulk y.1 ≤ M → Q cs ∧ cs.length = s) (hf : DataW.trod enc Tryz.prog W 0 sp held fuel T cs = some x) :
    ∃ p n c, cs = [.slice p n c] ∧ n ≤ Rows.uptoBulk x.1 ∧ (n = 0 ∨ ∃ bk off, p = some ⟨bk, off, none⟩ ∧ bk < W.heap.size ∧ ∀ i, i < n → ∃ cs' : List Value, Q cs' ∧ ∀ (j : Nat) (u : Value), cs'[j]? = some u → W.cell? ⟨bk, off + (i * s + j), none⟩ = some u) := by
  rcases open_slice hT hf with ⟨hcs, _⟩ | ⟨a, len, cap, m, k, D, Pl, hcs, _, hl, hm, hme, hx, hi⟩
  · exact ⟨none, 0, 0, hcs, Nat.zero_le _, .inl rfl⟩
  · have hmn : len ≤ m := by rw [hme]; split <;> omega
    have hb : len ≤ Rows.uptoBulk x.1 := by
      rw [hx]
      have := bulk_length ((List.range len).map D)
      simp only [Rows.uptoBulk]
      simp at this
      omega
    have hbD : ∀ i, i < len → Rows.uptoBulk (D i) ≤ M := fun i hi2 => by
      refine Nat.le_trans ?_ hM
      rw [hx]
      have := bulk_mem (d := D i) (l := (List.range len).map D) (List.mem_map.2 ⟨i, List.mem_range.2 hi2, rfl⟩)
      simp only [Rows.uptoBulk]
      omega
    refine ⟨some a, len, cap, hcs, hb, ?_⟩
    rcases Nat.eq_zero_or_pos len with h0 | h0
    · exact .inl h0
    · obtain ⟨bk, off, spot⟩ := a
      have hrow : ∀ i, i < len → ∃ cs' : List Value, (Q cs' ∧ cs'.length = s) ∧ ∀ (j : Nat) (u : Value), cs'[j]? = some u → W.cell? ((⟨bk, off, spot⟩ : Addr).add (i * s + j)) = some u := fun i hin => by
        obtain ⟨cs', hc, ht⟩ := hi i (by omega)
        refine ⟨cs', hQ _ _ _ ht (hbD i hin), fun j u hj => ?_⟩
        rw [hs] at hc
        have e2 := cells_each hc j u hj
        have e3 : ((⟨bk, off, spot⟩ : Addr).add (i * s)).add j = (⟨bk, off, spot⟩ : Addr).add (i * s + j) := by
          unfold Addr.add
          split <;> split <;> simp_all <;> omega
        rw [← e3]
        exact e2
      have h00 : ∃ u, W.cell? ((⟨bk, off, spot⟩ : Addr).add 0) = some u := by
        obtain ⟨cs', ⟨_, hl'⟩, ho⟩ := hrow 0 h0
        obtain ⟨u, hu⟩ : ∃ u, cs'[0]? = some u := ⟨cs'[0]'(by omega), List.getElem?_eq_getElem _⟩
        exact ⟨u, by simpa using ho 0 u hu⟩
      obtain ⟨u, hu⟩ := h00
      have hspot : spot = none := by simpa [Addr.add] using World.cell?_spot hu
      subst hspot
      have hbk : bk < W.heap.size := World.block_lt_of_cell? W _ hu
      refine .inr ⟨bk, off, rfl, hbk, fun i hin => ?_⟩
      obtain ⟨cs', ⟨hq, _⟩, ho⟩ := hrow i hin
      refine ⟨cs', hq, fun j u hj => ?_⟩
      have e := ho j u hj
      unfold Addr.add at e
      split at e
      · rename_i z
        have z0 : i * s + j = 0 := by simpa using z
        rw [z0]
        exact e
      · exact e
theorem coU : Tryz.prog.cellsOf 75 = 1 := by kernel_rfl
theorem coUs : Tryz.prog.cellsOf 110 = 1 := by kernel_rfl
theorem coK : Tryz.prog.cellsOf 109 = 1 := by kernel_rfl
theorem coB : Tryz.prog.cellsOf 4 = 1 := by kernel_rfl
theorem coDo : Tryz.prog.cellsOf 112 = 5 := by kernel_rfl
theorem coDos : Tryz.prog.cellsOf 105 = 1 := by kernel_rfl
theorem coPl : Tryz.prog.cellsOf 107 = 2 := by kernel_rfl
theorem nat_u64 {n : Int} (h : (Lit.int .u64 n).wf = true) : ∃ m : Nat, n = (m : Int) ∧ m < 18446744073709551616 := by
  have b := bounds_u64 h
  exact ⟨n.toNat, by omega, by omega⟩
theorem list5 {α : Type} {cs : List α} (h : cs.length = 5) : ∃ a b c d e, cs = [a, b, c, d, e] := by
  match cs, h with
  | [a, b, c, d, e], _ => exact ⟨a, b, c, d, e, rfl⟩
theorem list2 {α : Type} {cs : List α} (h : cs.length = 2) : ∃ c0 c1, cs = [c0, c1] := by
  match cs, h with
  | [c0, c1], _ => exact ⟨c0, c1, rfl⟩
theorem add_plainY (bk off i : Nat) : (⟨bk, off, none⟩ : Addr).add i = ⟨bk, off + i, none⟩ := by
  unfold Addr.add
  split <;> simp
theorem vals_open {H : Type} {enc : TypeId × Value → H} {W : World} {sp : Nat → Bool} {held : Bool} {fuel : Nat} {cs : List Value} {x : DataW H × List MemPlace} (hM : Rows.uptoBulk x.1 ≤ 1048576) (hf : DataW.trod enc Tryz.prog W 0 sp held fuel 110 cs = some x) :
    ∃ (p : Option Addr) (c : Nat) (l : List Nat), cs = [.slice p l.length c] ∧ Reads W p l ∧ (∀ ad, p = some ad → l ≠ [] → ad.block < W.heap.size) ∧ (∀ y ∈ l, y < 18446744073709551616) ∧ l.length ≤ 1048576 := by
  obtain ⟨p, n, c, hcs, hb, hr⟩ := slice_rowsM (s := 1) (M := 1048576) hM (Q := fun cs => ∃ k : Nat, k < 18446744073709551616 ∧ cs = [.int .u64 (k : Int)]) Tryz.underlying110 coU (by decide) (fun fuel cs y hy _ => by
    obtain ⟨z, e, _, w⟩ := DataW.trod_int Tryz.underlying75 hy
    obtain ⟨k, rfl, hk⟩ := nat_u64 w
    exact ⟨⟨k, hk, e⟩, by rw [e]; rfl⟩) hf
  rcases hr with rfl | ⟨bk, off, rfl, hbk, hr⟩
  · exact ⟨p, c, [], hcs, .inl rfl, fun _ _ h => absurd rfl h, fun y hy => by simp at hy, by simp⟩
  · obtain ⟨l, hl, hp⟩ := choose_list (P := fun i (k : Nat) => k < 18446744073709551616 ∧ W.cell? ⟨bk, off + i, none⟩ = some (.int .u64 (k : Int))) n (fun i hi => by
      obtain ⟨cs', ⟨k, hk, rfl⟩, hc⟩ := hr i hi
      have := hc 0 _ rfl
      simp at this
      exact ⟨k, hk, this⟩)
    subst hl
    refine ⟨_, c, l, hcs, .inr ⟨⟨bk, off, none⟩, rfl, fun j u hj => ?_⟩, fun ad e _ => by injection e with e; rw [← e]; exact hbk, fun y hy => ?_, by omega⟩
    · rw [List.getElem?_map] at hj
      cases hx : l[j]? with
      | none => rw [hx] at hj; simp at hj
      | some y => rw [hx] at hj; simp at hj; rw [← hj, add_plainY]; exact (hp j y hx).2
    · obtain ⟨i, hi⟩ := List.mem_iff_getElem?.1 hy
      exact (hp i y hi).1
theorem do_open {H : Type} {enc : TypeId × Value → H} {W : World} {sp : Nat → Bool} {held : Bool} {fuel : Nat} {cs : List Value} {y : DataW H × List MemPlace} (hf : DataW.trod enc Tryz.prog W 0 sp held fuel 112 cs = some y) (hM : Rows.uptoBulk y.1 ≤ 1048576) :
    (∃ (d : DoP) (vp : Option Addr) (vc : Nat), cs = [.int .u8 d.kd, .int .u64 (d.ad : Int), .int .u64 (d.a : Int), .int .u64 (d.b : Int), .slice vp d.vals.length vc] ∧ d.Ok ∧ Reads W vp d.vals ∧ ∀ ad, vp = some ad → d.vals ≠ [] → ad.block < W.heap.size) ∧ cs.length = 5 := by
  obtain ⟨xs, n, hn, hx, hl, hlen, hh⟩ := DataW.trod_struct Tryz.underlying112 hf
  subst hn
  rw [coDo] at hl
  refine ⟨?_, hl⟩
  obtain ⟨c0, c1, c2, c3, c4, rfl⟩ := list5 hl
  obtain ⟨y0, y1, y2, y3, y4, rfl⟩ := list5 (show xs.length = 5 from hlen)
  have h0 : DataW.trod enc Tryz.prog W 0 sp held n 109 [c0] = some y0 := by have := hh 0 _ rfl; simpa [coK] using this
  have h1 : DataW.trod enc Tryz.prog W 0 sp held n 75 [c1] = some y1 := by have := hh 1 _ rfl; simpa [coK, coU] using this
  have h2 : DataW.trod enc Tryz.prog W 0 sp held n 75 [c2] = some y2 := by have := hh 2 _ rfl; simpa [coK, coU] using this
  have h3 : DataW.trod enc Tryz.prog W 0 sp held n 75 [c3] = some y3 := by have := hh 3 _ rfl; simpa [coK, coU] using this
  have h4 : DataW.trod enc Tryz.prog W 0 sp held n 110 [c4] = some y4 := by have := hh 4 _ rfl; simpa [coK, coU, coUs] using this
  obtain ⟨z0, e0, _, w0⟩ := DataW.trod_int Tryz.underlying109 h0
  obtain ⟨z1, e1, _, w1⟩ := DataW.trod_int Tryz.underlying75 h1
  obtain ⟨z2, e2, _, w2⟩ := DataW.trod_int Tryz.underlying75 h2
  obtain ⟨z3, e3, _, w3⟩ := DataW.trod_int Tryz.underlying75 h3
  obtain ⟨m1, rfl, b1⟩ := nat_u64 w1
  obtain ⟨m2, rfl, b2⟩ := nat_u64 w2
  obtain ⟨m3, rfl, b3⟩ := nat_u64 w3
  have q := bulk_mem (d := y4.1) (l := [y0.1, y1.1, y2.1, y3.1, y4.1]) (by simp)
  have hM4 : Rows.uptoBulk y4.1 ≤ 1048576 := by
    rw [hx] at hM
    simp only [Rows.uptoBulk] at hM
    simp at q hM
    omega
  obtain ⟨vp, vc, l, hc, hR, hB, hS, hL⟩ := vals_open hM4 h4
  simp at e0 e1 e2 e3 hc
  subst e0 e1 e2 e3 hc
  have b0 : 0 ≤ z0 ∧ z0 < 256 := by
    simp [Lit.wf, IntKind.min, IntKind.max, IntKind.signed, IntKind.bits] at w0
    omega
  exact ⟨⟨z0, m1, m2, m3, l⟩, vp, vc, rfl, ⟨b0, b1, b2, b3, hS, by simp only; omega⟩, hR, hB⟩
theorem dos_open {H : Type} {enc : TypeId × Value → H} {W : World} {sp : Nat → Bool} {held : Bool} {fuel : Nat} {cs : List Value} {x : DataW H × List MemPlace} (hM : Rows.uptoBulk x.1 ≤ 1048576) (hf : DataW.trod enc Tryz.prog W 0 sp held fuel 105 cs = some x) :
    ∃ (p : Option Addr) (c : Nat) (L : List DoP), cs = [.slice p L.length c] ∧ DosAt W W.heap.size p L ∧ L.length ≤ 1048576 := by
  obtain ⟨p, n, c, hcs, hb, hr⟩ := slice_rowsM (s := 5) (M := 1048576) hM (Q := fun cs => ∃ (d : DoP) (vp : Option Addr) (vc : Nat), cs = [.int .u8 d.kd, .int .u64 (d.ad : Int), .int .u64 (d.a : Int), .int .u64 (d.b : Int), .slice vp d.vals.length vc] ∧ d.Ok ∧ Reads W vp d.vals ∧ ∀ ad, vp = some ad → d.vals ≠ [] → ad.block < W.heap.size) Tryz.underlying105 coDo (by decide) (fun fuel cs y hy hyM => do_open hy hyM) hf
  rcases hr with rfl | ⟨bk, off, rfl, hbk, hr⟩
  · exact ⟨p, c, [], hcs, fun i d hd => by simp at hd, by simp⟩
  · obtain ⟨L, hl, hp⟩ := choose_list (P := fun i (d : DoP) => d.Ok ∧ ∃ vp vc, W.cell? ⟨bk, off + i * 5, none⟩ = some (.int .u8 d.kd) ∧ W.cell? ⟨bk, off + i * 5 + 1, none⟩ = some (.int .u64 (d.ad : Int)) ∧ W.cell? ⟨bk, off + i * 5 + 2, none⟩ = some (.int .u64 (d.a : Int)) ∧ W.cell? ⟨bk, off + i * 5 + 3, none⟩ = some (.int .u64 (d.b : Int)) ∧ W.cell? ⟨bk, off + i * 5 + 4, none⟩ = some (.slice vp d.vals.length vc) ∧ Reads W vp d.vals ∧ ∀ ad, vp = some ad → d.vals ≠ [] → ad.block < W.heap.size) n (fun i hi => by
      obtain ⟨cs', ⟨d, vp, vc, rfl, ho, hR, hB⟩, hc⟩ := hr i hi
      exact ⟨d, ho, vp, vc, by have := hc 0 _ rfl; simpa using this, by have := hc 1 _ rfl; simpa [Nat.add_assoc] using this, by have := hc 2 _ rfl; simpa [Nat.add_assoc] using this, by have := hc 3 _ rfl; simpa [Nat.add_assoc] using this, by have := hc 4 _ rfl; simpa [Nat.add_assoc] using this, hR, hB⟩)
    subst hl
    exact ⟨_, c, L, hcs, fun i d hd => by
      obtain ⟨ho, vp, vc, r⟩ := hp i d hd
      exact ⟨ho, bk, off, vp, vc, rfl, hbk, r⟩, by omega⟩
end Go.Proofs.YtnhiodmigmmfgaaGreat
/- Lists of lists of plans that come in, and the sum of all their steps. -/
namespace Go.Proofs.YtnhiodmigmmfgaaGreat
open Go.RowKit Go.Shelf Go.ChangeShapes Go.WideShapes Go.ChangeAt Go.Deep
set_option linter.unusedVariables false

theorem bulkAll_append {H : Type} (a b : List (DataW H)) : Rows.uptoBulkAll (a ++ b) = Rows.uptoBulkAll a + Rows.uptoBulkAll b := by
  induction a with
  | nil => simp [Rows.uptoBulkAll]
  | cons x r ih => simp only [List.cons_append, Rows.uptoBulkAll, ih]; omega
theorem bulk_sum {H : Type} (D : Nat → DataW H) : ∀ n, Rows.uptoBulkAll ((List.range n).map D) = sumTo (fun i => Rows.uptoBulk (D i)) n
  | 0 => by simp [Rows.uptoBulkAll, sumTo]
  | n + 1 => by
    rw [List.range_succ, List.map_append, bulkAll_append, bulk_sum D n]
    simp [Rows.uptoBulkAll, sumTo]
theorem sumTo_mono {f g : Nat → Nat} : ∀ {n : Nat}, (∀ j, j < n → f j ≤ g j) → sumTo f n ≤ sumTo g n
  | 0, _ => Nat.le_refl _
  | n + 1, h => by
    have := sumTo_mono (f := f) (g := g) (n := n) (fun j hj => h j (by omega))
    have := h n (by omega)
    simp only [sumTo]
    omega
set_option maxRecDepth 100000 in
theorem slice_rowsS {H : Type} {enc : TypeId × Value → H} {W : World} {sp : Nat → Bool} {held : Bool} {fuel : Nat} {cs : List Value} {x : DataW H × List MemPlace} {T E : TypeId} {s : Nat} {Q : List Value → Nat → Prop} {M : Nat} (hM : Rows.uptoBulk x.1 ≤ M) (hT : Tryz.prog.underlying T = some (.slice E)) (hs : Tryz.prog.cellsOf E = s) (hs0 : 0 < s)
    (hQ : ∀ fuel cs y, DataW.trod enc Tryz.prog W 0 sp held fuel E cs = some y → Rows.uptoBulk y.1 ≤ M → Q cs (Rows.uptoBulk y.1) ∧ cs.length = s) (hf : DataW.trod enc Tryz.prog W 0 sp held fuel T cs = some x) :
    ∃ p n c, cs = [.slice p n c] ∧ n ≤ Rows.uptoBulk x.1 ∧ ∃ ws : Nat → Nat, sumTo ws n ≤ Rows.uptoBulk x.1 ∧ (n = 0 ∨ ∃ bk off, p = some ⟨bk, off, none⟩ ∧ bk < W.heap.size ∧ ∀ i, i < n → ∃ cs' : List Value, Q cs' (ws i) ∧ ∀ (j : Nat) (u : Value), cs'[j]? = some u → W.cell? ⟨bk, off + (i * s + j), none⟩ = some u) := by
  rcases open_slice hT hf with ⟨hcs, _⟩ | ⟨a, len, cap, m, k, D, Pl, hcs, _, hl, hm, hme, hx, hi⟩
  · exact ⟨none, 0, 0, hcs, Nat.zero_le _, fun _ => 0, Nat.zero_le _, .inl rfl⟩
  · have hmn : len ≤ m := by rw [hme]; split <;> omega
    have hb : len ≤ Rows.uptoBulk x.1 := by
      rw [hx]
      have := bulk_length ((List.range len).map D)
      simp only [Rows.uptoBulk]
      simp at this
      omega
    have hbD : ∀ i, i < len → Rows.uptoBulk (D i) ≤ M := fun i hi2 => by
      refine Nat.le_trans ?_ hM
      rw [hx]
      have := bulk_mem (d := D i) (l := (List.range len).map D) (List.mem_map.2 ⟨i, List.mem_range.2 hi2, rfl⟩)
      simp only [Rows.uptoBulk]
      omega
    have hsum : sumTo (fun i => Rows.uptoBulk (D i)) len ≤ Rows.uptoBulk x.1 := by
      rw [hx, ← bulk_sum]
      simp only [Rows.uptoBulk]
      omega
    refine ⟨some a, len, cap, hcs, hb, fun i => Rows.uptoBulk (D i), hsum, ?_⟩
    rcases Nat.eq_zero_or_pos len with h0 | h0
    · exact .inl h0
    · obtain ⟨bk, off, spot⟩ := a
      have hrow : ∀ i, i < len → ∃ cs' : List Value, (Q cs' (Rows.uptoBulk (D i)) ∧ cs'.length = s) ∧ ∀ (j : Nat) (u : Value), cs'[j]? = some u → W.cell? ((⟨bk, off, spot⟩ : Addr).add (i * s + j)) = some u := fun i hin => by
        obtain ⟨cs', hc, ht⟩ := hi i (by omega)
        refine ⟨cs', hQ _ _ _ ht (hbD i hin), fun j u hj => ?_⟩
        rw [hs] at hc
        have e2 := cells_each hc j u hj
        have e3 : ((⟨bk, off, spot⟩ : Addr).add (i * s)).add j = (⟨bk, off, spot⟩ : Addr).add (i * s + j) := by
          unfold Addr.add
          split <;> split <;> simp_all <;> omega
        rw [← e3]
        exact e2
      have h00 : ∃ u, W.cell? ((⟨bk, off, spot⟩ : Addr).add 0) = some u := by
        obtain ⟨cs', ⟨_, hl'⟩, ho⟩ := hrow 0 h0
        obtain ⟨u, hu⟩ : ∃ u, cs'[0]? = some u := ⟨cs'[0]'(by omega), List.getElem?_eq_getElem _⟩
        exact ⟨u, by simpa using ho 0 u hu⟩
      obtain ⟨u, hu⟩ := h00
      have hspot : spot = none := by simpa [Addr.add] using World.cell?_spot hu
      subst hspot
      have hbk : bk < W.heap.size := World.block_lt_of_cell? W _ hu
      refine .inr ⟨bk, off, rfl, hbk, fun i hin => ?_⟩
      obtain ⟨cs', ⟨hq, _⟩, ho⟩ := hrow i hin
      refine ⟨cs', hq, fun j u hj => ?_⟩
      have e := ho j u hj
      unfold Addr.add at e
      split at e
      · rename_i z
        have z0 : i * s + j = 0 := by simpa using z
        rw [z0]
        exact e
      · exact e

theorem pre_sum (l : List PlP) : ∀ i, i ≤ l.length → pre l i = sumTo (fun j => match l[j]? with | some q => nst q | none => 0) i := by
  intro i
  induction i with
  | zero => intro _; rw [pre_zero]; rfl
  | succ i ih =>
    intro hi
    have hp : l[i]? = some l[i] := List.getElem?_eq_getElem (by omega)
    rw [pre_succ hp, ih (by omega)]
    simp only [sumTo, hp]
theorem plan_openS {H : Type} {enc : TypeId × Value → H} {W : World} {sp : Nat → Bool} {held : Bool} {fuel : Nat} {cs : List Value} {y : DataW H × List MemPlace} (hf : DataW.trod enc Tryz.prog W 0 sp held fuel 107 cs = some y) (hM : Rows.uptoBulk y.1 ≤ 1048576) :
    (∃ (q : PlP) (lp : Option Addr) (lc : Nat), cs = [.bool q.none, .slice lp q.L.length lc] ∧ DosAt W W.heap.size lp q.L ∧ q.L.length ≤ 1048576 ∧ nst q ≤ Rows.uptoBulk y.1) ∧ cs.length = 2 := by
  obtain ⟨xs, n, hn, hx, hl, hlen, hh⟩ := DataW.trod_struct Tryz.underlying107 hf
  subst hn
  rw [coPl] at hl
  refine ⟨?_, hl⟩
  obtain ⟨c0, c1, rfl⟩ := list2 hl
  obtain ⟨y0, y1, rfl⟩ := list2 (show xs.length = 2 from hlen)
  have h0 : DataW.trod enc Tryz.prog W 0 sp held n 4 [c0] = some y0 := by have := hh 0 _ rfl; simpa [coB] using this
  have h1 : DataW.trod enc Tryz.prog W 0 sp held n 105 [c1] = some y1 := by have := hh 1 _ rfl; simpa [coB, coDos] using this
  obtain ⟨z0, e0, _⟩ := DataW.trod_bool Tryz.underlying4 h0
  have q := bulk_mem (d := y1.1) (l := [y0.1, y1.1]) (by simp)
  have hB1 : Rows.uptoBulk y1.1 + 1 ≤ Rows.uptoBulk y.1 := by
    rw [hx]
    simp only [Rows.uptoBulk]
    simp at q ⊢
    omega
  obtain ⟨p, m, c, hcs, hb, hr⟩ := slice_rowsM (s := 5) (M := 1048576) (show Rows.uptoBulk y1.1 ≤ 1048576 by omega) (Q := fun _ => True) Tryz.underlying105 coDo (by decide) (fun fuel cs y hy hyM => ⟨trivial, (do_open hy hyM).2⟩) h1
  obtain ⟨lp, lc, L, hc, hD, hL⟩ := dos_open (show Rows.uptoBulk y1.1 ≤ 1048576 by omega) h1
  have hLm : L.length = m := by rw [hcs] at hc; simp at hc; exact hc.2.1.symm
  simp at e0 hc
  subst e0 hc
  refine ⟨⟨z0, L⟩, lp, lc, rfl, hD, by show L.length ≤ 1048576; omega, ?_⟩
  unfold nst
  split
  · omega
  · split
    · omega
    · show L.length ≤ _
      omega
theorem plans_openS {H : Type} {enc : TypeId × Value → H} {W : World} {sp : Nat → Bool} {held : Bool} {fuel : Nat} {cs : List Value} {y : DataW H × List MemPlace} (hf : DataW.trod enc Tryz.prog W 0 sp held fuel 108 cs = some y) (hM : Rows.uptoBulk y.1 ≤ 1048576) :
    (∃ (l : List PlP) (p : Option Addr) (c : Nat) (lp : Nat → Option Addr) (lc : Nat → Nat), cs = [.slice p l.length c] ∧ PlansAt W W.heap.size p l lp lc ∧ l.length ≤ 1048576 ∧ (∀ q ∈ l, q.L.length ≤ 1048576) ∧ pre l l.length ≤ Rows.uptoBulk y.1) ∧ cs.length = 1 := by
  obtain ⟨p, n, c, hcs, hb, ws, hws, hr⟩ := slice_rowsS (s := 2) (M := 1048576) hM (Q := fun cs w => ∃ (q : PlP) (lp : Option Addr) (lc : Nat), cs = [.bool q.none, .slice lp q.L.length lc] ∧ DosAt W W.heap.size lp q.L ∧ q.L.length ≤ 1048576 ∧ nst q ≤ w) Tryz.underlying108 coPl (by decide) (fun fuel cs y hy hyM => plan_openS hy hyM) hf
  refine ⟨?_, by rw [hcs]; rfl⟩
  rcases hr with rfl | ⟨bk, off, rfl, hbk, hr⟩
  · exact ⟨[], p, c, fun _ => none, fun _ => 0, hcs, fun i q hq => by simp at hq, by simp, fun q hq => by simp at hq, by simp [pre]⟩
  · obtain ⟨l, hl, hp⟩ := choose_list (P := fun i (z : PlP × Option Addr × Nat) => W.cell? ⟨bk, off + i * 2, none⟩ = some (.bool z.1.none) ∧ W.cell? ⟨bk, off + i * 2 + 1, none⟩ = some (.slice z.2.1 z.1.L.length z.2.2) ∧ DosAt W W.heap.size z.2.1 z.1.L ∧ z.1.L.length ≤ 1048576 ∧ nst z.1 ≤ ws i) n (fun i hi => by
      obtain ⟨cs', ⟨q, lp, lc, rfl, hD, hL⟩, hc⟩ := hr i hi
      exact ⟨⟨q, lp, lc⟩, by have := hc 0 _ rfl; simpa using this, by have := hc 1 _ rfl; simpa [Nat.add_assoc] using this, hD, hL⟩)
    subst hl
    refine ⟨l.map (·.1), some ⟨bk, off, none⟩, c, fun i => match l[i]? with | some z => z.2.1 | none => none, fun i => match l[i]? with | some z => z.2.2 | none => 0, by simpa using hcs, fun i q hq => ?_, by simp; omega, fun q hq => ?_, ?_⟩
    · rw [List.getElem?_map] at hq
      cases hz : l[i]? with
      | none => rw [hz] at hq; simp at hq
      | some z =>
        rw [hz] at hq
        simp at hq
        subst hq
        obtain ⟨a1, a2, a3, a4, a5⟩ := hp i z hz
        simp only [hz]
        exact ⟨⟨bk, off, rfl, hbk, a1, a2⟩, a3⟩
    · obtain ⟨z, hz, rfl⟩ := List.mem_map.1 hq
      obtain ⟨i, hi⟩ := List.mem_iff_getElem?.1 hz
      exact (hp i z hi).2.2.2.1
    · rw [pre_sum _ _ (Nat.le_refl _)]
      refine Nat.le_trans (sumTo_mono (g := ws) (fun j hj => ?_)) (by simpa using hws)
      have hj' : j < l.length := by simpa using hj
      rw [List.getElem?_map, List.getElem?_eq_getElem hj']
      exact (hp j l[j] (List.getElem?_eq_getElem hj')).2.2.2.2
theorem coPls : Tryz.prog.cellsOf 108 = 1 := by kernel_rfl
/-- Threads of plans. -/
theorem threads_open {H : Type} {enc : TypeId × Value → H} {W : World} {sp : Nat → Bool} {held : Bool} {p : Option Addr} {n c : Nat} {d : DataW H} {ps : List MemPlace} (h : DataW.Trod enc Tryz.prog W 0 sp held 22 (.slice p n c) d ps) (hM : Rows.uptoBulk d ≤ 1048576) :
    ∃ (ll : List (List PlP)) (ap : Nat → Option Addr) (ac : Nat → Nat) (lp : Nat → Nat → Option Addr) (lc : Nat → Nat → Nat), ll.length = n ∧ ThsAt W W.heap.size p ll ap ac lp lc ∧ ll.length ≤ 1048576 ∧ (∀ l ∈ ll, l.length ≤ 1048576) ∧ (∀ l ∈ ll, ∀ q ∈ l, q.L.length ≤ 1048576) ∧ sumTo (fun i => match ll[i]? with | some l => pre l l.length | none => 0) ll.length ≤ Rows.uptoBulk d := by
  obtain ⟨fuel, hf⟩ := h
  obtain ⟨p', n', c', hcs, hb, ws, hws, hr⟩ := slice_rowsS (s := 1) (M := 1048576) hM (Q := fun cs w => ∃ (l : List PlP) (p : Option Addr) (c : Nat) (lp : Nat → Option Addr) (lc : Nat → Nat), cs = [.slice p l.length c] ∧ PlansAt W W.heap.size p l lp lc ∧ l.length ≤ 1048576 ∧ (∀ q ∈ l, q.L.length ≤ 1048576) ∧ pre l l.length ≤ w) Tryz.underlying22 coPls (by decide) (fun fuel cs y hy hyM => plans_openS hy hyM) hf
  have e : p = p' ∧ n = n' ∧ c = c' := by simpa [Value.cells] using hcs
  obtain ⟨rfl, rfl, rfl⟩ := e
  rcases hr with rfl | ⟨bk, off, rfl, hbk, hr⟩
  · exact ⟨[], fun _ => none, fun _ => 0, fun _ _ => none, fun _ _ => 0, rfl, fun i l hl => by simp at hl, by simp, fun l hl => by simp at hl, fun l hl => by simp at hl, Nat.zero_le _⟩
  · obtain ⟨ll, hl, hp⟩ := choose_list (P := fun i (z : List PlP × Option Addr × Nat × (Nat → Option Addr) × (Nat → Nat)) => W.cell? ⟨bk, off + i, none⟩ = some (.slice z.2.1 z.1.length z.2.2.1) ∧ PlansAt W W.heap.size z.2.1 z.1 z.2.2.2.1 z.2.2.2.2 ∧ z.1.length ≤ 1048576 ∧ (∀ q ∈ z.1, q.L.length ≤ 1048576) ∧ pre z.1 z.1.length ≤ ws i) n (fun i hi => by
      obtain ⟨cs', ⟨l, p, c, lp, lc, rfl, hP, hL, hLq, hw⟩, hc⟩ := hr i hi
      exact ⟨⟨l, p, c, lp, lc⟩, by have := hc 0 _ rfl; simpa using this, hP, hL, hLq, hw⟩)
    subst hl
    refine ⟨ll.map (·.1), fun i => match ll[i]? with | some z => z.2.1 | none => none, fun i => match ll[i]? with | some z => z.2.2.1 | none => 0, fun i => match ll[i]? with | some z => z.2.2.2.1 | none => fun _ => none, fun i => match ll[i]? with | some z => z.2.2.2.2 | none => fun _ => 0, by simp, fun i l hl => ?_, by simp; have hb' : _ ≤ Rows.uptoBulk d := hb; omega, fun l hl => ?_, fun l hl => ?_, ?_⟩
    · rw [List.getElem?_map] at hl
      cases hz : ll[i]? with
      | none => rw [hz] at hl; simp at hl
      | some z =>
        rw [hz] at hl
        simp at hl
        subst hl
        obtain ⟨a1, a2, a3, a4, a5⟩ := hp i z hz
        simp only [hz]
        exact ⟨⟨bk, off, rfl, hbk, a1⟩, a2⟩
    · obtain ⟨z, hz, rfl⟩ := List.mem_map.1 hl
      obtain ⟨i, hi⟩ := List.mem_iff_getElem?.1 hz
      exact (hp i z hi).2.2.1
    · obtain ⟨z, hz, rfl⟩ := List.mem_map.1 hl
      obtain ⟨i, hi⟩ := List.mem_iff_getElem?.1 hz
      exact (hp i z hi).2.2.2.1
    · refine Nat.le_trans (sumTo_mono (g := ws) (fun j hj => ?_)) (by simpa using hws)
      have hj' : j < ll.length := by simpa using hj
      rw [List.getElem?_map, List.getElem?_eq_getElem hj']
      exact (hp j ll[j] (List.getElem?_eq_getElem hj')).2.2.2.2
end Go.Proofs.YtnhiodmigmmfgaaGreat
