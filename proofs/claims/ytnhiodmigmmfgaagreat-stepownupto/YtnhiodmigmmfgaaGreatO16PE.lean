/- StepHistory: the document's Pick beside the program's run; both traces. -/
import Derived.Test.YtnhiodmigmmfgaaGreatO14YK0
import Derived.Test.YtnhiodmigmmfgaaGreatO15YH
import Derived.Test.YtnhiodmigmmfgaaGreatO11YI1
import Derived.Test.YtnhiodmigmmfgaaGreatO13YD
import Derived.Deep.RegionHeld3
import Derived.Deep.Cut
import Derived.Deep.CutBlock
import Derived.Deep.CutRange
import Derived.Deep.DeepCutAuto
namespace Go.Proofs.YtnhiodmigmmfgaaGreat
open Go.RowKit Go.Shelf
set_option linter.unusedVariables false

theorem D4.small {X : World} {B r nm T st : Nat} {p : Option Addr} {c8 : Nat} {call at_ : Nat → Nat} {K : Nat → Prop} (h : D4 X B r nm T st p c8 call at_ K) : D4 X B r nm T st p c8 call at_ (fun k => K k ∧ k < X.heap.size) := by
  obtain ⟨tg, gc, ga, gg, ev, wv, es, ws, gv, gl, R, m, t, h, hK⟩ := h
  exact ⟨tg, gc, ga, gg, ev, wv, es, ws, gv, gl, R, m, t, h, fun k e => ⟨hK k e, (h.lo k e).2⟩⟩
section
variable {W V0 X Y : World} {ll : List (List PlP)} {p : Option Addr} {c8 : Nat} {c : Cfg PS} {wb q nm m r b : Nat} {sv : Value} {vb : Nat → Nat} {pb : Nat → Nat → Nat} {st : Nat} {call at_ : Nat → Nat} {E : Nat → Prop}
theorem HW.lo (h : HW W V0 X ll p c8 c wb q nm m r b sv vb pb st call at_ E) : W.heap.size ≤ V0.heap.size := by
  obtain ⟨K, h1, _⟩ := h
  obtain ⟨G, K', vw, tv, ev, av, ths, g⟩ := h1
  exact g.lo
/-- Another run went on. -/
theorem HW.beside (h : HW W V0 X ll p c8 c wb q nm m r b sv vb pb st call at_ E) (hs : X.heap.size ≤ Y.heap.size) (hc : Chg (fun _ => False) V0 Y) (hk : ∀ k, k < X.heap.size → ¬ E k → Y.heap[k]? = X.heap[k]?) : HW W V0 Y ll p c8 c wb q nm m r b sv vb pb st call at_ (fun _ => False) := by
  have lo := h.lo
  obtain ⟨K, h1, h2, h3, h4, h5, h6⟩ := h
  have lk := fun k (e : K k) => (h1.kept k (.inl e)).2
  refine ⟨K, h1.shift (Nat.le_refl _) lo hc hs E (fun k e => .inr (.inr e)) (fun k a1 a2 _ => hk k a1 a2) (fun k e => ?_), h2.keep2 (fun k e => hk k (lk k e) (h5 k e).2.1), (hk wb (lt_of h3) h6).trans h3, h4, fun k e => ⟨(h5 k e).1, fun x => x, (h5 k e).2.2⟩, fun x => x⟩
  rcases e with e | e | e
  · have := h5 k e; have := lk k e; exact ⟨by omega, by omega, .inr (.inr (.inl e))⟩
  · subst e; have := lt_of h3; exact ⟨by omega, by omega, .inr (.inr (.inr (.inl rfl)))⟩
  · exact e.elim
end
end Go.Proofs.YtnhiodmigmmfgaaGreat
/- The document's runner told whole, beside the pure run. -/
namespace Go.Proofs.YtnhiodmigmmfgaaGreat
open Go.RowKit Go.Shelf
set_option linter.unusedVariables false

/-- What a thread's procs were told, one behind the other. -/
def gotT (cl : Nat → Nat) (c : Cfg PS) (i : Nat) : List Nat := (List.range (cl i)).flatMap (fun j => (c.σ i j).got)
theorem flat_none {f : Nat → List Nat} : ∀ n, (∀ j, j < n → f j = []) → (List.range n).flatMap f = []
  | 0, _ => rfl
  | n + 1, h => by
    rw [List.range_succ, List.flatMap_append, flat_none n (fun j hj => h j (by omega))]
    simp [h n (by omega)]
theorem flat_more {f g : Nat → List Nat} {k : Nat} {x : List Nat} (hk : g k = f k ++ x) : ∀ n, k < n → (∀ j, j ≠ k → g j = f j) → (∀ j, k < j → j < n → f j = []) → (List.range n).flatMap g = (List.range n).flatMap f ++ x
  | 0, h, _, _ => by omega
  | n + 1, h, ho, hl => by
    rw [List.range_succ, List.flatMap_append, List.flatMap_append]
    by_cases e : k = n
    · subst e
      have : (List.range k).flatMap g = (List.range k).flatMap f := by
        have : ∀ m, m ≤ k → (List.range m).flatMap g = (List.range m).flatMap f := by
          intro m
          induction m with
          | zero => intro _; rfl
          | succ m ih =>
            intro hm
            rw [List.range_succ, List.flatMap_append, List.flatMap_append, ih (by omega)]
            simp [ho m (by omega)]
        exact this k (Nat.le_refl _)
      rw [this]
      simp [hk]
    · rw [flat_more hk n (by omega) ho (fun j a b => hl j a (by omega))]
      have e1 : f n = [] := hl n (by omega) (by omega)
      have e2 : g n = [] := by rw [ho n (by omega), e1]
      simp [e1, e2]
structure DRx (T : Nat) (cl : Nat → Nat) (c : Cfg PS) (s : R4S) : Prop where
  rel : DRel T cl c s.call s.at_
  st : s.st = c.st
  es : s.es = c.evs
  ws : s.ws = extN c.ats c.t.length (-1)
  al : c.ats.length ≤ c.t.length
  m : s.m = ⟨c.next, c.cs⟩
  t : s.t = c.t
  gl : ∀ i, i < T → s.gl i = gotT cl c i
  nx : ∀ i j, i < T → j < cl i → c.ix i < j → (c.σ i j).got = []
  bg : ∀ i, i < T → c.bg i = decide (s.at_ i ≠ 0)
  ng : ∀ i j, i < T → j < cl i → (c.σ i j).pl.none = true → (c.σ i j).got = []
theorem DRx.tick {T : Nat} {cl : Nat → Nat} {c : Cfg PS} {s : R4S} (h : DRx T cl c s) : DRx T cl c.tick { s with st := s.st + 1 } :=
  ⟨h.rel.tick, congrArg (· + 1) h.st, h.es, h.ws, h.al, h.m, h.t, h.gl, h.nx, h.bg, h.ng⟩
theorem extN_full {a : List Int} {L : Nat} {x : Int} (h : L ≤ a.length) : extN a L x = a := by
  unfold extN
  rw [show L - a.length = 0 by omega]
  simp
section
variable {Lo : Nat} {W0 : World} {T : Nat} {cl : Nat → Nat} {pl : Nat → Nat → PlP} {c : Cfg PS}
/-- What a step of a plan's proc is, by the document's words. -/
theorem ps_word {s : PS} (th : Int) (next : Nat) (cs : List Nat) : (psS th 200 next cs s).acc = nxtT th 200 ⟨next, cs⟩ (dopOf s.pl s.at_) ∧ (psS th 200 next cs s).s.got = s.got ++ nxtG 200 ⟨next, cs⟩ (dopOf s.pl s.at_) ∧ (⟨(psS th 200 next cs s).next, (psS th 200 next cs s).cs⟩ : Mu) = nxtM 200 ⟨next, cs⟩ (dopOf s.pl s.at_) := by
  unfold psS dopOf
  by_cases h : s.pl.none = true
  · simp only [if_pos h]
    exact ⟨by first | trivial | rfl, by first | exact (List.append_nil _).symm | simp [nxtG], by first | trivial | rfl⟩
  · simp only [if_neg h]
    exact ⟨by first | trivial | rfl, by first | trivial | rfl, by first | trivial | rfl⟩
theorem DRx.pick {s : R4S} (h : DRx T cl c s) (hP : PInv T cl pl c) (i : Nat) (hi : i < T) (hj : c.ix i < cl i) : DRx T cl (c.go (plK Lo W0) 200 i).tick (s.pick i (pl i (c.ix i))) := by
  have hpl := hP.pl i _ hi hj
  have hat := hP.at_ i _ hi hj (Nat.le_refl _)
  have ha := h.rel.at_ i hi hj
  have hc := h.rel.ix i hi
  obtain ⟨d1, -⟩ := ps_done (most := 200) hat (i : Int) c.next c.cs
  obtain ⟨w1, w2, w3⟩ := ps_word (s := c.σ i (c.ix i)) (i : Int) c.next c.cs
  rw [hpl, ← ha] at d1 w1 w2 w3
  obtain ⟨o, ho⟩ : ∃ o, o = psS (i : Int) 200 c.next c.cs (c.σ i (c.ix i)) := ⟨_, rfl⟩
  have hout : c.out (plK Lo W0) 200 i = o := ho.symm
  rw [← ho] at d1 w1 w2 w3
  have hgo : c.go (plK Lo W0) 200 i = ⟨o.next, o.cs, c.t ++ o.acc, updN c.ix i (if o.done then c.ix i + 1 else c.ix i), updN c.σ i (updN (c.σ i) (c.ix i) o.s), c.st, updN c.bg i (!o.done), evsOf c i o.done, extN (extN c.ats c.t.length (-1)) (c.t ++ o.acc).length (c.st : Int)⟩ := by
    unfold Cfg.go
    rw [hout]
  have hr := h.rel.pick (Lo := Lo) (W0 := W0) (most := 200) hP i hi hj
  have hw : (extN c.ats c.t.length (-1)).length = c.t.length := by rw [extN_length]; have := h.al; omega
  have hsm := h.m
  have sg : ∀ t q, (c.go (plK Lo W0) 200 i).tick.σ t q = if t = i then (if q = c.ix i then o.s else c.σ i q) else c.σ t q := fun t q => by
    rw [hgo]
    show updN c.σ i (updN (c.σ i) (c.ix i) o.s) t q = _
    unfold updN
    split
    · rfl
    · rfl
  have sx : ∀ t, (c.go (plK Lo W0) 200 i).tick.ix t = if t = i then (if o.done then c.ix i + 1 else c.ix i) else c.ix t := fun t => by
    rw [hgo]; rfl
  refine ⟨hr, ?_, ?_, ?_, ?_, ?_, ?_, fun t ht => ?_, fun t q ht hq hlt => ?_, fun t ht => ?_, fun t q ht hq hn => ?_⟩
  · rw [hgo]; show s.st + 1 = c.st + 1; rw [h.st]
  · rw [hgo]
    show (if s.at_ i = 0 then s.es ++ [⟨(s.st : Int), (i : Int), (s.call i : Int), false⟩] else s.es) ++ (if nst (pl i (c.ix i)) ≤ s.at_ i + 1 then [⟨(s.st : Int), (i : Int), (s.call i : Int), true⟩] else []) = evsOf c i o.done
    unfold evsOf
    rw [h.es, h.st, hc, d1, h.bg i hi]
    congr 1
    · by_cases z : s.at_ i = 0
      · rw [if_pos z, if_neg (by simp [z])]
      · rw [if_neg z, if_pos (by simp [z])]
    · by_cases z : nst (pl i (c.ix i)) ≤ s.at_ i + 1
      · rw [if_pos z, if_pos (by simp [z])]
      · rw [if_neg z, if_neg (by simp [z])]
  · rw [hgo]
    show s.ws ++ (nxtT (i : Int) 200 s.m (dopOf (pl i (c.ix i)) (s.at_ i))).map (fun _ => (s.st : Int)) = extN (extN (extN c.ats c.t.length (-1)) (c.t ++ o.acc).length (c.st : Int)) (c.t ++ o.acc).length (-1)
    rw [extN_full (by rw [extN_length]; omega), hsm, ← w1, h.ws, h.st]
    have e2 : ∀ (a : List Int) (L : Nat) (x : Int), extN a L x = a ++ List.replicate (L - a.length) x := fun _ _ _ => rfl
    rw [e2 (extN c.ats c.t.length (-1)), hw]
    congr 1
    rw [List.length_append, Nat.add_sub_cancel_left, List.map_const']
  · rw [hgo]
    show (extN (extN c.ats c.t.length (-1)) (c.t ++ o.acc).length (c.st : Int)).length ≤ (c.t ++ o.acc).length
    rw [extN_length, hw, List.length_append]; omega
  · rw [hgo]
    show nxtM 200 s.m (dopOf (pl i (c.ix i)) (s.at_ i)) = ⟨o.next, o.cs⟩
    rw [hsm, w3]
  · rw [hgo]
    show s.t ++ nxtT (i : Int) 200 s.m (dopOf (pl i (c.ix i)) (s.at_ i)) = c.t ++ o.acc
    rw [hsm, ← w1, h.t]
  · show (if t = i then s.gl i ++ nxtG 200 s.m (dopOf (pl i (c.ix i)) (s.at_ i)) else s.gl t) = gotT cl _ t
    by_cases e : t = i
    · subst e
      rw [if_pos rfl, h.gl t ht, hsm]
      refine (flat_more (k := c.ix t) (f := fun j => (c.σ t j).got) ?_ (cl t) hj (fun j hjn => ?_) (fun j a b => h.nx t j ht b a)).symm
      · show ((c.go (plK Lo W0) 200 t).tick.σ t (c.ix t)).got = _
        rw [sg, if_pos rfl, if_pos rfl, w2]
      · show ((c.go (plK Lo W0) 200 t).tick.σ t j).got = _
        rw [sg, if_pos rfl, if_neg hjn]
    · rw [if_neg e, h.gl t ht]
      unfold gotT
      have : (fun j => (c.σ t j).got) = (fun j => ((c.go (plK Lo W0) 200 i).tick.σ t j).got) := by
        funext j
        rw [sg, if_neg e]
      rw [this]
  · rw [sx] at hlt
    rw [sg]
    by_cases e : t = i
    · subst e
      rw [if_pos rfl] at hlt
      have : c.ix t < q := by split at hlt <;> omega
      rw [if_pos rfl, if_neg (by omega)]
      exact h.nx t q ht hq this
    · rw [if_neg e] at hlt
      rw [if_neg e]
      exact h.nx t q ht hq hlt
  · have e1 : (c.go (plK Lo W0) 200 i).tick.bg t = if t = i then (!o.done) else c.bg t := by rw [hgo]; rfl
    rw [e1]
    show _ = decide ((if t = i then (if nst (pl i (c.ix i)) ≤ s.at_ i + 1 then 0 else s.at_ i + 1) else s.at_ t) ≠ 0)
    by_cases e : t = i
    · subst e
      rw [if_pos rfl, if_pos rfl, d1]
      by_cases z : nst (pl t (c.ix t)) ≤ s.at_ t + 1
      · rw [if_pos z]; simp [z]
      · rw [if_neg z]; simp [z]
    · rw [if_neg e, if_neg e]; exact h.bg t ht
  · rw [sg] at hn ⊢
    by_cases e : t = i
    · subst e
      rw [if_pos rfl] at hn ⊢
      by_cases e2 : q = c.ix t
      · subst e2
        rw [if_pos rfl] at hn ⊢
        have e3 : o.s.pl = (c.σ t (c.ix t)).pl := by
          rw [ho]
          unfold psS
          split <;> rfl
        rw [e3] at hn
        rw [w2, h.ng t _ ht hq hn, ← hpl]
        unfold dopOf
        simp [hn, nxtG]
      · rw [if_neg e2] at hn ⊢
        exact h.ng t q ht hq hn
    · rw [if_neg e] at hn ⊢
      exact h.ng t q ht hq hn
end
end Go.Proofs.YtnhiodmigmmfgaaGreat
/- The document's runner asked; two rows of ints held against each other. -/
namespace Go.Proofs.YtnhiodmigmmfgaaGreat
open Go.RowKit Go.Shelf
set_option linter.unusedVariables false

set_option maxRecDepth 100000 in
set_option maxHeartbeats 2000000 in
theorem s_sameI (p q : Option Addr) (c d : Nat) (la : List Int) (W : World) (ha : IReads W p la) (hb : IReads W q la) (hla : la.length ≤ 17592186044416) :
    Calls Tryz.prog 42 #[.slice p la.length c, .slice q la.length d] W fun e W' => e = .returned (.bool true) ∧ ∃ k, W' = W.drewN k := by
  have HA := keepH ha
  have HB := keepH hb
  clear ha hb
  go_enter Tryz.func42, Tryz.ntmps42
  go_wp2_with fail
  go_loopw [5] (fun s wr => ∃ k : Nat, k ≤ la.length ∧ s = .int .i64 (k : Int) ∧ Hid (∃ j, wr = W.drewN j)) (fun s _ => la.length - (intOf s).toNat)
  case atStart => exact ⟨0, by omega, rfl, keepH ⟨0, rfl⟩⟩
  case round =>
    obtain ⟨k, hk, rfl, HK⟩ := hrel
    have HC : Hid (Chg (fun _ => False) W wr) := by obtain ⟨j, e⟩ := HK.out; rw [e]; exact drewN_chgY _ _
    by_cases hlt : k < la.length
    · have t1 : (k : Int) < (la.length : Int) := by omega
      obtain ⟨x, hx⟩ : ∃ x, la[k]? = some x := ⟨la[k], List.getElem?_eq_getElem hlt⟩
      obtain ⟨bk, off, rfl, _, c0⟩ := (HA.out.chg HC.out).get k x hx
      obtain ⟨bk', off', rfl, _, d0⟩ := (HB.out.chg HC.out).get k x hx
      clear hx
      go_wp2_with fail
      go_quiet (fail)
      go_wp2_with fail
      go_roundw
      case rel => exact ⟨k + 1, by omega, by first | rfl | go_num, keepH (by obtain ⟨j, e⟩ := HK.out; exact ⟨j + nq, by rw [e, drewN_addY]⟩)⟩
      case measure => simp [intOf]; omega
    · obtain rfl : k = la.length := by omega
      have t1 : ¬ (la.length : Int) < (la.length : Int) := by omega
      go_wp2_with fail
      go_ret
      exact ⟨by simp, HK.out⟩
section
variable {X : World} {B : Nat} {tg : Nat → Nat} {r nm T st gc ga gg : Nat} {p : Option Addr} {c8 : Nat} {ev wv : Value} {es : List Ev} {ws : List Int} {gv : Nat → Value} {gl : Nat → List Nat} {R : Nat → Prop} {m : Mu} {t : List Acc} {call at_ : Nat → Nat}
theorem rd_events (h : D4At X B tg r nm T st gc ga gg p c8 ev wv es ws gv gl R m t call at_) : Calls Tryz.prog 40 #[.pointer (some ⟨r, 0, none⟩)] X fun e Y => e = .returned ev ∧ Y = X := by
  have c5 : X.cell? ⟨r, 5, none⟩ = some ev := cell_of h.blk 5
  clear h
  go_enter Tryz.func40, Tryz.ntmps40
  go_wp2_with fail
  go_ret
  exact ⟨by simp, rfl⟩
theorem rd_at (h : D4At X B tg r nm T st gc ga gg p c8 ev wv es ws gv gl R m t call at_) : Calls Tryz.prog 43 #[.pointer (some ⟨r, 0, none⟩)] X fun e Y => e = .returned wv ∧ Y = X := by
  have c5 : X.cell? ⟨r, 6, none⟩ = some wv := cell_of h.blk 6
  clear h
  go_enter Tryz.func43, Tryz.ntmps43
  go_wp2_with fail
  go_ret
  exact ⟨by simp, rfl⟩
theorem rd_steps (h : D4At X B tg r nm T st gc ga gg p c8 ev wv es ws gv gl R m t call at_) : Calls Tryz.prog 41 #[.pointer (some ⟨r, 0, none⟩)] X fun e Y => e = .returned (.int .i64 (st : Int)) ∧ Y = X := by
  have c5 : X.cell? ⟨r, 4, none⟩ = some (.int .i64 (st : Int)) := cell_of h.blk 4
  clear h
  go_enter Tryz.func41, Tryz.ntmps41
  go_wp2_with fail
  go_ret
  exact ⟨by simp, rfl⟩
/-- Who is under way. -/
def pndL (f : Nat → Bool) (T : Nat) : List Int := ((List.range T).filter f).map (fun (i : Nat) => (i : Int))
theorem pndL_succ (f : Nat → Bool) (k : Nat) : pndL f (k + 1) = pndL f k ++ (if f k = true then [(k : Int)] else []) := by
  unfold pndL
  rw [List.range_succ, List.filter_append, List.map_append]
  by_cases h : f k = true
  · simp [h]
  · simp [h]
theorem pndL_len (f : Nat → Bool) (k : Nat) : (pndL f k).length ≤ k := by
  unfold pndL
  rw [List.length_map]
  exact Nat.le_trans (List.length_filter_le _ _) (by simp)
theorem pndL_congr {f g : Nat → Bool} {T : Nat} (h : ∀ i, i < T → f i = g i) : pndL f T = pndL g T := by
  induction T with
  | zero => rfl
  | succ n ih => rw [pndL_succ, pndL_succ, ih (fun i hi => h i (by omega)), h n (by omega)]
set_option maxRecDepth 100000 in
set_option maxHeartbeats 4000000 in
theorem rd_pending (h : D4At X B tg r nm T st gc ga gg p c8 ev wv es ws gv gl R m t call at_) : Calls Tryz.prog 44 #[.pointer (some ⟨r, 0, none⟩)] X fun e Y => ∃ v', e = .returned v' ∧ Y.ownsRow 0 3 1 v' (pndL (fun i => decide (at_ i ≠ 0)) T).length ((pndL (fun i => decide (at_ i ≠ 0)) T).map i64V) ∧ Chg (fun _ => False) X Y := by
  have c1 : X.cell? ⟨r, 1, none⟩ = some (.slice p T c8) := cell_of h.blk 1
  have c3 : X.cell? ⟨r, 3, none⟩ = some (.slice (some ⟨ga, 0, none⟩) T T) := cell_of h.blk 3
  have HAB := keepH h.ab
  have h64 : T ≤ 64 := h.bd.2.2.2.2.2
  obtain ⟨f, hf⟩ : ∃ f, f = (fun i => decide (at_ i ≠ 0)) := ⟨_, rfl⟩
  rw [← hf]
  have HF := keepH hf
  obtain ⟨i0, hi0, hz0, hz1, hz2⟩ := info_parts infoIk
  clear h hf
  go_enter Tryz.func44, Tryz.ntmps44
  go_wp2_with fail
  go_loopw [3, 4] (fun s3 s wr => ∃ (k : Nat) (pv : Option Addr) (cv : Nat), k ≤ T ∧ s = .int .i64 (k : Int) ∧ s3 = .slice pv (pndL f k).length cv ∧ Hid (wr.ownsRow 0 3 1 (.slice pv (pndL f k).length cv) (pndL f k).length ((pndL f k).map i64V)) ∧ Hid (Chg (fun _ => False) X wr) ∧ Hid (∀ k', (Value.slice pv (pndL f k).length cv).ownBlock = some k' → X.heap.size ≤ k')) (fun _ s _ => T - (intOf s).toNat)
  case atStart => exact ⟨0, none, 0, by omega, rfl, rfl, by have e : pndL f 0 = [] := rfl; rw [e]; exact keepH (World.ownsRow_nil _ _ _ _), keepH (Chg.refl _ _), keepH (fun k' e => by simp [Value.ownBlock] at e)⟩
  case round =>
    obtain ⟨k, pv, cv, hk, rfl, rfl, HR, HC, HB⟩ := hrel
    obtain ⟨wo, hwo⟩ : ∃ q, q = wr := ⟨_, rfl⟩
    subst hwo
    have d1 : wo.cell? ⟨r, 1, none⟩ = some (.slice p T c8) := cell_chg HC.out c1 (fun h => h)
    by_cases hlt : k < T
    · have t1 : (k : Int) < (T : Int) := by omega
      have d3 : wo.cell? ⟨r, 3, none⟩ = some (.slice (some ⟨ga, 0, none⟩) T T) := cell_chg HC.out c3 (fun h => h)
      have d4 : wo.cell? ⟨ga, k, none⟩ = some (.int .i64 (at_ k : Int)) := by
        refine cell_chg HC.out ?_ (fun h => h)
        rw [cell_of HAB.out k]; exact intR_get hlt
      have HS := keepH (pndL_succ f k)
      have hle : (pndL f k).length ≤ 64 := by have := pndL_len f k; omega
      by_cases hg : f k = true
      · have g0 : at_ k ≠ 0 := by have e := HF.out; rw [e] at hg; exact of_decide_eq_true hg
        have t2 : (0 : Int) < (at_ k : Int) := by omega
        go_wp2_with (at_builtin; refine wpList_append_own_at _ rfl _ _ 23 rfl 0 3 i0 (.int .i64 0) 1 8 Tryz.underlying23 hi0 hz0 hz1 hz2 rfl (by decide) _ _ _ rfl (HR.out.alloc _) ⟨_, 0, none⟩ 1 1 [.int .i64 (k : Int)] rfl rfl (cells_new _ _ rfl _ _) (by intro u hu; simp at hu; subst hu; rfl) (by unfold maxLen; omega) (by omega) (Nat.zero_le _) ?_; intro v9 w9 r1 r2 r3 r4; have HR1 := keepH r1; have HR2 := keepH r2; have HR4 := keepH r4; clear r1 r2 r3 r4)
        go_roundw
        case rel =>
          obtain ⟨p9, c9, e9⟩ := slice_of HR1.out
          have eS : pndL f (k + 1) = pndL f k ++ [(k : Int)] := by rw [HS.out, if_pos hg]
          have eN : (pndL f (k + 1)).length = (pndL f k).length + 1 := by rw [eS]; simp
          refine ⟨k + 1, p9, c9, by omega, by first | rfl | go_num, by rw [eN, ← e9], keepH ?_, keepH ?_, keepH ?_⟩
          · rw [eN, eS, ← e9, List.map_append]
            exact HR1.out
          · exact HC.out.trans (((Chg.refl (fun k2 => (Value.slice pv (pndL f k).length cv).ownBlock = some k2) wo).alloc _).grown HR2.out (fun k e _ => e)) (fun _ _ x => x) (fun k' hk' e => by have := HB.out k' e; omega)
          · intro k' e
            rw [eN, ← e9] at e
            rcases HR4.out with z | z
            · exact HB.out k' (z ▸ e)
            · rw [z] at e
              injection e with e
              rw [World.size_alloc] at e
              have := HC.out.size
              omega
        case measure => simp [intOf]; omega
      · have g0 : at_ k = 0 := by
          have e := HF.out
          rw [e] at hg
          simpa using hg
        have t2 : ¬ (0 : Int) < (at_ k : Int) := by omega
        have eS : pndL f (k + 1) = pndL f k := by rw [HS.out, if_neg hg, List.append_nil]
        have HES := keepH eS
        clear eS
        go_wp2_with fail
        go_roundw
        case rel => exact ⟨k + 1, pv, cv, by omega, by first | rfl | go_num, by rw [HES.out], by rw [HES.out]; exact HR, HC, by rw [HES.out]; exact HB⟩
        case measure => simp [intOf]; omega
    · obtain rfl : k = T := by omega
      have t1 : ¬ (k : Int) < (k : Int) := by omega
      go_wp2_with fail
      go_ret
      exact ⟨_, by simp, HR.out, HC.out⟩
end
set_option maxRecDepth 100000 in
set_option maxHeartbeats 4000000 in
theorem rd_done {X : World} {B r nm T st : Nat} {p : Option Addr} {c8 : Nat} {call at_ : Nat → Nat} {K : Nat → Prop} (h : D4 X B r nm T st p c8 call at_ K) {ll : List (List PlP)} {ap : Nat → Option Addr} {ac : Nat → Nat} {lp : Nat → Nat → Option Addr} {lc : Nat → Nat → Nat} (hP : ThsAt X B p ll ap ac lp lc) (hT : ll.length = T) (cl : Nat → Nat) (hcl : ∀ i l, ll[i]? = some l → l.length = cl i) :
    Calls Tryz.prog 45 #[.pointer (some ⟨r, 0, none⟩)] X fun e Y => e = .returned (.bool (decide (∀ i, i < T → cl i ≤ call i))) ∧ ∃ q, Y = X.drewN q := by
  have c1 : X.cell? ⟨r, 1, none⟩ = some (.slice p T c8) := by
    obtain ⟨tg, gc, ga, gg, ev, wv, es, ws, gv, gl, R, m, t, h, hK⟩ := h
    exact cell_of h.blk 1
  have h64 : T ≤ 64 := by
    obtain ⟨tg, gc, ga, gg, ev, wv, es, ws, gv, gl, R, m, t, h, hK⟩ := h
    exact h.bd.2.2.2.2.2
  have HL : Hid (∀ (q : Nat) (th : Int), Calls Tryz.prog 37 #[.pointer (some ⟨r, 0, none⟩), .int .i64 th] (X.drewN q) fun e Y => e = .returned (.bool (decide (0 ≤ th ∧ th < (T : Int) ∧ call th.toNat < cl th.toNat))) ∧ ∃ n, Y = (X.drewN q).drewN n) := fun q th => d4_left (h.keep (Y := X.drewN q) (Nat.le_refl _) (fun k _ => rfl)) (hP.low (fun k _ => rfl)) hT cl hcl th
  obtain ⟨b, hb⟩ : ∃ b, b = decide (∀ i, i < T → cl i ≤ call i) := ⟨_, rfl⟩
  rw [← hb]
  have HBB := keepH hb
  clear h hP hcl hb
  go_enter Tryz.func45, Tryz.ntmps45
  go_wp2_with fail
  go_loopw [3] (fun s wr => ∃ k q : Nat, k ≤ T ∧ s = .int .i64 (k : Int) ∧ wr = X.drewN q ∧ Hid (∀ j, j < k → cl j ≤ call j)) (fun s _ => T - (intOf s).toNat)
  case atStart => exact ⟨0, 0, by omega, rfl, rfl, keepH (fun j hj => by omega)⟩
  case round =>
    obtain ⟨k, q, hk, rfl, rfl, HK⟩ := hrel
    have d1 : (X.drewN q).cell? ⟨r, 1, none⟩ = some (.slice p T c8) := c1
    by_cases hlt : k < T
    · have t1 : (k : Int) < (T : Int) := by omega
      have HQ := keepH (HL.out q (k : Int))
      by_cases hd : call k < cl k
      · rw [decide_eq_true (show (0 : Int) ≤ (k : Int) ∧ (k : Int) < (T : Int) ∧ call (k : Int).toNat < cl (k : Int).toNat from ⟨by omega, t1, by simpa using hd⟩)] at HQ
        obtain rfl : b = false := HBB.out.trans (decide_eq_false (fun z => by have := z k hlt; omega))
        go_wp2_with fail
        refine HQ.out.mono ?_
        rintro e w' ⟨rfl, n, rfl⟩
        go_wp2_with fail
        go_ret
        exact ⟨by simp, q + n, by rw [drewN_addY]⟩
      · rw [decide_eq_false (show ¬ ((0 : Int) ≤ (k : Int) ∧ (k : Int) < (T : Int) ∧ call (k : Int).toNat < cl (k : Int).toNat) from fun z => hd (by simpa using z.2.2))] at HQ
        go_wp2_with fail
        refine HQ.out.mono ?_
        rintro e w' ⟨rfl, n, rfl⟩
        go_wp2_with fail
        go_roundw
        case rel => exact ⟨k + 1, q + n, by omega, by first | rfl | go_num, by rw [drewN_addY], keepH (fun j hj => by
            by_cases e : j = k
            · subst e; omega
            · exact HK.out j (by omega))⟩
        case measure => simp [intOf]; omega
    · obtain rfl : k = T := by omega
      have t1 : ¬ (k : Int) < (k : Int) := by omega
      obtain rfl : b = true := HBB.out.trans (decide_eq_true HK.out)
      go_wp2_with fail
      go_ret
      exact ⟨by simp, q, rfl⟩
end Go.Proofs.YtnhiodmigmmfgaaGreat
/- What a run tells: who is under way, where its accesses stand, what its procs were told. -/
namespace Go.Proofs.YtnhiodmigmmfgaaGreat
open Go.RowKit Go.Shelf
set_option linter.unusedVariables false

section
variable {P : Type} {Lo : Nat} {W0 : World} {κ : KindL P Lo W0} {most m b T : Nat} {cl : Nat → Nat} {vb : Nat → Nat} {pv : Nat → Nat → Value} {c : Cfg P} {W Z X Y : World} {S : Nat → Prop} {r : Nat}
set_option maxRecDepth 100000 in
set_option maxHeartbeats 4000000 in
theorem gr_pendingL (h : GR κ most m b T cl vb pv c W Z X S r) : Calls Tryz.prog 20 #[.pointer (some ⟨r, 0, none⟩)] X fun e Y => ∃ v', e = .returned v' ∧ Y.ownsRow 0 3 1 v' (pndL c.bg T).length ((pndL c.bg T).map i64V) ∧ Chg (fun _ => False) X Y := by
  obtain ⟨G, K, vw, tv, ev, av, ths, h⟩ := h
  have c0 : X.cell? ⟨r, 65, none⟩ = some tv := h.run.cellk 0
  have hl := h.len
  obtain ⟨p, c8, htv⟩ := slice_of h.run.tr
  have H := keepH h
  rw [htv, hl] at c0
  have h64 := h.run.thl
  have HTV := keepH htv
  obtain ⟨f, hf⟩ : ∃ f, f = c.bg := ⟨_, rfl⟩
  rw [← hf]
  have HF := keepH hf
  obtain ⟨i0, hi0, hz0, hz1, hz2⟩ := info_parts infoIk
  clear h htv hf
  go_enter Tryz.func20, Tryz.ntmps20
  go_wp2_with fail
  go_loopw [3, 12] (fun s3 s wr => ∃ (k : Nat) (pv' : Option Addr) (cv : Nat), k ≤ T ∧ s = .int .i64 (k : Int) ∧ s3 = .slice pv' (pndL f k).length cv ∧ Hid (wr.ownsRow 0 3 1 (.slice pv' (pndL f k).length cv) (pndL f k).length ((pndL f k).map i64V)) ∧ Hid (Chg (fun _ => False) X wr) ∧ Hid (∀ k', (Value.slice pv' (pndL f k).length cv).ownBlock = some k' → X.heap.size ≤ k')) (fun _ s _ => T - (intOf s).toNat)
  case atStart => exact ⟨0, none, 0, by omega, rfl, rfl, by have e : pndL f 0 = [] := rfl; rw [e]; exact keepH (World.ownsRow_nil _ _ _ _), keepH (Chg.refl _ _), keepH (fun k' e => by simp [Value.ownBlock] at e)⟩
  case round =>
    obtain ⟨k, pv', cv, hk, rfl, rfl, HR, HC, HB⟩ := hrel
    obtain ⟨wo, hwo⟩ : ∃ q, q = wr := ⟨_, rfl⟩
    subst hwo
    by_cases hlt : k < T
    · have t1 : (k : Int) < (T : Int) := by omega
      obtain ⟨x, hx⟩ : ∃ x, ths[k]? = some x := ⟨ths[k]'(by omega), List.getElem?_eq_getElem _⟩
      obtain ⟨g, cc, htv2⟩ := slice_pos H.out.run.tr (by omega)
      have hr := H.out.run
      rw [htv2] at hr
      have e3 := hr.thrCell k 2 (by omega) x hx
      have e4 : x.begun = f k := by rw [(H.out.thr k x hx).2.2.2, HF.out]
      have ep : p = some ⟨g, 0, none⟩ := by
        have z := HTV.out
        rw [htv2] at z
        injection z with z1 _ _
        exact z1.symm
      subst ep
      have d0 : wo.cell? ⟨r, 65, none⟩ = some (.slice (some ⟨g, 0, none⟩) T c8) := cell_chg HC.out c0 (fun h => h)
      have HS := keepH (pndL_succ f k)
      have hle : (pndL f k).length ≤ 64 := by have := pndL_len f k; omega
      cases hg : f k with
      | true =>
        have e5 : X.cell? ⟨g, k * 3 + 2, none⟩ = some (.bool true) := by rw [e3, ← hg, ← e4]; rfl
        have d1 : wo.cell? ⟨g, k * 3 + 2, none⟩ = some (.bool true) := cell_chg HC.out e5 (fun h => h)
        clear hx hr e3 e4 e5 htv2 c0
        go_wp2_with (at_builtin; refine wpList_append_own_at _ rfl _ _ 23 rfl 0 3 i0 (.int .i64 0) 1 8 Tryz.underlying23 hi0 hz0 hz1 hz2 rfl (by decide) _ _ _ rfl (HR.out.alloc _) ⟨_, 0, none⟩ 1 1 [.int .i64 (k : Int)] rfl rfl (cells_new _ _ rfl _ _) (by intro u hu; simp at hu; subst hu; rfl) (by unfold maxLen; omega) (by omega) (Nat.zero_le _) ?_; intro v9 w9 r1 r2 r3 r4; have HR1 := keepH r1; have HR2 := keepH r2; have HR4 := keepH r4; clear r1 r2 r3 r4)
        go_roundw
        case rel =>
          obtain ⟨p9, c9, e9⟩ := slice_of HR1.out
          have eS : pndL f (k + 1) = pndL f k ++ [(k : Int)] := by rw [HS.out, if_pos hg]
          have eN : (pndL f (k + 1)).length = (pndL f k).length + 1 := by rw [eS]; simp
          refine ⟨k + 1, p9, c9, by omega, by first | rfl | go_num, by rw [eN, ← e9], keepH ?_, keepH ?_, keepH ?_⟩
          · rw [eN, eS, ← e9, List.map_append]
            exact HR1.out
          · exact HC.out.trans (((Chg.refl (fun k2 => (Value.slice pv' (pndL f k).length cv).ownBlock = some k2) wo).alloc _).grown HR2.out (fun k e _ => e)) (fun _ _ x => x) (fun k' hk' e => by have := HB.out k' e; omega)
          · intro k' e
            rw [eN, ← e9] at e
            rcases HR4.out with z | z
            · exact HB.out k' (z ▸ e)
            · rw [z] at e
              injection e with e
              rw [World.size_alloc] at e
              have := HC.out.size
              omega
        case measure => simp [intOf]; omega
      | false =>
        have e5 : X.cell? ⟨g, k * 3 + 2, none⟩ = some (.bool false) := by rw [e3, ← hg, ← e4]; rfl
        have d1 : wo.cell? ⟨g, k * 3 + 2, none⟩ = some (.bool false) := cell_chg HC.out e5 (fun h => h)
        have eS : pndL f (k + 1) = pndL f k := by rw [HS.out, if_neg (by simp [hg]), List.append_nil]
        have HES := keepH eS
        clear hx hr e3 e4 e5 htv2 c0 eS
        go_wp2_with fail
        go_roundw
        case rel => exact ⟨k + 1, pv', cv, by omega, by first | rfl | go_num, by rw [HES.out], by rw [HES.out]; exact HR, HC, by rw [HES.out]; exact HB⟩
        case measure => simp [intOf]; omega
    · obtain rfl : k = T := by omega
      have t1 : ¬ (k : Int) < (k : Int) := by omega
      go_wp2_with fail
      go_ret
      exact ⟨_, by simp, HR.out, HC.out⟩
theorem gr_atL (h : GR κ most m b T cl vb pv c W Z X S r) (hst : c.st ≤ 500000000) (ha : c.ats.length ≤ c.t.length) : Calls Tryz.prog 19 #[.pointer (some ⟨r, 0, none⟩)] X fun e Y => ∃ v', e = .returned v' ∧ Y.ownsRow 0 3 1 v' (extN c.ats c.t.length (-1)).length ((extN c.ats c.t.length (-1)).map i64V) ∧ Chg (fun _ => False) X Y := by
  obtain ⟨G, K, vw, tv, ev, av, ths, h⟩ := h
  obtain ⟨F, D, md, tg, g⟩ := h.ma
  obtain ⟨l, B, L⟩ := g.bank
  have hl : l.length = c.t.length := by rw [← L]; simp
  have htn := g.tn
  refine (r_at X h.run g.mem B (by omega) (by omega)).mono ?_
  rintro e Y ⟨p', c', rfl, h1, h2, _⟩
  rw [hl] at h1 ⊢
  exact ⟨_, rfl, h1, h2⟩
end
/-- What a plan's proc was told. -/
theorem gr_got {W W0 Z X : World} {Lo most m b : Nat} {ll : List (List PlP)} {vb : Nat → Nat} {pb : Nat → Nat → Nat} {c : Cfg PS} {S : Nat → Prop} {r : Nat} (h : GR (plK Lo W0) most m b ll.length (clOf ll) vb (pvOf ll pb) c W Z X S r) {i j : Nat} (hi : i < ll.length) (hj : j < clOf ll i) (hpl : (c.σ i j).pl = qOf ll i j) (hn : (qOf ll i j).none = false) : ∃ gv, X.cell? ⟨pb i j, 2, none⟩ = some gv ∧ X.ownsRow 0 75 1 gv (c.σ i j).got.length ((c.σ i j).got.map u64V) := by
  obtain ⟨G, K, vw, tv, ev, av, ths, h⟩ := h
  obtain ⟨F, D, md, tg, g⟩ := h.ma
  have q := g.procs i j hi hj
  have q2 : psH Lo X (D i j) (pvOf ll pb i j) (c.σ i j) := q
  unfold psH at q2
  rw [hpl, if_neg (by simp [hn])] at q2
  obtain ⟨_, pb', e, pa⟩ := q2
  have e2 : pvOf ll pb i j = .iface 123 (.pointer (some ⟨pb i j, 0, none⟩)) := by
    unfold pvOf ifV
    rw [qOf_get hj]
    simp [hn]
  rw [e2] at e
  injection e with _ e
  injection e with e
  injection e with e
  injection e with e
  subst e
  obtain ⟨gv, h1, h2, _⟩ := pa.ex
  exact ⟨gv, cell_of h1 2, h2⟩
/-- The trace told by a copy, beside one's own. -/
theorem traces_like1 {X1 Y1 Z : World} {v1 : Value} {l1 lk1 l2 : List Acc} (t1 : Traced X1 Y1 v1 l1 lk1 l1.length) (h2 : ∀ x ∈ l2, Z.ownsRow 0 75 1 x.vs x.vals.length (x.vals.map u64V)) (c1 : Chg (fun _ => False) Y1 Z) (e : l1.map Acc.bare = l2.map Acc.bare) (hv : ∀ x ∈ l1.map Acc.bare, x.vals.length ≤ 1099511627776) : ∀ (i : Nat) (x y : Acc), lk1[i]? = some x → l2[i]? = some y → LikeV Z x y := by
  intro i x y hx hy
  have i1 : i < l1.length := by rw [← t1.len]; exact (List.getElem?_eq_some_iff.1 hx).1
  obtain ⟨a, ha⟩ : ∃ a, l1[i]? = some a := ⟨l1[i], List.getElem?_eq_getElem i1⟩
  obtain ⟨u, hu⟩ := t1.same i a ha
  rw [hx] at hu
  injection hu with hu
  have eb : a.bare = y.bare := by
    have e1 : (l1.map Acc.bare)[i]? = some a.bare := by rw [List.getElem?_map, ha]; rfl
    have e2 : (l2.map Acc.bare)[i]? = some y.bare := by rw [List.getElem?_map, hy]; rfl
    rw [e, e2] at e1
    injection e1 with e1
    exact e1.symm
  have v1r := row_kept (t1.vals i x i1 hx) (fun k z => c1.block k (row_lt (t1.vals i x i1 hx) k z) (fun q => q))
  have v2r := h2 y (List.mem_of_getElem? hy)
  have hvl : a.vals.length ≤ 1099511627776 := hv a.bare (List.mem_map_of_mem (List.mem_of_getElem? ha))
  obtain ⟨a1, a2, a3, a4, a5, a6, a7, a8, a9⟩ := a
  obtain ⟨b1, b2, b3, b4, b5, b6, b7, b8, b9⟩ := y
  simp only [Acc.bare, Acc.mk.injEq] at eb
  obtain ⟨f1, f2, f3, f4, f5, _, f7, f8, f9⟩ := eb
  subst hu
  simp only at v1r v2r hvl
  obtain ⟨p1, c1', e1⟩ := slice_of v1r
  obtain ⟨p2, c2', e2⟩ := slice_of v2r
  subst e1 e2
  subst f7
  exact ⟨f1, f2, f3, f4, f5, f8, f9, a7, by omega, ⟨p1, c1', rfl, UReads.of_row v1r⟩, p2, c2', rfl, UReads.of_row v2r⟩
/-- The procs that are there, of a thread. -/
def isP (l : List PlP) (j : Nat) : Bool := match l[j]? with | some q => !q.none | none => false
def idxL (l : List PlP) : List Nat := (List.range l.length).filter (isP l)
theorem isP_some {l : List PlP} {j : Nat} {q : PlP} (h : l[j]? = some q) : isP l j = !q.none := by unfold isP; rw [h]
theorem idxL_lt {l : List PlP} {j : Nat} (h : j ∈ idxL l) : j < l.length ∧ ∀ q, l[j]? = some q → q.none = false := by
  unfold idxL at h
  rw [List.mem_filter] at h
  obtain ⟨h1, h2⟩ := h
  refine ⟨List.mem_range.1 h1, fun q e => ?_⟩
  rw [isP_some e] at h2
  simpa using h2
theorem ptO_is (l : List PlP) (pb : Nat → Nat) (j : Nat) : ptO l pb j = if isP l j = true then some (.pointer (some ⟨pb j, 0, none⟩)) else none := by
  unfold ptO isP
  cases e : l[j]? with
  | none => simp
  | some q => cases hn : q.none <;> simp [hn]
theorem ptL_idx (l : List PlP) (pb : Nat → Nat) : ptL l pb l.length = (idxL l).map (fun j => .pointer (some ⟨pb j, 0, none⟩)) := by
  unfold ptL idxL
  generalize List.range l.length = rs
  induction rs with
  | nil => rfl
  | cons j rs ih =>
    rw [List.filterMap_cons, List.filter_cons, ptO_is]
    cases hb : isP l j with
    | true => simp [ih]
    | false => simp [ih]
theorem flat_idx {l : List PlP} {f : Nat → List Nat} (h : ∀ j q, l[j]? = some q → q.none = true → f j = []) : (List.range l.length).flatMap f = (idxL l).flatMap f := by
  unfold idxL
  have : ∀ rs : List Nat, (∀ j ∈ rs, j < l.length) → rs.flatMap f = (rs.filter (isP l)).flatMap f := by
    intro rs
    induction rs with
    | nil => intro _; rfl
    | cons j rs ih =>
      intro hr
      have ih' := ih (fun x hx => hr x (List.mem_cons_of_mem _ hx))
      have hj := hr j List.mem_cons_self
      have e : l[j]? = some l[j] := List.getElem?_eq_getElem hj
      rw [List.flatMap_cons, List.filter_cons, isP_some e]
      cases hn : l[j].none with
      | true => rw [h j _ e hn]; simpa using ih'
      | false => simp [ih']
  exact this _ (fun j hj => List.mem_range.1 hj)
end Go.Proofs.YtnhiodmigmmfgaaGreat
/- The program's run and the document's runner, both told whole. -/
namespace Go.Proofs.YtnhiodmigmmfgaaGreat
open Go.RowKit Go.Shelf
set_option linter.unusedVariables false

def r0S : R4S := ⟨0, fun _ => 0, fun _ => 0, [], [-1], fun _ => [], ⟨1, stN 200 [] 50 3⟩, [⟨9, 2, 50, 3, 0, .slice none 0 0, [], 0, false⟩]⟩
theorem drx_start (ll : List (List PlP)) (lp : Nat → Nat → Option Addr) (lc : Nat → Nat → Nat) : DRx ll.length (clOf ll) (c0Of ll lp lc) r0S :=
  ⟨drel_start ll lp lc, rfl, rfl, rfl, by show 0 ≤ _; exact Nat.zero_le _, rfl, rfl, fun i hi => (flat_none _ (fun _ _ => rfl)).symm, fun _ _ _ _ _ => rfl, fun _ _ => by show false = decide ((0 : Nat) ≠ 0); decide, fun _ _ _ _ _ => rfl⟩
/-- The program's run, the document's runner, the block that holds them, the procs that the law keeps. -/
def HWx (W V0 X : World) (ll : List (List PlP)) (p : Option Addr) (c8 : Nat) (c : Cfg PS) (s : R4S) (wb q nm m r b : Nat) (sv : Value) (qv : Nat → Value) (vb : Nat → Nat) (pb : Nat → Nat → Nat) : Prop :=
  ∃ K, GR (plK W.heap.size W) 200 m b ll.length (clOf ll) vb (pvOf ll pb) c V0 X X (fun k => K k ∨ k = wb ∨ mineS ll.length sv qv k) r ∧ D4x X W.heap.size q nm ll.length p c8 s K ∧ X.heap[wb]? = some (.cells #[.pointer (some ⟨m, 0, none⟩), .pointer (some ⟨r, 0, none⟩), sv] 33 (0, 0)) ∧ V0.heap.size ≤ wb ∧ (∀ k, K k → V0.heap.size ≤ k ∧ ¬ mineS ll.length sv qv k ∧ k ≠ wb) ∧ (∀ k, mineS ll.length sv qv k → V0.heap.size ≤ k ∧ k ≠ wb) ∧ MineAt X ll sv qv pb
section
variable {W V0 X Y : World} {ll : List (List PlP)} {p : Option Addr} {c8 : Nat} {c : Cfg PS} {s : R4S} {wb q nm m r b : Nat} {sv : Value} {qv : Nat → Value} {vb : Nat → Nat} {pb : Nat → Nat → Nat}
theorem MineAt.kept (h : MineAt X ll sv qv pb) (hk : ∀ k, mineS ll.length sv qv k → Y.heap[k]? = X.heap[k]?) : MineAt Y ll sv qv pb :=
  ⟨row_kept h.1 (fun k e => hk k (.inl e)), fun i hi => row_kept (h.2 i hi) (fun k e => hk k (.inr ⟨i, hi, e⟩))⟩
/-- What the run itself did. -/
theorem HWx.on (h : HWx W V0 X ll p c8 c s wb q nm m r b sv qv vb pb) : ∃ S, GR (plK W.heap.size W) 200 m b ll.length (clOf ll) vb (pvOf ll pb) c V0 X X S r ∧ ∀ c' Y, GR (plK W.heap.size W) 200 m b ll.length (clOf ll) vb (pvOf ll pb) c' V0 X Y S r → HWx W V0 Y ll p c8 c' s wb q nm m r b sv qv vb pb := by
  obtain ⟨K, h1, h2, h3, h4, h5, h6, h7⟩ := h
  refine ⟨_, h1, fun c' Y g => ?_⟩
  have kp := fun k e => (g.kept k e).1
  exact ⟨K, g.rebase (Chg.refl _ _) (fun k e => .inl e), h2.keep g.zsize (fun k e => kp k (.inl e)), (kp wb (.inr (.inl rfl))).trans h3, h4, h5, h6, h7.kept (fun k e => kp k (.inr (.inr e)))⟩
theorem HWx.quiet (h : HWx W V0 X ll p c8 c s wb q nm m r b sv qv vb pb) (g : Chg (fun _ => False) X Y) : HWx W V0 Y ll p c8 c s wb q nm m r b sv qv vb pb := by
  obtain ⟨K, h1, h2, h3, h4, h5, h6, h7⟩ := h
  have kp : ∀ k, (K k ∨ k = wb ∨ mineS ll.length sv qv k) → Y.heap[k]? = X.heap[k]? := fun k e => g.block k (h1.kept k e).2 (fun x => x)
  exact ⟨K, h1.rebase g (fun k e => .inl e), h2.keep g.size (fun k e => kp k (.inl e)), (kp wb (.inr (.inl rfl))).trans h3, h4, h5, h6, h7.kept (fun k e => kp k (.inr (.inr e)))⟩
theorem HWx.chg (h : HWx W V0 X ll p c8 c s wb q nm m r b sv qv vb pb) : Chg (fun _ => False) V0 X := by
  obtain ⟨K, h1, _⟩ := h
  exact h1.chgW
theorem HWx.lo (h : HWx W V0 X ll p c8 c s wb q nm m r b sv qv vb pb) : W.heap.size ≤ V0.heap.size := by
  obtain ⟨K, h1, _⟩ := h
  obtain ⟨G, K', vw, tv, ev, av, ths, g⟩ := h1
  exact g.lo
theorem HWx.cell (h : HWx W V0 X ll p c8 c s wb q nm m r b sv qv vb pb) : X.cell? ⟨wb, 1, none⟩ = some (.pointer (some ⟨r, 0, none⟩)) ∧ X.cell? ⟨wb, 0, none⟩ = some (.pointer (some ⟨m, 0, none⟩)) ∧ X.cell? ⟨wb, 2, none⟩ = some sv := by
  obtain ⟨K, h1, h2, h3, _⟩ := h
  exact ⟨cell_of h3 1, cell_of h3 0, cell_of h3 2⟩
theorem D4x.small {B T : Nat} {K : Nat → Prop} (h : D4x X B r nm T p c8 s K) : D4x X B r nm T p c8 s (fun k => K k ∧ k < X.heap.size) := by
  obtain ⟨tg, gc, ga, gg, ev, wv, gv, R, h, hK⟩ := h
  exact ⟨tg, gc, ga, gg, ev, wv, gv, R, h, fun k e => ⟨hK k e, (h.lo k e).2⟩⟩
/-- The document's runner went on. -/
theorem HWx.doc {K K' : Nat → Prop} {s' : R4S} (h1 : GR (plK W.heap.size W) 200 m b ll.length (clOf ll) vb (pvOf ll pb) c V0 X X (fun k => K k ∨ k = wb ∨ mineS ll.length sv qv k) r) (h3 : X.heap[wb]? = some (.cells #[.pointer (some ⟨m, 0, none⟩), .pointer (some ⟨r, 0, none⟩), sv] 33 (0, 0))) (h4 : V0.heap.size ≤ wb) (h5 : ∀ k, K k → V0.heap.size ≤ k ∧ ¬ mineS ll.length sv qv k ∧ k ≠ wb) (h6 : ∀ k, mineS ll.length sv qv k → V0.heap.size ≤ k ∧ k ≠ wb) (h7 : MineAt X ll sv qv pb) (lo : W.heap.size ≤ V0.heap.size) (d : D4x Y W.heap.size q nm ll.length p c8 s' K') (g : Goes X Y K K') : HWx W V0 Y ll p c8 c s' wb q nm m r b sv qv vb pb := by
  have hs := g.chg.size
  have lm := fun k (e : mineS ll.length sv qv k) => (h1.kept k (.inr (.inr e))).2
  have cV : Chg (fun _ => False) V0 Y := h1.chgW.trans g.chg (fun _ _ x => x) (fun k hk e => by have := (h5 k e).1; omega)
  refine ⟨fun k => K' k ∧ k < Y.heap.size, h1.shift (Nat.le_refl _) lo cV hs K (fun k e => .inl e) (fun k a1 a2 _ => g.chg.block k a1 a2) (fun k e => ?_), d.small, (g.chg.block wb (lt_of h3) (fun e => (h5 wb e).2.2 rfl)).trans h3, h4, fun k e => ⟨?_, fun x => ?_, fun x => ?_⟩, h6, h7.kept (fun k e => g.chg.block k (lm k e) (fun z => (h5 k z).2.1 e))⟩
  · have lw := lt_of h3
    rcases e with e | e | e
    · rcases g.new k e.1 with z | z
      · have := h5 k z; exact ⟨by omega, e.2, .inr (.inr (.inl z))⟩
      · have := h1.chgW.size; exact ⟨by omega, e.2, .inr (.inl z)⟩
    · subst e; exact ⟨by omega, by omega, .inr (.inr (.inr (.inl rfl)))⟩
    · have a1 := lm k e; have a2 := (h6 k e).1
      exact ⟨by omega, by omega, .inr (.inr (.inr (.inr e)))⟩
  · rcases g.new k e.1 with z | z
    · exact (h5 k z).1
    · have := h1.chgW.size; omega
  · rcases g.new k e.1 with z | z
    · exact (h5 k z).2.1 x
    · have := lm k x; omega
  · rcases g.new k e.1 with z | z
    · exact (h5 k z).2.2 x
    · have := lt_of h3; omega
/-- The program's Pick. -/
theorem hwx_pickP (h : HWx W V0 X ll p c8 c s wb q nm m r b sv qv vb pb) (th : Int) (hst : c.st ≤ 16777216) : Calls Tryz.prog 8 #[.pointer (some ⟨r, 0, none⟩), .int .i64 th] X fun e Y => e = .returned (.bool (decide (Cfg.can ll.length (clOf ll) c th))) ∧ HWx W V0 Y ll p c8 (c.pick (plK W.heap.size W) 200 ll.length (clOf ll) th) s wb q nm m r b sv qv vb pb := by
  obtain ⟨S, g, f⟩ := h.on
  refine (gr_pick g th hst).mono ?_
  rintro e Y ⟨rfl, g'⟩
  exact ⟨rfl, f _ _ g'⟩
theorem can_rel {T : Nat} {cl : Nat → Nat} {d : Cfg PS} (hD : DRx T cl d s) (th : Int) : Cfg.can T cl d th ↔ (0 ≤ th ∧ th < (T : Int) ∧ s.call th.toNat < cl th.toNat) := by
  constructor
  · rintro ⟨z1, z2, z3⟩
    exact ⟨z1, z2, by rw [hD.rel.ix th.toNat (by omega)]; exact z3⟩
  · rintro ⟨z1, z2, z3⟩
    exact ⟨z1, z2, by rw [← hD.rel.ix th.toNat (by omega)]; exact z3⟩
/-- The document's Pick. -/
theorem hwx_pickD (h : HWx W V0 X ll p c8 c s wb q nm m r b sv qv vb pb) (hWV : Chg (fun _ => False) W V0) {ap : Nat → Option Addr} {ac : Nat → Nat} {lp : Nat → Nat → Option Addr} {lc : Nat → Nat → Nat} (hP : ThsAt W W.heap.size p ll ap ac lp lc) (hls : ∀ l ∈ ll, l.length ≤ 1048576) (hL : ∀ l ∈ ll, ∀ q ∈ l, q.L.length ≤ 1048576) {d : Cfg PS} (hD : DRx ll.length (clOf ll) d s) (hI : PInv ll.length (clOf ll) (qOf ll) d) (hst : s.st ≤ 16777216) (th : Int) :
    Calls Tryz.prog 9 #[.pointer (some ⟨q, 0, none⟩), .int .i64 th] X fun e Y => e = .returned (.bool (decide (Cfg.can ll.length (clOf ll) d th))) ∧ ∃ s', HWx W V0 Y ll p c8 c s' wb q nm m r b sv qv vb pb ∧ s'.st = s.st + 1 ∧ DRx ll.length (clOf ll) (d.pick (plK W.heap.size W) 200 ll.length (clOf ll) th) s' := by
  have cX := h.chg
  have lo := h.lo
  have hPX : ThsAt X W.heap.size p ll ap ac lp lc := hP.low (fun k hk => (cX.block k (by omega) (fun x => x)).trans (hWV.block k hk (fun x => x)))
  have hcl : ∀ i l, ll[i]? = some l → l.length = clOf ll i := fun i l e => by
    have hi := (List.getElem?_eq_some_iff.1 e).1
    rw [lOf_get hi] at e
    injection e with e
    rw [← e]; rfl
  obtain ⟨K, h1, h2, h3, h4, h5, h6, h7⟩ := h
  have hBX : W.heap.size ≤ X.heap.size := by have := cX.size; omega
  by_cases hc : Cfg.can ll.length (clOf ll) d th
  · have hcan := hc
    obtain ⟨z1, z2, z3⟩ := hc
    obtain ⟨i, rfl⟩ : ∃ i : Nat, th = (i : Int) := ⟨th.toNat, by omega⟩
    have hi : i < ll.length := by omega
    have hix : d.ix i < clOf ll i := by simpa using z3
    have hci := hD.rel.ix i hi
    have hll := lOf_get hi
    have hqq : (lOf ll i)[s.call i]? = some (qOf ll i (d.ix i)) := by rw [hci]; exact qOf_get hix
    have hat : s.at_ i < nst (qOf ll i (d.ix i)) := by
      have a1 := hI.at_ i _ hi hix (Nat.le_refl _)
      rw [hI.pl i _ hi hix] at a1
      rw [hD.rel.at_ i hi hix]; exact a1
    refine (d4_pick_yes h2 hPX rfl (clOf ll) hcl i hi hst (by show s.call i < _; omega) hll hqq hat (hL _ (List.mem_of_getElem? hll) _ (List.mem_of_getElem? hqq)) (hls _ (List.mem_of_getElem? hll)) hBX).mono ?_
    rintro e Y ⟨rfl, K', hx', g⟩
    refine ⟨by rw [decide_eq_true hcan], _, HWx.doc h1 h3 h4 h5 h6 h7 lo hx' g, rfl, ?_⟩
    have e : d.pick (plK W.heap.size W) 200 ll.length (clOf ll) (i : Int) = (d.go (plK W.heap.size W) 200 i).tick := by
      unfold Cfg.pick
      rw [if_pos hcan]
      rfl
    rw [e]
    exact hD.pick hI i hi hix
  · have hn : ¬ (0 ≤ th ∧ th < (ll.length : Int) ∧ s.call th.toNat < clOf ll th.toNat) := fun z => hc ((can_rel hD th).2 z)
    refine (d4x_pick_no h2 hPX rfl (clOf ll) hcl th hst hn).mono ?_
    rintro e Y ⟨rfl, hx', g⟩
    refine ⟨by rw [decide_eq_false hc], _, HWx.doc h1 h3 h4 h5 h6 h7 lo hx' ⟨g, fun k e => .inl e⟩, rfl, ?_⟩
    have e : d.pick (plK W.heap.size W) 200 ll.length (clOf ll) th = d.tick := by
      unfold Cfg.pick
      rw [if_neg hc]
    rw [e]
    exact hD.tick
/-- Their start. -/
theorem hwx_start {lp : Nat → Nat → Option Addr} {lc : Nat → Nat → Nat} {K : Nat → Prop} (hwb : X.heap[wb]? = some (.cells #[.pointer (some ⟨m, 0, none⟩), .pointer (some ⟨r, 0, none⟩), sv] 33 (0, 0))) (hV : V0.heap.size ≤ wb) (g : GR (plK W.heap.size W) 200 m b ll.length (clOf ll) vb (pvOf ll pb) (c0Of ll lp lc) V0 X X (fun k => mineS ll.length sv qv k ∨ K k ∨ k = wb) r) (d : D4x X W.heap.size q nm ll.length p c8 r0S K) (hK : ∀ k, K k → V0.heap.size ≤ k ∧ k < wb) (hM : MineAt X ll sv qv pb) (hm : ∀ k, mineS ll.length sv qv k → V0.heap.size ≤ k ∧ k < wb ∧ ¬ K k) : HWx W V0 X ll p c8 (c0Of ll lp lc) r0S wb q nm m r b sv qv vb pb :=
  ⟨K, g.rebase (Chg.refl _ _) (fun k e => by
    rcases e with e | e | e
    · exact .inl (.inr (.inl e))
    · exact .inl (.inr (.inr e))
    · exact .inl (.inl e)), d, hwb, hV, fun k e => ⟨(hK k e).1, fun z => (hm k z).2.2 e, by have := (hK k e).2; omega⟩, fun k e => ⟨(hm k e).1, by have := (hm k e).2.1; omega⟩, hM⟩
end
end Go.Proofs.YtnhiodmigmmfgaaGreat
/- Do both tell the same? -/
namespace Go.Proofs.YtnhiodmigmmfgaaGreat
open Go.RowKit Go.Shelf
set_option linter.unusedVariables false

theorem wpList_append_runS {P : Program} {w : World} {ops : Array Oper} {rest : List Oper} {o : Oper} {a : Act} {Q : Exit → Act → World → Prop} (hgd : o.guard = none) (s x : Operand) (t : TypeId)
    (ho : o.op = .call { callee := .builtin .append, args := #[s, x], argTypes := #[t, t] }) (v vx v' : Value) (w' : World) (hs : a.eval s = v) (hx : a.eval x = vx) (hr : (Builtin.append_ #[t, t] o.type #[v, vx]).run P w = .ok v' w')
    (h : wpList P ops Q rest (a.put o.dst v') w') : wpList P ops Q (o :: rest) a w := by
  refine wpList_plain hgd fun K hK => ?_
  unfold Oper.wp execOp
  simp only [ho, resolve, invoke, builtin, Sem.run_bind, Sem.run_pure, Result.andThen_ok, List.map_toArray, List.map_cons, List.map_nil, hs, hx, hr]
  exact hK _ _ h
section
variable {P : Type} {Lo : Nat} {W0 : World} {κ : KindL P Lo W0} {most m b T : Nat} {cl : Nat → Nat} {vb : Nat → Nat} {pv : Nat → Nat → Value} {c : Cfg P} {W Z X : World} {S : Nat → Prop} {r : Nat}
theorem gr_doneD (h : GR κ most m b T cl vb pv c W Z X S r) : Calls Tryz.prog 25 #[.pointer (some ⟨r, 0, none⟩)] X fun e Y => e = .returned (.bool (decide (doneP T cl c))) ∧ ∃ q, Y = X.drewN q := by
  obtain ⟨G, K, vw, tv, ev, av, ths, h⟩ := h
  refine (r_done X h.run).mono ?_
  rintro e Y ⟨rfl, q, rfl⟩
  exact ⟨by rw [h.done], q, rfl⟩
theorem gr_small (h : GR κ most m b T cl vb pv c W Z X S r) (hst : c.st ≤ 16777216) : c.evs.length ≤ 33554432 ∧ c.t.length ≤ 32777216 := by
  obtain ⟨G, K, vw, tv, ev, av, ths, h⟩ := h
  have a1 := h.evl
  have a2 := h.ma.tlen
  exact ⟨by omega, by omega⟩
end
/-- What is asked of both, at any world that keeps all. -/
structure Asks (X : World) (ll : List (List PlP)) (c : Cfg PS) (wb q nm m r gg : Nat) (pe : Option Addr) (ce : Nat) (pw : Option Addr) (cw : Nat) (pa : Option Addr) (ca : Nat) (ps : Option Addr) (cs : Nat) (A Pd : List Int) (gv : Nat → Value) (qv : Nat → Value) (pb : Nat → Nat → Nat) (l4 : List Acc) : Prop where
  cells : ∀ w, Chg (fun _ => False) X w → w.cell? ⟨wb, 1, none⟩ = some (.pointer (some ⟨r, 0, none⟩)) ∧ w.cell? ⟨wb, 0, none⟩ = some (.pointer (some ⟨m, 0, none⟩)) ∧ w.cell? ⟨q, 0, none⟩ = some (.pointer (some ⟨nm, 0, none⟩)) ∧ w.cell? ⟨nm, 2, none⟩ = some (.slice pa c.t.length ca)
  sv : ∀ w, Chg (fun _ => False) X w → w.cell? ⟨wb, 2, none⟩ = some (.slice ps ll.length cs)
  evP : ∀ w, Chg (fun _ => False) X w → Calls Tryz.prog 17 #[.pointer (some ⟨r, 0, none⟩)] w fun e Y => ∃ p' c', e = .returned (.slice p' c.evs.length c') ∧ Y.ownsRow 0 100 4 (.slice p' c.evs.length c') c.evs.length (evRow c.evs) ∧ Chg (fun _ => False) w Y
  evD : ∀ w, Chg (fun _ => False) X w → Calls Tryz.prog 40 #[.pointer (some ⟨q, 0, none⟩)] w fun e Y => e = .returned (.slice pe c.evs.length ce) ∧ Y = w
  evR : ∀ w, Chg (fun _ => False) X w → w.ownsRow 0 100 4 (.slice pe c.evs.length ce) c.evs.length (evRow c.evs)
  stP : ∀ w, Chg (fun _ => False) X w → Calls Tryz.prog 26 #[.pointer (some ⟨r, 0, none⟩)] w fun e Y => e = .returned (.int .i64 (c.st : Int)) ∧ Y = w
  stD : ∀ w, Chg (fun _ => False) X w → Calls Tryz.prog 41 #[.pointer (some ⟨q, 0, none⟩)] w fun e Y => e = .returned (.int .i64 (c.st : Int)) ∧ Y = w
  atP : ∀ w, Chg (fun _ => False) X w → Calls Tryz.prog 19 #[.pointer (some ⟨r, 0, none⟩)] w fun e Y => ∃ p' c', e = .returned (.slice p' A.length c') ∧ Y.ownsRow 0 3 1 (.slice p' A.length c') A.length (A.map i64V) ∧ Chg (fun _ => False) w Y
  atD : ∀ w, Chg (fun _ => False) X w → Calls Tryz.prog 43 #[.pointer (some ⟨q, 0, none⟩)] w fun e Y => e = .returned (.slice pw A.length cw) ∧ Y = w
  atR : ∀ w, Chg (fun _ => False) X w → w.ownsRow 0 3 1 (.slice pw A.length cw) A.length (A.map i64V)
  pdP : ∀ w, Chg (fun _ => False) X w → Calls Tryz.prog 20 #[.pointer (some ⟨r, 0, none⟩)] w fun e Y => ∃ p' c', e = .returned (.slice p' Pd.length c') ∧ Y.ownsRow 0 3 1 (.slice p' Pd.length c') Pd.length (Pd.map i64V) ∧ Chg (fun _ => False) w Y
  pdD : ∀ w, Chg (fun _ => False) X w → Calls Tryz.prog 44 #[.pointer (some ⟨q, 0, none⟩)] w fun e Y => ∃ p' c', e = .returned (.slice p' Pd.length c') ∧ Y.ownsRow 0 3 1 (.slice p' Pd.length c') Pd.length (Pd.map i64V) ∧ Chg (fun _ => False) w Y
  dnP : ∀ w, Chg (fun _ => False) X w → Calls Tryz.prog 25 #[.pointer (some ⟨r, 0, none⟩)] w fun e Y => e = .returned (.bool (decide (doneP ll.length (clOf ll) c))) ∧ ∃ n, Y = w.drewN n
  dnD : ∀ w, Chg (fun _ => False) X w → Calls Tryz.prog 45 #[.pointer (some ⟨q, 0, none⟩)] w fun e Y => e = .returned (.bool (decide (doneP ll.length (clOf ll) c))) ∧ ∃ n, Y = w.drewN n
  trP : ∀ w, Chg (fun _ => False) X w → Calls Tryz.prog 47 #[.pointer (some ⟨m, 0, none⟩)] w fun e Y => ∃ p' c', e = .returned (.slice p' c.t.length c') ∧ Chg (fun _ => False) w Y ∧ ∃ l lk, Traced w Y (.slice p' c.t.length c') l lk l.length ∧ l.map Acc.bare = c.t
  trR : ∀ w, Chg (fun _ => False) X w → w.ownsRow 0 144 8 (.slice pa c.t.length ca) c.t.length (accRow l4)
  trV : ∀ w, Chg (fun _ => False) X w → ∀ x ∈ l4, w.ownsRow 0 75 1 x.vs x.vals.length (x.vals.map u64V)
  trE : l4.map Acc.bare = c.t
  vals : ∀ x ∈ c.t, x.vals.length ≤ 1099511627776
  small : c.evs.length ≤ 33554432 ∧ c.t.length ≤ 32777216 ∧ A.length ≤ 32777216 ∧ Pd.length ≤ 64 ∧ ll.length ≤ 64
  mine : ∀ w, Chg (fun _ => False) X w → MineAt w ll (.slice ps ll.length cs) qv pb
  gotP : ∀ w, Chg (fun _ => False) X w → ∀ i j, i < ll.length → j < clOf ll i → (qOf ll i j).none = false → ∃ g, w.cell? ⟨pb i j, 2, none⟩ = some g ∧ w.ownsRow 0 75 1 g (c.σ i j).got.length ((c.σ i j).got.map u64V)
  gotC : ∀ w, Chg (fun _ => False) X w → w.cell? ⟨q, 7, none⟩ = some (.slice (some ⟨gg, 0, none⟩) ll.length ll.length) ∧ ∀ i, i < ll.length → w.cell? ⟨gg, i, none⟩ = some (gv i)
  gotR : ∀ w, Chg (fun _ => False) X w → ∀ i, i < ll.length → w.ownsRow 0 75 1 (gv i) (gotT (clOf ll) c i).length ((gotT (clOf ll) c i).map u64V)
  gotI : ∀ i, i < ll.length → gotT (clOf ll) c i = (idxL (lOf ll i)).flatMap (fun j => (c.σ i j).got)
  gotN : ∀ i, i < ll.length → (gotT (clOf ll) c i).length ≤ 16777216
  idxN : ∀ i, i < ll.length → (idxL (lOf ll i)).length ≤ 1048576
section
variable {W V0 X : World} {ll : List (List PlP)} {p : Option Addr} {c8 : Nat} {c : Cfg PS} {s : R4S} {wb q nm m r b : Nat} {sv : Value} {qv : Nat → Value} {vb : Nat → Nat} {pb : Nat → Nat → Nat}
theorem asks (h : HWx W V0 X ll p c8 c s wb q nm m r b sv qv vb pb) (hWV : Chg (fun _ => False) W V0) {ap : Nat → Option Addr} {ac : Nat → Nat} {lp : Nat → Nat → Option Addr} {lc : Nat → Nat → Nat} (hP : ThsAt W W.heap.size p ll ap ac lp lc) (hD : DRx ll.length (clOf ll) c s) (hI : PInv ll.length (clOf ll) (qOf ll) c) (hls : ∀ l ∈ ll, l.length ≤ 1048576) (hst : c.st ≤ 16777216) (hv : ∀ x ∈ c.t, x.vals.length ≤ 1099511627776) : ∃ gg pe ce pw cw pa ca ps cs A Pd gv l4, sv = .slice ps ll.length cs ∧ Asks X ll c wb q nm m r gg pe ce pw cw pa ca ps cs A Pd gv qv pb l4 := by
  have cX := h.chg
  have lo := h.lo
  have hPw : ∀ w, Chg (fun _ => False) X w → ThsAt w W.heap.size p ll ap ac lp lc := fun w cw => hP.low (fun k hk => (cw.block k (by have := cX.size; omega) (fun x => x)).trans ((cX.block k (by omega) (fun x => x)).trans (hWV.block k hk (fun x => x))))
  have hcl : ∀ i l, ll[i]? = some l → l.length = clOf ll i := fun i l e => by
    have hi := (List.getElem?_eq_some_iff.1 e).1
    rw [lOf_get hi] at e
    injection e with e
    rw [← e]; rfl
  obtain ⟨K, g0, d0, hwb, hV, h5, h6, hM⟩ := h
  have hD4 : ∀ w, Chg (fun _ => False) X w → D4 w W.heap.size q nm ll.length s.st p c8 s.call s.at_ K := fun w cw => (d0.keep cw.size (fun k e => cw.block k (g0.kept k (.inl e)).2 (fun x => x))).hid
  obtain ⟨tg, gc, ga, gg, ev, wv, gv, R, h4, hK⟩ := d0
  obtain ⟨l4, ⟨nc, av, os, hl4⟩, hl4e⟩ := h4.rm
  have HG : ∀ w, Chg (fun _ => False) X w → GR (plK W.heap.size W) 200 m b ll.length (clOf ll) vb (pvOf ll pb) c V0 X w (fun k => K k ∨ k = wb ∨ mineS ll.length sv qv k) r := fun w cw => g0.quiet cw
  have H4 : ∀ w, Chg (fun _ => False) X w → D4At w W.heap.size tg q nm ll.length s.st gc ga gg p c8 ev wv s.es s.ws gv s.gl R s.m s.t s.call s.at_ := fun w cw => h4.keep cw.size (fun k e => cw.block k (h4.lo k e).2 (fun x => x))
  have HR : ∀ w, Chg (fun _ => False) X w → RMemAt w R nm nc av 200 s.m.next os s.m.cs l4 := fun w cw => hl4.kept cw.size (fun k e => cw.block k (hl4.lt k e) (fun x => x))
  have HMN : ∀ w, Chg (fun _ => False) X w → MineAt w ll sv qv pb := fun w cw => hM.kept (fun k e => cw.block k (g0.kept k (.inr (.inr e))).2 (fun x => x))
  obtain ⟨sm1, sm2⟩ := gr_small g0 hst
  have hbd := h4.bd
  have el : l4.length = c.t.length := by
    have e1 := congrArg List.length hl4e
    rw [List.length_map, hD.t] at e1
    exact e1
  obtain ⟨ps, cs, es⟩ := slice_of hM.1
  obtain ⟨pe, ce, ee⟩ := slice_of h4.er
  obtain ⟨pw, cw', ew⟩ := slice_of h4.wr
  obtain ⟨pa, ca, ea⟩ := slice_of hl4.acc
  subst es ee ew ea
  have hws : s.ws.length = (extN c.ats c.t.length (-1)).length := by rw [hD.ws]
  have hpd : pndL (fun i => decide (s.at_ i ≠ 0)) ll.length = pndL c.bg ll.length := pndL_congr (fun i hi => (hD.bg i hi).symm)
  have hdn : decide (∀ i, i < ll.length → clOf ll i ≤ s.call i) = decide (doneP ll.length (clOf ll) c) := decide_eq_decide.2 ⟨fun z j hj => by rw [← hD.rel.ix j hj]; exact z j hj, fun z j hj => by rw [hD.rel.ix j hj]; exact z j hj⟩
  refine ⟨gg, pe, ce, pw, cw', pa, ca, ps, cs, extN c.ats c.t.length (-1), pndL c.bg ll.length, gv, l4, rfl, ?_⟩
  refine ⟨fun w cw => ?_, fun w cw => cell_of ((cw.block wb (lt_of hwb) (fun x => x)).trans hwb) 2, fun w cw => gr_events (HG w cw) (by omega), fun w cw => ?_, fun w cw => ?_, fun w cw => gr_steps (HG w cw), fun w cw => ?_, fun w cw => ?_, fun w cw => ?_, fun w cw => ?_, fun w cw => ?_, fun w cw => ?_, fun w cw => gr_doneD (HG w cw), fun w cw => ?_, fun w cw => gr_trace (HG w cw) (by omega) hv, fun w cw => ?_, fun w cw => (HR w cw).vals, by rw [hl4e, hD.t], hv, ⟨sm1, sm2, ?_, ?_, hbd.2.2.2.2.2⟩, HMN, fun w cw i j hi hj hn => gr_got (HG w cw) hi hj (hI.pl i j hi hj) hn, fun w cw => ⟨cell_of (H4 w cw).blk 7, fun i hi => ?_⟩, fun w cw i hi => ?_, fun i hi => ?_, fun i hi => ?_, fun i hi => ?_⟩
  · have zz := (cw.block wb (lt_of hwb) (fun x => x)).trans hwb
    refine ⟨cell_of zz 1, cell_of zz 0, cell_of (H4 w cw).blk 0, ?_⟩
    have z := cell_of (HR w cw).blk 2
    rw [← el]
    exact z
  · have z := rd_events (H4 w cw)
    rw [hD.es] at z
    exact z
  · have z := (H4 w cw).er
    rw [hD.es] at z
    exact z
  · have z := rd_steps (H4 w cw)
    rw [hD.st] at z
    exact z
  · refine (gr_atL (HG w cw) (by omega) hD.al).mono ?_
    rintro e Y ⟨v', rfl, o, cc⟩
    obtain ⟨p', c', e⟩ := slice_of o
    subst e
    exact ⟨p', c', rfl, o, cc⟩
  · have z := rd_at (H4 w cw)
    rw [hws] at z
    exact z
  · have z := (H4 w cw).wr
    rw [hD.ws] at z
    exact z
  · refine (gr_pendingL (HG w cw)).mono ?_
    rintro e Y ⟨v', rfl, o, cc⟩
    obtain ⟨p', c', e⟩ := slice_of o
    subst e
    exact ⟨p', c', rfl, o, cc⟩
  · refine (rd_pending (H4 w cw)).mono ?_
    rintro e Y ⟨v', rfl, o, cc⟩
    rw [hpd] at o
    obtain ⟨p', c', e⟩ := slice_of o
    subst e
    exact ⟨p', c', rfl, o, cc⟩
  · have z := rd_done (hD4 w cw) (hPw w cw) rfl (clOf ll) hcl
    rw [hdn] at z
    exact z
  · have z := (HR w cw).acc
    rw [el] at z
    exact z
  · rw [← hws]
    have := hbd.2.1
    rw [hD.t] at this
    omega
  · have := pndL_len c.bg ll.length
    have := hbd.2.2.2.2.2
    omega
  · rw [cell_of (H4 w cw).gb i]
    simp [valR, hi]
  · have z := (H4 w cw).gr i hi
    rw [hD.gl i hi] at z
    exact z
  · unfold gotT clOf
    refine flat_idx (fun j q hq hn => ?_)
    have hj : j < clOf ll i := (List.getElem?_eq_some_iff.1 hq).1
    refine hD.ng i j hi hj ?_
    rw [hI.pl i j hi hj]
    have e := qOf_get hj
    rw [hq] at e
    injection e with e
    rw [← e]; exact hn
  · have := hbd.2.2.1 i hi
    rw [hD.gl i hi] at this
    have e := hD.st
    omega
  · have := hls _ (List.mem_of_getElem? (lOf_get hi))
    unfold idxL
    have z := List.length_filter_le (isP (lOf ll i)) (List.range (lOf ll i).length)
    rw [List.length_range] at z
    omega
end
end Go.Proofs.YtnhiodmigmmfgaaGreat
