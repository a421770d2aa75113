/- A line behind others, by the document. (mkSfg.py) -/
import Derived.Test.YtmmaniolaljjlaaGreatDoorP16Sdh
import Derived.Test.YtmmaniolaljjlaaGreatDoorP17Scs
import Derived.Test.YtmmaniolaljjlaaGreatDoorP20Sdj
import Derived.Deep.RegionHeld
namespace Go.Proofs.YtmmaniolaljjlaaGreatDoor
open Go.RowKit Go.Shelf Go.Maps
set_option linter.unusedVariables false

theorem th_not_pk (l : List Int) : thW ≠ pkT l := fun e => by
  have e := congrArg (fun t => Lib.split t [32]) e
  simp only [thW_split, pkT_split, pkL, List.cons.injEq] at e
  exact absurd e.1 (by decide)
theorem op_not_pk (o : Opx) (l : List Int) : textO o ≠ pkT l := fun e => by
  have e := congrArg (fun t => Lib.split t [32]) e
  obtain ⟨r, hr⟩ := part_head o
  simp only [textO_split, pkT_split, pkL] at e
  rw [hr] at e
  simp only [List.cons.injEq] at e
  exact absurd e.1 (opW_not o.k).2.2
theorem goes_inv {ce sl : Int} {stp : Nat} {mu : Int} {ts : List (List Opx)} {ps : List Int} {t : List UInt8} {x : Rdg} (h : Goes1 (some ⟨ce, sl, stp, mu, ts, ps⟩) t x) : (t = thW ∧ ps = []) ∨ (∃ o, rightO o ∧ t = textO o ∧ ps = [] ∧ ts ≠ []) ∨ (∃ l, t = pkT l ∧ ps.length % 20 = 0 ∧ 1 ≤ l.length ∧ l.length ≤ 20 ∧ ∀ z ∈ l, isI z) := by
  generalize hs : some (Rdg.mk ce sl stp mu ts ps) = s at h
  cases h with
  | cfg => cases hs
  | thr => injection hs with hs; injection hs with _ _ _ _ _ e; exact .inl ⟨rfl, e⟩
  | op a b c d ts' l o ho => injection hs with hs; injection hs with _ _ _ _ e1 e; exact .inr (.inl ⟨o, ho, rfl, e, by rw [e1]; simp⟩)
  | pk a b c d ts' ps' l h1 h2 h3 h4 => injection hs with hs; injection hs with _ _ _ _ e1 e; subst e; exact .inr (.inr ⟨l, rfl, h1, h2, h3, h4⟩)
/-- what a line leads to, or that it leads nowhere -/
def GoB (ce sl : Int) (stp : Nat) (mu : Int) (ts : List (List Opx)) (ps : List Int) (t : List UInt8) (ok : Bool) (ts' : List (List Opx)) (ps' : List Int) : Prop := (ok = true → Goes1 (some ⟨ce, sl, stp, mu, ts, ps⟩) t ⟨ce, sl, stp, mu, ts', ps'⟩) ∧ (ok = false → ∀ x, ¬ Goes1 (some ⟨ce, sl, stp, mu, ts, ps⟩) t x)
theorem gob_pk {ce sl : Int} {stp : Nat} {mu : Int} {ts : List (List Opx)} {ps l : List Int} {t : List UInt8} (h : PkQ t true l) (h20 : ps.length % 20 = 0) : GoB ce sl stp mu ts ps t true ts (ps ++ l) := by
  obtain ⟨h1, h2, h3, h4⟩ := h.1 rfl
  subst h4
  exact ⟨fun _ => .pk ce sl stp mu ts ps l h20 h1 h2 h3, fun e => by cases e⟩
theorem gob_pk20 {ce sl : Int} {stp : Nat} {mu : Int} {ts : List (List Opx)} {ps l : List Int} {t : List UInt8} (h : PkQ t true l) (h20 : ¬ ps.length % 20 = 0) : GoB ce sl stp mu ts ps t false ts ps := by
  obtain ⟨h1, h2, h3, h4⟩ := h.1 rfl
  subst h4
  refine ⟨fun e => (by cases e), fun _ x hx => ?_⟩
  rcases goes_inv hx with ⟨e, _⟩ | ⟨o, _, e, _⟩ | ⟨l', _, e, _⟩
  · exact th_not_pk l e.symm
  · exact op_not_pk o l e.symm
  · exact h20 e
theorem pk_no {t : List UInt8} {l l' : List Int} (h : PkQ t false l) (h1 : 1 ≤ l'.length) (h2 : l'.length ≤ 20) (h3 : ∀ z ∈ l', isI z) (h4 : t = pkT l') : False := by
  have := (h.2 l' h1 h2 h3 h4).1
  cases this
theorem gob_late {ce sl : Int} {stp : Nat} {mu : Int} {ts : List (List Opx)} {ps l : List Int} {t : List UInt8} (h : PkQ t false l) (h0 : ps ≠ []) : GoB ce sl stp mu ts ps t false ts ps := by
  refine ⟨fun e => (by cases e), fun _ x hx => ?_⟩
  rcases goes_inv hx with ⟨_, e⟩ | ⟨o, _, _, e, _⟩ | ⟨l', e, _, e1, e2, e3⟩
  · exact h0 e
  · exact h0 e
  · exact pk_no h e1 e2 e3 e
theorem gob_th {ce sl : Int} {stp : Nat} {mu : Int} {ts : List (List Opx)} {ps : List Int} {t : List UInt8} (h0 : ps = []) (ht : t = thW) : GoB ce sl stp mu ts ps t true (ts ++ [[]]) ps := by
  subst h0 ht
  exact ⟨fun _ => .thr ce sl stp mu ts, fun e => by cases e⟩
theorem gob_no {ce sl : Int} {stp : Nat} {mu : Int} {ts : List (List Opx)} {ps l : List Int} {t : List UInt8} {ok : Bool} {o : Opx} (h : PkQ t false l) (ht : ¬ t = thW) (ho : PQ t ok o) (hn : ok = false ∨ ts = []) : GoB ce sl stp mu ts ps t false ts ps := by
  refine ⟨fun e => (by cases e), fun _ x hx => ?_⟩
  rcases goes_inv hx with ⟨e, _⟩ | ⟨o', r', e, _, e2⟩ | ⟨l', e, _, e1, e2, e3⟩
  · exact ht e
  · rcases hn with hn | hn
    · have := (ho.2 o' r' e).1
      rw [hn] at this
      cases this
    · exact e2 hn
  · exact pk_no h e1 e2 e3 e
theorem gob_op {ce sl : Int} {stp : Nat} {mu : Int} {ts : List (List Opx)} {l : List Opx} {ps : List Int} {t : List UInt8} {o : Opx} (h0 : ps = []) (ho : PQ t true o) : GoB ce sl stp mu (ts ++ [l]) ps t true (ts ++ [l ++ [o]]) ps := by
  obtain ⟨h1, h2⟩ := ho.1 rfl
  subst h0 h2
  exact ⟨fun _ => .op ce sl stp mu ts l o h1, fun e => by cases e⟩
theorem ChO.setNew {Z X wr : World} (h : ChO Z X wr) {P : Nat} (hP : X.heap.size ≤ P) (i : Nat) (v : Value) : ChO Z X (wr.setCell ⟨P, i, none⟩ v) := Chg.setCell h (p := ⟨P, i, none⟩) (fun e => by have e : P < X.heap.size := e; omega) v
/-- while a line is taken in by the document -/
structure GS (Z X : World) (P R : Nat) (ce sl : Int) (stp : Nat) (mu : Int) (tb pb : Value) (rr : Array Value) (tv pv : Value) (ts : List (List Opx)) (ps : List Int) (wr : World) : Prop where
  os : OS Z wr tv pv ts ps
  ch : ChO Z X wr
  bx : wr.heap[P]? = some (.cells (scR ce sl stp mu tb pb) 46 (0, 0))
  rx : wr.heap[R]? = some (.cells rr 46 (0, 0))
  r0 : ∃ z, rr[0]? = some (.int .i64 z)
  lP : X.heap.size ≤ P
  lR : X.heap.size ≤ R
  ne : P ≠ R
  sz : Z.heap.size ≤ X.heap.size
theorem nrow : ¬ rowTy 46 := by unfold rowTy; decide
theorem i0 {row : Array Value} (h : ∃ z, row[0]? = some (.int .i64 z)) : ∀ x, row[0]? ≠ some (.int .u64 x) := fun x e => by
  obtain ⟨z, hz⟩ := h
  rw [hz] at e
  injection e with e
  cases e
theorem GS.on {Z X : World} {P R : Nat} {ce sl : Int} {stp : Nat} {mu : Int} {tb pb : Value} {rr : Array Value} {tv pv : Value} {ts : List (List Opx)} {ps : List Int} {wr Y : World} (h : GS Z X P R ce sl stp mu tb pb rr tv pv ts ps wr) (hb : Below wr.heap.size wr Y) : GS Z X P R ce sl stp mu tb pb rr tv pv ts ps Y :=
  ⟨h.os.on hb, h.ch.trans (ChO.of Z hb), heap_below h.bx hb, heap_below h.rx hb, h.r0, h.lP, h.lR, h.ne, h.sz⟩
theorem GS.row {Z X : World} {P R : Nat} {ce sl : Int} {stp : Nat} {mu : Int} {tb pb : Value} {rr : Array Value} {tv pv : Value} {ts : List (List Opx)} {ps : List Int} {wr : World} (h : GS Z X P R ce sl stp mu tb pb rr tv pv ts ps wr) (cs : Array Value) (hc : ∃ z, cs[0]? = some (.int .i64 z)) : GS Z X P R ce sl stp mu tb pb cs tv pv ts ps (wr.setRow R cs) := by
  refine ⟨h.os.keep (KpM.at (P := R) ⟨rfl, rfl, rfl, by simp, fun b hb hn => setRow_other _ _ _ _ hn⟩ h.rx nrow (i0 h.r0)), ⟨h.ch.os, h.ch.tape, h.ch.output, by simpa using h.ch.size, fun i hi hn => ?_⟩, (setRow_other _ _ _ _ h.ne).trans h.bx, setRow_heap _ _ _ _ _ _ h.rx, hc, h.lP, h.lR, h.ne, h.sz⟩
  have := h.lR
  exact (setRow_other _ _ _ _ (by omega)).trans (h.ch.block i hi hn)
/-- the rows have been grown, and are named in the box -/
theorem GS.put {Z X : World} {P R : Nat} {ce sl : Int} {stp : Nat} {mu : Int} {tb pb : Value} {rr : Array Value} {tv pv tv' pv' : Value} {ts ts' : List (List Opx)} {ps ps' : List Int} {wr w2 : World} (h : GS Z X P R ce sl stp mu tb pb rr tv pv ts ps wr) (ho : OS Z w2 tv' pv' ts' ps') (hc : ChO Z wr w2) : GS Z X P R ce sl stp mu tb pb rr tv' pv' ts' ps' w2 :=
  have kp : ∀ (b : Nat) (cs : Array Value), wr.heap[b]? = some (.cells cs 46 (0, 0)) → w2.heap[b]? = some (.cells cs 46 (0, 0)) := fun b cs hb => hc.kept hb (fun cs' t e ht => by injection e with _ e; subst e; exact absurd ht nrow)
  ⟨ho, h.ch.trans hc, kp P _ h.bx, kp R _ h.rx, h.r0, h.lP, h.lR, h.ne, h.sz⟩
theorem GS.set {Z X : World} {P R : Nat} {ce sl : Int} {stp : Nat} {mu : Int} {tb pb : Value} {rr : Array Value} {tv pv : Value} {ts : List (List Opx)} {ps : List Int} {wr : World} (h : GS Z X P R ce sl stp mu tb pb rr tv pv ts ps wr) (i : Nat) (v : Value) : OS Z (wr.setCell ⟨P, i, none⟩ v) tv pv ts ps ∧ ChO Z X (wr.setCell ⟨P, i, none⟩ v) ∧ (wr.setCell ⟨P, i, none⟩ v).heap[P]? = some (.cells ((scR ce sl stp mu tb pb).setIfInBounds i v) 46 (0, 0)) ∧ (wr.setCell ⟨P, i, none⟩ v).heap[R]? = some (.cells rr 46 (0, 0)) :=
  ⟨h.os.keep (KpM.at (P := P) ⟨rfl, rfl, rfl, by simp [World.setCell], fun b hb hn => Below.heap_setCell _ _ _ _ hn⟩ h.bx nrow (i0 ⟨ce, rfl⟩)), h.ch.setNew h.lP _ _, set_of h.bx i v, other_of h.rx (Ne.symm h.ne) _⟩
theorem GS.setT {Z X : World} {P R : Nat} {ce sl : Int} {stp : Nat} {mu : Int} {tb pb : Value} {rr : Array Value} {tv pv : Value} {ts : List (List Opx)} {ps : List Int} {wr : World} (h : GS Z X P R ce sl stp mu tb pb rr tv pv ts ps wr) (v : Value) : GS Z X P R ce sl stp mu v pb rr tv pv ts ps (wr.setCell ⟨P, 4, none⟩ v) := by
  obtain ⟨a, b, c, d⟩ := h.set 4 v
  exact ⟨a, b, c, d, h.r0, h.lP, h.lR, h.ne, h.sz⟩
theorem GS.setP {Z X : World} {P R : Nat} {ce sl : Int} {stp : Nat} {mu : Int} {tb pb : Value} {rr : Array Value} {tv pv : Value} {ts : List (List Opx)} {ps : List Int} {wr : World} (h : GS Z X P R ce sl stp mu tb pb rr tv pv ts ps wr) (v : Value) : GS Z X P R ce sl stp mu tb v rr tv pv ts ps (wr.setCell ⟨P, 5, none⟩ v) := by
  obtain ⟨a, b, c, d⟩ := h.set 5 v
  exact ⟨a, b, c, d, h.r0, h.lP, h.lR, h.ne, h.sz⟩
def GoR (Z X : World) (ce sl : Int) (stp : Nat) (mu : Int) (ts : List (List Opx)) (ps : List Int) (t : List UInt8) (e : Ending) (W' : World) : Prop := ∃ tv' pv' ts' ps' ok, e = .returned (.tuple #[.agg (scR ce sl stp mu tv' pv'), .bool ok]) ∧ OS Z W' tv' pv' ts' ps' ∧ ChO Z X W' ∧ GoB ce sl stp mu ts ps t ok ts' ps'
set_option maxRecDepth 100000 in
set_option maxHeartbeats 8000000 in
theorem dGoes_any (ce sl : Int) (stp : Nat) (mu : Int) (tv pv : Value) (ts : List (List Opx)) (ps : List Int) (t : List UInt8) (ht : t.length ≤ 5000000) (h1 : ts.length ≤ 10000000) (h2 : ps.length ≤ 10000000) (h3 : ∀ l ∈ ts, l.length ≤ 10000000) (Z X : World) (hZ : Z.heap.size ≤ X.heap.size) (T : Tb X) (hO : OS Z X tv pv ts ps) :
    Calls Tryz.prog 57 #[.agg (scR ce sl stp mu tv pv), .string (mkS t)] X (GoR Z X ce sl stp mu ts ps t) := by
  obtain ⟨i0, hi0, hz0, hz1, hz2⟩ := info_parts infoInt
  have HII := keepH hi0
  obtain ⟨i1, hi1, hy0, hy1, hy2⟩ := info_parts infoOps
  have HIO := keepH hi1
  obtain ⟨i2, hi2, hx0, hx1, hx2⟩ := info_parts infoOp
  have HIP := keepH hi2
  clear hi0 hi1 hi2
  obtain ⟨n, hn⟩ : ∃ n, n = ts.length := ⟨_, rfl⟩
  obtain ⟨m, hm⟩ : ∃ m, m = ps.length := ⟨_, rfl⟩
  obtain ⟨tp, tc, pp, pc, e1, e2, -, -, -⟩ := hO.reads
  rw [← hn] at e1 h1
  rw [← hm] at e2 h2
  subst e1 e2
  obtain ⟨w1, hw1⟩ : ∃ w1, w1 = (X.alloc (.cells (scR ce sl stp mu (.slice tp n tc) (.slice pp m pc)) 46)).alloc (.cells #[.int .i64 0, .int .i64 0, .int .u64 0, .int .i64 0, .slice none 0 0, .slice none 0 0] 46) := ⟨_, rfl⟩
  obtain ⟨P, hP⟩ : ∃ P, P = X.heap.size := ⟨_, rfl⟩
  obtain ⟨R, hR⟩ : ∃ R, R = X.heap.size + 1 := ⟨_, rfl⟩
  have B1 : Below X.heap.size X w1 := by rw [hw1]; exact (below_alloc _ _).trans ((below_alloc _ _).mono (by simp))
  have X1 : w1.heap[P]? = some (.cells (scR ce sl stp mu (.slice tp n tc) (.slice pp m pc)) 46 (0, 0)) := by
    rw [hw1, hP, Below.heap_alloc _ _ _ (by simp)]
    exact heap_alloc_new _ _
  have Y1 : w1.heap[R]? = some (.cells #[.int .i64 0, .int .i64 0, .int .u64 0, .int .i64 0, .slice none 0 0, .slice none 0 0] 46 (0, 0)) := by
    rw [hw1, hR]
    have := heap_alloc_new (X.alloc (.cells (scR ce sl stp mu (.slice tp n tc) (.slice pp m pc)) 46)) (.cells #[.int .i64 0, .int .i64 0, .int .u64 0, .int .i64 0, .slice none 0 0, .slice none 0 0] 46)
    simpa using this
  have HG1 : Hid (GS Z X P R ce sl stp mu (.slice tp n tc) (.slice pp m pc) #[.int .i64 0, .int .i64 0, .int .u64 0, .int .i64 0, .slice none 0 0, .slice none 0 0] (.slice tp n tc) (.slice pp m pc) ts ps w1) := keepH ⟨hO.on B1, ChO.of Z B1, X1, Y1, ⟨0, rfl⟩, by omega, by omega, by omega, hZ⟩
  have HPK := keepH (dPicked_any t ht w1 (T.on B1))
  have HPO := keepH (fun w (hb : Below w1.heap.size w1 w) => dParseOp_any t ht w ((T.on B1).on hb))
  have hq : ((mkS t).toList == (mkS thW).toList) = decide (t = thW) := beq_mkS _ _
  obtain ⟨ith, hith⟩ : ∃ ith, ith = decide (t = thW) := ⟨_, rfl⟩
  rw [← hith, show (mkS thW).toList = [116, 104, 114, 101, 97, 100] from mkS_toList thW] at hq
  have HITH := keepH hith
  obtain ⟨s, hs⟩ : ∃ s, s = mkS t := ⟨_, rfl⟩
  rw [← hs] at HPK HPO hq ⊢
  have HN := keepH hn
  have HM := keepH hm
  have HL := keepH h3
  have HW1 := keepH hw1
  have HP := keepH hP
  have HR := keepH hR
  have d4 : w1.cell? ⟨P, 4, none⟩ = _ := cell_of HG1.out.bx 4
  clear hn hm hw1 hP hR B1 X1 Y1 hO hZ T hith hs h3 ht
  go_enter Tryz.func57, Tryz.ntmps57
  go_upto_region 1 with fail
  rw [show (X.alloc (.cells (scR ce sl stp mu (.slice tp n tc) (.slice pp m pc)) 46)).alloc (.cells #[.int .i64 0, .int .i64 0, .int .u64 0, .int .i64 0, .slice none 0 0, .slice none 0 0] 46) = w1 from HW1.out.symm, ← HR.out, ← HP.out]
  clear HW1 HP HR
  go_wp2_with fail
  refine HPK.out.mono ?_
  rintro e w2 ⟨l, v, ok, rfl, hst, hpq⟩
  have HST := keepH hst
  have HPQ := keepH hpq
  have HG2 := keepH (HG1.out.on hst.bel)
  have HB2 := keepH hst.bel
  clear hst hpq d4
  cases ok
  · have d5 : w2.cell? ⟨P, 5, none⟩ = _ := cell_of HG2.out.bx 5
    by_cases hm0 : 0 < m
    · have q1 : (m : Int) > 0 := by omega
      have HNE : Hid (ps ≠ []) := keepH (fun e => by have := HM.out; rw [e] at this; simp at this; omega)
      clear hm0
      have d0 : w2.cell? ⟨P, 0, none⟩ = _ := cell_of HG2.out.bx 0
      have d1 : w2.cell? ⟨P, 1, none⟩ = _ := cell_of HG2.out.bx 1
      have d2 : w2.cell? ⟨P, 2, none⟩ = _ := cell_of HG2.out.bx 2
      have d3 : w2.cell? ⟨P, 3, none⟩ = _ := cell_of HG2.out.bx 3
      have d4 : w2.cell? ⟨P, 4, none⟩ = _ := cell_of HG2.out.bx 4
      go_wp2_with (first | (refine wpList_store_row rfl 46 _ _ rfl R (scR ce sl stp mu (.slice tp n tc) (.slice pp m pc)) rfl rfl 46 #[.int .i64 0, .int .i64 0, .int .u64 0, .int .i64 0, .slice none 0 0, .slice none 0 0] HG2.out.rx (by kernel_rfl) rfl (by simp [Value.oneCell']) ?_) | fail)
      have HGF := keepH (HG2.out.row (scR ce sl stp mu (.slice tp n tc) (.slice pp m pc)) ⟨ce, rfl⟩)
      have hrow := HGF.out.rx
      have e0 := cell_of hrow 0
      have e1 := cell_of hrow 1
      have e2 := cell_of hrow 2
      have e3 := cell_of hrow 3
      have e4 := cell_of hrow 4
      have e5 := cell_of hrow 5
      simp at e0 e1 e2 e3 e4 e5
      refine bodyPost_ret (v := .tuple #[.agg (scR ce sl stp mu (.slice tp n tc) (.slice pp m pc)), .bool false]) (by simp [results, Tryz.results57, go_sem, e0, e1, e2, e3, e4, e5]) rfl ?_
      exact ⟨_, _, ts, ps, false, rfl, HGF.out.os, HGF.out.ch, gob_late HPQ.out HNE.out⟩
    · have q1 : ¬ (m : Int) > 0 := by omega
      have HPS : Hid (ps = []) := keepH (by have := HM.out; exact List.eq_nil_of_length_eq_zero (by omega))
      clear hm0
      cases ith
      · have HNT : Hid (¬ t = thW) := keepH (by have := HITH.out; simpa using this.symm)
        have HP3 := keepH (HPO.out w2 HB2.out)
        go_wp2_with fail
        refine HP3.out.mono ?_
        rintro e w3 ⟨ok2, o, kp, kc, rfl, hpq2, hku, -, B3⟩
        have HPO2 := keepH hpq2
        have HKU := keepH hku
        have HG3 := keepH (HG2.out.on B3)
        clear hpq2 hku B3
        simp only [opV]
        obtain ⟨E2, hE2⟩ : ∃ E2 : Int, E2 = (if ok2 = true then 0 else 52) := ⟨_, rfl⟩
        rw [← hE2]
        have qe2 : (E2 != 0) = !ok2 := by rw [hE2]; cases ok2 <;> rfl
        clear hE2
        go_upto_region 14 with (first | (refine wpList_store_row rfl 28 _ _ rfl w3.heap.size #[.int .u8 (o.k : Int), .int .u64 (o.key : Int), .int .u64 (o.val : Int), .int .u64 (o.old : Int), .int .u64 (o.hnd : Int), .bool o.set, .int .i64 o.rt, .int .i64 o.ri, .slice kp o.keys.length kc, .int .u64 (o.lo : Int), .int .u64 (o.hi : Int)] rfl rfl 28 #[.int .u8 0, .int .u64 0, .int .u64 0, .int .u64 0, .int .u64 0, .bool false, .int .i64 0, .int .i64 0, .slice none 0 0, .int .u64 0, .int .u64 0] (heap_alloc_new _ _) (by kernel_rfl) rfl (by simp [Value.oneCell']) ?_) | fail)
        obtain ⟨O, hO⟩ : ∃ O, O = w3.heap.size := ⟨_, rfl⟩
        obtain ⟨w4, hw4⟩ : ∃ w4, w4 = (w3.alloc (.cells #[.int .u8 0, .int .u64 0, .int .u64 0, .int .u64 0, .int .u64 0, .bool false, .int .i64 0, .int .i64 0, .slice none 0 0, .int .u64 0, .int .u64 0] 28)).setRow w3.heap.size #[.int .u8 (o.k : Int), .int .u64 (o.key : Int), .int .u64 (o.val : Int), .int .u64 (o.old : Int), .int .u64 (o.hnd : Int), .bool o.set, .int .i64 o.rt, .int .i64 o.ri, .slice kp o.keys.length kc, .int .u64 (o.lo : Int), .int .u64 (o.hi : Int)] := ⟨_, rfl⟩
        rw [← hw4, ← hO]
        have B4 : Below w3.heap.size w3 w4 := by rw [hw4]; exact below_setRow (below_alloc _ _) (Nat.le_refl _) _
        have HO4 : Hid (w4.heap[O]? = some (.cells #[.int .u8 (o.k : Int), .int .u64 (o.key : Int), .int .u64 (o.val : Int), .int .u64 (o.old : Int), .int .u64 (o.hnd : Int), .bool o.set, .int .i64 o.rt, .int .i64 o.ri, .slice kp o.keys.length kc, .int .u64 (o.lo : Int), .int .u64 (o.hi : Int)] 28 (0, 0))) := keepH (by rw [hw4, hO]; exact setRow_heap _ _ _ _ _ _ (heap_alloc_new _ _))
        have HG4 := keepH (HG3.out.on B4)
        have HK4 := keepH (HKU.out.on B4)
        have HSB : Hid (Z.heap.size ≤ w2.heap.size) := keepH (Nat.le_trans HG2.out.sz HG2.out.ch.size)
        have HB4 := keepH B4
        have HOO := keepH hO
        clear hO hw4 B4 HP3
        cases ok2
        · have HGB := keepH (gob_no (ce := ce) (sl := sl) (stp := stp) (mu := mu) (ts := ts) (ps := ps) HPQ.out HNT.out HPO2.out (.inl rfl))
          have qe3 : (E2 != 0) = true := qe2
          clear qe2
          clear d5
          have d0 : w4.cell? ⟨P, 0, none⟩ = _ := cell_of HG4.out.bx 0
          have d1 : w4.cell? ⟨P, 1, none⟩ = _ := cell_of HG4.out.bx 1
          have d2 : w4.cell? ⟨P, 2, none⟩ = _ := cell_of HG4.out.bx 2
          have d3 : w4.cell? ⟨P, 3, none⟩ = _ := cell_of HG4.out.bx 3
          have d4 : w4.cell? ⟨P, 4, none⟩ = _ := cell_of HG4.out.bx 4
          have d5 : w4.cell? ⟨P, 5, none⟩ = _ := cell_of HG4.out.bx 5
          go_wp2_with (first | (refine wpList_store_row rfl 46 _ _ rfl R (scR ce sl stp mu (.slice tp n tc) (.slice pp m pc)) rfl rfl 46 #[.int .i64 0, .int .i64 0, .int .u64 0, .int .i64 0, .slice none 0 0, .slice none 0 0] HG4.out.rx (by kernel_rfl) rfl (by simp [Value.oneCell']) ?_) | fail)
          have HGF := keepH (HG4.out.row (scR ce sl stp mu (.slice tp n tc) (.slice pp m pc)) ⟨ce, rfl⟩)
          have hrow := HGF.out.rx
          have e0 := cell_of hrow 0
          have e1 := cell_of hrow 1
          have e2 := cell_of hrow 2
          have e3 := cell_of hrow 3
          have e4 := cell_of hrow 4
          have e5 := cell_of hrow 5
          simp at e0 e1 e2 e3 e4 e5
          refine bodyPost_ret (v := .tuple #[.agg (scR ce sl stp mu (.slice tp n tc) (.slice pp m pc)), .bool false]) (by simp [results, Tryz.results57, go_sem, e0, e1, e2, e3, e4, e5]) rfl ?_
          exact ⟨_, _, ts, ps, false, rfl, HGF.out.os, HGF.out.ch, HGB.out⟩
        · have qe3 : (E2 != 0) = false := qe2
          clear qe2
          by_cases hn0 : n = 0
          · have q2 : ((n : Int) == 0) = true := by rw [hn0]; rfl
            have HGB := keepH (gob_no (ce := ce) (sl := sl) (stp := stp) (mu := mu) (ts := ts) (ps := ps) HPQ.out HNT.out HPO2.out (.inr (List.eq_nil_of_length_eq_zero (by rw [← HN.out]; exact hn0))))
            clear hn0
            clear d5
            have d0 : w4.cell? ⟨P, 0, none⟩ = _ := cell_of HG4.out.bx 0
            have d1 : w4.cell? ⟨P, 1, none⟩ = _ := cell_of HG4.out.bx 1
            have d2 : w4.cell? ⟨P, 2, none⟩ = _ := cell_of HG4.out.bx 2
            have d3 : w4.cell? ⟨P, 3, none⟩ = _ := cell_of HG4.out.bx 3
            have d4 : w4.cell? ⟨P, 4, none⟩ = _ := cell_of HG4.out.bx 4
            have d5 : w4.cell? ⟨P, 5, none⟩ = _ := cell_of HG4.out.bx 5
            go_wp2_with (first | (refine wpList_store_row rfl 46 _ _ rfl R (scR ce sl stp mu (.slice tp n tc) (.slice pp m pc)) rfl rfl 46 #[.int .i64 0, .int .i64 0, .int .u64 0, .int .i64 0, .slice none 0 0, .slice none 0 0] HG4.out.rx (by kernel_rfl) rfl (by simp [Value.oneCell']) ?_) | fail)
            have HGF := keepH (HG4.out.row (scR ce sl stp mu (.slice tp n tc) (.slice pp m pc)) ⟨ce, rfl⟩)
            have hrow := HGF.out.rx
            have e0 := cell_of hrow 0
            have e1 := cell_of hrow 1
            have e2 := cell_of hrow 2
            have e3 := cell_of hrow 3
            have e4 := cell_of hrow 4
            have e5 := cell_of hrow 5
            simp at e0 e1 e2 e3 e4 e5
            refine bodyPost_ret (v := .tuple #[.agg (scR ce sl stp mu (.slice tp n tc) (.slice pp m pc)), .bool false]) (by simp [results, Tryz.results57, go_sem, e0, e1, e2, e3, e4, e5]) rfl ?_
            exact ⟨_, _, ts, ps, false, rfl, HGF.out.os, HGF.out.ch, HGB.out⟩
          · have q2 : ((n : Int) == 0) = false := by simp; omega
            obtain ⟨ts0, l0, hts⟩ : ∃ ts0 l0, ts = ts0 ++ [l0] := ⟨ts.dropLast, ts.getLast (fun e => by have := HN.out; rw [e] at this; simp at this; omega), (List.dropLast_concat_getLast _).symm⟩
            subst hts
            obtain ⟨gT, cap, v0, ks, etv, c03, f03, ltT, mT, k1, k23, pv0, cv0, hv0⟩ := HG3.out.os.last
            have c0 := cell_below c03 HB4.out
            have k2 := row_kept k23 (fun k hk => HB4.out.block k (row_lt k23 k hk))
            have hneO : v0.ownBlock ≠ some O := fun e => by have := row_lt k23 O e; have := HOO.out; omega
            have hneG : gT ≠ O := by have := HOO.out; omega
            clear k23 f03
            obtain ⟨n', hn'⟩ : ∃ n', n' = ts0.length := ⟨_, rfl⟩
            have hnn : n = n' + 1 := by have := HN.out; simp at this; omega
            rw [← hn'] at etv c0 c03
            injection etv with etp enn etc'
            clear enn
            subst etp etc' hv0
            have HG4' := HG4.out
            rw [hnn, hn'] at HG4'
            have HL0 := HL.out l0 (by simp)
            have b1 : (n : Int) - 1 = (n' : Int) := by omega
            have b2 : (n' : Int) < (n : Int) := by omega
            have b3 : n' < n := by omega
            have b0 : (0 : Int) ≤ (n' : Int) := by omega
            have wn : IntKind.i64.wrap (n' : Int) = (n' : Int) := by rw [IntKind.wrap_i64]; omega
            obtain ⟨wa, hwa⟩ : ∃ wa, wa = w4.drew.alloc (.cells #[.int .u8 (o.k : Int), .int .u64 (o.key : Int), .int .u64 (o.val : Int), .int .u64 (o.old : Int), .int .u64 (o.hnd : Int), .bool o.set, .int .i64 o.rt, .int .i64 o.ri, .slice kp o.keys.length kc, .int .u64 (o.lo : Int), .int .u64 (o.hi : Int)] 28) := ⟨_, rfl⟩
            have BA : Below w4.heap.size w4 wa := by rw [hwa]; exact below_chain (below_drewN (Below.refl _ _) 1) (below_alloc _ _)
            have HGA := HG4'.on BA
            have ca : wa.cell? ⟨gT, ts0.length, none⟩ = some (.slice pv0 l0.length cv0) := by rw [← hn']; exact cell_below c0 BA
            have ka := row_kept k2 (fun k hk => BA.block k (row_lt k2 k hk))
            have hrun := app_rowO wa (.slice pv0 l0.length cv0) w4.drew.heap.size l0 ks o (.slice kp o.keys.length kc) ka HL0 (by rw [hwa]; exact heap_alloc_new _ _) rfl 75
            obtain ⟨ov2, w6, hrun, hprow, hgr, hpo⟩ := hrun
            obtain ⟨ho6, hc6, cg6, fg6⟩ := HGA.os.addO (Nat.le_trans HGA.sz HGA.ch.size) ca k1 ka ⟨kp, kc, rfl, (HK4.out.on BA).mono HSB.out⟩ hprow hgr hpo
            obtain ⟨oq, on, od, hpf⟩ : ∃ a b c, ov2 = .slice a b c := by obtain ⟨a, c, e⟩ := row_form hprow; exact ⟨a, _, c, e⟩
            subst hpf
            have HG7 := keepH (HGA.put ho6 hc6)
            rw [← hn'] at HG7 cg6 fg6
            rw [← hnn] at HG7
            have b6 : w6.heap[P]? = some (.cells (scR ce sl stp mu (.slice (some ⟨gT, 0, none⟩) n tc) (.slice pp m pc)) 46 (0, 0)) := by
              have e1 := HG7.out.bx
              have e2 : (w6.setCell ⟨gT, n', none⟩ (.slice oq on od)).heap[P]? = w6.heap[P]? := Below.heap_setCell _ _ _ _ (fun e => by
                have e : P = gT := e
                have h1 := HG3.out.bx
                rw [e] at h1
                rcases mT with ⟨cur, t', h2, h3⟩ | ⟨x, h2⟩
                · rw [h1] at h2
                  injection h2 with h2
                  injection h2 with _ h2
                  subst h2
                  exact nrow h3
                · rw [cell_of h1 0] at h2
                  injection h2 with h2
                  cases h2)
              rw [← e2]
              exact e1
            have bO : w6.heap[O]? = some (.cells #[.int .u8 (o.k : Int), .int .u64 (o.key : Int), .int .u64 (o.val : Int), .int .u64 (o.old : Int), .int .u64 (o.hnd : Int), .bool o.set, .int .i64 o.rt, .int .i64 o.ri, .slice kp o.keys.length kc, .int .u64 (o.lo : Int), .int .u64 (o.hi : Int)] 28 (0, 0)) := (hgr.block O (Nat.lt_of_lt_of_le (Array.getElem?_eq_some_iff.1 HO4.out).1 BA.size) (fun e => hneO e.symm)).trans (heap_below HO4.out BA)
            obtain ⟨w7, hw7⟩ : ∃ w7, w7 = w6.setCell ⟨gT, n', none⟩ (.slice oq on od) := ⟨_, rfl⟩
            rw [← hw7] at HG7
            rw [hwa] at hrun
            have HRUN := keepH hrun
            have HW7 := keepH hw7
            have HCB : Hid ((w4.alloc (.cells #[.int .u8 (o.k : Int), .int .u64 (o.key : Int), .int .u64 (o.val : Int), .int .u64 (o.old : Int), .int .u64 (o.hnd : Int), .bool o.set, .int .i64 o.rt, .int .i64 o.ri, .slice kp o.keys.length kc, .int .u64 (o.lo : Int), .int .u64 (o.hi : Int)] 28)).cell? ⟨gT, n', none⟩ = some (.slice pv0 l0.length cv0)) := keepH (cell_below c0 (below_alloc _ _))
            have HS4 : Hid ((fun w => w.heap[P]? = some (.cells (scR ce sl stp mu (.slice (some ⟨gT, 0, none⟩) n tc) (.slice pp m pc)) 46 (0, 0)) ∧ w.heap[O]? = some (.cells #[.int .u8 (o.k : Int), .int .u64 (o.key : Int), .int .u64 (o.val : Int), .int .u64 (o.old : Int), .int .u64 (o.hnd : Int), .bool o.set, .int .i64 o.rt, .int .i64 o.ri, .slice kp o.keys.length kc, .int .u64 (o.lo : Int), .int .u64 (o.hi : Int)] 28 (0, 0))) w4.drew) := keepH ⟨HG4.out.bx, HO4.out⟩
            have HSA : Hid (wa.heap[P]? = some (.cells (scR ce sl stp mu (.slice (some ⟨gT, 0, none⟩) n tc) (.slice pp m pc)) 46 (0, 0)) ∧ wa.heap[O]? = some (.cells #[.int .u8 (o.k : Int), .int .u64 (o.key : Int), .int .u64 (o.val : Int), .int .u64 (o.old : Int), .int .u64 (o.hnd : Int), .bool o.set, .int .i64 o.rt, .int .i64 o.ri, .slice kp o.keys.length kc, .int .u64 (o.lo : Int), .int .u64 (o.hi : Int)] 28 (0, 0))) := keepH ⟨heap_below HG4.out.bx BA, heap_below HO4.out BA⟩
            have HS6 : Hid (w6.heap[P]? = some (.cells (scR ce sl stp mu (.slice (some ⟨gT, 0, none⟩) n tc) (.slice pp m pc)) 46 (0, 0)) ∧ w6.heap[O]? = some (.cells #[.int .u8 (o.k : Int), .int .u64 (o.key : Int), .int .u64 (o.val : Int), .int .u64 (o.old : Int), .int .u64 (o.hnd : Int), .bool o.set, .int .i64 o.rt, .int .i64 o.ri, .slice kp o.keys.length kc, .int .u64 (o.lo : Int), .int .u64 (o.hi : Int)] 28 (0, 0))) := keepH ⟨b6, bO⟩
            have HS7 : Hid (w7.heap[P]? = some (.cells (scR ce sl stp mu (.slice (some ⟨gT, 0, none⟩) n tc) (.slice pp m pc)) 46 (0, 0)) ∧ w7.heap[O]? = some (.cells #[.int .u8 (o.k : Int), .int .u64 (o.key : Int), .int .u64 (o.val : Int), .int .u64 (o.old : Int), .int .u64 (o.hnd : Int), .bool o.set, .int .i64 o.rt, .int .i64 o.ri, .slice kp o.keys.length kc, .int .u64 (o.lo : Int), .int .u64 (o.hi : Int)] 28 (0, 0))) := keepH ⟨HG7.out.bx, by rw [hw7]; exact other_of bO (Ne.symm hneG) _⟩
            have HCG := keepH cg6
            have HC4 : Hid (w4.drew.cell? ⟨gT, n', none⟩ = some (.slice pv0 l0.length cv0)) := keepH c0
            have HCA : Hid (wa.cell? ⟨gT, n', none⟩ = some (.slice pv0 l0.length cv0)) := keepH (cell_below c0 BA)
            rw [hwa] at HSA HCA
            have HF6 := keepH fg6
            obtain ⟨lv, hlv⟩ : ∃ lv, lv = l0.length := ⟨_, rfl⟩
            rw [← hlv] at HRUN HCG HC4 HCB
            have HGB := keepH (gob_op (ce := ce) (sl := sl) (stp := stp) (mu := mu) (ts := ts0) (l := l0) HPS.out HPO2.out)
            clear hrun hprow hgr hpo ho6 hc6 cg6 fg6 hwa BA HGA ca ka hn0 hnn hn' HG4' b6 hw7 c0 k1 k2 HL0 d5 HG3 HG2 hlv mT ltT HKU HK4 c03 hneO hneG bO
            go_upto_region 16 with fail
            refine wp_region_held_drew (S := fun w => w.heap[P]? = some (.cells (scR ce sl stp mu (.slice (some ⟨gT, 0, none⟩) n tc) (.slice pp m pc)) 46 (0, 0)) ∧ w.heap[O]? = some (.cells #[.int .u8 (o.k : Int), .int .u64 (o.key : Int), .int .u64 (o.val : Int), .int .u64 (o.old : Int), .int .u64 (o.hnd : Int), .bool o.set, .int .i64 o.rt, .int .i64 o.ri, .slice kp o.keys.length kc, .int .u64 (o.lo : Int), .int .u64 (o.hi : Int)] 28 (0, 0))) (by kernel_rfl) (HS4.out) ?_
            intro hHeld
            refine wpAnyH_take (i := 0) (v := ?_) rfl (by kernel_rfl) (by kernel_rfl) (by kernel_rfl) (fun _ _ _ h => h) (Or.inl ⟨by rfl, ?_⟩) hHeld ?_
            rotate_left
            · intro w hSw
              (try dsimp only at hSw)
              go_simp
              try with_reducible rfl
            (try simp only [Act.put]); (try simp only [List.setIfInBounds_toArray]); (try simp only [List.getElem_toArray]); (repeat (first | simp only [List.getElem_cons_succ] | simp only [List.getElem_cons_zero])); (repeat (first | simp only [List.set_cons_succ] | simp only [List.set_cons_zero]))
            refine wpAnyH_take (i := 1) (v := ?_) rfl (by kernel_rfl) (by kernel_rfl) (by kernel_rfl) (fun _ _ _ h => h) (Or.inl ⟨by rfl, ?_⟩) hHeld ?_
            rotate_left
            · intro w hSw
              (try dsimp only at hSw)
              have y4 := cell_of hSw.1 4
              go_simp
              try with_reducible rfl
            (try simp only [Act.put]); (try simp only [List.setIfInBounds_toArray]); (try simp only [List.getElem_toArray]); (repeat (first | simp only [List.getElem_cons_succ] | simp only [List.getElem_cons_zero])); (repeat (first | simp only [List.set_cons_succ] | simp only [List.set_cons_zero]))
            refine wpAnyH_take (i := 2) (v := ?_) rfl (by kernel_rfl) (by kernel_rfl) (by kernel_rfl) (fun _ _ _ h => h) (Or.inl ⟨by rfl, ?_⟩) hHeld ?_
            rotate_left
            · intro w hSw
              (try dsimp only at hSw)
              go_simp
              try with_reducible rfl
            (try simp only [Act.put]); (try simp only [List.setIfInBounds_toArray]); (try simp only [List.getElem_toArray]); (repeat (first | simp only [List.getElem_cons_succ] | simp only [List.getElem_cons_zero])); (repeat (first | simp only [List.set_cons_succ] | simp only [List.set_cons_zero]))
            refine wpAnyH_take (i := 3) (v := ?_) rfl (by kernel_rfl) (by kernel_rfl) (by kernel_rfl) (fun _ _ _ h => h) (Or.inl ⟨by rfl, ?_⟩) hHeld ?_
            rotate_left
            · intro w hSw
              (try dsimp only at hSw)
              go_simp
              try with_reducible rfl
            (try simp only [Act.put]); (try simp only [List.setIfInBounds_toArray]); (try simp only [List.getElem_toArray]); (repeat (first | simp only [List.getElem_cons_succ] | simp only [List.getElem_cons_zero])); (repeat (first | simp only [List.set_cons_succ] | simp only [List.set_cons_zero]))
            refine wpAnyH_take (i := 4) (v := ?_) rfl (by kernel_rfl) (by kernel_rfl) (by kernel_rfl) (fun _ _ _ h => h) (Or.inl ⟨by rfl, ?_⟩) hHeld ?_
            rotate_left
            · intro w hSw
              (try dsimp only at hSw)
              go_simp
              try with_reducible rfl
            (try simp only [Act.put]); (try simp only [List.setIfInBounds_toArray]); (try simp only [List.getElem_toArray]); (repeat (first | simp only [List.getElem_cons_succ] | simp only [List.getElem_cons_zero])); (repeat (first | simp only [List.set_cons_succ] | simp only [List.set_cons_zero]))
            refine wpAnyH_take (i := 5) (v := ?_) rfl (by kernel_rfl) (by kernel_rfl) (by kernel_rfl) (fun _ _ _ h => h) (Or.inl ⟨by rfl, ?_⟩) hHeld ?_
            rotate_left
            · intro w hSw
              (try dsimp only at hSw)
              have y4 := cell_of hSw.1 4
              go_simp
              try with_reducible rfl
            (try simp only [Act.put]); (try simp only [List.setIfInBounds_toArray]); (try simp only [List.getElem_toArray]); (repeat (first | simp only [List.getElem_cons_succ] | simp only [List.getElem_cons_zero])); (repeat (first | simp only [List.set_cons_succ] | simp only [List.set_cons_zero]))
            refine wpAnyH_take (i := 6) (v := ?_) rfl (by kernel_rfl) (by kernel_rfl) (by kernel_rfl) (fun _ _ _ h => h) (Or.inl ⟨by rfl, ?_⟩) hHeld ?_
            rotate_left
            · intro w hSw
              (try dsimp only at hSw)
              go_simp
              try with_reducible rfl
            (try simp only [Act.put]); (try simp only [List.setIfInBounds_toArray]); (try simp only [List.getElem_toArray]); (repeat (first | simp only [List.getElem_cons_succ] | simp only [List.getElem_cons_zero])); (repeat (first | simp only [List.set_cons_succ] | simp only [List.set_cons_zero]))
            refine wpAnyH_take (i := 7) (v := ?_) rfl (by kernel_rfl) (by kernel_rfl) (by kernel_rfl) (fun _ _ _ h => h) (Or.inl ⟨by rfl, ?_⟩) hHeld ?_
            rotate_left
            · intro w hSw
              (try dsimp only at hSw)
              go_simp
              try with_reducible rfl
            (try simp only [Act.put]); (try simp only [List.setIfInBounds_toArray]); (try simp only [List.getElem_toArray]); (repeat (first | simp only [List.getElem_cons_succ] | simp only [List.getElem_cons_zero])); (repeat (first | simp only [List.set_cons_succ] | simp only [List.set_cons_zero]))
            refine wpAnyH_take (i := 8) (v := ?_) rfl (by kernel_rfl) (by kernel_rfl) (by kernel_rfl) (fun _ _ _ h => h) (Or.inl ⟨by rfl, ?_⟩) hHeld ?_
            rotate_left
            · intro w hSw
              (try dsimp only at hSw)
              go_simp
              try with_reducible rfl
            (try simp only [Act.put]); (try simp only [List.setIfInBounds_toArray]); (try simp only [List.getElem_toArray]); (repeat (first | simp only [List.getElem_cons_succ] | simp only [List.getElem_cons_zero])); (repeat (first | simp only [List.set_cons_succ] | simp only [List.set_cons_zero]))
            refine wpAnyH_take (i := 10) (v := ?_) rfl (by kernel_rfl) (by kernel_rfl) (by kernel_rfl) (fun _ _ _ h => h) (Or.inl ⟨by rfl, ?_⟩) hHeld ?_
            rotate_left
            · intro w hSw
              (try dsimp only at hSw)
              have z0 := cell_of hSw.2 0
              have z1 := cell_of hSw.2 1
              have z2 := cell_of hSw.2 2
              have z3 := cell_of hSw.2 3
              have z4 := cell_of hSw.2 4
              have z5 := cell_of hSw.2 5
              have z6 := cell_of hSw.2 6
              have z7 := cell_of hSw.2 7
              have z8 := cell_of hSw.2 8
              have z9 := cell_of hSw.2 9
              have z10 := cell_of hSw.2 10
              go_simp
              try with_reducible rfl
            (try simp only [Act.put]); (try simp only [List.setIfInBounds_toArray]); (try simp only [List.getElem_toArray]); (repeat (first | simp only [List.getElem_cons_succ] | simp only [List.getElem_cons_zero])); (repeat (first | simp only [List.set_cons_succ] | simp only [List.set_cons_zero]))
            refine wpAnyH_ready (rs := [9, 11]) (by kernel_rfl) (by simp) ?_
            refine AllReadyH.cons rfl (fun KK hKK => ?_) (AllReadyH.cons rfl (fun KK hKK => ?_) AllReadyH.nil)
            · skip
              have y9 := HC4.out
              go_simp
              refine hKK.out _ _ ?_ (fun hHeld => ?_)
              · exact HS4.out
              clear hKK KK y9
              (try simp only [Act.put]); (try simp only [List.setIfInBounds_toArray]); (try simp only [List.getElem_toArray]); (repeat (first | simp only [List.getElem_cons_succ] | simp only [List.getElem_cons_zero])); (repeat (first | simp only [List.set_cons_succ] | simp only [List.set_cons_zero]))
              refine wpAnyH_ready (rs := [11]) (by kernel_rfl) (by simp) ?_
              refine AllReadyH.cons rfl (fun KK hKK => ?_) AllReadyH.nil
              go_simp
              refine hKK.out _ _ ?_ (fun hHeld => ?_)
              · exact HSA.out
              clear hKK KK
              (try simp only [Act.put]); (try simp only [List.setIfInBounds_toArray]); (try simp only [List.getElem_toArray]); (repeat (first | simp only [List.getElem_cons_succ] | simp only [List.getElem_cons_zero])); (repeat (first | simp only [List.set_cons_succ] | simp only [List.set_cons_zero]))
              refine wpAnyH_ready (rs := [12]) (by kernel_rfl) (by simp) ?_
              refine AllReadyH.cons rfl (fun KK hKK => ?_) AllReadyH.nil
              refine step_append_runS rfl (.tmp 66) (.tmp 68) 75 rfl _ _ _ _ rfl rfl HRUN.out ?_
              refine hKK.out _ _ ?_ (fun hHeld => ?_)
              · exact HS6.out
              clear hKK KK
              (try simp only [Act.put]); (try simp only [List.setIfInBounds_toArray]); (try simp only [List.getElem_toArray]); (repeat (first | simp only [List.getElem_cons_succ] | simp only [List.getElem_cons_zero])); (repeat (first | simp only [List.set_cons_succ] | simp only [List.set_cons_zero]))
              refine wpAnyH_take (i := 13) (v := ?_) rfl (by kernel_rfl) (by kernel_rfl) (by kernel_rfl) (fun _ _ _ h => h) (Or.inl ⟨by rfl, ?_⟩) hHeld ?_
              rotate_left
              · intro w hSw
                (try dsimp only at hSw)
                go_simp
                try with_reducible rfl
              (try simp only [Act.put]); (try simp only [List.setIfInBounds_toArray]); (try simp only [List.getElem_toArray]); (repeat (first | simp only [List.getElem_cons_succ] | simp only [List.getElem_cons_zero])); (repeat (first | simp only [List.set_cons_succ] | simp only [List.set_cons_zero]))
              have y9 := HCG.out
              have y8 := HF6.out
              refine wpAnyH_ready (rs := [14]) (by kernel_rfl) (by simp) ?_
              refine AllReadyH.cons rfl (fun KK hKK => ?_) AllReadyH.nil
              go_simp
              refine hKK.out _ _ ?_ (fun hHeld => ?_)
              · (rw [← HW7.out]; exact HS7.out)
              clear hKK KK
              (try simp only [Act.put]); (try simp only [List.setIfInBounds_toArray]); (try simp only [List.getElem_toArray]); (repeat (first | simp only [List.getElem_cons_succ] | simp only [List.getElem_cons_zero])); (repeat (first | simp only [List.set_cons_succ] | simp only [List.set_cons_zero]))
              clear y9 y8
              refine wpAnyH_done (by kernel_rfl) ?_ _
              go_simp
              clear hHeld
              rw [← HW7.out]
              clear HW7 HRUN HS4 HSA HS6 HS7 HF6 HO4 HCG HC4 HCB HCA
              have d0 : w7.cell? ⟨P, 0, none⟩ = _ := cell_of HG7.out.bx 0
              have d1 : w7.cell? ⟨P, 1, none⟩ = _ := cell_of HG7.out.bx 1
              have d2 : w7.cell? ⟨P, 2, none⟩ = _ := cell_of HG7.out.bx 2
              have d3 : w7.cell? ⟨P, 3, none⟩ = _ := cell_of HG7.out.bx 3
              have d4 : w7.cell? ⟨P, 4, none⟩ = _ := cell_of HG7.out.bx 4
              have d5 : w7.cell? ⟨P, 5, none⟩ = _ := cell_of HG7.out.bx 5
              go_wp2_with (first | (refine wpList_store_row rfl 46 _ _ rfl R (scR ce sl stp mu (.slice (some ⟨gT, 0, none⟩) n tc) (.slice pp m pc)) rfl rfl 46 #[.int .i64 0, .int .i64 0, .int .u64 0, .int .i64 0, .slice none 0 0, .slice none 0 0] HG7.out.rx (by kernel_rfl) rfl (by simp [Value.oneCell']) ?_) | fail)
              have HGF := keepH (HG7.out.row (scR ce sl stp mu (.slice (some ⟨gT, 0, none⟩) n tc) (.slice pp m pc)) ⟨ce, rfl⟩)
              have hrow := HGF.out.rx
              have e0 := cell_of hrow 0
              have e1 := cell_of hrow 1
              have e2 := cell_of hrow 2
              have e3 := cell_of hrow 3
              have e4 := cell_of hrow 4
              have e5 := cell_of hrow 5
              simp at e0 e1 e2 e3 e4 e5
              refine bodyPost_ret (v := .tuple #[.agg (scR ce sl stp mu (.slice (some ⟨gT, 0, none⟩) n tc) (.slice pp m pc)), .bool true]) (by simp [results, Tryz.results57, go_sem, e0, e1, e2, e3, e4, e5]) rfl ?_
              exact ⟨_, _, (ts0 ++ [l0 ++ [o]]), ps, true, rfl, HGF.out.os, HGF.out.ch, HGB.out⟩
            · skip
              go_simp
              refine hKK.out _ _ ?_ (fun hHeld => ?_)
              · exact HSA.out
              clear hKK KK
              (try simp only [Act.put]); (try simp only [List.setIfInBounds_toArray]); (try simp only [List.getElem_toArray]); (repeat (first | simp only [List.getElem_cons_succ] | simp only [List.getElem_cons_zero])); (repeat (first | simp only [List.set_cons_succ] | simp only [List.set_cons_zero]))
              have y9 := HCB.out
              refine wpAnyH_ready (rs := [9]) (by kernel_rfl) (by simp) ?_
              refine AllReadyH.cons rfl (fun KK hKK => ?_) AllReadyH.nil
              go_simp
              refine hKK.out _ _ ?_ (fun hHeld => ?_)
              · exact HSA.out
              clear hKK KK
              (try simp only [Act.put]); (try simp only [List.setIfInBounds_toArray]); (try simp only [List.getElem_toArray]); (repeat (first | simp only [List.getElem_cons_succ] | simp only [List.getElem_cons_zero])); (repeat (first | simp only [List.set_cons_succ] | simp only [List.set_cons_zero]))
              clear y9
              refine wpAnyH_ready (rs := [12]) (by kernel_rfl) (by simp) ?_
              refine AllReadyH.cons rfl (fun KK hKK => ?_) AllReadyH.nil
              refine step_append_runS rfl (.tmp 66) (.tmp 68) 75 rfl _ _ _ _ rfl rfl HRUN.out ?_
              refine hKK.out _ _ ?_ (fun hHeld => ?_)
              · exact HS6.out
              clear hKK KK
              (try simp only [Act.put]); (try simp only [List.setIfInBounds_toArray]); (try simp only [List.getElem_toArray]); (repeat (first | simp only [List.getElem_cons_succ] | simp only [List.getElem_cons_zero])); (repeat (first | simp only [List.set_cons_succ] | simp only [List.set_cons_zero]))
              refine wpAnyH_take (i := 13) (v := ?_) rfl (by kernel_rfl) (by kernel_rfl) (by kernel_rfl) (fun _ _ _ h => h) (Or.inl ⟨by rfl, ?_⟩) hHeld ?_
              rotate_left
              · intro w hSw
                (try dsimp only at hSw)
                go_simp
                try with_reducible rfl
              (try simp only [Act.put]); (try simp only [List.setIfInBounds_toArray]); (try simp only [List.getElem_toArray]); (repeat (first | simp only [List.getElem_cons_succ] | simp only [List.getElem_cons_zero])); (repeat (first | simp only [List.set_cons_succ] | simp only [List.set_cons_zero]))
              have y9 := HCG.out
              have y8 := HF6.out
              refine wpAnyH_ready (rs := [14]) (by kernel_rfl) (by simp) ?_
              refine AllReadyH.cons rfl (fun KK hKK => ?_) AllReadyH.nil
              go_simp
              refine hKK.out _ _ ?_ (fun hHeld => ?_)
              · (rw [← HW7.out]; exact HS7.out)
              clear hKK KK
              (try simp only [Act.put]); (try simp only [List.setIfInBounds_toArray]); (try simp only [List.getElem_toArray]); (repeat (first | simp only [List.getElem_cons_succ] | simp only [List.getElem_cons_zero])); (repeat (first | simp only [List.set_cons_succ] | simp only [List.set_cons_zero]))
              clear y9 y8
              refine wpAnyH_done (by kernel_rfl) ?_ _
              go_simp
              clear hHeld
              rw [← HW7.out]
              clear HW7 HRUN HS4 HSA HS6 HS7 HF6 HO4 HCG HC4 HCB HCA
              have d0 : w7.cell? ⟨P, 0, none⟩ = _ := cell_of HG7.out.bx 0
              have d1 : w7.cell? ⟨P, 1, none⟩ = _ := cell_of HG7.out.bx 1
              have d2 : w7.cell? ⟨P, 2, none⟩ = _ := cell_of HG7.out.bx 2
              have d3 : w7.cell? ⟨P, 3, none⟩ = _ := cell_of HG7.out.bx 3
              have d4 : w7.cell? ⟨P, 4, none⟩ = _ := cell_of HG7.out.bx 4
              have d5 : w7.cell? ⟨P, 5, none⟩ = _ := cell_of HG7.out.bx 5
              go_wp2_with (first | (refine wpList_store_row rfl 46 _ _ rfl R (scR ce sl stp mu (.slice (some ⟨gT, 0, none⟩) n tc) (.slice pp m pc)) rfl rfl 46 #[.int .i64 0, .int .i64 0, .int .u64 0, .int .i64 0, .slice none 0 0, .slice none 0 0] HG7.out.rx (by kernel_rfl) rfl (by simp [Value.oneCell']) ?_) | fail)
              have HGF := keepH (HG7.out.row (scR ce sl stp mu (.slice (some ⟨gT, 0, none⟩) n tc) (.slice pp m pc)) ⟨ce, rfl⟩)
              have hrow := HGF.out.rx
              have e0 := cell_of hrow 0
              have e1 := cell_of hrow 1
              have e2 := cell_of hrow 2
              have e3 := cell_of hrow 3
              have e4 := cell_of hrow 4
              have e5 := cell_of hrow 5
              simp at e0 e1 e2 e3 e4 e5
              refine bodyPost_ret (v := .tuple #[.agg (scR ce sl stp mu (.slice (some ⟨gT, 0, none⟩) n tc) (.slice pp m pc)), .bool true]) (by simp [results, Tryz.results57, go_sem, e0, e1, e2, e3, e4, e5]) rfl ?_
              exact ⟨_, _, (ts0 ++ [l0 ++ [o]]), ps, true, rfl, HGF.out.os, HGF.out.ch, HGB.out⟩
      · have HT9 : Hid (t = thW) := keepH (by have := HITH.out; simpa using this.symm)
        have d4 : w2.cell? ⟨P, 4, none⟩ = _ := cell_of HG2.out.bx 4
        obtain ⟨wa, hwa⟩ : ∃ wa, wa = w2.alloc (.cells #[.slice none 0 0] 75) := ⟨_, rfl⟩
        have BA : Below w2.heap.size w2 wa := by rw [hwa]; exact below_alloc _ _
        have HGA := keepH (HG2.out.on BA)
        obtain ⟨vs, v1, v2, v3, v4⟩ := HGA.out.os.tr
        have hrun := app_rowT wa (.slice tp n tc) w2.heap.size ts vs v2 (by have := HN.out; omega) (by rw [hwa]; exact heap_alloc_new _ _) 43
        obtain ⟨tv2, w3, hrun, hprow, hgr, hpo⟩ := hrun
        obtain ⟨ho3, hc3⟩ := HGA.out.os.addT (Nat.le_trans HGA.out.sz HGA.out.ch.size) v1 v2 v3 v4 hprow hgr hpo
        have HG3 := keepH (HGA.out.put ho3 hc3)
        have d4' : w3.cell? ⟨P, 4, none⟩ = _ := cell_of HG3.out.bx 4
        have f4 := free_of HG3.out.bx 4
        obtain ⟨tq, tn, td, hpf⟩ : ∃ a b c, tv2 = .slice a b c := by obtain ⟨a, c, e⟩ := row_form hprow; exact ⟨a, _, c, e⟩
        subst hpf
        have HG4 := keepH (HG3.out.setT (.slice tq tn td))
        obtain ⟨w4, hw4⟩ : ∃ w4, w4 = w3.setCell ⟨P, 4, none⟩ (.slice tq tn td) := ⟨_, rfl⟩
        rw [← hw4] at HG4
        rw [hwa] at hrun
        have HRUN := keepH hrun
        have HW4 := keepH hw4
        clear hrun hprow hgr hpo ho3 hc3 hw4 hwa BA v1 v2 v3 v4 HGA
        go_upto_region 12 with (first | (at_builtin; refine wpList_append_runS rfl (.tmp 40) (.tmp 41) 43 rfl _ _ _ _ rfl rfl HRUN.out ?_) | go_in)
        rw [← HW4.out]
        clear d4 d5 d4' f4 HRUN HW4 HG3
        have d0 : w4.cell? ⟨P, 0, none⟩ = _ := cell_of HG4.out.bx 0
        have d1 : w4.cell? ⟨P, 1, none⟩ = _ := cell_of HG4.out.bx 1
        have d2 : w4.cell? ⟨P, 2, none⟩ = _ := cell_of HG4.out.bx 2
        have d3 : w4.cell? ⟨P, 3, none⟩ = _ := cell_of HG4.out.bx 3
        have d4 : w4.cell? ⟨P, 4, none⟩ = _ := cell_of HG4.out.bx 4
        have d5 : w4.cell? ⟨P, 5, none⟩ = _ := cell_of HG4.out.bx 5
        go_wp2_with (first | (refine wpList_store_row rfl 46 _ _ rfl R (scR ce sl stp mu (.slice tq tn td) (.slice pp m pc)) rfl rfl 46 #[.int .i64 0, .int .i64 0, .int .u64 0, .int .i64 0, .slice none 0 0, .slice none 0 0] HG4.out.rx (by kernel_rfl) rfl (by simp [Value.oneCell']) ?_) | fail)
        have HGF := keepH (HG4.out.row (scR ce sl stp mu (.slice tq tn td) (.slice pp m pc)) ⟨ce, rfl⟩)
        have hrow := HGF.out.rx
        have e0 := cell_of hrow 0
        have e1 := cell_of hrow 1
        have e2 := cell_of hrow 2
        have e3 := cell_of hrow 3
        have e4 := cell_of hrow 4
        have e5 := cell_of hrow 5
        simp at e0 e1 e2 e3 e4 e5
        refine bodyPost_ret (v := .tuple #[.agg (scR ce sl stp mu (.slice tq tn td) (.slice pp m pc)), .bool true]) (by simp [results, Tryz.results57, go_sem, e0, e1, e2, e3, e4, e5]) rfl ?_
        exact ⟨_, _, (ts ++ [[]]), ps, true, rfl, HGF.out.os, HGF.out.ch, gob_th HPS.out HT9.out⟩
  · have d5 : w2.cell? ⟨P, 5, none⟩ = _ := cell_of HG2.out.bx 5
    obtain ⟨r, hr⟩ : ∃ r, r = m % 20 := ⟨_, rfl⟩
    have q0 : (m : Int).tmod 20 = (r : Int) := by rw [Int.tmod_eq_emod_of_nonneg (by omega)]; omega
    have HRR := keepH hr
    clear hr
    by_cases hr0 : r = 0
    · have q1 : ((r : Int) != 0) = false := by rw [hr0]; rfl
      have H20 : Hid (ps.length % 20 = 0) := keepH (by have := HRR.out; have := HM.out; omega)
      clear hr0
      have hform : ∃ lp lc, v = .slice lp l.length lc := by obtain ⟨lp, lc, e, _⟩ := stz_form HST.out; exact ⟨lp, lc, e⟩
      obtain ⟨k, hk⟩ : ∃ k, k = l.length := ⟨_, rfl⟩
      obtain ⟨lp, lc, hv⟩ := hform
      rw [← hk] at hv
      subst hv
      have hrun := app_rowI w2 (.slice pp m pc) (.slice lp k lc) ps l HG2.out.os.pr HST.out.row (by have := HM.out; omega) (by have := (HPQ.out.1 rfl).2.1; omega) (fun e => by have := (HPQ.out.1 rfl).1; rw [e] at this; simp at this) 44
      obtain ⟨pv2, w3, hrun, hprow, hgr, hpo⟩ := hrun
      obtain ⟨ho3, hc3⟩ := HG2.out.os.addP (Nat.le_trans HG2.out.sz HG2.out.ch.size) (fun e => by have := (HPQ.out.1 rfl).1; rw [e] at this; simp at this) hprow hgr hpo
      have HG3 := keepH (HG2.out.put ho3 hc3)
      have d5' : w3.cell? ⟨P, 5, none⟩ = _ := cell_of HG3.out.bx 5
      have f5 := free_of HG3.out.bx 5
      obtain ⟨pq, pn, pd, hpf⟩ : ∃ a b c, pv2 = .slice a b c := by obtain ⟨a, c, e⟩ := row_form hprow; exact ⟨a, _, c, e⟩
      subst hpf
      have HRUN := keepH hrun
      have HG4 := keepH (HG3.out.setP (.slice pq pn pd))
      obtain ⟨w4, hw4⟩ : ∃ w4, w4 = w3.setCell ⟨P, 5, none⟩ (.slice pq pn pd) := ⟨_, rfl⟩
      rw [← hw4] at HG4
      have HW4 := keepH hw4
      clear hrun hprow hgr hpo ho3 hc3 hk hw4
      go_upto_region 7 with (first | (at_builtin; refine wpList_append_runS rfl (.tmp 27) (.tmp 28) 44 rfl _ _ _ _ rfl rfl HRUN.out ?_) | go_in)
      rw [← HW4.out]
      clear d5 d5' f5 HRUN HW4 HG3
      have d0 : w4.cell? ⟨P, 0, none⟩ = _ := cell_of HG4.out.bx 0
      have d1 : w4.cell? ⟨P, 1, none⟩ = _ := cell_of HG4.out.bx 1
      have d2 : w4.cell? ⟨P, 2, none⟩ = _ := cell_of HG4.out.bx 2
      have d3 : w4.cell? ⟨P, 3, none⟩ = _ := cell_of HG4.out.bx 3
      have d4 : w4.cell? ⟨P, 4, none⟩ = _ := cell_of HG4.out.bx 4
      have d5 : w4.cell? ⟨P, 5, none⟩ = _ := cell_of HG4.out.bx 5
      go_wp2_with (first | (refine wpList_store_row rfl 46 _ _ rfl R (scR ce sl stp mu (.slice tp n tc) (.slice pq pn pd)) rfl rfl 46 #[.int .i64 0, .int .i64 0, .int .u64 0, .int .i64 0, .slice none 0 0, .slice none 0 0] HG4.out.rx (by kernel_rfl) rfl (by simp [Value.oneCell']) ?_) | fail)
      have HGF := keepH (HG4.out.row (scR ce sl stp mu (.slice tp n tc) (.slice pq pn pd)) ⟨ce, rfl⟩)
      have hrow := HGF.out.rx
      have e0 := cell_of hrow 0
      have e1 := cell_of hrow 1
      have e2 := cell_of hrow 2
      have e3 := cell_of hrow 3
      have e4 := cell_of hrow 4
      have e5 := cell_of hrow 5
      simp at e0 e1 e2 e3 e4 e5
      refine bodyPost_ret (v := .tuple #[.agg (scR ce sl stp mu (.slice tp n tc) (.slice pq pn pd)), .bool true]) (by simp [results, Tryz.results57, go_sem, e0, e1, e2, e3, e4, e5]) rfl ?_
      exact ⟨_, _, ts, (ps ++ l), true, rfl, HGF.out.os, HGF.out.ch, gob_pk HPQ.out H20.out⟩
    · have q1 : ((r : Int) != 0) = true := by simp; omega
      have H20 : Hid (¬ ps.length % 20 = 0) := keepH (by have := HRR.out; have := HM.out; omega)
      clear hr0
      have d0 : w2.cell? ⟨P, 0, none⟩ = _ := cell_of HG2.out.bx 0
      have d1 : w2.cell? ⟨P, 1, none⟩ = _ := cell_of HG2.out.bx 1
      have d2 : w2.cell? ⟨P, 2, none⟩ = _ := cell_of HG2.out.bx 2
      have d3 : w2.cell? ⟨P, 3, none⟩ = _ := cell_of HG2.out.bx 3
      have d4 : w2.cell? ⟨P, 4, none⟩ = _ := cell_of HG2.out.bx 4
      go_wp2_with (first | (refine wpList_store_row rfl 46 _ _ rfl R (scR ce sl stp mu (.slice tp n tc) (.slice pp m pc)) rfl rfl 46 #[.int .i64 0, .int .i64 0, .int .u64 0, .int .i64 0, .slice none 0 0, .slice none 0 0] HG2.out.rx (by kernel_rfl) rfl (by simp [Value.oneCell']) ?_) | fail)
      have HGF := keepH (HG2.out.row (scR ce sl stp mu (.slice tp n tc) (.slice pp m pc)) ⟨ce, rfl⟩)
      have hrow := HGF.out.rx
      have e0 := cell_of hrow 0
      have e1 := cell_of hrow 1
      have e2 := cell_of hrow 2
      have e3 := cell_of hrow 3
      have e4 := cell_of hrow 4
      have e5 := cell_of hrow 5
      simp at e0 e1 e2 e3 e4 e5
      refine bodyPost_ret (v := .tuple #[.agg (scR ce sl stp mu (.slice tp n tc) (.slice pp m pc)), .bool false]) (by simp [results, Tryz.results57, go_sem, e0, e1, e2, e3, e4, e5]) rfl ?_
      exact ⟨_, _, ts, ps, false, rfl, HGF.out.os, HGF.out.ch, gob_pk20 HPQ.out H20.out⟩
end Go.Proofs.YtmmaniolaljjlaaGreatDoor
