/- A call of both: begun; a step. -/
import Derived.Deep.RegionHeld3
import Derived.Test.YtinhcphhdehmhaaCamS
namespace Go.Proofs.Ytinhcphhdehmhaa
open Go.RowKit Go.Shelf
set_option linter.unusedVariables false

def PC.raw (isNow : Bool) (most : Nat) : PC := ⟨isNow, most, 0, 0, 0, false, -1, -1⟩
theorem pj_new {W W' : World} {cell most pb nb tb : Nat} {isNow : Bool} (hn : W'.heap[nb]? = some (.cells #[.int .u64 (cell : Int), .int .u8 0, .int .u64 0] 81 (0, 0))) (ht : W'.heap[tb]? = some (.cells #[.int .u64 (cell : Int), .int .u64 (most : Int), .int .u8 0, .int .u64 0, .int .i64 0, .bool false] 75 (0, 0)))
    (hp : W'.heap[pb]? = some (.cells #[.bool isNow, .int .u64 (most : Int), .pointer (some ⟨nb, 0, none⟩), .pointer (some ⟨tb, 0, none⟩), .int .i64 0, .int .u64 (cell : Int), .int .u64 0, .int .i64 0, .int .u64 (cell : Int), .int .u64 (most : Int), .int .u64 0, .int .u64 0, .int .i64 0, .bool false, .int .i64 (-1), .int .i64 (-1)] 43 (0, 0))) : PJ W' cell pb nb tb (PC.raw isNow most) := by
  refine ⟨?_, ?_, ?_⟩
  · cases isNow <;> exact hn
  · cases isNow <;> exact ht
  · cases isNow <;> exact hp

theorem al3 (w : World) (a b c : Obj) : (((w.alloc a).alloc b).alloc c).heap[w.heap.size]? = some a ∧ (((w.alloc a).alloc b).alloc c).heap[w.heap.size + 1]? = some b ∧ (((w.alloc a).alloc b).alloc c).heap[w.heap.size + 1 + 1]? = some c ∧ Chg (fun _ => False) w (((w.alloc a).alloc b).alloc c) := by
  have e := heap_alloc_new (w.alloc a) b
  rw [World.size_alloc] at e
  have e2 := heap_alloc_new ((w.alloc a).alloc b) c
  rw [World.size_alloc, World.size_alloc] at e2
  exact ⟨alloc_of (alloc_of (heap_alloc_new _ _) _) _, alloc_of e _, e2, (((Chg.refl _ _).alloc _).alloc _).alloc _⟩
theorem cell_al {w : World} {a : Addr} {v : Value} (h : w.cell? a = some v) (o : Obj) : (w.alloc o).cell? a = some v := (World.cell?_alloc_some w a o (by rw [h]; rfl)).trans h
theorem cell_dr {w : World} {a : Addr} {v : Value} (h : w.cell? a = some v) : w.drew.cell? a = some v := h

set_option maxRecDepth 100000 in
set_option maxHeartbeats 4000000 in
theorem c_begin (cell most : Nat) (isNow : Bool) (W : World) :
    Calls Try.prog 25 #[.int .u64 (cell : Int), .agg #[.bool isNow, .int .u64 (most : Int)]] W fun e W' => ∃ pb nb tb, e = .returned (.pointer (some ⟨pb, 0, none⟩)) ∧ PJ W' cell pb nb tb (PC.raw isNow most) ∧ W.heap.size ≤ pb ∧ W.heap.size ≤ nb ∧ W.heap.size ≤ tb ∧ pb ≠ nb ∧ pb ≠ tb ∧ nb ≠ tb ∧ Chg (fun _ => False) W W' := by
  go_enter Try.func25, Try.ntmps25
  go_upto_region 1 with fail
  obtain ⟨w1, hw1⟩ : ∃ w1, w1 = W.alloc (.cells #[.bool isNow, .int .u64 (most : Int)] 34) := ⟨_, rfl⟩
  have C1 : Hid (Chg (fun _ => False) W w1) := by rw [hw1]; exact (Chg.refl _ _).alloc _
  have b1 : w1.heap[W.heap.size]? = some (.cells #[.bool isNow, .int .u64 (most : Int)] 34 (0, 0)) := by rw [hw1]; exact heap_alloc_new _ _
  have S1 : Hid (W.heap.size < w1.heap.size) := lt_of b1
  have k0 : w1.cell? ⟨W.heap.size, 0, none⟩ = some (.bool isNow) := cell_of b1 0
  have k1 : w1.cell? ⟨W.heap.size, 1, none⟩ = some (.int .u64 (most : Int)) := cell_of b1 1
  rw [← hw1]
  clear hw1 b1
  go_region_held3 (fun w' => w'.cell? ⟨W.heap.size, 0, none⟩ = some (.bool isNow) ∧ w'.cell? ⟨W.heap.size, 1, none⟩ = some (.int .u64 (most : Int))) (refine ⟨?_, ?_⟩ <;> (repeat (first | exact k0 | exact k1 | refine cell_dr ?_ | refine cell_al ?_ _)))
    (first | (go_at_call 20; refine (n_new cell _).mono ?_; rintro e w2 ⟨rfl, rfl⟩) | (go_at_call 21; refine (t_new cell most _).mono ?_; rintro e w2 ⟨rfl, rfl⟩))
  all_goals (go_wp2_with fail)
  all_goals go_ret
  · obtain ⟨e1, e2, e3, C⟩ := al3 w1 (.cells #[.int .u64 (cell : Int), .int .u8 0, .int .u64 0] 81) (.cells #[.int .u64 (cell : Int), .int .u64 (most : Int), .int .u8 0, .int .u64 0, .int .i64 0, .bool false] 75) (.cells #[.bool isNow, .int .u64 (most : Int), .pointer (some ⟨w1.heap.size, 0, none⟩), .pointer (some ⟨w1.heap.size + 1, 0, none⟩), .int .i64 0, .int .u64 (cell : Int), .int .u64 0, .int .i64 0, .int .u64 (cell : Int), .int .u64 (most : Int), .int .u64 0, .int .u64 0, .int .i64 0, .bool false, .int .i64 (-1), .int .i64 (-1)] 43)
    have s := S1.out
    exact ⟨w1.heap.size + 1 + 1, w1.heap.size, w1.heap.size + 1, by simp, pj_new (W := W) e1 e2 e3, by omega, by omega, by omega, by omega, by omega, by omega, C1.out.trans C.drew (fun _ _ x => x) (fun _ _ x => x)⟩

/-- What lies apart. -/
structure Apt (F R : Nat → Prop) (v pb nb tb : Nat) : Prop where
  fv : ¬ F v
  fp : ¬ F pb
  fn : ¬ F nb
  ft : ¬ F tb
  rv : ¬ R v
  rp : ¬ R pb
  rn : ¬ R nb
  rt : ¬ R tb
  fr : ∀ k, F k → ¬ R k
  vp : v ≠ pb
  vn : v ≠ nb
  vt : v ≠ tb
  pn : pb ≠ nb
  pt : pb ≠ tb
  nt : nb ≠ tb
structure GoesC (W W' : World) (F F' R R' : Nat → Prop) (v pb nb tb : Nat) : Prop where
  chg : Chg (fun k => (F k ∨ k = v) ∨ R k ∨ k = nb ∨ k = tb ∨ k = pb) W W'
  newF : ∀ k, F' k → F k ∨ W.heap.size ≤ k
  newR : ∀ k, R' k → R k ∨ W.heap.size ≤ k
  apart : ∀ k, F' k → ¬ R' k
theorem GoesC.mk' {W w1 w2 w3 : World} {F F' R R' : Nat → Prop} {v pb nb tb p : Nat} (A : Apt F R v pb nb tb) (hF : ∀ k, F' k → k < w1.heap.size) (hR : ∀ k, R k → k < W.heap.size) (h1 : GoesP W w1 F F' v p) (h2 : GoesR w1 w2 R R' pb) (hp : p = nb ∨ p = tb) (q : Nat) (hq : w3 = w2.drewN q) : GoesC W w3 F F' R R' v pb nb tb := by
  subst hq
  refine ⟨?_, h1.new, fun k e => (h2.new k e).imp id (fun x => Nat.le_trans h1.chg.size x), fun k e e2 => ?_⟩
  · refine (h1.chg.trans h2.chg (H := fun k => (F k ∨ k = v) ∨ R k ∨ k = nb ∨ k = tb ∨ k = pb) (fun i _ x => ?_) (fun i _ x => ?_)).trans (Goes.drewN w2 (fun _ => False) q).chg (fun _ _ x => x) (fun _ _ x => x.elim)
    · rcases x with x | x
      · exact .inl x
      · rcases hp with y | y
        · exact .inr (.inr (.inl (by omega)))
        · exact .inr (.inr (.inr (.inl (by omega))))
    · rcases x with x | x
      · exact .inr (.inl x)
      · exact .inr (.inr (.inr (.inr x)))
  · rcases h2.new k e2 with y | y
    · rcases h1.new k e with z | z
      · exact A.fr k z y
      · have := hR k y
        omega
    · have := hF k e
      omega

theorem cas_cell (cs : List Nat) (cell st : Nat) (x : PC) (hp : x.pos = 1) (hs : x.stamp = st) : cellN (casN 128 cs cell st (st + 1)) cell = x.cell (decide (cell < 128)) (cellN cs cell) := by
  unfold casN PC.cell
  by_cases h1 : cell < 128
  · by_cases h2 : cellN cs cell = st
    · rw [if_pos ⟨h1, h2⟩, putN_cell]
      simp [hp, h1, h2, hs]
    · rw [if_neg (fun e => h2 e.2), if_neg (fun e => h2 (by rw [← hs]; exact e.2.2))]
  · rw [if_neg (fun e => h1 e.1), if_neg (fun e => h1 (by simpa using e.2.1))]

set_option maxRecDepth 100000 in
set_option maxHeartbeats 4000000 in
theorem c_step (cell pb nb tb v b nm made : Nat) (th : Int) (x : PC) (F R : Nat → Prop) (cs : List Nat) (l lr : List Acc) (W : World) (h : PJ W cell pb nb tb x) (hx : x.pos = 0 ∨ x.pos = 1 ∧ x.isNow = false ∧ x.stamp + 1 < 18446744073709551616) (h0 : x.err = 0 ∧ x.moved = false) (hw : IsView W v b th made) (hb : Bank W F b 128 1 cs l) (hr : RMem W R nm 128 1 cs lr) (A : Apt F R v pb nb tb)
    (hmd : made < 1099511627776) (hl : l.length < 1099511627776) (hlr : lr.length < 1099511627776) (ha : cell < 18446744073709551616) :
    Calls Try.prog 27 #[.pointer (some ⟨pb, 0, none⟩), .pointer (some ⟨v, 0, none⟩), .pointer (some ⟨nm, 0, none⟩), .int .i64 th] W fun e W' =>
      e = .returned (.tuple #[.bool (decide ((x.step (decide (cell < 128)) (cellN cs cell)).pos = 2)), .bool true]) ∧ PJ W' cell pb nb tb (x.step (decide (cell < 128)) (cellN cs cell)) ∧ IsView W' v b th (made + 1) ∧
      ∃ F' R' cs' a, a.vals = [] ∧ Bank W' F' b 128 1 cs' (l ++ [a]) ∧ RMem W' R' nm 128 1 cs' (lr ++ [a.bare]) ∧ cellN cs' cell = x.cell (decide (cell < 128)) (cellN cs cell) ∧ GoesC W W' F F' R R' v pb nb tb := by
  obtain ⟨isNow, most, pos, stamp, err, moved, fr, tz⟩ := x
  obtain ⟨e0, m0⟩ := h0
  simp only at hx e0 m0
  subst e0 m0
  have hrl := fun k e => hr.lt k e
  cases isNow
  · have P := h.proc
    have T := h.take
    have N := h.now
    simp only [Bool.false_eq_true, if_false] at P T N
    have c0 : W.cell? ⟨pb, 0, none⟩ = some (.bool false) := cell_of P 0
    have c3 : W.cell? ⟨pb, 3, none⟩ = some (.pointer (some ⟨tb, 0, none⟩)) := cell_of P 3
    have HN := keepH N
    have HW := keepH hw
    have HB := keepH hb
    have HR := keepH hr
    have HA := keepH A
    have HRL := keepH hrl
    rcases hx with rfl | ⟨rfl, -, hs⟩
    · have HT : Hid (IsTake W tb cell most 0 stamp 0 false) := T
      have HP : Hid (IsT W pb cell most nb tb 0 stamp 0 0 false fr tz) := P
      obtain ⟨c, hc⟩ : ∃ c, cellN cs cell = c := ⟨_, rfl⟩
      have HC := keepH hc
      have es : (PC.mk false most 0 stamp 0 false fr tz).step (decide (cell < 128)) (cellN cs cell) = ⟨false, most, if most ≤ c then 2 else 1, c, if most ≤ c then 31 else 0, false, fr, tz⟩ := by
        rw [hc]; by_cases hm : most ≤ c <;> simp [PC.step, PC.load, hm]
      have ec : (PC.mk false most 0 stamp 0 false fr tz).cell (decide (cell < 128)) (cellN cs cell) = cellN cs cell := by simp [PC.cell]
      have ep : decide ((if most ≤ c then 2 else 1) = 2) = decide (most ≤ c) := by by_cases hm : most ≤ c <;> simp [hm]
      rw [es, ec]
      simp only
      rw [ep]
      obtain ⟨pp, hpp⟩ : ∃ pp : Nat, pp = if most ≤ c then 2 else 1 := ⟨_, rfl⟩
      obtain ⟨ee, hee⟩ : ∃ ee : Nat, ee = if most ≤ c then 31 else 0 := ⟨_, rfl⟩
      obtain ⟨dd, hdd⟩ : ∃ dd, dd = decide (most ≤ c) := ⟨_, rfl⟩
      have HTD : Hid (PC.told ⟨false, most, pp, c, ee, false, fr, tz⟩ = 0) := by
        show PC.told _ = 0
        rw [hpp, hee]
        by_cases hm : most ≤ c <;> simp [PC.told, hm]
      have K1 := t_load tb v b 128 1 made cell most stamp th F cs l _ HT.out HW.out HB.out HA.out.fv HA.out.ft (Ne.symm HA.out.vt) hmd hl ha c HC.out
      have K2 := fun w1 H1 H2 => rt_load pb cell most nb tb stamp nm 128 1 fr tz th R cs lr w1 H1 H2 HA.out.rp hlr ha c HC.out
      rw [← hpp, ← hee, ← hdd] at K1 K2 ⊢
      have HK1 := keepH K1
      have HK2 := keepH K2
      clear K1 K2 hpp hee hdd
      clear h P T N hw hb hr A hrl hc es ec ep
      go_enter Try.func27, Try.ntmps27
      go_wp2_with fail
      refine HK1.out.mono ?_
      rintro e w1 ⟨rfl, T1, F1, vs, B1, V1, G1⟩
      have HT1 := keepH T1
      have HB1 := keepH B1
      have HV1 := keepH V1
      have HG1 := keepH G1
      have HN1 : Hid (IsNow w1 nb cell 0 0) := HN.out.chg G1.chg (fun e => e.elim (fun e => e.elim HA.out.fn (fun e => HA.out.vn e.symm)) HA.out.nt)
      have HP1 : Hid (IsT w1 pb cell most nb tb 0 stamp 0 0 false fr tz) := (G1.chg.block pb (lt_of HP.out) (fun e => e.elim (fun e => e.elim HA.out.fp (fun e => HA.out.vp e.symm)) HA.out.pt)).trans HP.out
      have HR1 : Hid (RMem w1 R nm 128 1 cs lr) := HR.out.chg G1.chg (fun k hk e => e.elim (fun e => e.elim (fun e => HA.out.fr k e hk) (fun e => HA.out.rv (by rw [← e]; exact hk))) (fun e => HA.out.rt (by rw [← e]; exact hk)))
      clear T1 B1 V1 G1
      go_wp2_with fail
      refine (HK2.out _ HP1.out HR1.out).mono ?_
      rintro e w2 ⟨rfl, P2, R2, M2, G2⟩
      have HM2 := keepH M2
      have HG2 := keepH G2
      have HJ2 : Hid (PJ w2 cell pb nb tb ⟨false, most, pp, c, ee, false, fr, tz⟩) := by
        refine ⟨HN1.out.chg G2.chg (fun e => e.elim HA.out.rn (fun e => HA.out.pn e.symm)), HT1.out.chg G2.chg (fun e => e.elim HA.out.rt (fun e => HA.out.pt e.symm)), ?_⟩
        simp only [Bool.false_eq_true, if_false]
        rw [HTD.out]
        exact P2
      have HV2 : Hid (IsView w2 v b th (made + 1)) := HV1.out.chg G2.chg (fun e => e.elim HA.out.rv HA.out.vp)
      have HB2 : Hid (Bank w2 F1 b 128 1 cs (l ++ [⟨th, 1, cell, 0, 0, vs, [], c, false⟩])) := HB1.out.chg G2.chg (fun k hk e => e.elim (fun e => (HG1.out.new k hk).elim (fun x => HA.out.fr k x e) (fun x => by have := HRL.out k e; omega)) (fun e => (HG1.out.new k hk).elim (fun x => HA.out.fp (by rw [← e]; exact x)) (fun x => by have := lt_of HP.out; omega)))
      clear M2 P2 G2
      go_wp2_with fail
      refine (c_same cell pb nb tb _ _ HJ2.out).mono ?_
      rintro e w3 ⟨rfl, q, rfl⟩
      have HC3 := keepH (GoesC.mk' HA.out (fun k e => HB1.out.lt k e) HRL.out HG1.out HG2.out (.inr rfl) q rfl)
      have cd := (Goes.drewN w2 (fun _ => False) q).chg
      go_wp2_with fail
      go_ret2
      exact ⟨by simp, HJ2.out.chg cd (fun x => x) (fun x => x) (fun x => x), HV2.out.chg cd (fun x => x), F1, R2, cs, ⟨th, 1, cell, 0, 0, vs, [], c, false⟩, rfl, HB2.out.chg cd (fun _ _ x => x), HM2.out.chg cd (fun _ _ x => x), rfl, HC3.out⟩
    · have HT : Hid (IsTake W tb cell most 1 stamp 0 false) := T
      have HP : Hid (IsT W pb cell most nb tb 1 stamp 0 0 false fr tz) := P
      have es : (PC.mk false most 1 stamp 0 false fr tz).step (decide (cell < 128)) (cellN cs cell) = ⟨false, most, 2, stamp, 0, casOk 128 cs cell stamp, fr, tz⟩ := by
        have e1 : casOk 128 cs cell stamp = (decide (cell < 128) && decide (cellN cs cell = stamp)) := by simp [casOk]
        rw [e1]; rfl
      have ec := cas_cell cs cell stamp (PC.mk false most 1 stamp 0 false fr tz) rfl rfl
      have HEC := keepH ec
      rw [es]
      simp only
      clear h P T N hw hb hr A hrl es ec
      go_enter Try.func27, Try.ntmps27
      go_wp2_with fail
      refine (t_cas tb v b 128 1 made cell most stamp th F cs l _ HT.out HW.out HB.out HA.out.fv HA.out.ft (Ne.symm HA.out.vt) hmd hl ha hs).mono ?_
      rintro e w1 ⟨rfl, T1, F1, vs, B1, V1, G1⟩
      have HT1 := keepH T1
      have HB1 := keepH B1
      have HV1 := keepH V1
      have HG1 := keepH G1
      have HN1 : Hid (IsNow w1 nb cell 0 0) := HN.out.chg G1.chg (fun e => e.elim (fun e => e.elim HA.out.fn (fun e => HA.out.vn e.symm)) HA.out.nt)
      have HP1 : Hid (IsT w1 pb cell most nb tb 1 stamp 0 0 false fr tz) := (G1.chg.block pb (lt_of HP.out) (fun e => e.elim (fun e => e.elim HA.out.fp (fun e => HA.out.vp e.symm)) HA.out.pt)).trans HP.out
      have HR1 : Hid (RMem w1 R nm 128 1 cs lr) := HR.out.chg G1.chg (fun k hk e => e.elim (fun e => e.elim (fun e => HA.out.fr k e hk) (fun e => HA.out.rv (by rw [← e]; exact hk))) (fun e => HA.out.rt (by rw [← e]; exact hk)))
      clear T1 B1 V1 G1
      go_wp2_with fail
      refine (rt_cas pb cell most nb tb stamp nm 128 1 fr tz th R cs lr _ HP1.out HR1.out HA.out.rp hlr ha hs).mono ?_
      rintro e w2 ⟨rfl, P2, R2, M2, G2⟩
      have HM2 := keepH M2
      have HG2 := keepH G2
      have HJ2 : Hid (PJ w2 cell pb nb tb ⟨false, most, 2, stamp, 0, casOk 128 cs cell stamp, fr, tz⟩) := by
        refine ⟨HN1.out.chg G2.chg (fun e => e.elim HA.out.rn (fun e => HA.out.pn e.symm)), HT1.out.chg G2.chg (fun e => e.elim HA.out.rt (fun e => HA.out.pt e.symm)), ?_⟩
        exact P2
      have HV2 : Hid (IsView w2 v b th (made + 1)) := HV1.out.chg G2.chg (fun e => e.elim HA.out.rv HA.out.vp)
      have HB2 : Hid (Bank w2 F1 b 128 1 (casN 128 cs cell stamp (stamp + 1)) (l ++ [⟨th, 3, cell, stamp, stamp + 1, vs, [], 0, casOk 128 cs cell stamp⟩])) := HB1.out.chg G2.chg (fun k hk e => e.elim (fun e => (HG1.out.new k hk).elim (fun x => HA.out.fr k x e) (fun x => by have := HRL.out k e; omega)) (fun e => (HG1.out.new k hk).elim (fun x => HA.out.fp (by rw [← e]; exact x)) (fun x => by have := lt_of HP.out; omega)))
      clear M2 P2 G2
      go_wp2_with fail
      refine (c_same cell pb nb tb _ _ HJ2.out).mono ?_
      rintro e w3 ⟨rfl, q, rfl⟩
      have HC3 := keepH (GoesC.mk' HA.out (fun k e => HB1.out.lt k e) HRL.out HG1.out HG2.out (.inr rfl) q rfl)
      have cd := (Goes.drewN w2 (fun _ => False) q).chg
      go_wp2_with fail
      go_ret2
      exact ⟨by simp, HJ2.out.chg cd (fun x => x) (fun x => x) (fun x => x), HV2.out.chg cd (fun x => x), F1, R2, _, ⟨th, 3, cell, stamp, stamp + 1, vs, [], 0, casOk 128 cs cell stamp⟩, rfl, HB2.out.chg cd (fun _ _ x => x), HM2.out.chg cd (fun _ _ x => x), HEC.out, HC3.out⟩
  · obtain rfl : pos = 0 := by rcases hx with e | e; exact e; simp at e
    have P := h.proc
    have T := h.take
    have N := h.now
    simp only [if_true] at P T N
    have c0 : W.cell? ⟨pb, 0, none⟩ = some (.bool true) := cell_of P 0
    have c2 : W.cell? ⟨pb, 2, none⟩ = some (.pointer (some ⟨nb, 0, none⟩)) := cell_of P 2
    have HN := keepH N
    have HT : Hid (IsTake W tb cell most 0 0 0 false) := T
    have HP : Hid (IsN W pb cell most nb tb 0 stamp fr tz) := P
    have HW := keepH hw
    have HB := keepH hb
    have HR := keepH hr
    have HA := keepH A
    have HRL := keepH hrl
    have es : (PC.mk true most 0 stamp 0 false fr tz).step (decide (cell < 128)) (cellN cs cell) = ⟨true, most, 2, cellN cs cell, 0, false, fr, tz⟩ := rfl
    have ec : (PC.mk true most 0 stamp 0 false fr tz).cell (decide (cell < 128)) (cellN cs cell) = cellN cs cell := by simp [PC.cell]
    rw [es, ec]
    simp only
    clear h P T N hw hb hr A hrl hx es ec
    go_enter Try.func27, Try.ntmps27
    go_wp2_with fail
    refine (n_step nb v b 128 1 made cell stamp th F cs l _ HN.out HW.out HB.out HA.out.fv HA.out.fn (Ne.symm HA.out.vn) hmd hl ha).mono ?_
    rintro e w1 ⟨rfl, N1, F1, vs, B1, V1, G1⟩
    have HN1 := keepH N1
    have HB1 := keepH B1
    have HV1 := keepH V1
    have HG1 := keepH G1
    have HT1 : Hid (IsTake w1 tb cell most 0 0 0 false) := HT.out.chg G1.chg (fun e => e.elim (fun e => e.elim HA.out.ft (fun e => HA.out.vt e.symm)) (fun e => HA.out.nt e.symm))
    have HP1 : Hid (IsN w1 pb cell most nb tb 0 stamp fr tz) := (G1.chg.block pb (lt_of HP.out) (fun e => e.elim (fun e => e.elim HA.out.fp (fun e => HA.out.vp e.symm)) HA.out.pn)).trans HP.out
    have HR1 : Hid (RMem w1 R nm 128 1 cs lr) := HR.out.chg G1.chg (fun k hk e => e.elim (fun e => e.elim (fun e => HA.out.fr k e hk) (fun e => HA.out.rv (by rw [← e]; exact hk))) (fun e => HA.out.rn (by rw [← e]; exact hk)))
    clear N1 B1 V1 G1
    go_wp2_with fail
    refine (rn_step pb cell most nb tb stamp nm 128 1 fr tz th R cs lr _ HP1.out HR1.out HA.out.rp hlr ha).mono ?_
    rintro e w2 ⟨rfl, P2, R2, M2, G2⟩
    have HM2 := keepH M2
    have HG2 := keepH G2
    have HJ2 : Hid (PJ w2 cell pb nb tb ⟨true, most, 2, cellN cs cell, 0, false, fr, tz⟩) := ⟨HN1.out.chg G2.chg (fun e => e.elim HA.out.rn (fun e => HA.out.pn e.symm)), HT1.out.chg G2.chg (fun e => e.elim HA.out.rt (fun e => HA.out.pt e.symm)), P2⟩
    have HV2 : Hid (IsView w2 v b th (made + 1)) := HV1.out.chg G2.chg (fun e => e.elim HA.out.rv HA.out.vp)
    have HB2 : Hid (Bank w2 F1 b 128 1 cs (l ++ [⟨th, 1, cell, 0, 0, vs, [], cellN cs cell, false⟩])) := HB1.out.chg G2.chg (fun k hk e => e.elim (fun e => (HG1.out.new k hk).elim (fun x => HA.out.fr k x e) (fun x => by have := HRL.out k e; omega)) (fun e => (HG1.out.new k hk).elim (fun x => HA.out.fp (by rw [← e]; exact x)) (fun x => by have := lt_of HP.out; omega)))
    clear M2 P2 G2
    go_wp2_with fail
    refine (c_same cell pb nb tb _ _ HJ2.out).mono ?_
    rintro e w3 ⟨rfl, q, rfl⟩
    have HC3 := keepH (GoesC.mk' HA.out (fun k e => HB1.out.lt k e) HRL.out HG1.out HG2.out (.inl rfl) q rfl)
    have cd := (Goes.drewN w2 (fun _ => False) q).chg
    go_wp2_with fail
    go_ret2
    exact ⟨by simp, HJ2.out.chg cd (fun x => x) (fun x => x) (fun x => x), HV2.out.chg cd (fun x => x), F1, R2, cs, ⟨th, 1, cell, 0, 0, vs, [], cellN cs cell, false⟩, rfl, HB2.out.chg cd (fun _ _ x => x), HM2.out.chg cd (fun _ _ x => x), rfl, HC3.out⟩

set_option maxRecDepth 100000 in
set_option maxHeartbeats 4000000 in
theorem c_again (cell pb nb tb : Nat) (v nm t : Value) (x : PC) (W : World) (h : PJ W cell pb nb tb x) (hx : x.pos = 2) :
    Calls Try.prog 27 #[.pointer (some ⟨pb, 0, none⟩), v, nm, t] W fun e W' => e = .returned (.tuple #[.bool true, .bool true]) ∧ ∃ q, W' = W.drewN q := by
  have HJ := keepH h
  cases hn : x.isNow
  · have P := h.proc
    have T := h.take
    rw [hn] at P T
    simp only [Bool.false_eq_true, if_false] at P T
    rw [hx] at P T
    have c0 : W.cell? ⟨pb, 0, none⟩ = some (.bool false) := cell_of P 0
    have c3 : W.cell? ⟨pb, 3, none⟩ = some (.pointer (some ⟨tb, 0, none⟩)) := cell_of P 3
    have HT := keepH T
    have HP : Hid (IsT W pb cell x.most nb tb 2 x.stamp x.told x.err x.moved x.fr x.tz) := P
    clear h P T hx hn
    go_enter Try.func27, Try.ntmps27
    go_wp2_with fail
    refine (t_done tb cell x.most x.stamp x.err x.moved _ _ HT.out).mono ?_
    rintro e w1 ⟨rfl, rfl⟩
    go_wp2_with fail
    refine (rt_done pb cell x.most nb tb x.stamp x.told x.err x.moved x.fr x.tz _ _ _ HP.out).mono ?_
    rintro e w1 ⟨rfl, rfl⟩
    go_wp2_with fail
    refine (c_same cell pb nb tb x _ HJ.out).mono ?_
    rintro e w3 ⟨rfl, q, rfl⟩
    go_wp2_with fail
    go_ret2
    exact ⟨by simp, _, rfl⟩
  · have P := h.proc
    have N := h.now
    rw [hn] at P N
    simp only [if_true] at P N
    rw [hx] at P N
    have c0 : W.cell? ⟨pb, 0, none⟩ = some (.bool true) := cell_of P 0
    have c2 : W.cell? ⟨pb, 2, none⟩ = some (.pointer (some ⟨nb, 0, none⟩)) := cell_of P 2
    have HN := keepH N
    have HP : Hid (IsN W pb cell x.most nb tb 1 x.stamp x.fr x.tz) := P
    clear h P N hx hn
    go_enter Try.func27, Try.ntmps27
    go_wp2_with fail
    refine (n_done nb cell x.stamp _ _ HN.out).mono ?_
    rintro e w1 ⟨rfl, rfl⟩
    go_wp2_with fail
    refine (rn_done pb cell x.most nb tb x.stamp x.fr x.tz _ _ _ HP.out).mono ?_
    rintro e w1 ⟨rfl, rfl⟩
    go_wp2_with fail
    refine (c_same cell pb nb tb x _ HJ.out).mono ?_
    rintro e w3 ⟨rfl, q, rfl⟩
    go_wp2_with fail
    go_ret2
    exact ⟨by simp, _, rfl⟩
end Go.Proofs.Ytinhcphhdehmhaa
