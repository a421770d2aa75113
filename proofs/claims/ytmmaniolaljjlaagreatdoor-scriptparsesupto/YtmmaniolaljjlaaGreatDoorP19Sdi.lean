/- PrintOp, by the document. (mkScz.py) -/
import Derived.Test.YtmmaniolaljjlaaGreatDoorP18Scy
import Derived.Test.YtmmaniolaljjlaaGreatDoorP16Sdh
import Derived.Test.YtmmaniolaljjlaaGreatDoorP17Scs
import Derived.Test.YtmmaniolaljjlaaGreatDoorP5Scu
namespace Go.Proofs.YtmmaniolaljjlaaGreatDoor
open Go.RowKit Go.Shelf
set_option linter.unusedVariables false

set_option maxRecDepth 100000 in
set_option maxHeartbeats 4000000 in
theorem dPrint_err (k key val old hnd : Nat) (set : Bool) (rt ri : Int) (kp : Option Addr) (n kc lo hi : Nat) (hk : k < 256) (h1 : isU key) (h2 : isU val) (h3 : isU old) (h4 : isU hnd) (h5 : isU lo) (h6 : isU hi) (ha : isI rt) (hb : isI ri) (hf : faultN k key val old hnd set rt ri kp n kc lo hi ≠ 0) (W : World) :
    Calls Tryz.prog 8 #[.agg (opR k key val old hnd set rt ri (.slice kp n kc) lo hi)] W fun e W' => e = .returned (.tuple #[.string (mkS []), .int .i64 (faultN k key val old hnd set rt ri kp n kc lo hi : Int)]) ∧ Below W.heap.size W W' := by
  have HOP := keepH (fun w => dOp_any k key val old hnd set rt ri kp n kc lo hi hk h1 h2 h3 h4 h5 h6 ha hb w)
  obtain ⟨E, hE⟩ : ∃ E, E = faultN k key val old hnd set rt ri kp n kc lo hi := ⟨_, rfl⟩
  rw [← hE] at HOP hf ⊢
  obtain ⟨w1, hw1⟩ : ∃ w1, w1 = W.alloc (.cells (opR k key val old hnd set rt ri (.slice kp n kc) lo hi) 28) := ⟨_, rfl⟩
  obtain ⟨P, hP⟩ : ∃ P, P = W.heap.size := ⟨_, rfl⟩
  have B1 : Below W.heap.size W w1 := by rw [hw1]; exact below_alloc _ _
  have X1 : w1.heap[P]? = some (.cells (opR k key val old hnd set rt ri (.slice kp n kc) lo hi) 28 (0, 0)) := by rw [hw1, hP]; exact heap_alloc_new _ _
  have HW1 := keepH hw1
  have HP := keepH hP
  have HB1 := keepH B1
  have c0 : w1.cell? ⟨P, 0, none⟩ = _ := cell_of X1 0
  have c1 : w1.cell? ⟨P, 1, none⟩ = _ := cell_of X1 1
  have c2 : w1.cell? ⟨P, 2, none⟩ = _ := cell_of X1 2
  have c3 : w1.cell? ⟨P, 3, none⟩ = _ := cell_of X1 3
  have c4 : w1.cell? ⟨P, 4, none⟩ = _ := cell_of X1 4
  have c5 : w1.cell? ⟨P, 5, none⟩ = _ := cell_of X1 5
  have c6 : w1.cell? ⟨P, 6, none⟩ = _ := cell_of X1 6
  have c7 : w1.cell? ⟨P, 7, none⟩ = _ := cell_of X1 7
  have c8 : w1.cell? ⟨P, 8, none⟩ = _ := cell_of X1 8
  have c9 : w1.cell? ⟨P, 9, none⟩ = _ := cell_of X1 9
  have c10 : w1.cell? ⟨P, 10, none⟩ = _ := cell_of X1 10
  have t0 : ¬ ((E : Int) = 0) := by omega
  have u0 : ((E : Int) != 0) = true := by simpa using t0
  clear hw1 hP B1 X1 hE h1 h2 h3 h4 h5 h6 ha hb hk hf
  go_enter Tryz.func8, Tryz.ntmps8
  go_upto_region 1 with fail
  rw [← HW1.out, ← HP.out]
  go_wp2_with fail
  refine (HOP.out w1).mono ?_
  rintro e w2 ⟨rfl, B2⟩
  have HB2 := keepH (below_chain HB1.out B2)
  clear B2 c0 c1 c2 c3 c4 c5 c6 c7 c8 c9 c10
  go_wp2_with fail
  go_ret2
  exact ⟨by simp, HB2.out⟩
theorem dPrintOp_any (k key val old hnd : Nat) (set : Bool) (rt ri : Int) (kp : Option Addr) (kc lo hi : Nat) (keys : List Nat) (hk : k < 256) (h1 : isU key) (h2 : isU val) (h3 : isU old) (h4 : isU hnd) (h5 : isU lo) (h6 : isU hi) (ha : isI rt) (hb : isI ri) (hks : ∀ u ∈ keys, isU u) (hkl : keys.length ≤ 10000000) (W : World) (T : Tb W) (hK : KRd W kp keys) :
    Calls Tryz.prog 8 #[.agg (opR k key val old hnd set rt ri (.slice kp keys.length kc) lo hi)] W fun e W' => ∃ E : Nat, E = faultN k key val old hnd set rt ri kp keys.length kc lo hi ∧ e = .returned (.tuple #[.string (mkS (if E = 0 then opT k key val old hnd set rt ri keys lo hi else [])), .int .i64 (E : Int)]) ∧ Below W.heap.size W W' := by
  by_cases hf : faultN k key val old hnd set rt ri kp keys.length kc lo hi = 0
  · have hh := fault_has hf
    have go : Calls Tryz.prog 8 #[.agg (opR k key val old hnd set rt ri (.slice kp keys.length kc) lo hi)] W fun e W' => e = .returned (.tuple #[.string (mkS (opT k key val old hnd set rt ri keys lo hi)), .int .i64 0]) ∧ Below W.heap.size W W' := by
      have : k = 1 ∨ k = 2 ∨ k = 3 ∨ k = 4 ∨ k = 5 ∨ k = 6 ∨ k = 7 ∨ k = 8 ∨ k = 9 ∨ k = 10 := by simp [hasK] at hh; omega
      rcases this with rfl | rfl | rfl | rfl | rfl | rfl | rfl | rfl | rfl | rfl
      · exact dPrint_1 key val old hnd set rt ri kp kc lo hi keys h1 h2 h3 h4 h5 h6 ha hb hf W T
      · exact dPrint_2 key val old hnd set rt ri kp kc lo hi keys h1 h2 h3 h4 h5 h6 ha hb hf W T
      · exact dPrint_3 key val old hnd set rt ri kp kc lo hi keys h1 h2 h3 h4 h5 h6 ha hb hf W T
      · exact dPrint_4 key val old hnd set rt ri kp kc lo hi keys h1 h2 h3 h4 h5 h6 ha hb hf W T
      · exact dPrint_5 key val old hnd set rt ri kp kc lo hi keys h1 h2 h3 h4 h5 h6 ha hb hf W T
      · cases set with
        | true => exact dPrint_6t key val old hnd rt ri kp kc lo hi keys h1 h2 h3 h4 h5 h6 ha hb hf W T
        | false => exact dPrint_6f key val old hnd rt ri kp kc lo hi keys h1 h2 h3 h4 h5 h6 ha hb hf W T
      · cases set with
        | true => exact dPrint_7t key val old hnd rt ri kp kc lo hi keys h1 h2 h3 h4 h5 h6 ha hb hks hkl hf W T hK
        | false => exact dPrint_7f key val old hnd rt ri kp kc lo hi keys h1 h2 h3 h4 h5 h6 ha hb hks hkl hf W T hK
      · cases set with
        | true => exact dPrint_8t key val old hnd rt ri kp kc lo hi keys h1 h2 h3 h4 h5 h6 ha hb hf W T
        | false => exact dPrint_8f key val old hnd rt ri kp kc lo hi keys h1 h2 h3 h4 h5 h6 ha hb hf W T
      · cases set with
        | true => exact dPrint_9t key val old hnd rt ri kp kc lo hi keys h1 h2 h3 h4 h5 h6 ha hb hf W T
        | false => exact dPrint_9f key val old hnd rt ri kp kc lo hi keys h1 h2 h3 h4 h5 h6 ha hb hf W T
      · exact dPrint_10 key val old hnd set rt ri kp kc lo hi keys h1 h2 h3 h4 h5 h6 ha hb hf W T
    refine go.mono ?_
    rintro e W' ⟨rfl, hB⟩
    exact ⟨0, hf.symm, by simp, hB⟩
  · refine (dPrint_err k key val old hnd set rt ri kp keys.length kc lo hi hk h1 h2 h3 h4 h5 h6 ha hb hf W).mono ?_
    rintro e W' ⟨rfl, hB⟩
    exact ⟨_, rfl, by rw [if_neg hf], hB⟩
end Go.Proofs.YtmmaniolaljjlaaGreatDoor
/- An operation that is read, by the document: what lies in memory; pure facts. -/
namespace Go.Proofs.YtmmaniolaljjlaaGreatDoor
open Go.RowKit Go.Shelf
set_option linter.unusedVariables false

theorem RF.row {W : World} {P R : Nat} {row : Array Value} {wr : World} (h : RF W P R row wr) (cs : Array Value) : RF W P R cs (wr.setRow P cs) := ⟨setRow_heap _ _ _ _ _ _ h.bx, (setRow_other _ _ _ _ h.ne).trans h.rr, below_setRow h.bel h.lp _, h.lp, h.lr, h.ne⟩
structure DP (W : World) (P R : Nat) (row : Array Value) (sb so : Nat) (fs : List (List UInt8)) (wr : World) : Prop where
  rf : RF W P R row wr
  sl : sb < wr.heap.size
  st : ∀ (i : Nat) (f : List UInt8), fs[i]? = some f → wr.cell? ⟨sb, so + i, none⟩ = some (.string (mkS f))
  ns : sb ≠ P
theorem DP.on {W : World} {P R : Nat} {row : Array Value} {sb so : Nat} {fs : List (List UInt8)} {wr X : World} (h : DP W P R row sb so fs wr) (hb : Below wr.heap.size wr X) : DP W P R row sb so fs X :=
  ⟨h.rf.on hb, Nat.lt_of_lt_of_le h.sl hb.size, fun i f hf => by
    rw [World.cell?_of_block (w := wr) (hb.block sb h.sl)]
    exact h.st i f hf, h.ns⟩
theorem DP.dn {W : World} {P R : Nat} {row : Array Value} {sb so : Nat} {fs : List (List UInt8)} {wr : World} (h : DP W P R row sb so fs wr) (m : Nat) : DP W P R row sb so fs (wr.drewN m) := h.on (below_drewN (Below.refl _ _) m)
theorem DP.set {W : World} {P R : Nat} {row : Array Value} {sb so : Nat} {fs : List (List UInt8)} {wr : World} (h : DP W P R row sb so fs wr) (i : Nat) (v : Value) : DP W P R (row.setIfInBounds i v) sb so fs (wr.setCell ⟨P, i, none⟩ v) :=
  ⟨h.rf.set i v, by simpa using h.sl, fun j f hf => by
    rw [World.cell?_of_block (w := wr) (Below.heap_setCell _ _ _ _ h.ns)]
    exact h.st j f hf, h.ns⟩
theorem DP.row {W : World} {P R : Nat} {row : Array Value} {sb so : Nat} {fs : List (List UInt8)} {wr : World} (h : DP W P R row sb so fs wr) (cs : Array Value) : DP W P R cs sb so fs (wr.setRow P cs) := by
  have hbl := setRow_other wr P sb cs h.ns
  refine ⟨h.rf.row cs, ?_, fun j f hf => ?_, h.ns⟩
  · obtain ⟨o, ho⟩ : ∃ o, wr.heap[sb]? = some o := ⟨_, Array.getElem?_eq_getElem h.sl⟩
    exact (Array.getElem?_eq_some_iff.1 (hbl.trans ho)).1
  · rw [World.cell?_of_block (w := wr) hbl]
    exact h.st j f hf
theorem DP.cut {W : World} {P R : Nat} {row : Array Value} {sb so so' : Nat} {f : List UInt8} {fs : List (List UInt8)} {wr : World} (h : DP W P R row sb so (f :: fs) wr) (e : 0 < fs.length → so' = so + 1) : DP W P R row sb so' fs wr :=
  ⟨h.rf, h.sl, fun i x hx => by
    have hl : 0 < fs.length := by
      have := (List.getElem?_eq_some_iff.1 hx).1
      omega
    have := h.st (i + 1) x (by simpa using hx)
    rw [e hl, Nat.add_assoc, Nat.add_comm 1 i]
    exact this, h.ns⟩
theorem DP.srd {W : World} {P R : Nat} {row : Array Value} {sb so : Nat} {fs : List (List UInt8)} {wr : World} (h : DP W P R row sb so fs wr) : SRd wr (some ⟨sb, so, none⟩) fs := .inr ⟨sb, so, rfl, h.sl, h.st⟩
theorem KU.set {B P : Nat} {lp : Option Addr} {us : List Nat} {X : World} (h : KU B lp us X) (hP : P < B) (i : Nat) (v : Value) : KU B lp us (X.setCell ⟨P, i, none⟩ v) := by
  rcases h with h | ⟨g, h1, h2, h3, h4⟩
  · exact .inl h
  · refine .inr ⟨g, h1, h2, by simpa using h3, fun j x hx => ?_⟩
    rw [World.cell?_of_block (w := X) (Below.heap_setCell _ _ _ _ (by show g ≠ P; omega))]
    exact h4 j x hx
theorem isU0 : isU 0 := by unfold isU; omega
theorem isI0 : isI 0 := ⟨by omega, by omega⟩
def HP2 (k : Nat) (r0 r1 : List (List UInt8)) (hnd : Nat) (set : Bool) (rt ri : Int) : Prop := (isU hnd ∧ isI rt ∧ isI ri) ∧ ((hndK k = true ∧ ∃ f1, r0 = f1 :: r1 ∧ RfQ f1 hnd set rt ri) ∨ (r0 = r1 ∧ (hndK k = true → r0 = []) ∧ hnd = 0 ∧ set = false ∧ rt = 0 ∧ ri = 0))
theorem hp2_none {k : Nat} {r0 : List (List UInt8)} (h : hndK k = true → r0 = []) : HP2 k r0 r0 0 false 0 0 := ⟨⟨isU0, isI0, isI0⟩, .inr ⟨rfl, h, rfl, rfl, rfl, rfl⟩⟩
theorem hp2_some {k : Nat} {f1 : List UInt8} {r1 : List (List UInt8)} {hnd : Nat} {set : Bool} {rt ri : Int} (h : hndK k = true) (hq : RfQ f1 hnd set rt ri) : HP2 k (f1 :: r1) r1 hnd set rt ri := ⟨⟨hq.1, hq.2.1, hq.2.2.1⟩, .inl ⟨h, f1, rfl, hq⟩⟩
def KI (f0 : List UInt8) (i kk : Nat) : Prop := ∀ j, 1 ≤ j → j < i → opW j = f0 → kk = j
theorem has_10 {k : Nat} (h : 1 ≤ k ∧ k ≤ 10) : hasK k = true := by unfold hasK; simp; omega
theorem has_in {k : Nat} (h : hasK k = true) : 1 ≤ k ∧ k ≤ 10 := by unfold hasK at h; simp at h; omega
theorem KI.yes {f0 : List UInt8} {i kk : Nat} (h : KI f0 i kk) (hi : 1 ≤ i ∧ i ≤ 10) (e : opW i = f0) : KI f0 (i + 1) i := fun j h1 h2 h3 =>
  opW_inj i j (has_10 hi) (has_10 ⟨h1, by omega⟩) (e.trans h3.symm)
theorem KI.no {f0 : List UInt8} {i kk : Nat} (h : KI f0 i kk) (e : ¬ opW i = f0) : KI f0 (i + 1) kk := fun j h1 h2 h3 => by
  by_cases hj : j = i
  · subst hj; exact absurd h3 e
  · exact h j h1 (by omega) h3
def CoreQ (t : List UInt8) (kk hnd : Nat) (set : Bool) (rt ri : Int) (us : List Nat) : Prop := ∀ o, rightO o → t = textO o → o.k = kk ∧ o.hnd = hnd ∧ o.set = set ∧ o.rt = rt ∧ o.ri = ri ∧ nuO o = us
theorem core2 {t f0 : List UInt8} {r0 r1 : List (List UInt8)} {kk hnd : Nat} {set : Bool} {rt ri : Int} {us : List Nat} (hs : Lib.split t [32] = f0 :: r0) (hk : KI f0 11 kk) (hp : HP2 kk r0 r1 hnd set rt ri) (hn : NumsQ r1 us) : CoreQ t kk hnd set rt ri us := by
  intro o ho ht
  have R := right_parts ho
  have e := (text_iff t o).1 ht
  rw [hs, R.parts] at e
  simp only [List.cons.injEq] at e
  have h1 := has_in R.has
  have hkk : kk = o.k := hk o.k h1.1 (by omega) e.1.symm
  subst hkk
  have e2 := e.2
  have fin : r1 = (nuO o).map Lib.decDigits → nuO o = us := fun q => by
    subst q
    exact (hn.dec (nu_u ho.1)).symm
  rcases hp.2 with ⟨hh, f1, q, hq⟩ | ⟨q, hh, rfl, rfl, rfl, rfl⟩
  · rw [q, if_pos hh] at e2
    simp only [List.singleton_append, List.cons.injEq] at e2
    obtain ⟨q1, q2, q3, q4⟩ := hq.2.2.2 o.hnd o.set o.rt o.ri ho.1.hnd ho.1.rt ho.1.ri (R.hd hh) e2.1
    exact ⟨rfl, q1.symm, q2.symm, q3.symm, q4.symm, fin e2.2⟩
  · cases hb : hndK o.k with
    | true =>
      rw [hh hb, if_pos hb] at e2
      simp at e2
    | false =>
      rw [if_neg (by rw [hb]; simp)] at e2
      obtain ⟨q1, q2, q3, q4⟩ := R.nohd hb
      exact ⟨rfl, q1, q2, q3, q4, fin (by rw [← q]; simpa using e2)⟩
def FinO (t : List UInt8) (o : Opx) : Prop := o.Ok ∧ ∀ o', rightO o' → t = textO o' → o = o'
theorem pad_u {us : List Nat} (h : ∀ u ∈ us, isU u) (pd : Nat) : ∀ u ∈ us ++ List.replicate pd 0, isU u := by
  intro u hu
  rcases List.mem_append.1 hu with hu | hu
  · exact h u hu
  · rw [List.eq_of_mem_replicate hu]; exact isU0
theorem fin_x {t : List UInt8} {kk hnd : Nat} {set : Bool} {rt ri : Int} {us : List Nat} (hk : kk < 256) (n0 : numK kk = []) (n7 : kk ≠ 7) (hp : isU hnd ∧ isI rt ∧ isI ri) (hc : CoreQ t kk hnd set rt ri us) : FinO t ⟨kk, 0, 0, 0, hnd, set, rt, ri, [], 0, 0⟩ := by
  refine ⟨⟨hk, isU0, isU0, isU0, hp.1, hp.2.1, hp.2.2, fun u hu => by simp at hu, isU0, isU0⟩, fun o ho ht => ?_⟩
  obtain ⟨a1, a2, a3, a4, a5, a6⟩ := hc o ho ht
  have R := right_parts ho
  obtain ⟨k', key', val', old', hnd', set', rt', ri', keys', lo', hi'⟩ := o
  simp only at a1 a2 a3 a4 a5
  subst a1 a2 a3 a4 a5
  have q1 := R.z1
  have q2 := R.z2
  have q3 := R.z3
  have q9 := R.z9
  have q10 := R.z10
  have qk := R.nokys (by unfold kysK; simpa using n7)
  simp [n0] at q1 q2 q3 q9 q10 qk
  subst q1 q2 q3 q9 q10 qk
  rfl
theorem fin_1 {t : List UInt8} {kk hnd : Nat} {set : Bool} {rt ri : Int} {us : List Nat} {pd u0 : Nat} {l : List Nat} (hk : kk = 1 ∨ kk = 3) (hu : ∀ u ∈ us, isU u) (hl : us ++ List.replicate pd 0 = u0 :: l) (hp : isU hnd ∧ isI rt ∧ isI ri) (hc : CoreQ t kk hnd set rt ri us) : FinO t ⟨kk, u0, 0, 0, hnd, set, rt, ri, [], 0, 0⟩ := by
  refine ⟨⟨by simp only; omega, (hl ▸ pad_u hu pd) u0 (by simp), isU0, isU0, hp.1, hp.2.1, hp.2.2, fun u hu => by simp at hu, isU0, isU0⟩, fun o ho ht => ?_⟩
  obtain ⟨a1, a2, a3, a4, a5, a6⟩ := hc o ho ht
  have R := right_parts ho
  obtain ⟨k', key', val', old', hnd', set', rt', ri', keys', lo', hi'⟩ := o
  simp only at a1 a2 a3 a4 a5
  subst a1 a2 a3 a4 a5
  have q1 := R.z1
  have q2 := R.z2
  have q3 := R.z3
  have q9 := R.z9
  have q10 := R.z10
  have qk := R.nokys
  rcases hk with rfl | rfl <;>
  · simp [numK, kysK] at q1 q2 q3 q9 q10 qk
    subst q2 q3 q9 q10 qk
    simp [nuO, numK, numAt] at a6
    subst a6
    simp at hl
    obtain ⟨rfl, _⟩ := hl
    rfl
theorem fin_2 {t : List UInt8} {kk hnd : Nat} {set : Bool} {rt ri : Int} {us : List Nat} {pd u0 u1 : Nat} {l : List Nat} (hk : kk = 2) (hu : ∀ u ∈ us, isU u) (hl : us ++ List.replicate pd 0 = u0 :: u1 :: l) (hp : isU hnd ∧ isI rt ∧ isI ri) (hc : CoreQ t kk hnd set rt ri us) : FinO t ⟨kk, u0, u1, 0, hnd, set, rt, ri, [], 0, 0⟩ := by
  have hup : ∀ u ∈ u0 :: u1 :: l, isU u := hl ▸ pad_u hu pd
  refine ⟨⟨by simp only; omega, hup u0 (by simp), hup u1 (by simp), isU0, hp.1, hp.2.1, hp.2.2, fun u hu => by simp at hu, isU0, isU0⟩, fun o ho ht => ?_⟩
  obtain ⟨a1, a2, a3, a4, a5, a6⟩ := hc o ho ht
  have R := right_parts ho
  obtain ⟨k', key', val', old', hnd', set', rt', ri', keys', lo', hi'⟩ := o
  simp only at a1 a2 a3 a4 a5
  subst a1 a2 a3 a4 a5
  have q1 := R.z1
  have q2 := R.z2
  have q3 := R.z3
  have q9 := R.z9
  have q10 := R.z10
  have qk := R.nokys
  subst hk
  simp [numK, kysK] at q1 q2 q3 q9 q10 qk
  subst q3 q9 q10 qk
  simp [nuO, numK, numAt] at a6
  subst a6
  simp at hl
  obtain ⟨rfl, rfl, _⟩ := hl
  rfl
theorem fin_4 {t : List UInt8} {kk hnd : Nat} {set : Bool} {rt ri : Int} {us : List Nat} {pd u0 u1 u2 : Nat} {l : List Nat} (hk : kk = 4) (hu : ∀ u ∈ us, isU u) (hl : us ++ List.replicate pd 0 = u0 :: u1 :: u2 :: l) (hp : isU hnd ∧ isI rt ∧ isI ri) (hc : CoreQ t kk hnd set rt ri us) : FinO t ⟨kk, u0, u2, u1, hnd, set, rt, ri, [], 0, 0⟩ := by
  have hup : ∀ u ∈ u0 :: u1 :: u2 :: l, isU u := hl ▸ pad_u hu pd
  refine ⟨⟨by simp only; omega, hup u0 (by simp), hup u2 (by simp), hup u1 (by simp), hp.1, hp.2.1, hp.2.2, fun u hu => by simp at hu, isU0, isU0⟩, fun o ho ht => ?_⟩
  obtain ⟨a1, a2, a3, a4, a5, a6⟩ := hc o ho ht
  have R := right_parts ho
  obtain ⟨k', key', val', old', hnd', set', rt', ri', keys', lo', hi'⟩ := o
  simp only at a1 a2 a3 a4 a5
  subst a1 a2 a3 a4 a5
  have q1 := R.z1
  have q2 := R.z2
  have q3 := R.z3
  have q9 := R.z9
  have q10 := R.z10
  have qk := R.nokys
  subst hk
  simp [numK, kysK] at q1 q2 q3 q9 q10 qk
  subst q9 q10 qk
  simp [nuO, numK, numAt] at a6
  subst a6
  simp at hl
  obtain ⟨rfl, rfl, rfl, _⟩ := hl
  rfl
theorem fin_8 {t : List UInt8} {kk hnd : Nat} {set : Bool} {rt ri : Int} {us : List Nat} {pd u0 u1 : Nat} {l : List Nat} (hk : kk = 8 ∨ kk = 9) (hu : ∀ u ∈ us, isU u) (hl : us ++ List.replicate pd 0 = u0 :: u1 :: l) (hp : isU hnd ∧ isI rt ∧ isI ri) (hc : CoreQ t kk hnd set rt ri us) : FinO t ⟨kk, 0, 0, 0, hnd, set, rt, ri, [], u0, u1⟩ := by
  have hup : ∀ u ∈ u0 :: u1 :: l, isU u := hl ▸ pad_u hu pd
  refine ⟨⟨by simp only; omega, isU0, isU0, isU0, hp.1, hp.2.1, hp.2.2, fun u hu => by simp at hu, hup u0 (by simp), hup u1 (by simp)⟩, fun o ho ht => ?_⟩
  obtain ⟨a1, a2, a3, a4, a5, a6⟩ := hc o ho ht
  have R := right_parts ho
  obtain ⟨k', key', val', old', hnd', set', rt', ri', keys', lo', hi'⟩ := o
  simp only at a1 a2 a3 a4 a5
  subst a1 a2 a3 a4 a5
  have q1 := R.z1
  have q2 := R.z2
  have q3 := R.z3
  have q9 := R.z9
  have q10 := R.z10
  have qk := R.nokys
  rcases hk with rfl | rfl <;>
  · simp [numK, kysK] at q1 q2 q3 q9 q10 qk
    subst q1 q2 q3 qk
    simp [nuO, numK, numAt] at a6
    subst a6
    simp at hl
    obtain ⟨rfl, rfl, _⟩ := hl
    rfl
theorem fin_7 {t : List UInt8} {kk hnd : Nat} {set : Bool} {rt ri : Int} {us : List Nat} (hk : kk = 7) (hu : ∀ u ∈ us, isU u) (hp : isU hnd ∧ isI rt ∧ isI ri) (hc : CoreQ t kk hnd set rt ri us) : FinO t ⟨kk, 0, 0, 0, hnd, set, rt, ri, us, 0, 0⟩ := by
  refine ⟨⟨by simp only; omega, isU0, isU0, isU0, hp.1, hp.2.1, hp.2.2, hu, isU0, isU0⟩, fun o ho ht => ?_⟩
  obtain ⟨a1, a2, a3, a4, a5, a6⟩ := hc o ho ht
  have R := right_parts ho
  obtain ⟨k', key', val', old', hnd', set', rt', ri', keys', lo', hi'⟩ := o
  simp only at a1 a2 a3 a4 a5
  subst a1 a2 a3 a4 a5
  have q1 := R.z1
  have q2 := R.z2
  have q3 := R.z3
  have q9 := R.z9
  have q10 := R.z10
  subst hk
  simp [numK] at q1 q2 q3 q9 q10
  subst q1 q2 q3 q9 q10
  simp [nuO, numK] at a6
  subst a6
  rfl
theorem end_ok {t : List UInt8} {o : Opx} (h : FinO t o) (hf : faultO o = 0) (ht : textO o = t) : PQ t true o := ⟨fun _ => ⟨⟨h.1, hf⟩, ht.symm⟩, fun o' h1 h2 => ⟨rfl, h.2 o' h1 h2⟩⟩
theorem end_bad {t : List UInt8} {o : Opx} (h : FinO t o) (hf : ¬ (faultO o = 0 ∧ textO o = t)) : PQ t false zeroO := pq_no fun o' h1 h2 => by
  have := h.2 o' h1 h2
  subst this
  exact hf ⟨h1.2, h2.symm⟩
end Go.Proofs.YtmmaniolaljjlaaGreatDoor
