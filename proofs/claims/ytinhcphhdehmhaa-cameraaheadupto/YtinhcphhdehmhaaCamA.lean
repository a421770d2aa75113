/- What the camera's procs tell; what must be whatever is asked (layer 8). -/
import Derived.Test.YtinhcphhdehmhaaCam
namespace Go.Proofs.Ytinhcphhdehmhaa
open Go.RowKit Go.Shelf

set_option maxRecDepth 100000 in
theorem n_stamp (p cell pos st : Nat) (W : World) (hp : IsNow W p cell pos st) : Calls Try.prog 13 #[.pointer (some ⟨p, 0, none⟩)] W fun e W' => e = .returned (.int .u64 (st : Int)) ∧ W' = W := by
  have c2 : W.cell? ⟨p, 2, none⟩ = some (.int .u64 (st : Int)) := cell_of hp 2
  go_enter Try.func13, Try.ntmps13
  go_wp2_with fail
  go_ret
  exact ⟨by simp, rfl⟩
set_option maxRecDepth 100000 in
theorem t_stamp (p cell mx pos st err : Nat) (mv : Bool) (W : World) (hp : IsTake W p cell mx pos st err mv) : Calls Try.prog 14 #[.pointer (some ⟨p, 0, none⟩)] W fun e W' => e = .returned (.int .u64 ((if pos = 2 ∧ err = 0 then st else 0 : Nat) : Int)) ∧ W' = W := by
  have c2 : W.cell? ⟨p, 2, none⟩ = some (.int .u8 (pos : Int)) := cell_of hp 2
  have c3 : W.cell? ⟨p, 3, none⟩ = some (.int .u64 (st : Int)) := cell_of hp 3
  have c4 : W.cell? ⟨p, 4, none⟩ = some (.int .i64 (err : Int)) := cell_of hp 4
  by_cases h1 : pos = 2
  · subst h1
    by_cases h2 : err = 0
    · subst h2
      go_enter Try.func14, Try.ntmps14
      go_wp2_with fail
      go_ret
      exact ⟨by simp, rfl⟩
    · have n1 : ((err : Int) != 0) = true := bne_iff_ne.2 (by omega)
      have n2 : ((err : Int) == 0) = false := beq_eq_false_iff_ne.2 (by omega)
      go_enter Try.func14, Try.ntmps14
      go_wp2_with fail
      go_ret
      exact ⟨by simp, rfl⟩
  · have n1 : ((pos : Int) != 2) = true := bne_iff_ne.2 (by omega)
    have n2 : ((pos : Int) == 2) = false := beq_eq_false_iff_ne.2 (by omega)
    go_enter Try.func14, Try.ntmps14
    go_wp2_with fail
    go_ret
    exact ⟨by simp, rfl⟩
set_option maxRecDepth 100000 in
theorem t_errno (p cell mx pos st err : Nat) (mv : Bool) (W : World) (hp : IsTake W p cell mx pos st err mv) : Calls Try.prog 12 #[.pointer (some ⟨p, 0, none⟩)] W fun e W' => e = .returned (.int .i64 (err : Int)) ∧ W' = W := by
  have c4 : W.cell? ⟨p, 4, none⟩ = some (.int .i64 (err : Int)) := cell_of hp 4
  go_enter Try.func12, Try.ntmps12
  go_wp2_with fail
  go_ret
  exact ⟨by simp, rfl⟩
set_option maxRecDepth 100000 in
theorem t_moved (p cell mx pos st err : Nat) (mv : Bool) (W : World) (hp : IsTake W p cell mx pos st err mv) : Calls Try.prog 10 #[.pointer (some ⟨p, 0, none⟩)] W fun e W' => e = .returned (.bool mv) ∧ W' = W := by
  have c5 : W.cell? ⟨p, 5, none⟩ = some (.bool mv) := cell_of hp 5
  go_enter Try.func10, Try.ntmps10
  go_wp2_with fail
  go_ret
  exact ⟨by simp, rfl⟩

/-- A memory with one view and a Take, made behind W. -/
structure CSt (W X : World) (m b v p : Nat) (F : Nat → Prop) (made : Nat) (cs : List Nat) (l : List Acc) : Prop where
  bank : Bank X F b 128 1 cs l
  view : IsView X v b 0 made
  mem : IsMem X m b
  nv : ¬ F v
  nm : ¬ F m
  np : ¬ F p
  mv : m ≠ v
  mp : m ≠ p
  pv : p ≠ v
  inF : ∀ k, F k → W.heap.size ≤ k
  hv : W.heap.size ≤ v
  hp : W.heap.size ≤ p
  hpl : p < X.heap.size
  chg : Chg (fun _ => False) W X
theorem CSt.step {W X Y : World} {m b v p : Nat} {F F' : Nat → Prop} {made made' : Nat} {cs cs' : List Nat} {l l' : List Acc} (h : CSt W X m b v p F made cs l) (g : GoesP X Y F F' v p) (hb : Bank Y F' b 128 1 cs' l') (hw : IsView Y v b 0 made') : CSt W Y m b v p F' made' cs' l' :=
  ⟨hb, hw, h.mem.chg g.chg (fun e => e.elim (fun e => e.elim h.nm h.mv) h.mp), fun x => (g.new v x).elim h.nv (fun y => by have := h.view.lt; omega), fun x => (g.new m x).elim h.nm (fun y => by have := h.mem.lt; omega), fun x => (g.new p x).elim h.np (fun y => by have := h.hpl; omega), h.mv, h.mp, h.pv, fun k e => (g.new k e).elim (h.inF k) (fun e => Nat.le_trans h.chg.size e), h.hv, h.hp, Nat.lt_of_lt_of_le h.hpl g.chg.size,
    h.chg.trans g.chg (fun _ _ x => x) (fun i hi x => x.elim (fun x => x.elim (fun y => by have := h.inF i y; omega) (fun y => by have := h.hv; omega)) (fun y => by have := h.hp; omega))⟩

set_option maxRecDepth 100000 in
set_option maxHeartbeats 4000000 in
theorem c_live (W : World) : Calls Try.prog 8 #[] W fun e W' => e = .returned (.bool true) ∧ Chg (fun _ => False) W W' := by
  go_enter Try.func8, Try.ntmps8
  go_wp2_with fail
  refine (m_new 128 W (by omega)).mono ?_
  rintro e W1 ⟨rfl, M1, B1, C1, S1⟩
  have HM1 := keepH M1
  have HB1 := keepH B1
  have HS1 := keepH S1
  have HC1 := keepH C1
  clear M1 B1 S1 C1
  go_wp2_with fail
  refine (m_view _ W.heap.size 0 _ HM1.out).mono ?_
  rintro e w ⟨rfl, rfl⟩
  obtain ⟨w2, hw2⟩ : ∃ w2, w2 = W1.alloc (.cells #[.iface 84 (.pointer (some ⟨W.heap.size, 0, none⟩)), .int .i64 0, .int .i64 0] 87) := ⟨_, rfl⟩
  rw [← hw2]
  have C2 : Chg (fun _ => False) W1 w2 := by rw [hw2]; exact (Chg.refl _ _).alloc _
  have HV2 : Hid (IsView w2 W1.heap.size W.heap.size 0 0) := by rw [hw2]; exact heap_alloc_new _ _
  have HM2 := keepH (HM1.out.chg C2 (fun h => h))
  have HB2 := keepH (HB1.out.chg C2 (fun _ _ h => h))
  have HC2 := keepH (HC1.out.trans C2 (fun _ _ x => x) (fun _ _ x => x))
  clear hw2 C2
  go_wp2_with fail
  refine (v_store W1.heap.size W.heap.size 128 1 0 0 5 1 (fun k => k = W.heap.size) [] [] _ HV2.out HB2.out (by have := HS1.out; omega) (by omega) (by simp) (by omega) (by omega)).mono ?_
  rintro e w3 ⟨rfl, F3, vs3, B3, V3, G3⟩
  have e3 : stN 128 [] 5 1 = [0, 0, 0, 0, 0, 1] := by decide
  rw [e3] at B3
  have HB3 := keepH B3
  have HV3 := keepH V3
  have HG3 := keepH G3
  have HM3 : Hid (IsMem w3 (W.heap.size + 1) W.heap.size) := HM2.out.chg G3.chg (fun e => by have := HS1.out; omega)
  have HC3 : Hid (Chg (fun _ => False) W w3) := HC2.out.trans G3.chg (fun _ _ x => x) (fun i hi x => by have := HS1.out; omega)
  clear B3 V3 G3 e3
  go_wp2_with fail
  refine (t_new 5 100 _).mono ?_
  rintro e w ⟨rfl, rfl⟩
  obtain ⟨w4, hw4⟩ : ∃ w4, w4 = w3.alloc (.cells #[.int .u64 ((5 : Nat) : Int), .int .u64 ((100 : Nat) : Int), .int .u8 0, .int .u64 0, .int .i64 0, .bool false] 75) := ⟨_, rfl⟩
  rw [← hw4]
  have C4 : Chg (fun _ => False) w3 w4 := by rw [hw4]; exact (Chg.refl _ _).alloc _
  have HT4 : Hid (IsTake w4 w3.heap.size 5 100 0 0 0 false) := by rw [hw4]; exact heap_alloc_new _ _
  obtain ⟨p, hp⟩ : ∃ p, p = w3.heap.size := ⟨_, rfl⟩
  rw [← hp] at HT4 ⊢
  have S4 : Hid (CSt W w4 (W.heap.size + 1) W.heap.size W1.heap.size p F3 1 [0, 0, 0, 0, 0, 1] ([] ++ [⟨0, 2, 5, 1, 0, vs3, [], 0, false⟩])) := by
    have s1 := HS1.out
    have sv := HV3.out.lt
    have nf : ∀ k, F3 k → k = W.heap.size ∨ w2.heap.size ≤ k := HG3.out.new
    have ls := HC2.out.size
    have lv := HV2.out.lt
    have lm := HM2.out.lt
    have sp := HM3.out.lt
    refine ⟨HB3.out.chg C4 (fun _ _ h => h), HV3.out.chg C4 (fun h => h), HM3.out.chg C4 (fun h => h), fun e => ?_, fun e => ?_, fun e => ?_, by omega, by omega, by omega, fun k e => ?_, by omega, by omega, lt_of HT4.out, HC3.out.trans C4 (fun _ _ x => x) (fun _ _ x => x)⟩
    · have := nf _ e; omega
    · have := nf _ e; omega
    · obtain ⟨_, _, B⟩ := HB3.out
      have := B.lt _ e
      omega
    · have := nf _ e; omega
  clear hw4 C4 hp HB3 HV3 HG3 HM3 HC3
  go_wp2_with fail
  refine (t_load p W1.heap.size W.heap.size 128 1 1 5 100 0 0 F3 _ _ _ HT4.out S4.out.view S4.out.bank S4.out.nv S4.out.np S4.out.pv (by omega) (by simp) (by omega) 1 (by decide)).mono ?_
  rintro e w5 ⟨rfl, T5, F5, vs5, B5, V5, G5⟩
  have HT5 : Hid (IsTake w5 p 5 100 1 1 0 false) := T5
  have S5 := keepH (S4.out.step G5 B5 V5)
  have e5 : decide (100 ≤ 1) = false := by decide
  clear T5 B5 V5 G5 HT4 S4
  go_wp2_with fail
  refine (t_cas p W1.heap.size W.heap.size 128 1 (1 + 1) 5 100 1 0 F5 _ _ _ HT5.out S5.out.view S5.out.bank S5.out.nv S5.out.np S5.out.pv (by omega) (by simp) (by omega) (by omega)).mono ?_
  rintro e w6 ⟨rfl, T6, F6, vs6, B6, V6, G6⟩
  have e6 : casOk 128 [0, 0, 0, 0, 0, 1] 5 1 = true := by decide
  have e6' : casN 128 [0, 0, 0, 0, 0, 1] 5 1 (1 + 1) = [0, 0, 0, 0, 0, 2] := by decide
  rw [e6'] at B6
  rw [e6] at T6
  have HT6 := keepH T6
  have S6 := keepH (S5.out.step G6 B6 V6)
  clear T6 B6 V6 G6 HT5 S5 e6 e6' e5
  go_wp2_with fail
  refine (t_stamp p 5 100 2 1 0 true _ HT6.out).mono ?_
  rintro e w ⟨rfl, rfl⟩
  go_wp2_with fail
  refine (t_moved p 5 100 2 1 0 true _ HT6.out).mono ?_
  rintro e w ⟨rfl, rfl⟩
  go_wp2_with fail
  refine (t_errno p 5 100 2 1 0 true _ HT6.out).mono ?_
  rintro e w ⟨rfl, rfl⟩
  go_wp2_with fail
  refine (m_peek (W.heap.size + 1) W.heap.size 128 1 5 F6 _ _ _ S6.out.mem S6.out.bank (by omega)).mono ?_
  rintro e w ⟨rfl, rfl⟩
  have e7 : cellN [0, 0, 0, 0, 0, 2] 5 = 2 := by decide
  go_wp2_with fail
  go_ret
  exact ⟨by simp, S6.out.chg⟩
end Go.Proofs.Ytinhcphhdehmhaa
