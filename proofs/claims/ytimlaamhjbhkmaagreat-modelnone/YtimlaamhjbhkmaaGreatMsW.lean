/- What must be whatever is asked (layer 6). -/
import Derived.Test.YtimlaamhjbhkmaaGreatMsV
namespace Go.Proofs.YtimlaamhjbhkmaaGreat
open Go.RowKit
set_option linter.unusedVariables false

structure LM (W w : World) (m n h : Nat) (es : Array MapEntry) (c : Nat) (ho : Obj) : Prop where
  md : IsModel w m n h
  nn : w.heap[n]? = some (.map es c)
  hh : w.heap[h]? = some ho
  mn : m ≠ n
  mh : m ≠ h
  nh : n ≠ h
  ch : Chg (fun _ => False) W w
theorem blk_lt {w : World} {k : Nat} {o : Obj} (h : w.heap[k]? = some o) : k < w.heap.size := (Array.getElem?_eq_some_iff.1 h).1
theorem LM.chg {W w w' : World} {m n h : Nat} {es : Array MapEntry} {c : Nat} {ho : Obj} (H : LM W w m n h es c ho) (k : Chg (fun _ => False) w w') : LM W w' m n h es c ho :=
  ⟨H.md.chg k (fun x => x), (k.block n (blk_lt H.nn) (fun x => x)).trans H.nn, (k.block h (blk_lt H.hh) (fun x => x)).trans H.hh, H.mn, H.mh, H.nh, H.ch.trans k (fun _ _ x => x) (fun _ _ x => x)⟩
theorem new_lm (W : World) : Calls Tryz.prog 6 #[.int .i64 4] W fun e W' => ∃ m n h, e = .returned (.tuple #[.pointer (some ⟨m, 0, none⟩), .int .i64 0]) ∧ LM W W' m n h #[] 0 (.map #[] 0) ∧ W.heap.size ≤ n ∧ W.heap.size ≤ h := by
  refine (new_4 W).mono ?_
  rintro e W' ⟨rfl, rfl⟩
  refine ⟨W.heap.size + 2, W.heap.size, W.heap.size + 1, rfl, ⟨?_, alloc_of (alloc_of (heap_alloc_new _ _) _) _, ?_, by omega, by omega, by omega, (((Chg.refl _ _).alloc _).alloc _).alloc _⟩, by omega, by omega⟩
  · have e := heap_alloc_new ((W.alloc (.map #[] 0)).alloc (.map #[] 0)) (.cells #[.int .i64 4, .map (some W.heap.size), .map (some (W.heap.size + 1))] 65)
    rw [World.size_alloc, World.size_alloc] at e
    exact e
  · have e := heap_alloc_new (W.alloc (.map #[] 0)) (.map #[] 0)
    rw [World.size_alloc] at e
    exact alloc_of e _
theorem put_live (v x : Nat) (th : Bool) {W w : World} {m n h : Nat} {es es' : Array MapEntry} {c c' : Nat} {ho : Obj} (H : LM W w m n h es c ho) (hn : W.heap.size ≤ n)
    (hlk : ∀ w : World, w.heap[n]? = some (.map es c) → (Instr.lookup 62 (.map (some n)) (.int .u64 7) true).run Tryz.prog w = .ok (.tuple #[.int .u64 (x : Int), .bool th]) w)
    (hup : ∀ w : World, w.heap[n]? = some (.map es c) → (Instr.mapUpdate 62 (.map (some n)) (.int .u64 7) (.int .u64 (v : Int))).run Tryz.prog w = .ok () (ChangeMaps.setBlock w n (.map es' c'))) :
    Calls Tryz.prog 10 #[.pointer (some ⟨m, 0, none⟩), .agg #[.int .u8 2, .int .u64 (7 : Int), .int .u64 (v : Int), .int .u64 0, .int .u64 0, .bool false, .int .i64 0, .int .i64 0, .slice none 0 0, .int .u64 0, .int .u64 0], .int .u64 0] w fun e w' => e = .returned (.agg #[.int .i64 0, .bool th, .int .u64 (x : Int), .bool false, .int .u64 0, .slice none 0 0, .int .u64 0]) ∧ LM W w' m n h es' c' ho ∧ ∀ k, k < w.heap.size → k ≠ n → w'.heap[k]? = w.heap[k]? := by
  refine (Do_2 v x th (T := fun a b => b.heap[n]? = some (.map es' c')) (fun a ca => tells_2 v (H.md.chg ca (fun x => x)) x th (fun w cw => hlk w ((cw.block n (blk_lt (H.chg ca).nn) (fun x => x)).trans (H.chg ca).nn))) n (blk_lt H.nn) (fun a ca => do_put v x th (H.chg ca).md H.mn (H.chg ca).nn hup)).mono ?_
  rintro e w' ⟨rfl, a, b, ca, hs, hT, cb, cw⟩
  have ln := blk_lt H.nn
  have lh := blk_lt H.hh
  have lm := lt_of H.md
  have za := ca.size
  have zb := cb.size
  have kk : ∀ k, k < w.heap.size → k ≠ n → w'.heap[k]? = w.heap[k]? := fun k hk hne => (cw.block k (by omega) (by omega)).trans ((cb.block k (by omega) hne).trans (ca.block k hk (fun x => x)))
  refine ⟨rfl, ⟨(kk m lm H.mn).trans H.md, (cw.block n (by omega) (by omega)).trans hT, (kk h lh (Ne.symm H.nh)).trans H.hh, H.mn, H.mh, H.nh, ?_⟩, kk⟩
  have c1 : Chg (fun k => k = n ∨ k = w.heap.size + 1) w w' := (ca.trans cb (H := fun k => k = n ∨ k = w.heap.size + 1) (fun _ _ x => x.elim) (fun _ _ x => .inl x)).trans cw (fun _ _ x => x) (fun _ _ x => .inr x)
  exact H.ch.trans c1 (fun _ _ x => x) (fun i hi e => by have := H.ch.size; omega)
theorem snap_live {W w : World} {m n h : Nat} (H : LM W w m n h #[⟨.int .u64 7, .int .u64 1, 0⟩] 1 (.map #[] 0)) (hh : W.heap.size ≤ h) :
    Calls Tryz.prog 10 #[.pointer (some ⟨m, 0, none⟩), .agg #[.int .u8 5, .int .u64 (0 : Int), .int .u64 (0 : Int), .int .u64 0, .int .u64 0, .bool false, .int .i64 0, .int .i64 0, .slice none 0 0, .int .u64 0, .int .u64 0], .int .u64 5] w fun e w' => e = .returned (.agg #[.int .i64 0, .bool false, .int .u64 0, .bool false, .int .u64 5, .slice none 0 0, .int .u64 0]) ∧ ∃ cl, w.heap.size ≤ cl ∧ LM W w' m n h #[⟨.int .u64 7, .int .u64 1, 0⟩] 1 (.map #[⟨.int .u64 5, .map (some cl), 0⟩] 1) ∧ w'.heap[cl]? = some (.map #[⟨.int .u64 7, .int .u64 1, 0⟩] 1) ∧ ∀ k, k < w.heap.size → k ≠ h → w'.heap[k]? = w.heap[k]? := by
  refine (Do_5 (T := fun a b => ∃ cl, a.heap.size ≤ cl ∧ b.heap[h]? = some (.map #[⟨.int .u64 5, .map (some cl), 0⟩] 1) ∧ b.heap[cl]? = some (.map #[⟨.int .u64 7, .int .u64 1, 0⟩] 1)) (fun a ca => tells_5 0 (H.md.chg ca (fun x => x)) (fun w cw => held_0 ((cw.block h (blk_lt (H.chg ca).hh) (fun x => x)).trans (H.chg ca).hh))) h (blk_lt H.hh) (fun a ca => (do_snap (H.chg ca).md H.mh H.nh (H.chg ca).nn (H.chg ca).hh).mono ?_)).mono ?_
  · rintro e w' ⟨rfl, cl, h1, h2, h3, h4⟩
    exact ⟨rfl, ⟨cl, h1, h2, h3⟩, h4⟩
  rintro e w' ⟨rfl, a, b, ca, hs, ⟨cl, hcl, hT1, hT2⟩, cb, cw⟩
  have ln := blk_lt H.nn
  have lh := blk_lt H.hh
  have lm := lt_of H.md
  have lc := blk_lt hT2
  have za := ca.size
  have zb := cb.size
  have kk : ∀ k, k < w.heap.size → k ≠ h → w'.heap[k]? = w.heap[k]? := fun k hk hne => (cw.block k (by omega) (by omega)).trans ((cb.block k (by omega) hne).trans (ca.block k hk (fun x => x)))
  refine ⟨rfl, cl, by omega, ⟨(kk m lm H.mh).trans H.md, (kk n ln H.nh).trans H.nn, (cw.block h (by omega) (by omega)).trans hT1, H.mn, H.mh, H.nh, ?_⟩, (cw.block cl lc (by omega)).trans hT2, kk⟩
  have c1 : Chg (fun k => k = h ∨ k = w.heap.size + 1) w w' := (ca.trans cb (H := fun k => k = h ∨ k = w.heap.size + 1) (fun _ _ x => x.elim) (fun _ _ x => .inl x)).trans cw (fun _ _ x => x) (fun _ _ x => .inr x)
  exact H.ch.trans c1 (fun _ _ x => x) (fun i hi e => by have := H.ch.size; omega)
set_option maxRecDepth 100000 in
set_option maxHeartbeats 4000000 in
theorem live_06 (W : World) : Calls Tryz.prog 4 #[] W fun e W' => e = .returned (.bool true) ∧ Chg (fun _ => False) W W' := by
  go_enter Tryz.func4, Tryz.ntmps4
  go_wp2_with fail
  refine (new_lm W).mono ?_
  rintro e w1 ⟨m, n, h, rfl, L1, hn, hh⟩
  have HL1 := keepH L1
  have HB : Hid (W.heap.size ≤ n ∧ W.heap.size ≤ h) := ⟨hn, hh⟩
  clear L1 hn hh
  go_wp2_with fail
  refine (put_live 1 0 false HL1.out HB.out.1 (fun w hw => now_0 hw) (fun w hw => put_0 hw 1)).mono ?_
  rintro e w2 ⟨rfl, L2, _⟩
  obtain ⟨w3, hw3⟩ : ∃ w3, w3 = w2.alloc (.cells #[.int .i64 0, .bool false, .int .u64 0, .bool false, .int .u64 0, .slice none 0 0, .int .u64 0] 40) := ⟨_, rfl⟩
  have HA : Hid (w3.heap[w2.heap.size]? = some (.cells #[.int .i64 0, .bool false, .int .u64 0, .bool false, .int .u64 0, .slice none 0 0, .int .u64 0] 40 (0, 0))) := by rw [hw3]; exact heap_alloc_new _ _
  have HL3 : Hid (LM W w3 m n h #[⟨.int .u64 7, .int .u64 1, 0⟩] 1 (.map #[] 0)) := by rw [hw3]; exact L2.chg ((Chg.refl _ _).alloc _)
  have HGA0 : Hid (w2.heap.size ≠ n ∧ w2.heap.size ≠ h) := by
    have := blk_lt L2.nn
    have := blk_lt L2.hh
    show _ ∧ _
    omega
  clear L2 HL1
  go_upto_region 5 with fail
  rw [show w2.alloc (.cells #[.int .i64 0, .bool false, .int .u64 0, .bool false, .int .u64 0, .slice none 0 0, .int .u64 0] 40) = w3 from hw3.symm]
  clear hw3
  have HGA : Hid (w2.heap.size ≠ n ∧ w2.heap.size ≠ h) := HGA0.out
  obtain ⟨ga, hga⟩ : ∃ ga, ga = w2.heap.size := ⟨_, rfl⟩
  rw [← hga] at HA HGA ⊢
  clear hga HGA0
  go_wp2_with fail
  refine (snap_live HL3.out HB.out.2).mono ?_
  rintro e w4 ⟨rfl, cl, hcl, L4, N4, K4⟩
  have HA4 : Hid (w4.heap[ga]? = some (.cells #[.int .i64 0, .bool false, .int .u64 0, .bool false, .int .u64 0, .slice none 0 0, .int .u64 0] 40 (0, 0))) := (K4 ga (lt_of HA.out) HGA.out.2).trans HA.out
  have hz4 : n ≠ w4.heap.size ∧ h ≠ w4.heap.size ∧ cl ≠ n ∧ ga < w4.heap.size := by
    have := blk_lt L4.nn
    have := blk_lt L4.hh
    have := blk_lt HL3.out.nn
    have := lt_of HA4.out
    omega
  have HZ4 := keepH hz4
  obtain ⟨w5, hw5⟩ : ∃ w5, w5 = w4.alloc (.cells #[.int .i64 0, .bool false, .int .u64 0, .bool false, .int .u64 5, .slice none 0 0, .int .u64 0] 40) := ⟨_, rfl⟩
  have HBB : Hid (w5.heap[w4.heap.size]? = some (.cells #[.int .i64 0, .bool false, .int .u64 0, .bool false, .int .u64 5, .slice none 0 0, .int .u64 0] 40 (0, 0))) := by rw [hw5]; exact heap_alloc_new _ _
  have HL5 : Hid (LM W w5 m n h #[⟨.int .u64 7, .int .u64 1, 0⟩] 1 (.map #[⟨.int .u64 5, .map (some cl), 0⟩] 1)) := by rw [hw5]; exact L4.chg ((Chg.refl _ _).alloc _)
  have HN5 : Hid (w5.heap[cl]? = some (.map #[⟨.int .u64 7, .int .u64 1, 0⟩] 1)) := by rw [hw5]; exact alloc_of N4 _
  have HA5 : Hid (w5.heap[ga]? = some (.cells #[.int .i64 0, .bool false, .int .u64 0, .bool false, .int .u64 0, .slice none 0 0, .int .u64 0] 40 (0, 0))) := by rw [hw5]; exact alloc_of HA4.out _
  clear hz4 L4 N4 K4 hcl HA4 HA HL3
  go_upto_region 6 with fail
  rw [show w4.alloc (.cells #[.int .i64 0, .bool false, .int .u64 0, .bool false, .int .u64 5, .slice none 0 0, .int .u64 0] 40) = w5 from hw5.symm]
  clear hw5
  obtain ⟨gb, hgb⟩ : ∃ gb, gb = w4.heap.size := ⟨_, rfl⟩
  rw [← hgb] at HBB HZ4 ⊢
  clear hgb
  go_wp2_with fail
  refine (put_live 2 1 true HL5.out HB.out.1 (fun w hw => now_1 (x := 1) hw) (fun w hw => put_1 hw 2)).mono ?_
  rintro e w6 ⟨rfl, L6, K6⟩
  have HA6 : Hid (w6.heap[ga]? = some (.cells #[.int .i64 0, .bool false, .int .u64 0, .bool false, .int .u64 0, .slice none 0 0, .int .u64 0] 40 (0, 0))) := (K6 ga (lt_of HA5.out) HGA.out.1).trans HA5.out
  have HB6 : Hid (w6.heap[gb]? = some (.cells #[.int .i64 0, .bool false, .int .u64 0, .bool false, .int .u64 5, .slice none 0 0, .int .u64 0] 40 (0, 0))) := (K6 gb (lt_of HBB.out) (by have := HZ4.out; omega)).trans HBB.out
  have HN6 : Hid (w6.heap[cl]? = some (.map #[⟨.int .u64 7, .int .u64 1, 0⟩] 1)) := (K6 cl (blk_lt HN5.out) HZ4.out.2.2.1).trans HN5.out
  obtain ⟨w7, hw7⟩ : ∃ w7, w7 = w6.alloc (.cells #[.int .i64 0, .bool true, .int .u64 1, .bool false, .int .u64 0, .slice none 0 0, .int .u64 0] 40) := ⟨_, rfl⟩
  have HG7 : Hid (w7.heap[w6.heap.size]? = some (.cells #[.int .i64 0, .bool true, .int .u64 1, .bool false, .int .u64 0, .slice none 0 0, .int .u64 0] 40 (0, 0))) := by rw [hw7]; exact heap_alloc_new _ _
  have HL7 : Hid (LM W w7 m n h #[⟨.int .u64 7, .int .u64 2, 0⟩] 1 (.map #[⟨.int .u64 5, .map (some cl), 0⟩] 1)) := by rw [hw7]; exact L6.chg ((Chg.refl _ _).alloc _)
  have HN7 : Hid (w7.heap[cl]? = some (.map #[⟨.int .u64 7, .int .u64 1, 0⟩] 1)) := by rw [hw7]; exact alloc_of HN6.out _
  have HA7 : Hid (w7.heap[ga]? = some (.cells #[.int .i64 0, .bool false, .int .u64 0, .bool false, .int .u64 0, .slice none 0 0, .int .u64 0] 40 (0, 0))) := by rw [hw7]; exact alloc_of HA6.out _
  have HB7 : Hid (w7.heap[gb]? = some (.cells #[.int .i64 0, .bool false, .int .u64 0, .bool false, .int .u64 5, .slice none 0 0, .int .u64 0] 40 (0, 0))) := by rw [hw7]; exact alloc_of HB6.out _
  clear L6 K6 HA6 HB6 HN6 HA5 HBB HN5 HL5
  go_upto_region 7 with fail
  rw [show w6.alloc (.cells #[.int .i64 0, .bool true, .int .u64 1, .bool false, .int .u64 0, .slice none 0 0, .int .u64 0] 40) = w7 from hw7.symm]
  clear hw7
  obtain ⟨gc, hgc⟩ : ∃ gc, gc = w6.heap.size := ⟨_, rfl⟩
  rw [← hgc] at HG7 ⊢
  clear hgc
  go_wp2_with fail
  refine (held_5 HL7.out.md HL7.out.hh HN7.out).mono ?_
  rintro e w8 ⟨g, c, rfl, g0, g1, C8⟩
  have HL8 := keepH (HL7.out.chg C8)
  have a1 : w8.cell? ⟨ga, 1, none⟩ = some (.bool false) := cell_of ((C8.block _ (lt_of HA7.out) (fun x => x)).trans HA7.out) 1
  have b4 : w8.cell? ⟨gb, 4, none⟩ = some (.int .u64 5) := cell_of ((C8.block _ (lt_of HB7.out) (fun x => x)).trans HB7.out) 4
  have c1 : w8.cell? ⟨gc, 1, none⟩ = some (.bool true) := cell_of ((C8.block _ (lt_of HG7.out) (fun x => x)).trans HG7.out) 1
  have c2 : w8.cell? ⟨gc, 2, none⟩ = some (.int .u64 1) := cell_of ((C8.block _ (lt_of HG7.out) (fun x => x)).trans HG7.out) 2
  clear C8 HA7 HB7 HG7 HL7 HN7 g0
  have HTK := keepH (take_get HL8.out.md HL8.out.nn)
  go_wp2_with fail
  refine HTK.out.mono ?_
  rintro e w9 ⟨rfl, C9⟩
  have HC9 : Hid (Chg (fun _ => False) W w9) := HL8.out.ch.trans C9 (fun _ _ x => x) (fun _ _ x => x)
  clear C9
  go_wp2_with fail
  go_ret
  exact ⟨by simp, HC9.out⟩
end Go.Proofs.YtimlaamhjbhkmaaGreat
