/- New; Content under the lock. -/
import Derived.Test.YtgaincicbgojjaaKD
namespace Go.Proofs.Ytgaincicbgojjaa
open Go.RowKit Go.Maps Go.MuLone
set_option linter.unusedVariables false

set_option maxRecDepth 100000 in
theorem new_gg (mu : Nat) (h1 : 1 ≤ mu) (h2 : mu ≤ 1024) (W : World) : Calls Try.prog 11 #[.int .i64 (mu : Int)] W fun e W' => e = .returned (.tuple #[.pointer (some ⟨W.heap.size + 2, 0, none⟩), .int .i64 0]) ∧ MoAt W' (W.heap.size + 2) W.heap.size (W.heap.size + 1) mu (fun _ => none) (fun _ => none) (fun _ _ => none) 0 ∧ Chg (fun _ => False) W W' := by
  have hmm := @run_makeMap Try.prog
  have q1 : ¬ (mu : Int) < 1 := by omega
  have q2 : ¬ (mu : Int) > 1024 := by omega
  have q3 : ¬ (1024 : Int) < (mu : Int) := by omega
  go_enter Try.func11, Try.ntmps11
  go_wp2_with fail
  go_ret2
  refine ⟨by simp, ⟨?_, ?_, ?_, fun k b hb => by simp at hb, by omega, by omega, by omega, fun k b hb => by simp at hb⟩, (((Chg.refl _ _).alloc _).alloc _).alloc _⟩
  · have e := heap_alloc_new ((W.alloc (.map #[] 0)).alloc (.map #[] 0)) (.cells #[.int .i64 (mu : Int), .map (some W.heap.size), .map (some (W.heap.size + 1))] 83)
    rw [World.size_alloc, World.size_alloc] at e
    simpa using e
  · exact MapR.chg (F := fun _ => False) (MapR.made _ _ _ W) (((Chg.refl _ _).alloc _).alloc _) (fun x => x)
  · have e := MapR.made heldM elH (fun _ => True) (W.alloc (.map #[] 0))
    rw [World.size_alloc] at e
    exact MapR.chg (F := fun _ => False) e ((Chg.refl _ _).alloc _) (fun x => x)
set_option maxRecDepth 100000 in
theorem new_no (mu : Int) (h : mu < 1 ∨ 1024 < mu) (W : World) : Calls Try.prog 11 #[.int .i64 mu] W fun e W' => e = .returned (.tuple #[.pointer none, .int .i64 2]) ∧ W' = W := by
  by_cases h1 : mu < 1
  · go_enter Try.func11, Try.ntmps11
    go_wp2_with fail
    (try simp only [Exit.inBlock, Exit.then])
    go_ret2
    exact ⟨rfl, rfl⟩
  · have h2 : 1024 < mu := by omega
    clear h
    go_enter Try.func11, Try.ntmps11
    go_wp2_with fail
    (try simp only [Exit.inBlock, Exit.then])
    go_ret2
    exact ⟨rfl, rfl⟩
set_option maxRecDepth 100000 in
theorem k_new_no (a b c d : Int) (h : takesP a b c = false ∨ d < 1 ∨ 1024 < d) (W : World) : Calls Try.prog 9 #[.agg #[.int .i64 a, .int .i64 b, .int .u64 c, .int .i64 d]] W fun e W' => e = .returned (.tuple #[.pointer none, .int .i64 2]) ∧ Chg (fun _ => False) W W' := by
  obtain ⟨w0, hw0⟩ : ∃ w0, w0 = W.alloc (.cells #[.int .i64 a, .int .i64 b, .int .u64 c, .int .i64 d] 40) := ⟨_, rfl⟩
  have C0 : Chg (fun _ => False) W w0 := by rw [hw0]; exact (Chg.refl _ _).alloc _
  have o0 : w0.heap[W.heap.size]? = some (.cells #[.int .i64 a, .int .i64 b, .int .u64 c, .int .i64 d] 40 (0, 0)) := by rw [hw0]; exact heap_alloc_new _ _
  have c0 := cell_of o0 0
  have c1 := cell_of o0 1
  have c2 := cell_of o0 2
  have c3 := cell_of o0 3
  have HO := keepH o0
  have HC := keepH C0
  have HT := keepH (k_takes a b c d w0)
  have HH := keepH h
  obtain ⟨t, ht⟩ : ∃ t, t = takesP a b c := ⟨_, rfl⟩
  rw [← ht] at HT HH
  clear o0 C0 h ht
  go_enter Try.func9, Try.ntmps9
  go_upto_region 1 with fail
  rw [← hw0]
  clear hw0
  go_wp2_with fail
  refine HT.out.mono ?_
  rintro e w1 ⟨rfl, C1⟩
  have d3 : w1.cell? ⟨W.heap.size, 3, none⟩ = some (.int .i64 d) := by
    rw [cell_of ((C1.block _ (lt_of HO.out) (fun x => x)).trans HO.out)]
    rfl
  have HC1 := keepH (HC.out.trans C1 (H := fun _ => False) (fun _ _ x => x) (fun _ _ x => x))
  clear C1 c0 c1 c2 c3
  cases t
  · go_wp2_with fail
    (try simp only [Exit.inBlock, Exit.then])
    go_ret2
    exact ⟨rfl, HC1.out⟩
  · have HD : Hid (d < 1 ∨ 1024 < d) := by rcases HH.out with q | q; (cases q); exact q
    go_wp2_with fail
    refine (new_no d HD.out _).mono ?_
    rintro e w2 ⟨rfl, rfl⟩
    go_wp2_with fail
    (try simp only [Exit.inBlock, Exit.then])
    go_ret2
    exact ⟨rfl, HC1.out⟩
structure Fresh (B : Nat) (s sb m nw hd : Nat) : Prop where
  s : B ≤ s
  sb : B ≤ sb
  m : B ≤ m
  nw : B ≤ nw
  hd : B ≤ hd
set_option maxRecDepth 100000 in
set_option maxHeartbeats 1000000 in
theorem k_new (a : Int) (N st mu : Nat) (h : takesP a (N : Int) (st : Int) = true) (m1 : 1 ≤ mu) (m2 : mu ≤ 1024) (W : World) : Calls Try.prog 9 #[.agg #[.int .i64 a, .int .i64 (N : Int), .int .u64 (st : Int), .int .i64 (mu : Int)]] W fun e W' => ∃ s sb m nw hd, e = .returned (.tuple #[.pointer (some ⟨s, 0, none⟩), .int .i64 0]) ∧ SlAt W' s sb m 0 0 (st - 1) 0 (List.replicate N (false, 0)) ∧ MoAt W' m nw hd mu (fun _ => none) (fun _ => none) (fun _ _ => none) 0 ∧ Fresh W.heap.size s sb m nw hd ∧ Chg (fun _ => False) W W' := by
  have hb : N ≤ 256 ∧ 1 ≤ st ∧ st ≤ 1099511627776 := by
    unfold takesP at h
    simp at h
    omega
  obtain ⟨w0, hw0⟩ : ∃ w0, w0 = W.alloc (.cells #[.int .i64 a, .int .i64 (N : Int), .int .u64 (st : Int), .int .i64 (mu : Int)] 40) := ⟨_, rfl⟩
  have C0 : Chg (fun _ => False) W w0 := by rw [hw0]; exact (Chg.refl _ _).alloc _
  have o0 : w0.heap[W.heap.size]? = some (.cells #[.int .i64 a, .int .i64 (N : Int), .int .u64 (st : Int), .int .i64 (mu : Int)] 40 (0, 0)) := by rw [hw0]; exact heap_alloc_new _ _
  have c0 := cell_of o0 0
  have c1 := cell_of o0 1
  have c2 := cell_of o0 2
  have c3 := cell_of o0 3
  have HO := keepH o0
  have HC := keepH C0
  have HT := keepH (k_takes a (N : Int) (st : Int) (mu : Int) w0)
  rw [h] at HT
  have HB := keepH hb
  have HM : Hid (1 ≤ mu ∧ mu ≤ 1024) := ⟨m1, m2⟩
  clear o0 C0 h hb m1 m2
  go_enter Try.func9, Try.ntmps9
  go_upto_region 1 with fail
  rw [← hw0]
  clear hw0
  go_wp2_with fail
  refine HT.out.mono ?_
  rintro e w1 ⟨rfl, C1⟩
  have HO1 := keepH ((C1.block _ (lt_of HO.out) (fun x => x)).trans HO.out)
  have d3 : w1.cell? ⟨W.heap.size, 3, none⟩ = some (.int .i64 (mu : Int)) := by rw [cell_of HO1.out]; rfl
  have HC1 := keepH (HC.out.trans C1 (H := fun _ => False) (fun _ _ x => x) (fun _ _ x => x))
  clear C1 c0 c1 c2 c3
  go_wp2_with fail
  refine (new_gg mu HM.out.1 HM.out.2 _).mono ?_
  rintro e w2 ⟨rfl, M2, C2⟩
  have HO2 := keepH ((C2.block _ (lt_of HO1.out) (fun x => x)).trans HO1.out)
  have HC2 := keepH (HC1.out.trans C2 (H := fun _ => False) (fun _ _ x => x) (fun _ _ x => x))
  have HM2 := keepH M2
  have HZ1 : Hid (W.heap.size ≤ w1.heap.size) := HC1.out.size
  obtain ⟨m, hm⟩ : ∃ m, m = w1.heap.size + 2 := ⟨_, rfl⟩
  have HMM := keepH hm
  rw [← hm] at HM2 ⊢
  clear C2 M2 d3 hm
  have c0 := cell_of HO2.out 0
  have c1 := cell_of HO2.out 1
  have c2 := cell_of HO2.out 2
  have c3 := cell_of HO2.out 3
  go_wp2_with fail
  refine (k_slots HB.out.1 HB.out.2.1 HB.out.2.2 _).mono ?_
  rintro e w3 ⟨sb, rfl, hsb, r3, C3⟩
  obtain ⟨w4, hw4⟩ : ∃ w4, w4 = w3.alloc (.cells (stC 0 m sb N 0 (st - 1) 0) 69) := ⟨_, rfl⟩
  have HE : Hid (SlAt w4 w3.heap.size sb m 0 0 (st - 1) 0 (List.replicate N (false, 0)) ∧ MoAt w4 m w1.heap.size (w1.heap.size + 1) mu (fun _ => none) (fun _ => none) (fun _ _ => none) 0 ∧ Fresh W.heap.size w3.heap.size sb m w1.heap.size (w1.heap.size + 1) ∧ Chg (fun _ => False) W w4) := by
    have z1 := HZ1.out
    have z2 := HMM.out
    have z3 := HC2.out.size
    have z4 := C3.size
    refine ⟨⟨?_, ?_, by have := HB.out; simpa using this.1⟩, ?_, ⟨by omega, by omega, by omega, by omega, by omega⟩, ?_⟩
    · rw [hw4, List.length_replicate]; exact heap_alloc_new _ _
    · rw [hw4]; exact alloc_of r3 _
    · rw [hw4]; exact (HM2.out.quiet C3).quiet ((Chg.refl _ _).alloc _)
    · rw [hw4]; exact (HC2.out.trans C3 (H := fun _ => False) (fun _ _ x => x) (fun _ _ x => x)).alloc _
  have HW4 := keepH hw4
  clear hsb r3 C3 hw4 c0 c1 c2 c3
  go_wp2_with fail
  go_ret2
  have q := HE.out
  rw [HW4.out] at q
  exact ⟨w3.heap.size, sb, m, w1.heap.size, w1.heap.size + 1, rfl, q.1, q.2.1, q.2.2.1, q.2.2.2⟩
set_option maxRecDepth 100000 in
set_option maxHeartbeats 1000000 in
theorem k_content {W : World} {s sb m nw hd mu hc lf dn : Nat} {sl : List (Bool × Nat)} {f h : Nat → Option Nat} {g : Nat → Nat → Option Nat} {n : Nat} (S : SlAt W s sb m 0 hc lf dn sl) (M : MoAt W m nw hd mu f h g n) (hn : n ≤ 8796093022000) :
    Calls Try.prog 8 #[.pointer (some ⟨s, 0, none⟩)] W fun e W' => (∃ p c l, e = .returned (.slice p l.length c) ∧ Lists f 0 18446744073709551615 l ∧ PairsAt W' p l ∧ (∀ bk off, p = some ⟨bk, off, none⟩ → W.heap.size ≤ bk) ∧ l.length ≤ n) ∧ SlAt W' s sb m 0 hc lf dn sl ∧ MoAt W' m nw hd mu f h g n ∧ Chg (fun k => k = s) W W' := by
  obtain ⟨⟨a1, a2, a3⟩, ⟨a4, a5, a6⟩, a7⟩ := st_ap S M
  have ne := S.ne
  have ls := lt_of S.st
  obtain ⟨w1, hw1⟩ : ∃ w1, w1 = W.setCell ⟨s, 0, none⟩ (.int .i32 1) := ⟨_, rfl⟩
  have s1 : w1.heap[s]? = some (.cells (stC 1 m sb sl.length hc lf dn) 69 (0, 0)) := by rw [hw1]; exact set_of S.st 0 _
  have C1 : Chg (fun k => k = s) W w1 := by rw [hw1]; exact (Chg.refl (fun k => k = s) W).setCell (p := ⟨s, 0, none⟩) (fun _ => rfl) _
  have M1 := M.chg C1 (Ne.symm a1) (Ne.symm a2) (Ne.symm a3) (fun k b hk => (a7 k b hk).1)
  have HE : Hid (∀ z p l, Chg (fun _ => False) w1 z → PairsAt z p l → (∀ bk off, p = some ⟨bk, off, none⟩ → w1.heap.size ≤ bk) → z.cell? ⟨s, 0, none⟩ = some (.int .i32 1) ∧ z.frozen? ⟨s, 0, none⟩ = false ∧ Hid (PairsAt (z.setCell ⟨s, 0, none⟩ (.int .i32 0)) p l ∧ (∀ bk off, p = some ⟨bk, off, none⟩ → W.heap.size ≤ bk) ∧ SlAt (z.setCell ⟨s, 0, none⟩ (.int .i32 0)) s sb m 0 hc lf dn sl ∧ MoAt (z.setCell ⟨s, 0, none⟩ (.int .i32 0)) m nw hd mu f h g n ∧ Chg (fun k => k = s) W (z.setCell ⟨s, 0, none⟩ (.int .i32 0)))) := by
    intro z p l cz hp hpb
    have sz := (cz.block s (lt_of s1) (fun x => x)).trans s1
    have c9 : Chg (fun k => k = s) z (z.setCell ⟨s, 0, none⟩ (.int .i32 0)) := (Chg.refl (fun k => k = s) z).setCell (p := ⟨s, 0, none⟩) (fun _ => rfl) _
    have z1 := C1.size
    have ls1 := lt_of s1
    refine ⟨cell_of sz 0, free_of sz 0, hp.chgF c9 (fun bk off e => by have := hpb bk off e; omega), fun bk off e => by have := hpb bk off e; omega, ⟨set_of sz 0 _, ?_, S.len⟩, ?_, ?_⟩
    · exact other_of ((cz.block sb (Nat.lt_of_lt_of_le (lt_of S.row) z1) (fun x => x)).trans ((C1.block sb (lt_of S.row) (Ne.symm ne)).trans S.row)) (Ne.symm ne) _
    · exact (M1.quiet cz).chg c9 (Ne.symm a1) (Ne.symm a2) (Ne.symm a3) (fun k b hk => (a7 k b hk).1)
    · exact (C1.trans cz (H := fun k => k = s) (fun _ _ x => x) (fun _ _ x => x.elim)).trans c9 (fun _ _ x => x) (fun _ _ x => x)
  have HLK := keepH (lock_free muLib ⟨s, 0, none⟩ W (cell_of S.st 0) (free_of S.st 0))
  have HMC := keepH (m_content M1 hn)
  have c2 : w1.cell? ⟨s, 2, none⟩ = some (.pointer (some ⟨m, 0, none⟩)) := cell_of s1 2
  have HW1 := keepH hw1
  clear S M s1 C1 M1 hw1 ls
  go_enter_defers Try.func8, Try.ntmps8
  go_upto_region 5 with (go_at_call 19; refine HLK.out.mono ?_; rintro e w' ⟨rfl, hw'⟩; rw [← HW1.out] at hw'; subst hw')
  go_wp2_with fail
  refine HMC.out.mono ?_
  rintro e z ⟨⟨p, c, l, rfl, hL, hP, hPB, hPL⟩, cz⟩
  obtain ⟨l0, lz, HZ⟩ := HE.out z p l cz hP hPB
  have HUL := keepH (unlock_deferred muLib ⟨s, 0, none⟩ .returning z l0 lz)
  have HL : Hid (Lists f 0 18446744073709551615 l ∧ l.length ≤ n) := ⟨hL, hPL⟩
  clear hL hP hPB hPL cz c2 l0 lz
  go_wp2_with fail
  refine leaves_cons (f := 20) (args := #[.pointer (some ⟨s, 0, none⟩)]) (by simp) (by simp [go_sem]) ?_
  refine HUL.out.mono ?_
  rintro e u' w'' ⟨rfl, rfl, rfl⟩
  exact ⟨_, results_tmp rfl _ _ _, ⟨p, c, l, rfl, HL.out.1, HZ.out.1, HZ.out.2.1, HL.out.2⟩, HZ.out.2.2.1, HZ.out.2.2.2.1, HZ.out.2.2.2.2⟩
end Go.Proofs.Ytgaincicbgojjaa
