/- What must be whatever is asked (layer 11): the whole. -/
import Derived.Test.YtokooplfjibneaaGreatTn
namespace Go.Proofs.YtokooplfjibneaaGreat
open Go.RowKit Go.Shelf
set_option linter.unusedVariables false

theorem mx7_mix : mx7 = mixN 7 := by decide +kernel
theorem dg7 : ((4 : Nat) : Int) = dig (mx7 : Int) 0 := by decide +kernel
theorem neq_tree (w : World) : (binOp .neq 24 (.agg #[.int .u64 1, .int .u64 2]) (.agg #[.int .u64 1, .int .u64 2])).run Tryz.prog w = .ok (.bool false) w := by kernel_rfl
theorem fld_0 (a b c d e f g : Value) (w : World) : (Instr.field 37 (.agg #[a, b, c, d, e, f, g]) 0).run Tryz.prog w = .ok a w := by kernel_rfl
theorem fld_1 (a b c d e f g : Value) (w : World) : (Instr.field 37 (.agg #[a, b, c, d, e, f, g]) 1).run Tryz.prog w = .ok b w := by kernel_rfl
theorem fld_2 (a b c d e f g : Value) (w : World) : (Instr.field 37 (.agg #[a, b, c, d, e, f, g]) 2).run Tryz.prog w = .ok c w := by kernel_rfl
set_option maxRecDepth 100000 in
set_option maxHeartbeats 8000000 in
theorem live_11 (W : World) : Calls Tryz.prog 6 #[] W fun e W' => e = .returned (.bool true) ∧ Chg (fun _ => False) W W' := by
  have hnt := neq_tree
  have fl1 := fld_1
  have fl2 := fld_2
  go_enter Tryz.func6, Tryz.ntmps6
  go_wp2_with fail
  refine (mem_11 W).mono ?_
  rintro e W1 ⟨m, b, rfl, M1, B1, C1⟩
  have HM1 := keepH M1
  have HB1 := keepH B1
  have HC1 := keepH C1
  have HML : Hid (m < W1.heap.size) := M1.lt
  clear M1 B1 C1
  obtain ⟨w2, hw2⟩ : ∃ w2, w2 = W1.alloc (.cells #[.int .u64 1, .int .u64 2] 24) := ⟨_, rfl⟩
  have U2 : Hid (Blk w2 W1.heap.size 24 [.int .u64 1, .int .u64 2]) := by rw [hw2]; exact heap_alloc_new _ _
  have HC2 : Hid (Chg (fun _ => False) W1 w2) := by rw [hw2]; exact (Chg.refl _ _).alloc _
  have u0 : w2.cell? ⟨W1.heap.size, 0, none⟩ = some (.int .u64 1) := U2.out.cell 0
  have u1 : w2.cell? ⟨W1.heap.size, 1, none⟩ = some (.int .u64 2) := U2.out.cell 1
  have HS0 : Hid (w2.cell? ⟨W1.heap.size, 0, none⟩ = some (.int .u64 1) ∧ w2.cell? ⟨W1.heap.size, 1, none⟩ = some (.int .u64 2)) := ⟨u0, u1⟩
  go_upto_region 2 with fail
  rw [← hw2]
  clear hw2
  go_upto_region 4 with fail
  go_region_held3 (fun w' => w'.cell? ⟨W1.heap.size, 0, none⟩ = some (.int .u64 1) ∧ w'.cell? ⟨W1.heap.size, 1, none⟩ = some (.int .u64 2)) (first | exact HS0.out | exact hS5 | exact hS6)
    (first
      | (go_at_call 23; refine (new_put 1 2 7 mx7 4 6 1 _ (by decide) mx7_mix dg7 (by decide) (by decide)).mono ?_; rintro e w3 ⟨p, q, rfl, hpw, hpq, P3, R3, C3⟩; have U3 := (show Blk w2.drew W1.heap.size 24 _ from U2.out).chg C3 (fun x => x); have hS5 : w3.cell? ⟨W1.heap.size, 0, none⟩ = some (.int .u64 1) ∧ w3.cell? ⟨W1.heap.size, 1, none⟩ = some (.int .u64 2) := ⟨U3.cell 0, U3.cell 1⟩; have HU3 := keepH U3; have HP3 := keepH P3; have HR3 := keepH R3; have HC3 := keepH C3; have HZ3 : Hid (w2.heap.size ≤ p ∧ p < q) := ⟨hpw, hpq⟩; clear U3 P3 R3 C3 hpw hpq)
      | (go_at_call 5; refine (new_find 1 2 7 mx7 4 6 _ (by decide) mx7_mix dg7 (by decide) (by decide)).mono ?_; rintro e w4 ⟨p2, q2, rfl, hpw2, hpq2, P4, R4, C4⟩; have U4 := HU3.out.chg C4 (fun x => x); have hS6 : w4.cell? ⟨W1.heap.size, 0, none⟩ = some (.int .u64 1) ∧ w4.cell? ⟨W1.heap.size, 1, none⟩ = some (.int .u64 2) := ⟨U4.cell 0, U4.cell 1⟩; have HP4 := keepH P4; have HR4 := keepH R4; have HC4 := keepH C4; have HZ4 : Hid (w3.heap.size ≤ p2 ∧ p2 < q2) := ⟨hpw2, hpq2⟩; clear U4 P4 R4 C4 hpw2 hpq2))
  go_wp2_with fail
  have C14 : Chg (fun _ => False) W1 w4 := (HC2.out.drew.trans HC3.out (H := fun _ => False) (fun _ _ x => x) (fun _ _ x => x)).trans HC4.out (fun _ _ x => x) (fun _ _ x => x)
  have HM4 := keepH (HM1.out.chg C14 (fun x => x))
  have HC14 := keepH C14
  clear C14 u0 u1 hS5 hS6
  refine (m_view _ b 0 _ HM4.out).mono ?_
  rintro e w ⟨rfl, rfl⟩
  obtain ⟨w5, hw5⟩ : ∃ w5, w5 = w4.alloc (.cells #[.iface 112 (.pointer (some ⟨b, 0, none⟩)), .int .i64 0, .int .i64 0] 80) := ⟨_, rfl⟩
  have CC5 : Chg (fun _ => False) w4 w5 := by rw [hw5]; exact (Chg.refl _ _).alloc _
  have HV5 : Hid (IsView w5 w4.heap.size b 0 0) := by rw [hw5]; exact heap_alloc_new _ _
  have HNP : Hid (p ≠ p2 ∧ p ≠ q2 ∧ q ≠ p ∧ q ≠ p2 ∧ q ≠ q2 ∧ p2 ≠ q2) := by
    have z3 := HZ3.out
    have z4 := HZ4.out
    have l3 := lt_of HP3.out
    have l4 := lt_of HR3.out
    show _ ∧ _ ∧ _ ∧ _ ∧ _ ∧ _
    omega
  have HL : Hid (PInv W m b w4.heap.size 256 p q (fun k => k = p2 ∨ k = q2) w5 0 2 0 w5 ∧ Blk w5 p2 51 (M0 p2 q2) ∧ Blk w5 q2 150 (r0L 1 6)) := by
    obtain ⟨F, l, B, L, inF, nm⟩ := HB1.out
    have s1 := HC1.out.size
    have s2 := HC2.out.size
    have s3 := HC3.out.size
    have s4 := HC4.out.size
    have s5 := CC5.size
    have z3 := HZ3.out
    have z4 := HZ4.out
    have zm := HML.out
    have lp := lt_of HP3.out
    have lq := lt_of HR3.out
    have lp2 := lt_of HP4.out
    have lq2 := lt_of HR4.out
    have nn := HNP.out
    have s3' : w2.heap.size ≤ w3.heap.size := s3
    have C15 : Chg (fun _ => False) W1 w5 := HC14.out.trans CC5 (fun _ _ x => x) (fun _ _ x => x)
    have S : St W w5 m b w4.heap.size F 0 256 66 0 cs0 l := ⟨B.chg C15 (fun _ _ h => h), HV5.out, HM4.out.chg CC5 (fun x => x), fun x => by have := B.lt' _ x; omega, nm, by omega, inF, by omega, HC1.out.trans C15 (fun _ _ x => x) (fun _ _ x => x)⟩
    have P5 : Blk w5 p 66 (L0 p q) := (HP3.out.chg HC4.out (fun x => x)).chg CC5 (fun x => x)
    have R5 : Blk w5 q 150 (r0L 1 6) := (HR3.out.chg HC4.out (fun x => x)).chg CC5 (fun x => x)
    have P6 : Blk w5 p2 51 (M0 p2 q2) := HP4.out.chg CC5 (fun x => x)
    have R6 : Blk w5 q2 150 (r0L 1 6) := HR4.out.chg CC5 (fun x => x)
    refine ⟨⟨⟨⟨F, l, S, L, fun k e => ?_⟩, fun e => ?_, fun k e => (by cases e), R5⟩, P5, fun k e => ⟨?_, rfl⟩⟩, P6, R6⟩
    · have hB : F k → k < W1.heap.size := fun x => B.lt' _ x
      rcases e with ((e | e) | e) | e | e
      · subst e; exact ⟨fun x => by have := hB x; omega, by omega, by omega, by omega, by omega⟩
      · subst e; exact ⟨fun x => by have := hB x; omega, by omega, by omega, by omega, by omega⟩
      · subst e; exact ⟨fun x => by have := hB x; omega, by omega, by omega, by omega, by omega⟩
      · subst e; exact ⟨fun x => by have := hB x; omega, by omega, by omega, by omega, by omega⟩
      · cases e
    · rcases e with (e | e) | e <;> omega
    · rcases e with e | e <;> (subst e; omega)
  rw [← hw5]
  clear hw5 CC5 HV5 HM4 HB1 HC1 HC2 HC3 HC4 HC14 HP3 HR3 HP4 HR4 HU3 U2 HS0 HZ3 HZ4 HM1 HML
  obtain ⟨v, hv⟩ : ∃ v, v = w4.heap.size := ⟨_, rfl⟩
  rw [← hv] at HL ⊢
  clear hv
  go_wp2_with fail
  refine (alone_any (.iface 26 (.pointer (some ⟨p, 0, none⟩))) (.pointer (some ⟨v, 0, none⟩)) (PInv W m b v 256 p q (fun k => k = p2 ∨ k = q2) w5 0 2) 7 8 (by omega) (by omega) _ HL.out.1 (fun i w hi h => pinv_step W m b v 256 p q _ (by have := HNP.out; intro e; omega) w5 0 2 m7_256 (by omega) (by omega) i w hi h)).mono ?_
  rintro e w6 ⟨rfl, S6, K6⟩
  have HV6 : Hid (IsView w6 v b 0 8) := by
    obtain ⟨F, l, S, _⟩ := S6
    exact S.view
  have HR6 : Hid (FdInv W m b v 256 p2 q2 8 10 0 w6) := ⟨⟨S6.mono (fun k e => by
    rcases e with e | e | e
    · exact .inl (.inl e)
    · exact .inl (.inr e)
    · cases e), fun e => by have := HNP.out; have e' : q2 = p2 := e; omega, fun k e => (by cases e), (K6 q2 (.inr rfl)).2.trans HL.out.2.2⟩, (K6 p2 (.inl rfl)).2.trans HL.out.2.1⟩
  clear S6 K6 HL
  go_wp2_with fail
  refine (v_accesses _ _ _ _ _ HV6.out).mono ?_
  rintro e w ⟨rfl, rfl⟩
  clear HV6
  go_wp2_with fail
  refine (alone_any (.iface 25 (.pointer (some ⟨p2, 0, none⟩))) (.pointer (some ⟨v, 0, none⟩)) (FdInv W m b v 256 p2 q2 8 10) 4 5 (by omega) (by omega) _ HR6.out (fun i w hi h => fdinv_step W m b v 256 p2 q2 8 10 (by omega) (by omega) i w hi h)).mono ?_
  rintro e w7 ⟨rfl, S7, P7⟩
  have HP7 := keepH P7
  have HC7 := keepH S7.chg
  clear S7 P7 HR6
  go_wp2_with fail
  refine (find_answer _ HP7.out).mono ?_
  rintro e w8 ⟨rfl, C8⟩
  have HP8 := keepH (HP7.out.chg C8 (fun x => x))
  have HC8 : Hid (Chg (fun _ => False) W w8) := HC7.out.trans C8 (fun _ _ x => x) (fun _ _ x => x)
  clear C8 HP7 HC7
  go_wp2_with fail
  refine (find_answer _ HP8.out).mono ?_
  rintro e w9 ⟨rfl, C9⟩
  have HC9 : Hid (Chg (fun _ => False) W w9) := HC8.out.trans C9 (fun _ _ x => x) (fun _ _ x => x)
  clear C9 HP8 HC8
  go_wp2_with fail
  go_ret
  exact ⟨by simp, HC9.out⟩
end Go.Proofs.YtokooplfjibneaaGreat
