/- What must be whatever is asked (layer 13): a Snapshot alone on two free slots. -/
import Derived.Test.YtjgcahmnfpfalaaGreatAk
namespace Go.Proofs.YtjgcahmnfpfalaaGreat
open Go.RowKit Go.Shelf
set_option linter.unusedVariables false

set_option maxRecDepth 100000 in
set_option maxHeartbeats 2000000 in
theorem live_13 (W : World) : Calls Tryz.prog 6 #[] W fun e W' => e = .returned (.bool true) ∧ Chg (fun _ => False) W W' := by
  go_enter Tryz.func6, Tryz.ntmps6
  go_wp2_with fail
  refine (mem_13 W).mono ?_
  rintro e W1 ⟨m, b, rfl, M1, B1, C1, Z1⟩
  obtain ⟨w2, hw2⟩ : ∃ w2, w2 = W1.alloc (.cells #[.int .u64 1, .int .u64 2, .int .i64 2, .int .u64 100] 24) := ⟨_, rfl⟩
  have T2 : w2.heap[W1.heap.size]? = some (.cells #[.int .u64 1, .int .u64 2, .int .i64 2, .int .u64 100] 24 (0, 0)) := by rw [hw2]; exact heap_alloc_new _ _
  have C2 : Chg (fun _ => False) W1 w2 := by rw [hw2]; exact (Chg.refl _ _).alloc _
  have HTB : Hid (W1.heap.size < w2.heap.size) := lt_of T2
  have HM2 := keepH (M1.chg C2 (fun x => x))
  have HML : Hid (m < W1.heap.size ∧ W.heap.size ≤ m ∧ W.heap.size ≤ W1.heap.size) := ⟨M1.lt, Z1, C1.size⟩
  have HB1 := keepH B1
  have HC1 := keepH C1
  have HC2 := keepH C2
  have HT2 := keepH T2
  have a0 : w2.cell? ⟨W1.heap.size, 0, none⟩ = some (.int .u64 1) := cell_of T2 0
  have a1 : w2.cell? ⟨W1.heap.size, 1, none⟩ = some (.int .u64 2) := cell_of T2 1
  have a2 : w2.cell? ⟨W1.heap.size, 2, none⟩ = some (.int .i64 2) := cell_of T2 2
  have a3 : w2.cell? ⟨W1.heap.size, 3, none⟩ = some (.int .u64 100) := cell_of T2 3
  clear M1 B1 C1 Z1 T2 C2
  go_upto_region 4 with fail
  rw [← hw2]
  clear hw2
  obtain ⟨tb, htb⟩ : ∃ tb, tb = W1.heap.size := ⟨_, rfl⟩
  rw [← htb] at a0 a1 a2 a3 HT2 HTB HML ⊢
  have HTE := keepH htb
  clear htb
  go_wp2_with fail
  refine (sn_new 1 2 2 100 (by omega) (by omega) _).mono ?_
  rintro e W3 ⟨p, q, t, rfl, P3, N3, K3, C3, Z0, Z1, Z2, Z3⟩
  have HP3 := keepH P3
  have HN3 := keepH N3
  have HK3 := keepH K3
  have HZ : Hid (w2.heap.size ≤ p ∧ p < q ∧ q < t ∧ t < W3.heap.size) := ⟨Z0, Z1, Z2, Z3⟩
  have HM3 := keepH (HM2.out.chg C3 (fun x => x))
  have HT3 := keepH ((C3.block tb HTB.out (fun x => x)).trans HT2.out)
  have HC3 := keepH C3
  clear P3 N3 K3 C3 Z0 Z1 Z2 Z3 HM2 HT2 a0 a1 a2 a3
  go_wp2_with fail
  refine (m_view _ b 0 _ HM3.out).mono ?_
  rintro e w ⟨rfl, rfl⟩
  obtain ⟨w4, hw4⟩ : ∃ w4, w4 = W3.alloc (.cells #[.iface 109 (.pointer (some ⟨b, 0, none⟩)), .int .i64 0, .int .i64 0] 91) := ⟨_, rfl⟩
  have CC4 : Chg (fun _ => False) W3 w4 := by rw [hw4]; exact (Chg.refl _ _).alloc _
  have HV4 : Hid (IsView w4 W3.heap.size b 0 0) := by rw [hw4]; exact heap_alloc_new _ _
  have HT4 := keepH ((CC4.block tb (lt_of HT3.out) (fun x => x)).trans HT3.out)
  have HI : Hid (SnI W m b W3.heap.size 4096 0 p q t 1 100 (fun k => k = tb) 2 2 4 0 [0, 1, 0, 0] 2 0 0 1 1 w4 0 w4) := by
    obtain ⟨F, l, B, L, inF, nm⟩ := HB1.out
    have C14 : Chg (fun _ => False) W1 w4 := (HC2.out.f HC3.out).f CC4
    have z := HZ.out
    have zm := HML.out
    have zt := HTB.out
    have ze := HTE.out
    have z4 := CC4.size
    have zv := HV4.out.lt
    have S : St W w4 m b W3.heap.size F 0 4096 4 0 [0, 1, 0, 0] l := ⟨B.chg C14 (fun _ _ h => h), HV4.out, HM3.out.chg CC4 (fun x => x), fun x => by have := B.lt' _ x; omega, nm, by omega, inF, by omega, HC1.out.f C14⟩
    refine ⟨⟨⟨F, l, S, L, fun k e => ?_⟩, HP3.out.chg CC4 (fun x => x), HN3.out.chg CC4 (fun x => x), HK3.out.chg CC4 (fun x => x), by omega, by omega, by omega, fun (e : p = tb) => by omega, fun (e : q = tb) => by omega, fun (e : t = tb) => by omega⟩, Kept.refl _ _⟩
    have e' : k = tb ∨ k = p ∨ k = q ∨ k = t := e
    exact ⟨fun x => by have := B.lt' _ x; omega, by omega, by omega, by omega, by omega⟩
  rw [← hw4]
  clear hw4 CC4 HV4 HM3 HB1 HC1 HC2 HC3 HP3 HN3 HK3 HT3 HZ HML HTB HTE
  obtain ⟨v, hv⟩ : ∃ v, v = W3.heap.size := ⟨_, rfl⟩
  rw [← hv] at HI ⊢
  clear hv
  go_wp2_with fail
  refine (alone_any (.iface 25 (.pointer (some ⟨p, 0, none⟩))) (.pointer (some ⟨v, 0, none⟩)) (SnI W m b v 4096 0 p q t 1 100 (fun k => k = tb) 2 2 4 0 [0, 1, 0, 0] 2 0 0 1 1 w4) 6 7 (by omega) (by omega) _ HI.out (fun i w hi h => sni_step W m b v 4096 0 p q t 1 100 (fun k => k = tb) 2 2 4 0 [0, 1, 0, 0] 2 0 0 1 1 w4 (by decide) (by decide) (by decide) (by decide) (by decide) (by decide) (by decide) (by decide) (by decide) (by decide) (by decide) (by decide) (by decide) (by decide) i w hi h)).mono ?_
  rintro e w5 ⟨rfl, mv, S5, K5⟩
  have HP5 := keepH S5.blk
  have HT5 := keepH ((K5 tb rfl).trans HT4.out)
  have HV5 : Hid (IsView w5 v b 0 7) := by
    obtain ⟨F, l, S, _⟩ := S5.sr
    exact S.view
  have HM5 : Hid (IsMem w5 m b) := by
    obtain ⟨F, l, S, _⟩ := S5.sr
    exact S.mem
  have HB5 : Hid (∃ F l, Bank w5 F b 4096 4 [0, 2, 4194307, 0] l) := by
    obtain ⟨F, l, S, _⟩ := S5.sr
    exact ⟨F, l, S.bank⟩
  have HC5 := keepH S5.sr.chg
  have k0 : w5.cell? ⟨tb, 0, none⟩ = some (.int .u64 1) := cell_of HT5.out 0
  clear S5 K5 HI HT4 HT5
  go_wp2_with fail
  refine (sn_handle HP5.out).mono ?_
  rintro e w ⟨rfl, rfl⟩
  go_wp2_with fail
  refine (sn_stamp HP5.out).mono ?_
  rintro e w ⟨rfl, rfl⟩
  go_wp2_with fail
  refine (v_accesses _ _ _ _ _ HV5.out).mono ?_
  rintro e w ⟨rfl, rfl⟩
  go_wp2_with fail
  obtain ⟨F, l, B⟩ := HB5.out
  have HPK := keepH (m_peek m b 4096 4 1 F [0, 2, 4194307, 0] l w HM5.out B (by omega))
  clear B
  refine HPK.out.mono ?_
  rintro e w ⟨rfl, rfl⟩
  have e2 : cellN [0, 2, 4194307, 0] 1 = 2 := by decide
  rw [e2]
  clear HPK
  go_wp2_with fail
  go_ret
  exact ⟨by simp, HC5.out⟩
end Go.Proofs.YtjgcahmnfpfalaaGreat
