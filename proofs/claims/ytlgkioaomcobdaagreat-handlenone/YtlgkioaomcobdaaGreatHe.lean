/- What must be whatever is asked (layer 14). -/
import Derived.Test.YtlgkioaomcobdaaGreatHd
namespace Go.Proofs.YtlgkioaomcobdaaGreat
open Go.RowKit Go.Shelf
set_option linter.unusedVariables false

theorem SR.more {W : World} {m b v : Nat} {th : Int} {most : Nat} {w w' : World} {next made : Nat} {cs : List Nat} {n : Nat} {D E : Nat → Prop} (h : SR W m b v th most w next made cs n D) (c : Chg (fun _ => False) w w') (hE : ∀ k, E k → D k ∨ (w.heap.size ≤ k ∧ k < w'.heap.size)) : SR W m b v th most w' next made cs n E := by
  obtain ⟨F, l, S, L, A⟩ := h
  have z1 := S.view.lt
  have z2 := S.mem.lt
  have z3 := S.chg.size
  have z4 := c.size
  refine ⟨F, l, S.chg' c, L, fun k e => (hE k e).elim (fun e => ⟨(A k e).1, (A k e).2.1, (A k e).2.2.1, (A k e).2.2.2.1, by have := (A k e).2.2.2.2; omega⟩) (fun e => ⟨fun x => by have := S.bank.lt' _ x; omega, by omega, by omega, by omega, e.2⟩)⟩
theorem SR.ask {W : World} {m b v : Nat} {th : Int} {most : Nat} {w : World} {next made : Nat} {cs : List Nat} {n : Nat} {D : Nat → Prop} (h : SR W m b v th most w next made cs n D) {p cell gen st : Nat} {miss err : Int} {t : TypeId} {rest : List Value} (hD : D p) (hp : Blk w p t (askL true cell gen miss false st err rest)) (x : Nat) (hx : cellN cs cell = x) (hx2 : x < 18446744073709551616) (hk : x % 4 = 3) (hg : x / 4 % 1048576 = gen) (ha : cell < 18446744073709551616) (h1 : made < 1099511627776) (h2 : n < 1099511627776) :
    Calls Tryz.prog 25 #[.pointer (some ⟨p, 0, none⟩), .pointer (some ⟨v, 0, none⟩)] w fun e w' => e = .returned (.tuple #[]) ∧ Blk w' p t (askL true cell gen miss true (x / 4194304) 0 rest) ∧ SR W m b v th most w' next (made + 1) cs (n + 1) D ∧ ∀ k, D k → k ≠ p → w'.heap[k]? = w.heap[k]? := by
  refine (ask_ok hp _ x hx2 hk hg (fun u => SR W m b v th most u next (made + 1) cs (n + 1) D ∧ ∀ k, D k → k ≠ p → u.heap[k]? = w.heap[k]?) (fun w1 C1 P1 => ?_)).mono ?_
  · refine ((h.put C1 (fun k e => by rw [e]; exact hD)).load cell ha h1 h2).mono ?_
    rintro e w2 ⟨rfl, S, K⟩
    exact ⟨by rw [hx], ⟨S, fun k hk hne => (K k hk).trans (C1.block k (h.lt k hk) hne)⟩, (K p hD).trans P1⟩
  · rintro e w3 ⟨rfl, P, u, ⟨S, K⟩, C⟩
    exact ⟨rfl, P, S.put C (fun k e => by rw [e]; exact hD), fun k hk hne => (C.block k (S.lt k hk) hne).trans (K k hk hne)⟩
theorem SR.opStep {W : World} {m b v : Nat} {th : Int} {most : Nat} {w : World} {next made : Nat} {cs : List Nat} {n : Nat} {D : Nat → Prop} (h : SR W m b v th most w next made cs n D) {p cell gen st : Nat} {miss err : Int} (hD : D p) (hp : Blk w p 69 (askL true cell gen miss false st err [])) (x : Nat) (hx : cellN cs cell = x) (hx2 : x < 18446744073709551616) (hk : x % 4 = 3) (hg : x / 4 % 1048576 = gen) (ha : cell < 18446744073709551616) (h1 : made < 1099511627776) (h2 : n < 1099511627776) :
    Calls Tryz.prog 7 #[.pointer (some ⟨p, 0, none⟩), .pointer (some ⟨v, 0, none⟩)] w fun e w' => e = .returned (.bool true) ∧ Blk w' p 69 (askL true cell gen miss true (x / 4194304) 0 []) ∧ SR W m b v th most w' next (made + 1) cs (n + 1) D ∧ ∀ k, D k → k ≠ p → w'.heap[k]? = w.heap[k]? :=
  op_step p _ _ w (h.ask hD hp x hx hx2 hk hg ha h1 h2)
theorem SR.clStep {W : World} {m b v : Nat} {th : Int} {most : Nat} {w : World} {next made : Nat} {cs : List Nat} {n : Nat} {D : Nat → Prop} (h : SR W m b v th most w next made cs n D) {p cell gen st op : Nat} {miss err : Int} (hD : D p) (hp : Blk w p 71 (askL true cell gen miss false st err [.int .u64 (op : Int)])) (x : Nat) (hx : cellN cs cell = x) (hx2 : x < 18446744073709551616) (hk : x % 4 = 3) (hg : x / 4 % 1048576 = gen) (ha : cell < 18446744073709551616) (h1 : made < 1099511627776) (h2 : n < 1099511627776) :
    Calls Tryz.prog 8 #[.pointer (some ⟨p, 0, none⟩), .pointer (some ⟨v, 0, none⟩)] w fun e w' => e = .returned (.bool true) ∧ Blk w' p 71 (askL true cell gen miss true (x / 4194304) (if x / 4194304 = op then 0 else miss) [.int .u64 (op : Int)]) ∧ SR W m b v th most w' next (made + 1) cs (n + 1) D ∧ ∀ k, D k → k ≠ p → w'.heap[k]? = w.heap[k]? := by
  by_cases e : x / 4194304 = op
  · rw [if_pos e]
    refine (cl_stepS _ _ e w (h.ask hD hp x hx hx2 hk hg ha h1 h2)).mono ?_
    rintro e w3 ⟨rfl, P, u, ⟨S, K⟩, C⟩
    exact ⟨rfl, P, S.put C (fun k e => by rw [e]; exact hD), fun k hk hne => (C.block k (S.lt k hk) hne).trans (K k hk hne)⟩
  · rw [if_neg e]
    refine (cl_stepN _ _ e w (h.ask hD hp x hx hx2 hk hg ha h1 h2)).mono ?_
    rintro e w3 ⟨rfl, P, u, ⟨S, K⟩, C⟩
    exact ⟨rfl, P, S.put C (fun k e => by rw [e]; exact hD), fun k hk hne => (C.block k (S.lt k hk) hne).trans (K k hk hne)⟩
def cs4 : List Nat := alN 200 1 (stN 200 [] 100 1) (List.replicate 2 0)
def cs5 : List Nat := stN 200 (casN 200 (stN 200 (casN 200 cs4 (sumN 1 0) 0 (wordN 1 0 0)) (sumN 1 0) (wordN 2 0 1)) 100 1 (1 + 1)) (sumN 1 0) (wordN 3 0 1)
theorem na_1 (miss : Int) (W : World) : Calls Tryz.prog 29 #[.agg #[.int .u64 100, .int .u64 1, .int .i64 2, .int .u64 50], .int .u64 1, .int .i64 miss] W fun e W' => e = .returned (.agg #[.bool true, .int .u64 1, .int .u64 0, .int .i64 miss, .bool false, .int .u64 0, .int .i64 0]) ∧ Chg (fun _ => False) W W' :=
  na_T 100 1 50 1 0 0 2 miss (by omega) (by decide) (by decide) (by decide) (by omega) (by omega) W
set_option maxRecDepth 100000 in
set_option maxHeartbeats 8000000 in
theorem live_all (W : World) : Calls Tryz.prog 4 #[] W fun e W' => e = .returned (.bool true) ∧ Chg (fun _ => False) W W' := by
  go_enter Tryz.func4, Tryz.ntmps4
  go_wp2_with fail
  refine (m_new 200 W (by omega)).mono ?_
  rintro e W1 ⟨rfl, M1, B1, C1, S1⟩
  have S2 := keepH (SR.new0 (th := 0) M1 B1 C1 S1)
  have HM1 := keepH M1
  clear B1 S1 C1 M1
  go_wp2_with fail
  refine (m_view _ W.heap.size 0 _ HM1.out).mono ?_
  rintro e w ⟨rfl, rfl⟩
  clear HM1
  obtain ⟨w2, hw2⟩ : ∃ w2, w2 = W1.alloc (.cells #[.iface 61 (.pointer (some ⟨W.heap.size, 0, none⟩)), .int .i64 0, .int .i64 0] 64) := ⟨_, rfl⟩
  rw [← hw2] at S2 ⊢
  clear hw2
  obtain ⟨v, hv⟩ : ∃ v, v = W1.heap.size := ⟨_, rfl⟩
  rw [← hv] at S2 ⊢
  clear hv
  obtain ⟨b, hb⟩ : ∃ b, b = W.heap.size := ⟨_, rfl⟩
  rw [← hb] at S2 ⊢
  clear hb
  obtain ⟨m, hm⟩ : ∃ m, m = b + 1 := ⟨_, rfl⟩
  rw [← hm] at S2 ⊢
  clear hm
  go_wp2_with fail
  refine (S2.out.storeA 100 1 (by omega) (by omega) (by omega) (by omega)).mono ?_
  rintro e w3 ⟨rfl, S3, K3⟩
  have M3 := keepH (S3.make 100 2 50 (by omega) (by omega) (by omega) (by omega) (by decide) (by omega) (by omega))
  clear S2 S3 K3
  go_wp2_with fail
  refine M3.out.mono ?_
  rintro e w4 ⟨rfl, S4, K4⟩
  have e4 : alAt 200 1 2 = 1 := by decide
  have e4n : alNext 200 1 2 = 3 := by decide
  rw [e4n] at S4
  rw [e4]
  have HS4 := keepH S4
  clear S4 K4 M3 e4 e4n
  have HZ4 : Hid (v < w4.heap.size) := by
    obtain ⟨F, l, S, _⟩ := HS4.out
    exact S.view.lt
  obtain ⟨w5, hw5⟩ : ∃ w5, w5 = w4.alloc (.cells #[.int .u64 100, .int .u64 1, .int .i64 2, .int .u64 50] 24) := ⟨_, rfl⟩
  have T5 : w5.heap[w4.heap.size]? = some (.cells #[.int .u64 100, .int .u64 1, .int .i64 2, .int .u64 50] 24 (0, 0)) := by rw [hw5]; exact heap_alloc_new _ _
  have C5 : Chg (fun _ => False) w4 w5 := by rw [hw5]; exact (Chg.refl _ _).alloc _
  have a0 : w5.cell? ⟨w4.heap.size, 0, none⟩ = some (.int .u64 100) := cell_of T5 0
  have a1 : w5.cell? ⟨w4.heap.size, 1, none⟩ = some (.int .u64 1) := cell_of T5 1
  have a2 : w5.cell? ⟨w4.heap.size, 2, none⟩ = some (.int .i64 2) := cell_of T5 2
  have a3 : w5.cell? ⟨w4.heap.size, 3, none⟩ = some (.int .u64 50) := cell_of T5 3
  have HT5 := keepH T5
  have HC5 := keepH C5
  clear T5 C5
  go_upto_region 7 with fail
  rw [← hw5]
  clear hw5
  obtain ⟨tb, htb⟩ : ∃ tb, tb = w4.heap.size := ⟨_, rfl⟩
  rw [← htb] at a0 a1 a2 a3 HT5 ⊢
  have HTB := keepH htb
  clear htb
  go_wp2_with fail
  refine (sn_new 100 1 2 50 (by omega) (by omega) _).mono ?_
  rintro e w6 ⟨p, q, t, rfl, P6, N6, K6, C6, Z0, Z1, Z2, Z3⟩
  have HT6 := keepH ((C6.block tb (lt_of HT5.out) (fun x => x)).trans HT5.out)
  have HI : Hid (SnI W m b v 200 0 p q t 100 50 (fun k => k = tb) 1 2 3 2 cs4 2 0 0 1 1 w6 0 w6) := by
    have zt := lt_of HT5.out
    have ze := HTB.out
    have z6 := C6.size
    refine ⟨⟨HS4.out.more (HC5.out.f C6) (fun k e => .inr ?_), P6, N6, K6, by omega, by omega, by omega, fun (e : p = tb) => by omega, fun (e : q = tb) => by omega, fun (e : t = tb) => by omega⟩, Kept.refl _ _⟩
    have e' : k = tb ∨ k = p ∨ k = q ∨ k = t := e
    omega
  have HPT : Hid (p ≠ tb) := by
    have zt := lt_of HT5.out
    show p ≠ tb
    omega
  clear P6 N6 K6 C6 Z0 Z1 Z2 Z3 a0 a1 a2 a3 HT5 HC5 HS4 HZ4 HTB
  go_wp2_with fail
  refine (alone_any (.iface 52 (.pointer (some ⟨p, 0, none⟩))) (.pointer (some ⟨v, 0, none⟩)) (SnI W m b v 200 0 p q t 100 50 (fun k => k = tb) 1 2 3 2 cs4 2 0 0 1 1 w6) 6 20 (by omega) (by omega) _ HI.out (fun i w hi h => sni_step W m b v 200 0 p q t 100 50 (fun k => k = tb) 1 2 3 2 cs4 2 0 0 1 1 w6 (by decide) (by decide) (by decide) (by decide) (by decide) (by decide) (by decide) (by decide) (by decide) (by decide) (by decide) (by decide) (by decide) (by decide) i w hi h)).mono ?_
  rintro e w7 ⟨rfl, mv, S7, K7⟩
  have HP7 := keepH S7.blk
  have HT7 := keepH ((K7 tb rfl).trans HT6.out)
  have HS7 : Hid (SR W m b v 0 200 w7 3 9 cs5 9 (fun k => k = tb ∨ k = p)) := S7.sr.mono (fun k e => e.elim (fun e => .inl e) (fun e => .inr (.inl e)))
  have a0 : w7.cell? ⟨tb, 0, none⟩ = some (.int .u64 100) := cell_of HT7.out 0
  have a1 : w7.cell? ⟨tb, 1, none⟩ = some (.int .u64 1) := cell_of HT7.out 1
  have a2 : w7.cell? ⟨tb, 2, none⟩ = some (.int .i64 2) := cell_of HT7.out 2
  have a3 : w7.cell? ⟨tb, 3, none⟩ = some (.int .u64 50) := cell_of HT7.out 3
  clear S7 K7 HI HT6
  go_wp2_with fail
  refine (op_new 100 1 50 1 1 0 2 true (na_1 33) _).mono ?_
  rintro e w8 ⟨po, rfl, P8, C8, Z8⟩
  have HO8 := keepH P8
  have HC8 := keepH C8
  have HT8 := keepH ((C8.block tb (lt_of HT7.out) (fun x => x)).trans HT7.out)
  have HZ8 : Hid (w7.heap.size ≤ po ∧ po < w8.heap.size) := ⟨Z8, lt_of P8⟩
  clear P8 C8 Z8 a0 a1 a2 a3
  have a0 : w8.cell? ⟨tb, 0, none⟩ = some (.int .u64 100) := cell_of HT8.out 0
  have a1 : w8.cell? ⟨tb, 1, none⟩ = some (.int .u64 1) := cell_of HT8.out 1
  have a2 : w8.cell? ⟨tb, 2, none⟩ = some (.int .i64 2) := cell_of HT8.out 2
  have a3 : w8.cell? ⟨tb, 3, none⟩ = some (.int .u64 50) := cell_of HT8.out 3
  go_wp2_with fail
  refine (cl_new 100 1 50 1 1 0 2 true 2 (na_1 34) _).mono ?_
  rintro e w9 ⟨pc, rfl, P9, C9, Z9⟩
  have HD9 := keepH P9
  have HC9 := keepH C9
  have HT9 := keepH ((C9.block tb (lt_of HT8.out) (fun x => x)).trans HT8.out)
  have HZ9 : Hid (w8.heap.size ≤ pc ∧ pc < w9.heap.size) := ⟨Z9, lt_of P9⟩
  clear P9 C9 Z9 a0 a1 a2 a3
  have a0 : w9.cell? ⟨tb, 0, none⟩ = some (.int .u64 100) := cell_of HT9.out 0
  have a1 : w9.cell? ⟨tb, 1, none⟩ = some (.int .u64 1) := cell_of HT9.out 1
  have a2 : w9.cell? ⟨tb, 2, none⟩ = some (.int .i64 2) := cell_of HT9.out 2
  have a3 : w9.cell? ⟨tb, 3, none⟩ = some (.int .u64 50) := cell_of HT9.out 3
  go_wp2_with fail
  refine (cl_new 100 1 50 1 1 0 2 true 1 (na_1 34) _).mono ?_
  rintro e w10 ⟨pd, rfl, P10, C10, Z10⟩
  have HE10 := keepH P10
  have HC10 := keepH C10
  have HT10 := keepH ((C10.block tb (lt_of HT9.out) (fun x => x)).trans HT9.out)
  have HZ10 : Hid (w9.heap.size ≤ pd ∧ pd < w10.heap.size) := ⟨Z10, lt_of P10⟩
  clear P10 C10 Z10 a0 a1 a2 a3
  have a0 : w10.cell? ⟨tb, 0, none⟩ = some (.int .u64 100) := cell_of HT10.out 0
  have a1 : w10.cell? ⟨tb, 1, none⟩ = some (.int .u64 1) := cell_of HT10.out 1
  have a2 : w10.cell? ⟨tb, 2, none⟩ = some (.int .i64 2) := cell_of HT10.out 2
  have a3 : w10.cell? ⟨tb, 3, none⟩ = some (.int .u64 50) := cell_of HT10.out 3
  have HL : Hid (Calls Tryz.prog 13 #[.pointer (some ⟨m, 0, none⟩), .agg #[.int .u64 100, .int .u64 1, .int .i64 2, .int .u64 50]] w10 fun e W' => ∃ g c, e = .returned (.slice (some ⟨g, 0, none⟩) 1 c) ∧ W'.cell? ⟨g, 0, none⟩ = some (.int .u64 1) ∧ Chg (fun _ => False) w10 W' ∧ w10.heap.size ≤ g) := by
    obtain ⟨F, l, S, _⟩ := HS7.out.put ((HC8.out.f HC9.out).f HC10.out) (fun _ x => x.elim)
    exact live_2 S.mem S.bank (by decide) (by decide)
  go_wp2_with fail
  refine HL.out.mono ?_
  rintro e w11 ⟨g, c, rfl, Q11, C11, Z11⟩
  have HSS : Hid (SR W m b v 0 200 w11 3 9 cs5 9 (fun k => k = p ∨ k = po ∨ k = pc ∨ k = pd ∨ k = g)) := by
    have z8 := HZ8.out
    have z9 := HZ9.out
    have z10 := HZ10.out
    have s8 := HC8.out.size
    have s9 := HC9.out.size
    have s10 := HC10.out.size
    have s11 := C11.size
    have zg : g < w11.heap.size := World.block_lt_of_cell? w11 ⟨g, 0, none⟩ Q11
    refine HS7.out.more (((HC8.out.f HC9.out).f HC10.out).f C11) (fun k e => ?_)
    have e' : k = p ∨ k = po ∨ k = pc ∨ k = pd ∨ k = g := e
    rcases e' with e' | e'
    · exact .inl (.inr e')
    · exact .inr (by omega)
  have HN : Hid (p < po ∧ po < pc ∧ pc < pd ∧ pd < g) := by
    have z8 := HZ8.out
    have z9 := HZ9.out
    have z10 := HZ10.out
    have zp := lt_of HP7.out
    show _ ∧ _ ∧ _ ∧ _
    omega
  have HP := keepH (((HP7.out.chg HC8.out (fun x => x)).chg HC9.out (fun x => x)).chg HC10.out (fun x => x) |>.chg C11 (fun x => x))
  have HO := keepH (((HO8.out.chg HC9.out (fun x => x)).chg HC10.out (fun x => x)).chg C11 (fun x => x))
  have HD := keepH ((HD9.out.chg HC10.out (fun x => x)).chg C11 (fun x => x))
  have HE := keepH (HE10.out.chg C11 (fun x => x))
  have HQ := keepH Q11
  clear Q11 C11 Z11 HL HS7 HP7 HT7 HO8 HC8 HT8 HZ8 HD9 HC9 HT9 HZ9 HE10 HC10 HT10 HZ10 a0 a1 a2 a3 HPT
  go_wp2_with fail
  refine (sn_handle HP.out).mono ?_
  rintro e w12 ⟨rfl, rfl⟩
  clear HP
  go_wp2_with fail
  refine (HSS.out.opStep (.inr (.inl rfl)) HO.out 4194307 (by decide) (by decide) (by decide) (by decide) (by decide) (by omega) (by omega)).mono ?_
  rintro e w13 ⟨rfl, O13, S13, K13⟩
  have HO13 := keepH O13
  have HS13 := keepH S13
  have HD13 : Hid (Blk w13 pc 71 (askL true 1 0 34 false 0 0 [.int .u64 ((2 : Nat) : Int)])) := (K13 pc (.inr (.inr (.inl rfl))) (by have := HN.out; omega)).trans HD.out
  have HE13 : Hid (Blk w13 pd 71 (askL true 1 0 34 false 0 0 [.int .u64 ((1 : Nat) : Int)])) := (K13 pd (.inr (.inr (.inr (.inl rfl)))) (by have := HN.out; omega)).trans HE.out
  have HG13 := keepH (K13 g (.inr (.inr (.inr (.inr rfl)))) (by have := HN.out; omega))
  clear O13 S13 K13 HO HD HE HSS
  go_wp2_with fail
  refine (op_stamp HO13.out).mono ?_
  rintro e w14 ⟨rfl, rfl⟩
  go_wp2_with fail
  refine (op_errno HO13.out).mono ?_
  rintro e w14 ⟨rfl, rfl⟩
  clear HO13
  go_wp2_with fail
  refine (HS13.out.clStep (.inr (.inr (.inl rfl))) HD13.out 4194307 (by decide) (by decide) (by decide) (by decide) (by decide) (by omega) (by omega)).mono ?_
  rintro e w15 ⟨rfl, D15, S15, K15⟩
  have HD15 : Hid (Blk w15 pc 71 (askL true 1 0 34 true 1 34 [.int .u64 ((2 : Nat) : Int)])) := D15
  have HS15 := keepH S15
  have HE15 := keepH (show Blk w15 pd 71 _ from (K15 pd (.inr (.inr (.inr (.inl rfl)))) (by have := HN.out; omega)).trans HE13.out)
  have HG15 := keepH ((K15 g (.inr (.inr (.inr (.inr rfl)))) (by have := HN.out; omega)).trans HG13.out)
  clear D15 S15 K15 HS13 HD13 HE13 HG13
  go_wp2_with fail
  refine (cl_errno HD15.out).mono ?_
  rintro e w16 ⟨rfl, rfl⟩
  clear HD15
  go_wp2_with fail
  refine (HS15.out.clStep (.inr (.inr (.inr (.inl rfl)))) HE15.out 4194307 (by decide) (by decide) (by decide) (by decide) (by decide) (by omega) (by omega)).mono ?_
  rintro e w17 ⟨rfl, D17, S17, K17⟩
  have HE17 : Hid (Blk w17 pd 71 (askL true 1 0 34 true 1 0 [.int .u64 ((1 : Nat) : Int)])) := D17
  have HC17 := keepH S17.chg
  have HG17 := (K17 g (.inr (.inr (.inr (.inr rfl)))) (by have := HN.out; omega)).trans HG15.out
  have q17 : w17.cell? ⟨g, 0, none⟩ = some (.int .u64 1) := by
    have q := HQ.out
    unfold World.cell? at q ⊢
    rw [HG17]
    exact q
  clear D17 S17 K17 HS15 HE15 HG15 HG17 HQ HN
  go_wp2_with fail
  refine (cl_errno HE17.out).mono ?_
  rintro e w18 ⟨rfl, rfl⟩
  clear HE17
  go_wp2_with fail
  go_ret
  exact ⟨by simp, HC17.out⟩
end Go.Proofs.YtlgkioaomcobdaaGreat
