/- VcasReads, walked. -/
import Derived.Test.YtadbgmcfjemkeaaHz
import Derived.WalkKit
import Derived.BigQuiet
namespace Go.Proofs.Ytadbgmcfjemkeaa
open Go.RowKit Go.Shelf
set_option linter.unusedVariables false

theorem Chg.falls {a b c : World} (h : Chg (fun _ => False) a b) (k : Chg (fun _ => False) b c) : Chg (fun _ => False) a c := h.trans k (fun _ _ x => x) (fun _ _ x => x)
theorem vcK_ifc {X : World} {D : Nat → Prop} {pv : Value} {s : VP} (h : vcK.H X D pv s) : ∃ T p, pv = .iface T (.pointer (some ⟨p, 0, none⟩)) := by
  rcases s with s | s | s | s
  · obtain ⟨p, e, _⟩ := h; exact ⟨_, p, e⟩
  · obtain ⟨p, e, _⟩ := h; exact ⟨_, p, e⟩
  · obtain ⟨p, e, _⟩ := h; exact ⟨_, p, e⟩
  · obtain ⟨p, e, _⟩ := h; exact ⟨_, p, e⟩
theorem prRow_get (f : Nat → Value) (n k j : Nat) (h6 : ∀ i, i < n → (prOf (f i)).length = 6) (hk : k < n) (hj : j < 6) : (prRow f n)[k * 6 + j]? = (prOf (f k))[j]? := by
  have hl : ∀ n, (∀ i, i < n → (prOf (f i)).length = 6) → (prRow f n).length = n * 6 := fun n => by
    induction n with
    | zero => intro _; rfl
    | succ n ih => intro h; simp only [prRow, List.length_append]; rw [ih (fun i hi => h i (by omega)), h n (by omega)]; omega
  induction n with
  | zero => omega
  | succ n ih =>
    have hln := hl n (fun i hi => h6 i (by omega))
    simp only [prRow]
    by_cases e : k < n
    · rw [List.getElem?_append_left (by rw [hln]; omega)]
      exact ih (fun i hi => h6 i (by omega)) e
    · have e2 : k = n := by omega
      subst e2
      rw [List.getElem?_append_right (by rw [hln]; omega), hln, show k * 6 + j - k * 6 = j by omega]
/-- What a Read that was called has told, and where that lies. -/
theorem EndR.read {W X : World} {m b : Nat} {R : List ThrV} {sv : Value} {cl : Nat → Nat} {pv : Nat → Nat → Value} {qv : Nat → Value} {c : Cfg VP} {ch : Nat → List Nat} {own : Nat → Nat × Nat} {k : Nat} (h : EndR W X m b R sv cl pv qv c ch own k) {i j : Nat} {t : ThrV} {q : CallV} (ht : R[i]? = some t) (hq : t.ks[j]? = some q) (hk : q.kind = 0) :
    ∃ p val lst, prOf (pv i j) = [.int .i64 0, .pointer (some ⟨p, 0, none⟩), .pointer none, .pointer none, .pointer none, .pointer none] ∧ Blk X p 107 lst ∧ lst[8]? = some (.int .u64 (val : Int)) ∧ (val = 0 ∨ ∃ a ∈ ch q.obj, val = cellN c.cs a) := by
  have hi := (List.getElem?_eq_some_iff.1 ht).1
  have hj : j < cl i := by rw [h.len i t ht]; exact (List.getElem?_eq_some_iff.1 hq).1
  have sg := h.sig i j t q ht hq
  have es : q.start = .inl ⟨1, q.obj, ⟨⟨0, 0, 0, 0, 0⟩, 0, 0⟩⟩ := if_pos hk
  rw [es] at sg
  obtain ⟨D, H⟩ := h.procs i j hi hj
  have P := h.inv.pp i j hi hj
  rcases hs : c.σ i j with s | s | s | s
  · rw [hs] at sg H P
    simp only [VP.sig, Prod.mk.injEq] at sg
    obtain ⟨p, e, F, _⟩ := H
    obtain ⟨lst, B, _, l7⟩ := F.cell
    refine ⟨p, s.s.val, lst, by rw [e]; rfl, B, by rw [l7 1]; rfl, ?_⟩
    obtain ⟨_, ho, Rd⟩ := P
    rw [sg.2.1] at Rd
    by_cases z : s.s.rp = 2
    · rcases Rd.r2 z with y | y
      · exact .inl y.2
      · exact .inr ⟨_, y.1, y.2.2⟩
    · have := Rd.le
      by_cases z0 : s.s.rp = 0
      · exact .inl (Rd.r0 z0).2
      · exact .inl (Rd.r1 (by omega)).2.2
  · rw [hs] at sg; simp [VP.sig] at sg
  · rw [hs] at sg; simp [VP.sig] at sg
  · rw [hs] at sg; simp [VP.sig] at sg
/-- The cell of the law's row that has it. -/
theorem EndR.cellP {W X : World} {m b : Nat} {R : List ThrV} {sv : Value} {cl : Nat → Nat} {pv : Nat → Nat → Value} {qv : Nat → Value} {c : Cfg VP} {ch : Nat → List Nat} {own : Nat → Nat × Nat} {k : Nat} (h : EndR W X m b R sv cl pv qv c ch own k) {i j f : Nat} (hi : i < R.length) (hj : j < cl i) (hf : f < 6) {g d n : Nat} (hq : qv i = .slice (some ⟨g, 0, none⟩) n d) (u : Value) (hu : (prOf (pv i j))[f]? = some u) : X.cell? ⟨g, j * 6 + f, none⟩ = some u := by
  have ro := h.inn i hi
  have en : n = cl i := by
    obtain ⟨p, d', e⟩ := slice_of ro
    rw [hq] at e
    simp at e
    exact e.2.1
  rw [hq, en] at ro
  rw [World.ownsRow.cellAt ro (j * 6 + f) (by omega), prRow_get _ _ _ _ (fun x hx => ?_) hj hf]
  · exact hu
  · obtain ⟨D, H⟩ := h.procs i x hi hx
    obtain ⟨z, q1, q2, q3, q4, q5, e⟩ := prOf_one (vcK_ifc H)
    rw [e]; rfl
theorem EndR.cellQ {W X : World} {m b : Nat} {R : List ThrV} {sv : Value} {cl : Nat → Nat} {pv : Nat → Nat → Value} {qv : Nat → Value} {c : Cfg VP} {ch : Nat → List Nat} {own : Nat → Nat × Nat} {k : Nat} (h : EndR W X m b R sv cl pv qv c ch own k) {i g d n : Nat} (hi : i < R.length) (hs : sv = .slice (some ⟨g, 0, none⟩) n d) : X.cell? ⟨g, i, none⟩ = some (qv i) := by
  have ro := h.out
  have en : n = R.length := by
    obtain ⟨p, d', e⟩ := slice_of ro
    rw [hs] at e
    simp at e
    exact e.2.1
  rw [hs, en] at ro
  rw [World.ownsRow.cellAt ro i (by omega)]
  simp [hi]
theorem had_true {next : Nat} {cs : List Nat} {ch : Nat → List Nat} (h : GI next cs ch) {o K val : Nat} (ho : isO o) (S : Stops cs 16384 o K) (hv : val = 0 ∨ ∃ a ∈ ch o, val = cellN cs a) : (decide (val = 0) || (List.range K).any fun j => decide (cellN cs (hN cs o j) = val)) = true := by
  obtain ⟨e1, e2⟩ := h.stops ho S
  rcases hv with z | ⟨a, ha, z⟩
  · simp [z]
  · obtain ⟨j, hj⟩ := List.getElem?_of_mem ha
    have hlt := (List.getElem?_eq_some_iff.1 hj).1
    rw [Bool.or_eq_true]
    refine .inr (List.any_eq_true.2 ⟨j, List.mem_range.2 (by omega), ?_⟩)
    rw [e2 j a hj]
    exact decide_eq_true z.symm
theorem placed_at {R L : List ThrV} (h : R.map ThrV.ks = L.map (fun t => t.ks.map CallV.pl)) {i : Nat} {t : ThrV} (ht : L[i]? = some t) : ∃ u, R[i]? = some u ∧ u.ks = t.ks.map CallV.pl := by
  have e := congrArg (fun l => l[i]?) h
  simp only [List.getElem?_map, ht, Option.map_some] at e
  cases hr : R[i]? with
  | none => rw [hr] at e; simp at e
  | some u => rw [hr] at e; simp at e; exact ⟨u, rfl, e⟩
set_option maxRecDepth 100000 in
set_option maxHeartbeats 8000000 in
theorem reads_walk (pt pp : Option Addr) (ct cp : Nat) (L : List ThrV) (picks : List Int) (w : World) (hT : ThsAt w pt L) (hP : IReads w pp picks) (hn0 : L.length ≤ 1048576) (hn1 : picks.length ≤ 1048576) :
    Calls Try.prog 6 #[.agg #[.slice pt L.length ct, .slice pp picks.length cp]] w fun e w' => e = .returned (.bool true) ∧ Chg (fun _ => False) w w' := by
  have HT := keepH hT
  have HP := keepH hP
  clear hT hP
  obtain ⟨W0, hW0⟩ : ∃ W0, W0 = w.alloc (.cells #[.slice pt L.length ct, .slice pp picks.length cp] 25) := ⟨_, rfl⟩
  have C0 : Hid (Chg (fun _ => False) w W0) := by rw [hW0]; exact (Chg.refl _ _).alloc _
  have sz0 : Hid (W0.heap.size = w.heap.size + 1) := by rw [hW0]; simp [Hid]
  have hb0 : Hid (W0.heap[w.heap.size]? = some (.cells #[.slice pt L.length ct, .slice pp picks.length cp] 25 (0, 0))) := by rw [hW0]; exact heap_alloc_new _ _
  go_enter Try.func6, Try.ntmps6
  go_wp2_with fail
  rw [← hW0]
  clear hW0
  refine (mem_16k W0).mono ?_
  rintro e W1 ⟨rfl, M1, ⟨F, l, B1, hl1, hF1, nm1⟩, C1⟩
  have HM1 := keepH M1
  have HB1 := keepH B1
  have HF1 := keepH hF1
  have HN1 := keepH nm1
  have HC1 := keepH C1
  have HL1 := keepH hl1
  clear M1 B1 hF1 nm1 C1 hl1
  obtain ⟨m, hm⟩ : ∃ m, m = W0.heap.size + 1 := ⟨_, rfl⟩
  obtain ⟨b, hb⟩ : ∃ b, b = W0.heap.size := ⟨_, rfl⟩
  have Hm : Hid (m = w.heap.size + 2) := by show m = _; have := sz0.out; omega
  rw [← hm, ← hb] at HM1
  rw [← hm] at HN1
  rw [← hb] at HB1
  rw [← hm]
  clear hm hb
  go_wp2_with fail
  refine (vc_live _).mono ?_
  rintro e W2 ⟨rfl, C2⟩
  have HM2 := keepH (HM1.out.chg C2 (fun x => x))
  have HB2 := keepH (HB1.out.chg C2 (fun _ _ x => x))
  have HC2 : Hid (Chg (fun _ => False) W0 W2) := HC1.out.falls C2
  have hb2 : Hid (W2.heap[w.heap.size]? = some (.cells #[.slice pt L.length ct, .slice pp picks.length cp] 25 (0, 0))) := (HC2.out.block _ (lt_of hb0.out) (fun x => x)).trans hb0.out
  have x0 : W2.cell? ⟨w.heap.size, 0, none⟩ = some (.slice pt L.length ct) := cell_of hb2.out 0
  have x1 : W2.cell? ⟨w.heap.size, 1, none⟩ = some (.slice pp picks.length cp) := cell_of hb2.out 1
  clear C2 HM1 HB1
  go_wp2_with fail
  refine (v_honest pt pp ct picks.length cp L W2 (HT.out.chg (C0.out.falls HC2.out)) hn0).mono ?_
  rintro e W3 ⟨rfl, C3⟩
  have HC3 : Hid (Chg (fun _ => False) W0 W3) := HC2.out.falls C3
  have HM3 := keepH (HM2.out.chg C3 (fun x => x))
  have HB3 := keepH (HB2.out.chg C3 (fun _ _ x => x))
  have hb3 : Hid (W3.heap[w.heap.size]? = some (.cells #[.slice pt L.length ct, .slice pp picks.length cp] 25 (0, 0))) := (HC3.out.block _ (lt_of hb0.out) (fun x => x)).trans hb0.out
  have y0 : W3.cell? ⟨w.heap.size, 0, none⟩ = some (.slice pt L.length ct) := cell_of hb3.out 0
  have y1 : W3.cell? ⟨w.heap.size, 1, none⟩ = some (.slice pp picks.length cp) := cell_of hb3.out 1
  clear C3 HM2 HB2 x0 x1 hb2
  cases hh : honB L
  · go_wp2_with fail
    go_ret
    exact ⟨by simp, C0.out.falls HC3.out⟩
  · obtain ⟨hk, h64, h4k⟩ := honB_out hh
    go_wp2_with fail
    have s0 := sz0.out
    refine (v_run pt pp ct cp L picks picks W0 W3 m b 5 F [0, 1, 0, 0, 0] l (fun _ => []) HC3.out (HT.out.chg C0.out) (HP.out.chg C0.out) (fun i x h => h) hn1 HM3.out HB3.out (by rw [HL1.out]; omega) HF1.out (by have := Hm.out; omega) HN1.out hk h64 h4k GI.first).mono ?_
    rintro e W4 ⟨sv, r, R, cl, vb, pv, c0, Z, qv, rfl, hR, E⟩
    obtain ⟨ch, own, V, E4⟩ := E.ends
    obtain ⟨c, hc⟩ : ∃ c, c = c0.run vcK 16384 R.length cl (picks.take picks.length) := ⟨_, rfl⟩
    rw [← hc] at V E4
    have HE := keepH E4
    have HR := keepH hR
    have HRl := keepH (placed_len hR).1
    have hRb : R.length ≤ 1048576 := by have := HRl.out; omega
    clear E V hc hR E4 hk h64 h4k y0 y1
    obtain ⟨p5, c5, hsv⟩ := slice_of HE.out.out
    subst hsv
    go_wp2_with fail
    go_loopw [7] (fun s wr => ∃ i : Nat, i ≤ R.length ∧ s = .int .i64 (i : Int) ∧ Hid (EndR W0 wr m b R (.slice p5 R.length c5) cl pv qv c ch own picks.length)) (fun s _ => R.length - (intOf s).toNat)
    case atStart => exact ⟨0, by omega, rfl, HE⟩
    case round =>
      obtain ⟨i, hi, rfl, HE1⟩ := hrel
      by_cases hlt : i < R.length
      · have t1 : (i : Int) < (R.length : Int) := by omega
        obtain ⟨t, ht⟩ : ∃ t, L[i]? = some t := ⟨L[i]'(by have := HRl.out; omega), List.getElem?_eq_getElem _⟩
        obtain ⟨u, hu, eu⟩ := placed_at HR.out ht
        have HTt := keepH ht
        have HUu := keepH hu
        have HEu := keepH eu
        have mt := List.mem_of_getElem? ht
        have hlen := HT.out.len t mt
        have HKt := keepH (HT.out.ks t mt)
        obtain ⟨bk, off, hp, hbk, hc0⟩ := HT.out.row.resolve_left (fun e => by rw [e] at ht; simp at ht)
        subst hp
        have HCc : Hid (w.cell? ⟨bk, off + i, none⟩ = some (.slice t.p t.ks.length t.c)) := hc0 i t ht
        have hcl : cl i = t.ks.length := by rw [HE1.out.len i u hu, eu]; simp
        have HCl := keepH hcl
        obtain ⟨p12, c12, hq12⟩ := slice_of (HE1.out.inn i hlt)
        rw [hcl] at hq12
        have HQ12 := keepH hq12
        obtain ⟨g5, d5, es⟩ := slice_pos HE1.out.out (by omega)
        simp only [Value.slice.injEq] at es
        obtain ⟨rfl, _, rfl⟩ := es
        have z5 : wr.cell? ⟨g5, i, none⟩ = some (.slice p12 t.ks.length c12) := by rw [← hq12]; exact HE1.out.cellQ hlt rfl
        clear hc0 ht hu eu mt hbk hcl hq12
        go_wp2_with fail
        go_loopw [8] (fun s wi => ∃ j : Nat, j ≤ t.ks.length ∧ s = .int .i64 (j : Int) ∧ Hid (EndR W0 wi m b R (.slice (some ⟨g5, 0, none⟩) R.length c5) cl pv qv c ch own picks.length)) (fun s _ => t.ks.length - (intOf s).toNat)
        case atStart => exact ⟨0, by omega, rfl, HE1⟩
        case round =>
          obtain ⟨j, hj, rfl, HE2⟩ := hrel
          have z5 : wr.cell? ⟨g5, i, none⟩ = some (.slice p12 t.ks.length c12) := by rw [← HQ12.out]; exact HE2.out.cellQ hlt rfl
          by_cases hj2 : j < t.ks.length
          · have t2 : (j : Int) < (t.ks.length : Int) := by omega
            obtain ⟨q, hq⟩ : ∃ q, t.ks[j]? = some q := ⟨t.ks[j], List.getElem?_eq_getElem hj2⟩
            have HQ := keepH hq
            have Cw : Hid (Chg (fun _ => False) w wr) := C0.out.falls HE2.out.chg
            have hbx : wr.heap[w.heap.size]? = some (.cells #[.slice (some ⟨bk, off, none⟩) L.length ct, .slice pp picks.length cp] 25 (0, 0)) := (HE2.out.chg.block _ (lt_of hb0.out) (fun x => x)).trans hb0.out
            have y0 : wr.cell? ⟨w.heap.size, 0, none⟩ = some (.slice (some ⟨bk, off, none⟩) L.length ct) := cell_of hbx 0
            obtain ⟨bk2, off2, hp2, hb2, hcc⟩ := HKt.out.resolve_left (fun e => by rw [e] at hj2; simp at hj2)
            have hcell : ∀ (f : Nat) (u : Value), q.cells[f]? = some u → wr.cell? ⟨bk2, off2 + j * 4 + f, none⟩ = some u := fun f u hf => by rw [Nat.add_assoc]; exact cell_chg Cw.out (hcc j q hq f u hf) (fun x => x)
            have d0 : wr.cell? ⟨bk2, off2 + j * 4, none⟩ = some (.int .i64 q.kind) := hcell 0 _ rfl
            have d1 : wr.cell? ⟨bk2, off2 + j * 4 + 1, none⟩ = some (.int .u64 (q.obj : Int)) := hcell 1 _ rfl
            have d2 : wr.cell? ⟨bk2, off2 + j * 4 + 2, none⟩ = some (.int .u64 (q.a : Int)) := hcell 2 _ rfl
            have d3 : wr.cell? ⟨bk2, off2 + j * 4 + 3, none⟩ = some (.int .u64 (q.b : Int)) := hcell 3 _ rfl
            have zx : wr.cell? ⟨bk, off + i, none⟩ = some (.slice (some ⟨bk2, off2, none⟩) t.ks.length t.c) := by rw [← hp2]; exact cell_chg Cw.out HCc.out (fun x => x)
            have tL : (i : Int) < (L.length : Int) := by have := HRl.out; omega
            clear hbx hcell hcc hq hp2 hb2
            by_cases k0 : q.kind = 0
            · rw [k0] at d0
              obtain ⟨p, val, lst, epr, hBl, hl8, hval⟩ := HE2.out.read HUu.out (q := q.pl) (by rw [HEu.out, List.getElem?_map, HQ.out]; rfl) k0
              obtain ⟨gq, dq, e12⟩ := slice_pos (HE2.out.inn i hlt) (by rw [HCl.out]; omega)
              rw [HQ12.out] at e12
              simp only [Value.slice.injEq] at e12
              obtain ⟨rfl, _, _⟩ := e12
              have zp : wr.cell? ⟨gq, j * 6 + 1, none⟩ = some (.pointer (some ⟨p, 0, none⟩)) := HE2.out.cellP hlt (by rw [HCl.out]; exact hj2) (by omega) HQ12.out _ (by rw [epr]; rfl)
              have z6 : ∀ o, (wr.alloc o).cell? ⟨g5, i, none⟩ = some (.slice (some ⟨gq, 0, none⟩) t.ks.length c12) := fun o => cell_chg ((Chg.refl (fun _ => False) wr).alloc o) z5 (fun x => x)
              have zp6 : ∀ o, (wr.alloc o).cell? ⟨gq, j * 6 + 1, none⟩ = some (.pointer (some ⟨p, 0, none⟩)) := fun o => cell_chg ((Chg.refl (fun _ => False) wr).alloc o) zp (fun x => x)
              have HZp := keepH zp
              have HBl := keepH hBl
              have HL8 := keepH hl8
              have HVal := keepH hval
              obtain ⟨w6, hw6⟩ : ∃ w6, w6 = wr.alloc (.cells #[.int .i64 0, .int .u64 (q.obj : Int), .int .u64 (q.a : Int), .int .u64 (q.b : Int)] 50) := ⟨_, rfl⟩
              have c6 : Chg (fun _ => False) wr w6 := by rw [hw6]; exact (Chg.refl _ _).alloc _
              have HC6 := keepH c6
              have HE6 := keepH (HE2.out.quiet c6)
              have HBl6 := keepH (hBl.chg c6 (fun x => x))
              have o1 : w6.cell? ⟨wr.heap.size, 1, none⟩ = some (.int .u64 (q.obj : Int)) := by rw [hw6]; exact cell_of (heap_alloc_new _ _) 1
              have HO1 := keepH o1
              clear epr hBl hl8 hval k0 o1 c6
              go_wp2_with fail
              rw [← hw6]
              obtain ⟨g9, hg9⟩ : ∃ g9, g9 = wr.heap.size := ⟨_, rfl⟩
              rw [← hg9] at HO1 ⊢
              have o1 := HO1.out
              clear hg9 hw6 z6 zp6
              refine (rd_value (x := val) HBl6.out HL8.out).mono ?_
              rintro e w6' ⟨rfl, rfl⟩
              have e1 : ((q.obj : Int).tmod 3) = ((q.obj % 3 : Nat) : Int) := by rw [Int.tmod_eq_emod_of_nonneg (by omega)]; omega
              obtain ⟨o, hoo⟩ : ∃ o, o = 2 + q.obj % 3 := ⟨_, rfl⟩
              have e2 : IntKind.u64.wrap (2 + ((q.obj % 3 : Nat) : Int)) = (o : Int) := by rw [IntKind.wrap_u64]; omega
              have e3 : 2 + (q.obj : Int) % 3 = (o : Int) := by omega
              have HIo : Hid (isO o) := by rw [hoo]; exact q.pl_o
              have HVal2 : Hid (val = 0 ∨ ∃ a, a ∈ ch o ∧ val = cellN c.cs a) := by rw [hoo]; exact HVal.out
              have ho64 : o < 18446744073709551616 := by have := HIo.out.2; omega
              obtain ⟨F6, l6, B6, _⟩ := HE6.out.bank
              have HB6 := keepH B6
              clear hoo HVal B6
              go_wp2_with fail
              refine (versions_any m b 16384 c.next o F6 c.cs l6 _ HE6.out.mem HB6.out ho64 (by omega)).mono ?_
              rintro e W7 ⟨K, vv, rfl, St7, V7⟩
              obtain ⟨pv7, cv7, hv7⟩ := slice_of V7.row
              subst hv7
              have HS7 := keepH St7
              have HV7 := keepH V7
              have hK : K ≤ 16384 := St7.1
              have HE7 := keepH (HE6.out.quiet V7.chg)
              have HC7 := keepH (HC6.out.falls V7.chg)
              have HBl7 := keepH (HBl6.out.chg V7.chg (fun x => x))
              clear St7 V7 HB6
              go_wp2_with fail
              go_loopw [10, 12] (fun s10 s12 wx => ∃ n : Nat, n ≤ K ∧ s10 = .bool (decide (val = 0) || (List.range n).any (fun j => decide (cellN c.cs (hN c.cs o j) = val))) ∧ s12 = .int .i64 (n : Int) ∧ Hid (Chg (fun _ => False) W7 wx)) (fun _ s12 _ => K - (intOf s12).toNat)
              case atStart =>
                refine ⟨0, by omega, ?_, rfl, Chg.refl _ _⟩
                by_cases z : val = 0 <;> simp [z]
              case round =>
                obtain ⟨n, hn, rfl, rfl, HX⟩ := hrel
                have z5 : wr.cell? ⟨g5, i, none⟩ = some (.slice (some ⟨gq, 0, none⟩) t.ks.length c12) := by rw [← HQ12.out]; exact (HE7.out.quiet HX.out).cellQ hlt rfl
                have zp : wr.cell? ⟨gq, j * 6 + 1, none⟩ = some (.pointer (some ⟨p, 0, none⟩)) := cell_chg (HC7.out.falls HX.out) HZp.out (fun x => x)
                by_cases hn2 : n < K
                · have t3 : (n : Int) < (K : Int) := by omega
                  obtain ⟨gv, dv, ev⟩ := slice_pos HV7.out.row (by omega)
                  simp only [Value.slice.injEq] at ev
                  obtain ⟨rfl, _, rfl⟩ := ev
                  have RV := row_kept (W' := wr) HV7.out.row (fun g e => HX.out.block g (row_lt HV7.out.row g e) (fun x => x))
                  obtain ⟨g1, g2⟩ := verRow_get c.cs o K n hn2
                  obtain ⟨y, hy⟩ : ∃ y, y = cellN c.cs (hN c.cs o n) := ⟨_, rfl⟩
                  rw [← hy] at g1
                  have yv : wr.cell? ⟨gv, n * 2, none⟩ = some (.int .u64 (y : Int)) := by rw [Nat.mul_comm n 2]; exact ver_cell RV _ _ g1
                  obtain ⟨hd, hhd⟩ : ∃ hd, hd = (decide (val = 0) || (List.range n).any (fun j => decide (cellN c.cs (hN c.cs o j) = val))) := ⟨_, rfl⟩
                  have HHd : Hid ((decide (val = 0) || (List.range (n + 1)).any (fun j => decide (cellN c.cs (hN c.cs o j) = val))) = (hd || decide (y = val))) := by
                    show _ = _
                    rw [List.range_succ, List.any_append, ← Bool.or_assoc, ← hhd, hy]
                    simp
                  have HV : Hid (∀ q, Calls Try.prog 21 #[.pointer (some ⟨p, 0, none⟩)] (wr.drewN q) fun e W' => e = .returned (.int .u64 (val : Int)) ∧ W' = wr.drewN q) := fun q => rd_value (x := val) ((HBl7.out.chg HX.out (fun x => x)).chg (Goes.drewN wr (fun _ => False) q).chg (fun x => x)) HL8.out
                  rw [← hhd]
                  clear RV g1 g2 hy hhd
                  cases hd
                  · by_cases yz : y = val
                    · have yb : ((y : Int) == (val : Int)) = true := by simp [yz]
                      go_wp2_with fail
                      go_quiet (first | (go_at_call 21; refine (HV.out _).mono ?_; rintro x y ⟨rfl, rfl⟩; exact ⟨rfl, _, rfl⟩))
                      go_wp2_with fail
                      refine ⟨⟨n + 1, by omega, ?_, by simp, HX.out.falls (Goes.drewN wr (fun _ => False) _).chg⟩, by simp [intOf]; omega⟩
                      rw [HHd.out]; simp [yz]
                    · have yb : ((y : Int) == (val : Int)) = false := by simp; omega
                      go_wp2_with fail
                      go_quiet (first | (go_at_call 21; refine (HV.out _).mono ?_; rintro x y ⟨rfl, rfl⟩; exact ⟨rfl, _, rfl⟩))
                      go_wp2_with fail
                      refine ⟨⟨n + 1, by omega, ?_, by simp, HX.out.falls (Goes.drewN wr (fun _ => False) _).chg⟩, by simp [intOf]; omega⟩
                      rw [HHd.out]; simp [yz]
                  · go_wp2_with fail
                    go_quiet (fail)
                    go_wp2_with fail
                    refine ⟨⟨n + 1, by omega, ?_, by simp, HX.out.falls (Goes.drewN wr (fun _ => False) _).chg⟩, by simp [intOf]; omega⟩
                    rw [HHd.out]; simp
                · have t3 : ¬ (n : Int) < (K : Int) := by omega
                  have en : n = K := by omega
                  subst en
                  rw [had_true HE7.out.inv.gi HIo.out HS7.out HVal2.out]
                  go_wp2_with fail
                  refine ⟨⟨j + 1, by omega, by simp, HE7.out.quiet HX.out⟩, by simp [intOf]; omega⟩
            · have kb : (q.kind != 0) = true := by simpa using k0
              go_wp2_with fail
              refine ⟨⟨j + 1, by omega, by simp, HE2.out.quiet ((Chg.refl _ _).alloc _)⟩, by simp [intOf]; omega⟩
          · have t2 : ¬ (j : Int) < (t.ks.length : Int) := by omega
            go_wp2_with fail
            refine ⟨⟨i + 1, by omega, by simp, HE2⟩, by simp [intOf]; omega⟩
      · have t1 : ¬ (i : Int) < (R.length : Int) := by omega
        go_wp2_with fail
        go_ret
        exact ⟨by simp, C0.out.falls HE1.out.chg⟩
end Go.Proofs.Ytadbgmcfjemkeaa
