/- The document's events: which may follow. -/
import Derived.Test.YtmdeodijcmeflaaHLastE
import Derived.Deep.CutRange
namespace Go.Proofs.Ytmdeodijcmeflaa
open Go.RowKit Go.Maps

def bad1 (es : List Evt) (k : Nat) (e : Evt) : Bool := decide (e.st < 0) || (match k with
  | 0 => false
  | k1 + 1 => match es[k1]? with
    | none => false
    | some a => decide (e.st < a.st) || (decide (e.st = a.st) && (match k1 with
      | 0 => false
      | k2 + 1 => match es[k2]? with
        | none => false
        | some b => decide (e.st = b.st))))
def bad2 (es : List Evt) (k : Nat) (e : Evt) : Bool := match k with
  | 0 => false
  | k1 + 1 => match es[k1]? with
    | none => false
    | some a => decide (e.st = a.st) && (!e.ret || (a.ret || decide (a.th ≠ e.th)))
def lastB (o : Option Evt) (e : Evt) : Bool := match o with
  | none => !e.ret && decide (e.ix = 0)
  | some w => if e.ret = true then !w.ret && decide (w.ix = e.ix) else w.ret && decide (e.ix = wrap64 (w.ix + 1))
theorem fol_of {es : List Evt} {k : Nat} {e : Evt} (hk : k ≤ es.length) : Fol es k e ↔ bad1 es k e = false ∧ bad2 es k e = false ∧ lastB (lastEv es k e.th) e = true := by
  have hlast : lastB (lastEv es k e.th) e = true ↔ (match lastEv es k e.th with | none => e.ret = false ∧ e.ix = 0 | some w => (e.ret = true → w.ret = false ∧ w.ix = e.ix) ∧ (e.ret = false → w.ret = true ∧ e.ix = wrap64 (w.ix + 1))) := by
    unfold lastB
    cases lastEv es k e.th with
    | none => simp
    | some w => cases hr : e.ret <;> simp
  have h12 : (bad1 es k e = false ∧ bad2 es k e = false) ↔ (0 ≤ e.st ∧ (∀ a : Evt, 0 < k → es[k - 1]? = some a → a.st ≤ e.st ∧ (e.st = a.st → e.ret = true ∧ a.ret = false ∧ a.th = e.th)) ∧ (∀ a b : Evt, 1 < k → es[k - 1]? = some a → es[k - 2]? = some b → ¬ (e.st = a.st ∧ e.st = b.st))) := by
    unfold bad1 bad2
    match k, hk with
    | 0, _ => simp
    | 1, hk =>
      obtain ⟨a, ha⟩ : ∃ a, es[0]? = some a := ⟨es[0], List.getElem?_eq_getElem (by omega)⟩
      simp only [ha]
      cases e.ret <;> cases har : a.ret <;> simp [har] <;> omega
    | k2 + 2, hk =>
      obtain ⟨a, ha⟩ : ∃ a, es[k2 + 1]? = some a := ⟨es[k2 + 1], List.getElem?_eq_getElem (by omega)⟩
      obtain ⟨b, hb⟩ : ∃ b, es[k2]? = some b := ⟨es[k2], List.getElem?_eq_getElem (by omega)⟩
      simp only [ha, hb, show k2 + 2 - 1 = k2 + 1 by omega, show k2 + 2 - 2 = k2 by omega]
      cases e.ret <;> cases har : a.ret <;> simp [har] <;> omega
  constructor
  · rintro ⟨h1, h2, h3, h4⟩
    have := h12.2 ⟨h1, h2, h3⟩
    exact ⟨this.1, this.2, hlast.2 h4⟩
  · rintro ⟨h1, h2, h3⟩
    have := h12.1 ⟨h1, h2⟩
    exact ⟨this.1, this.2.1, this.2.2, hlast.1 h3⟩

set_option maxRecDepth 100000 in
set_option maxHeartbeats 8000000 in
theorem r_follows (p : Option Addr) (c k : Nat) (es : List Evt) (e : Evt) (W : World) (h : EReads W p es) (hk : k ≤ es.length) (hl : es.length ≤ 4398046511104) :
    Calls Try.prog 29 #[.slice p k c, .agg #[.int .i64 e.st, .int .i64 e.th, .int .i64 e.ix, .bool e.ret]] W fun x W' => ∃ v, x = .returned v ∧ (Fol es k e ∧ v = .bool true ∨ ¬ Fol es k e ∧ v = .bool false) ∧ Chg (fun _ => False) W W' := by
  have HF := keepH (fol_of (e := e) hk)
  have HK := keepH hk
  obtain ⟨w0, hw0⟩ : ∃ w0, w0 = W.alloc (.cells #[.int .i64 e.st, .int .i64 e.th, .int .i64 e.ix, .bool e.ret] 46) := ⟨_, rfl⟩
  have HC0 : Hid (Chg (fun _ => False) W w0) := by rw [hw0]; exact (Chg.refl _ _).alloc _
  have HB : Hid (EBox w0 W.heap.size e) := by rw [hw0]; exact heap_alloc_new _ _
  have hkl : k ≤ 4398046511104 := by omega
  have HES := keepH hl
  have HP := keepH h
  have HP0 := keepH (h.chg HC0.out (fun _ _ x => x))
  have HW := keepH hw0
  obtain ⟨B1, hB1⟩ : ∃ B1, B1 = bad1 es k e := ⟨_, rfl⟩
  obtain ⟨B2, hB2⟩ : ∃ B2, B2 = bad2 es k e := ⟨_, rfl⟩
  have HB1 := keepH hB1
  have HB2 := keepH hB2
  clear h hw0 hk hl hB1 hB2
  go_enter Try.func29, Try.ntmps29
  go_upto_region 2 with fail
  rw [← HW.out]
  obtain ⟨gb, hgb⟩ : ∃ gb, gb = W.heap.size := ⟨_, rfl⟩
  rw [← hgb] at HB
  rw [← hgb]
  clear hgb HW
  go_cut [53] from 10 to 134 (fun s53 wx => s53 = .bool B1 ∧ Hid (Chg (fun _ => False) w0 wx))
  case first =>
    obtain ⟨k0, k1, k2, k3⟩ := HB.out.cells
    by_cases g1 : e.st < 0
    · have d1 : decide (e.st < 0) = true := by simp [g1]
      go_quiet (fail)
      go_wp2_with fail
      go_meet
      exact ⟨by rw [HB1.out]; unfold bad1; rw [d1]; rfl, ⟨rfl, rfl, rfl, Nat.le_refl _, fun _ _ _ => rfl⟩⟩
    · have d1 : decide (e.st < 0) = false := by simp; omega
      rcases (show k = 0 ∨ k = 1 ∨ 2 ≤ k by omega) with hk0 | hk1 | hk2
      · have HK0 := keepH hk0
        have v1 : ¬ (0 : Int) < (k : Int) := by omega
        have v2 : ¬ (1 : Int) < (k : Int) := by omega
        have y1 : decide (0 < k) = false := by simp; omega
        have y2 : decide (1 < k) = false := by simp; omega
        have y3 : decide ((0 : Int) < (k : Int)) = false := by simp; omega
        have y4 : decide ((1 : Int) < (k : Int)) = false := by simp; omega
        clear hk0
        go_quiet (fail)
        go_wp2_with fail
        go_meet
        exact ⟨by rw [HB1.out]; rw [HK0.out]; unfold bad1; rw [d1]; rfl, ⟨rfl, rfl, rfl, Nat.le_refl _, fun _ _ _ => rfl⟩⟩
      · have HK1 := keepH hk1
        have hkle := HK.out
        obtain ⟨a, ha⟩ : ∃ a, es[0]? = some a := ⟨es[0]'(by have := HK.out; omega), List.getElem?_eq_getElem _⟩
        obtain ⟨bk, off, rfl, _, c0, c1, c2, c3⟩ := HP0.out.get 0 a ha
        simp only [Nat.zero_mul, Nat.add_zero] at c0 c1 c2 c3
        have HA := keepH ha
        have v1 : (0 : Int) < (k : Int) := by omega
        have v2 : ¬ (1 : Int) < (k : Int) := by omega
        have y1 : decide (0 < k) = true := by simp; omega
        have y2 : decide (1 < k) = false := by simp; omega
        have y4 : decide ((1 : Int) < (k : Int)) = false := by simp; omega
        have s1 : (k : Int) - 1 = 0 := by omega
        clear hk1 hkle ha
        by_cases g2 : e.st < a.st
        · have d2 : decide (e.st < a.st) = true := by simp [g2]
          go_quiet (fail)
          go_wp2_with fail
          go_meet
          exact ⟨by rw [HB1.out]; rw [HK1.out]; unfold bad1; rw [d1]; simp only [HA.out]; rw [d2]; rfl, ⟨rfl, rfl, rfl, Nat.le_refl _, fun _ _ _ => rfl⟩⟩
        · have d2 : decide (e.st < a.st) = false := by simp; omega
          go_quiet (fail)
          go_wp2_with fail
          go_meet
          exact ⟨by rw [HB1.out]; rw [HK1.out]; unfold bad1; rw [d1]; simp only [HA.out]; rw [d2]; simp, ⟨rfl, rfl, rfl, Nat.le_refl _, fun _ _ _ => rfl⟩⟩
      · obtain ⟨m, hm⟩ : ∃ m, k = m + 2 := ⟨k - 2, by omega⟩
        have hkle := HK.out
        obtain ⟨a, ha⟩ : ∃ a, es[m + 1]? = some a := ⟨es[m + 1]'(by have := HK.out; omega), List.getElem?_eq_getElem _⟩
        obtain ⟨b, hb⟩ : ∃ b, es[m]? = some b := ⟨es[m]'(by have := HK.out; omega), List.getElem?_eq_getElem _⟩
        obtain ⟨bk, off, rfl, _, c0, c1, c2, c3⟩ := HP0.out.get (m + 1) a ha
        obtain ⟨bk2, off2, hbo, _, f0, f1, f2, f3⟩ := HP0.out.get m b hb
        simp only [Option.some.injEq, Addr.mk.injEq, and_true] at hbo
        obtain ⟨rfl, rfl⟩ := hbo
        have HA := keepH ha
        have HBB := keepH hb
        clear ha hb
        obtain ⟨n1, hn1⟩ : ∃ n1, n1 = m + 1 := ⟨_, rfl⟩
        rw [← hn1] at HA c0 c1 c2 c3
        have s1 : (k : Int) - 1 = (n1 : Int) := by omega
        have s2 : (k : Int) - 2 = (m : Int) := by omega
        have u1 : (n1 : Int) < (k : Int) := by omega
        have u2 : (m : Int) < (k : Int) := by omega
        have v1 : (0 : Int) < (k : Int) := by omega
        have v2 : (1 : Int) < (k : Int) := by omega
        have z1 : IntKind.i64.wrap (n1 : Int) = (n1 : Int) := by rw [IntKind.wrap_i64]; omega
        have z2 : IntKind.i64.wrap (m : Int) = (m : Int) := by rw [IntKind.wrap_i64]; omega
        have x1 : 0 < k := by omega
        have x2 : 1 < k := by omega
        have y1 : decide (0 < k) = true := by simp [x1]
        have y2 : decide (1 < k) = true := by simp [x2]
        have HK2 := keepH hm
        have HN1 := keepH hn1
        clear hm hn1 hkle hk2
        by_cases g2 : e.st < a.st
        · have d2 : decide (e.st < a.st) = true := by simp [g2]
          go_quiet (fail)
          go_wp2_with fail
          go_meet
          exact ⟨by rw [HB1.out]; rw [HK2.out]; unfold bad1; rw [d1]; simp only [show es[m + 1]? = some a from HN1.out ▸ HA.out, HBB.out]; rw [d2]; rfl, ⟨rfl, rfl, rfl, Nat.le_refl _, fun _ _ _ => rfl⟩⟩
        · have d2 : decide (e.st < a.st) = false := by simp; omega
          by_cases g3 : e.st = a.st
          · have d3 : decide (e.st = a.st) = true := by simp [g3]
            have d3b : (e.st == a.st) = true := by simp [g3]
            by_cases g4 : e.st = b.st
            · have HG3 := keepH g3
              have HG4 := keepH g4
              have d4b : (e.st == b.st) = true := by simp [g4]
              clear g3 g4
              go_quiet (fail)
              go_wp2_with fail
              go_meet
              exact ⟨by rw [HB1.out]; rw [HK2.out]; unfold bad1; rw [d1]; simp only [show es[m + 1]? = some a from HN1.out ▸ HA.out, HBB.out]; rw [d2, d3]; simp [HG4.out], ⟨rfl, rfl, rfl, Nat.le_refl _, fun _ _ _ => rfl⟩⟩
            · have HG3 := keepH g3
              have d4b : (e.st == b.st) = false := by simp [g4]
              clear g3
              go_quiet (fail)
              go_wp2_with fail
              go_meet
              exact ⟨by rw [HB1.out]; rw [HK2.out]; unfold bad1; rw [d1]; simp only [show es[m + 1]? = some a from HN1.out ▸ HA.out, HBB.out]; rw [d2, d3]; simp [g4], ⟨rfl, rfl, rfl, Nat.le_refl _, fun _ _ _ => rfl⟩⟩
          · have d3 : decide (e.st = a.st) = false := by simp [g3]
            have d3b : (e.st == a.st) = false := by simp [g3]
            go_quiet (fail)
            go_wp2_with fail
            go_meet
            exact ⟨by rw [HB1.out]; rw [HK2.out]; unfold bad1; rw [d1]; simp only [show es[m + 1]? = some a from HN1.out ▸ HA.out, HBB.out]; rw [d2, d3]; rfl, ⟨rfl, rfl, rfl, Nat.le_refl _, fun _ _ _ => rfl⟩⟩
  case rest =>
    obtain ⟨wa, hwa⟩ : ∃ wa, wa = wc := ⟨_, rfl⟩
    rw [← hwa] at hcut ⊢
    clear hwa
    obtain ⟨rfl, HCA⟩ := hcut
    have HCB := keepH (HC0.out.trans HCA.out (H := fun _ => False) (fun _ _ x => x) (fun _ _ x => x))
    have HPA := keepH (HP0.out.chg HCA.out (fun _ _ x => x))
    have HBA := keepH (HB.out.chg HCA.out (fun x => x))
    cases B1 with
    | true =>
      go_wp2_with fail
      go_ret
      exact ⟨.bool false, by simp, .inr ⟨fun f => by have q := (HF.out.1 f).1; rw [← HB1.out] at q; simp at q, rfl⟩, HCB.out⟩
    | false =>
      obtain ⟨k0, k1, k2, k3⟩ := HBA.out.cells
      go_wp2_with fail
      refine (r_last p c k es e.th _ HPA.out HK.out HES.out).mono ?_
      rintro x W1 ⟨rfl, C1⟩
      have HCD := keepH (HCB.out.trans C1 (H := fun _ => False) (fun _ _ x => x) (fun _ _ x => x))
      have HPD := keepH (HPA.out.chg C1 (fun _ _ x => x))
      have HBD := keepH (HBA.out.chg C1 (fun x => x))
      have hgb1 : gb < W1.heap.size := lt_of HBD.out
      have HGB := keepH hgb1
      clear C1 k0 k1 k2 k3 hgb1
      obtain ⟨LE, hLE⟩ : ∃ LE, LE = lastEv es k e.th := ⟨_, rfl⟩
      have HLE := keepH hLE
      rw [← hLE]
      clear hLE
      have fin : ∀ (B : Bool) (wz : World), Chg (fun _ => False) W1 wz → B = lastB LE e → B2 = false → ∃ v, Value.bool B = v ∧ (Fol es k e ∧ v = .bool true ∨ ¬ Fol es k e ∧ v = .bool false) ∧ Chg (fun _ => False) W wz := by
        intro B wz hz hB hB2
        refine ⟨_, rfl, ?_, HCD.out.trans hz (fun _ _ x => x) (fun _ _ x => x)⟩
        rw [HF.out, ← HB1.out, ← HB2.out, ← HLE.out, ← hB, hB2]
        cases B <;> simp
      have FIN := keepH fin
      clear fin
      cases LE with
      | none =>
        obtain ⟨w2, hw2⟩ : ∃ w2, w2 = W1.alloc (.cells #[.int .i64 0, .int .i64 0, .int .i64 0, .bool false] 46) := ⟨_, rfl⟩
        have HC2 : Hid (Chg (fun _ => False) W1 w2) := by rw [hw2]; exact (Chg.refl _ _).alloc _
        have HBW : Hid (EBox w2 W1.heap.size ⟨0, 0, 0, false⟩) := by rw [hw2]; exact heap_alloc_new _ _
        have HW2 := keepH hw2
        clear hw2
        simp only [evV]
        go_upto_region 5 with fail
        rw [← HW2.out]
        obtain ⟨gw, hgw⟩ : ∃ gw, gw = W1.heap.size := ⟨_, rfl⟩
        rw [← hgw] at HBW
        rw [← hgw]
        clear hgw HW2
        have HP2 := keepH (HPD.out.chg HC2.out (fun _ _ x => x))
        have HB2x := keepH (HBD.out.chg HC2.out (fun x => x))
        go_cut [97] from 10 to 134 (fun s97 wx => s97 = .bool B2 ∧ Hid (Chg (fun _ => False) w2 wx))
        case first =>
          obtain ⟨k0, k1, k2, k3⟩ := HB2x.out.cells
          rcases (show k = 0 ∨ 1 ≤ k by omega) with hk0 | hk1
          · have HK0 := keepH hk0
            have v1 : ¬ (0 : Int) < (k : Int) := by omega
            have y1 : decide (0 < k) = false := by simp; omega
            have y3 : decide ((0 : Int) < (k : Int)) = false := by simp; omega
            clear hk0
            go_quiet (fail)
            go_wp2_with fail
            go_meet
            exact ⟨by rw [HB2.out, HK0.out]; rfl, ⟨rfl, rfl, rfl, Nat.le_refl _, fun _ _ _ => rfl⟩⟩
          · obtain ⟨m, hm⟩ : ∃ m, k = m + 1 := ⟨k - 1, by omega⟩
            have hkle := HK.out
            obtain ⟨a, ha⟩ : ∃ a, es[m]? = some a := ⟨es[m]'(by have := HK.out; omega), List.getElem?_eq_getElem _⟩
            obtain ⟨bk, off, rfl, _, c0, c1, c2, c3⟩ := HP2.out.get m a ha
            have HA := keepH ha
            clear ha
            have s1 : (k : Int) - 1 = (m : Int) := by omega
            have u1 : (m : Int) < (k : Int) := by omega
            have v1 : (0 : Int) < (k : Int) := by omega
            have x1 : 0 < k := by omega
            have y1 : decide (0 < k) = true := by simp [x1]
            have z1 : IntKind.i64.wrap (m : Int) = (m : Int) := by rw [IntKind.wrap_i64]; omega
            have HK2 := keepH hm
            clear hm hkle hk1
            obtain ⟨er, her⟩ : ∃ er, e.ret = er := ⟨_, rfl⟩
            obtain ⟨ar, har⟩ : ∃ ar, a.ret = ar := ⟨_, rfl⟩
            have HER := keepH her
            have HAR := keepH har
            rw [her] at k3
            rw [har] at c3
            clear her har
            by_cases g3 : e.st = a.st
            · have d3 : decide (e.st = a.st) = true := by simp [g3]
              have d3b : (e.st == a.st) = true := by simp [g3]
              clear g3
              cases er with
              | false =>
                go_quiet (fail)
                go_wp2_with fail
                go_meet
                exact ⟨by rw [HB2.out]; rw [HK2.out]; unfold bad2; simp only [HA.out]; rw [d3, HER.out]; simp, ⟨rfl, rfl, rfl, Nat.le_refl _, fun _ _ _ => rfl⟩⟩
              | true =>
                cases ar with
                | true =>
                  go_quiet (fail)
                  go_wp2_with fail
                  go_meet
                  exact ⟨by rw [HB2.out]; rw [HK2.out]; unfold bad2; simp only [HA.out]; rw [d3, HER.out, HAR.out]; simp, ⟨rfl, rfl, rfl, Nat.le_refl _, fun _ _ _ => rfl⟩⟩
                | false =>
                  by_cases g5 : a.th = e.th
                  · have HG5 := keepH g5
                    have d5 : (a.th != e.th) = false := by simp [g5]
                    clear g5
                    go_quiet (fail)
                    go_wp2_with fail
                    go_meet
                    exact ⟨by rw [HB2.out]; rw [HK2.out]; unfold bad2; simp only [HA.out]; rw [d3, HER.out, HAR.out]; simp [HG5.out], ⟨rfl, rfl, rfl, Nat.le_refl _, fun _ _ _ => rfl⟩⟩
                  · have d5 : (a.th != e.th) = true := by simp [g5]
                    go_quiet (fail)
                    go_wp2_with fail
                    go_meet
                    exact ⟨by rw [HB2.out]; rw [HK2.out]; unfold bad2; simp only [HA.out]; rw [d3, HER.out, HAR.out]; simp [g5], ⟨rfl, rfl, rfl, Nat.le_refl _, fun _ _ _ => rfl⟩⟩
            · have d3 : decide (e.st = a.st) = false := by simp [g3]
              have d3b : (e.st == a.st) = false := by simp [g3]
              go_quiet (fail)
              go_wp2_with fail
              go_meet
              exact ⟨by rw [HB2.out]; rw [HK2.out]; unfold bad2; simp only [HA.out]; rw [d3]; rfl, ⟨rfl, rfl, rfl, Nat.le_refl _, fun _ _ _ => rfl⟩⟩
        case rest =>
          obtain ⟨wb, hwb⟩ : ∃ wb, wb = wc := ⟨_, rfl⟩
          rw [← hwb] at hcut ⊢
          clear hwb
          obtain ⟨rfl, HCE⟩ := hcut
          have HCF := keepH (HC2.out.trans HCE.out (H := fun _ => False) (fun _ _ x => x) (fun _ _ x => x))
          cases B2 with
          | true =>
            go_wp2_with fail
            go_ret
            exact ⟨.bool false, by simp, .inr ⟨fun f => by have q := (HF.out.1 f).2.1; rw [← HB2.out] at q; simp at q, rfl⟩, HCD.out.trans HCF.out (fun _ _ x => x) (fun _ _ x => x)⟩
          | false =>
            obtain ⟨k0, k1, k2, k3⟩ := (HB2x.out.chg HCE.out (fun x => x)).cells
            obtain ⟨w0, w1, w2, w3⟩ := (HBW.out.chg HCE.out (fun x => x)).cells
            obtain ⟨er, her⟩ : ∃ er, e.ret = er := ⟨_, rfl⟩
            have HER := keepH her
            rw [her] at k3
            clear her
            cases er with
            | true =>
              go_wp2_with fail
              go_ret
              obtain ⟨v, e1, e2, e3⟩ := FIN.out false wb HCF.out (by unfold lastB; simp [HER.out]) (by first | rfl | trivial)
              exact ⟨v, by rw [← e1]; simp, e2, e3⟩
            | false =>
              by_cases g6 : e.ix = 0
              · skip
                go_wp2_with fail
                go_ret
                obtain ⟨v, e1, e2, e3⟩ := FIN.out true wb HCF.out (by unfold lastB; simp [HER.out, g6]) (by first | rfl | trivial)
                exact ⟨v, by rw [← e1]; simp, e2, e3⟩
              · skip
                go_wp2_with fail
                go_ret
                obtain ⟨v, e1, e2, e3⟩ := FIN.out false wb HCF.out (by unfold lastB; simp [HER.out, g6]) (by first | rfl | trivial)
                exact ⟨v, by rw [← e1]; simp [g6], e2, e3⟩
      | some w =>
        obtain ⟨w2, hw2⟩ : ∃ w2, w2 = W1.alloc (.cells #[.int .i64 w.st, .int .i64 w.th, .int .i64 w.ix, .bool w.ret] 46) := ⟨_, rfl⟩
        have HC2 : Hid (Chg (fun _ => False) W1 w2) := by rw [hw2]; exact (Chg.refl _ _).alloc _
        have HBW : Hid (EBox w2 W1.heap.size w) := by rw [hw2]; exact heap_alloc_new _ _
        have HW2 := keepH hw2
        clear hw2
        simp only [evV]
        go_upto_region 5 with fail
        rw [← HW2.out]
        obtain ⟨gw, hgw⟩ : ∃ gw, gw = W1.heap.size := ⟨_, rfl⟩
        rw [← hgw] at HBW
        rw [← hgw]
        clear hgw HW2
        have HP2 := keepH (HPD.out.chg HC2.out (fun _ _ x => x))
        have HB2x := keepH (HBD.out.chg HC2.out (fun x => x))
        go_cut [97] from 10 to 134 (fun s97 wx => s97 = .bool B2 ∧ Hid (Chg (fun _ => False) w2 wx))
        case first =>
          obtain ⟨k0, k1, k2, k3⟩ := HB2x.out.cells
          rcases (show k = 0 ∨ 1 ≤ k by omega) with hk0 | hk1
          · have HK0 := keepH hk0
            have v1 : ¬ (0 : Int) < (k : Int) := by omega
            have y1 : decide (0 < k) = false := by simp; omega
            have y3 : decide ((0 : Int) < (k : Int)) = false := by simp; omega
            clear hk0
            go_quiet (fail)
            go_wp2_with fail
            go_meet
            exact ⟨by rw [HB2.out, HK0.out]; rfl, ⟨rfl, rfl, rfl, Nat.le_refl _, fun _ _ _ => rfl⟩⟩
          · obtain ⟨m, hm⟩ : ∃ m, k = m + 1 := ⟨k - 1, by omega⟩
            have hkle := HK.out
            obtain ⟨a, ha⟩ : ∃ a, es[m]? = some a := ⟨es[m]'(by have := HK.out; omega), List.getElem?_eq_getElem _⟩
            obtain ⟨bk, off, rfl, _, c0, c1, c2, c3⟩ := HP2.out.get m a ha
            have HA := keepH ha
            clear ha
            have s1 : (k : Int) - 1 = (m : Int) := by omega
            have u1 : (m : Int) < (k : Int) := by omega
            have v1 : (0 : Int) < (k : Int) := by omega
            have x1 : 0 < k := by omega
            have y1 : decide (0 < k) = true := by simp [x1]
            have z1 : IntKind.i64.wrap (m : Int) = (m : Int) := by rw [IntKind.wrap_i64]; omega
            have HK2 := keepH hm
            clear hm hkle hk1
            obtain ⟨er, her⟩ : ∃ er, e.ret = er := ⟨_, rfl⟩
            obtain ⟨ar, har⟩ : ∃ ar, a.ret = ar := ⟨_, rfl⟩
            have HER := keepH her
            have HAR := keepH har
            rw [her] at k3
            rw [har] at c3
            clear her har
            by_cases g3 : e.st = a.st
            · have d3 : decide (e.st = a.st) = true := by simp [g3]
              have d3b : (e.st == a.st) = true := by simp [g3]
              clear g3
              cases er with
              | false =>
                go_quiet (fail)
                go_wp2_with fail
                go_meet
                exact ⟨by rw [HB2.out]; rw [HK2.out]; unfold bad2; simp only [HA.out]; rw [d3, HER.out]; simp, ⟨rfl, rfl, rfl, Nat.le_refl _, fun _ _ _ => rfl⟩⟩
              | true =>
                cases ar with
                | true =>
                  go_quiet (fail)
                  go_wp2_with fail
                  go_meet
                  exact ⟨by rw [HB2.out]; rw [HK2.out]; unfold bad2; simp only [HA.out]; rw [d3, HER.out, HAR.out]; simp, ⟨rfl, rfl, rfl, Nat.le_refl _, fun _ _ _ => rfl⟩⟩
                | false =>
                  by_cases g5 : a.th = e.th
                  · have HG5 := keepH g5
                    have d5 : (a.th != e.th) = false := by simp [g5]
                    clear g5
                    go_quiet (fail)
                    go_wp2_with fail
                    go_meet
                    exact ⟨by rw [HB2.out]; rw [HK2.out]; unfold bad2; simp only [HA.out]; rw [d3, HER.out, HAR.out]; simp [HG5.out], ⟨rfl, rfl, rfl, Nat.le_refl _, fun _ _ _ => rfl⟩⟩
                  · have d5 : (a.th != e.th) = true := by simp [g5]
                    go_quiet (fail)
                    go_wp2_with fail
                    go_meet
                    exact ⟨by rw [HB2.out]; rw [HK2.out]; unfold bad2; simp only [HA.out]; rw [d3, HER.out, HAR.out]; simp [g5], ⟨rfl, rfl, rfl, Nat.le_refl _, fun _ _ _ => rfl⟩⟩
            · have d3 : decide (e.st = a.st) = false := by simp [g3]
              have d3b : (e.st == a.st) = false := by simp [g3]
              go_quiet (fail)
              go_wp2_with fail
              go_meet
              exact ⟨by rw [HB2.out]; rw [HK2.out]; unfold bad2; simp only [HA.out]; rw [d3]; rfl, ⟨rfl, rfl, rfl, Nat.le_refl _, fun _ _ _ => rfl⟩⟩
        case rest =>
          obtain ⟨wb, hwb⟩ : ∃ wb, wb = wc := ⟨_, rfl⟩
          rw [← hwb] at hcut ⊢
          clear hwb
          obtain ⟨rfl, HCE⟩ := hcut
          have HCF := keepH (HC2.out.trans HCE.out (H := fun _ => False) (fun _ _ x => x) (fun _ _ x => x))
          cases B2 with
          | true =>
            go_wp2_with fail
            go_ret
            exact ⟨.bool false, by simp, .inr ⟨fun f => by have q := (HF.out.1 f).2.1; rw [← HB2.out] at q; simp at q, rfl⟩, HCD.out.trans HCF.out (fun _ _ x => x) (fun _ _ x => x)⟩
          | false =>
            obtain ⟨k0, k1, k2, k3⟩ := (HB2x.out.chg HCE.out (fun x => x)).cells
            obtain ⟨w0, w1, w2, w3⟩ := (HBW.out.chg HCE.out (fun x => x)).cells
            obtain ⟨er, her⟩ : ∃ er, e.ret = er := ⟨_, rfl⟩
            have HER := keepH her
            rw [her] at k3
            clear her
            obtain ⟨wr2, hwr⟩ : ∃ wr2, w.ret = wr2 := ⟨_, rfl⟩
            have HWR := keepH hwr
            rw [hwr] at w3
            clear hwr
            cases er with
            | true =>
              cases wr2 with
              | true =>
                go_wp2_with fail
                go_ret
                obtain ⟨v, e1, e2, e3⟩ := FIN.out false wb HCF.out (by unfold lastB; simp [HER.out, HWR.out]) (by first | rfl | trivial)
                exact ⟨v, by rw [← e1]; simp, e2, e3⟩
              | false =>
                by_cases g6 : w.ix = e.ix
                · have HG6 := keepH g6
                  go_wp2_with fail
                  go_ret
                  obtain ⟨v, e1, e2, e3⟩ := FIN.out true wb HCF.out (by unfold lastB; simp [HER.out, HWR.out, HG6.out]) (by first | rfl | trivial)
                  exact ⟨v, by rw [← e1]; simp, e2, e3⟩
                · skip
                  go_wp2_with fail
                  go_ret
                  obtain ⟨v, e1, e2, e3⟩ := FIN.out false wb HCF.out (by unfold lastB; simp [HER.out, HWR.out, g6]) (by first | rfl | trivial)
                  exact ⟨v, by rw [← e1]; simp [g6], e2, e3⟩
            | false =>
              cases wr2 with
              | false =>
                go_wp2_with fail
                go_ret
                obtain ⟨v, e1, e2, e3⟩ := FIN.out false wb HCF.out (by unfold lastB; simp [HER.out, HWR.out]) (by first | rfl | trivial)
                exact ⟨v, by rw [← e1]; simp, e2, e3⟩
              | true =>
                obtain ⟨nx, hnx⟩ : ∃ nx, nx = wrap64 (w.ix + 1) := ⟨_, rfl⟩
                have hnw : IntKind.i64.wrap (w.ix + 1) = nx := by rw [hnx]; first | rfl | (unfold wrap64; rw [IntKind.wrap_i64])
                have HNX := keepH hnx
                clear hnx
                by_cases g6 : e.ix = nx
                · have HG6 := keepH g6
                  go_wp2_with fail
                  go_ret
                  obtain ⟨v, e1, e2, e3⟩ := FIN.out true wb HCF.out (by unfold lastB; simp [HER.out, HWR.out]; rw [← HNX.out]; exact HG6.out) (by first | rfl | trivial)
                  exact ⟨v, by rw [← e1]; simp, e2, e3⟩
                · have HG6 := keepH g6
                  go_wp2_with fail
                  go_ret
                  obtain ⟨v, e1, e2, e3⟩ := FIN.out false wb HCF.out (by unfold lastB; simp [HER.out, HWR.out]; rw [← HNX.out]; exact HG6.out) (by first | rfl | trivial)
                  exact ⟨v, by rw [← e1]; simp [g6], e2, e3⟩
end Go.Proofs.Ytmdeodijcmeflaa
