/- What is asked of the calls; the memory; what is there behind a run. -/
import Derived.Test.YtadbgmcfjemkeaaHy
import Derived.Test.YtadbgmcfjemkeaaVv
import Derived.WalkKit
import Derived.BigQuiet
namespace Go.Proofs.Ytadbgmcfjemkeaa
open Go.RowKit Go.Shelf
set_option linter.unusedVariables false

def runsB (L : List ThrV) : Bool := L.all (fun t => decide (t.ks.length ≤ 4096)) && decide (L.length ≤ 64)
def honB (L : List ThrV) : Bool := L.all (fun t => t.ks.all (fun k => decide (0 ≤ k.kind ∧ k.kind ≤ 3))) && runsB L
theorem honB_out {L : List ThrV} (h : honB L = true) : (∀ t ∈ L, ∀ k ∈ t.ks, 0 ≤ k.kind ∧ k.kind ≤ 3) ∧ L.length ≤ 64 ∧ ∀ t ∈ L, t.ks.length ≤ 4096 := by
  simp only [honB, runsB, Bool.and_eq_true, List.all_eq_true, decide_eq_true_eq] at h
  exact ⟨h.1, h.2.2, h.2.1⟩
set_option maxRecDepth 100000 in
set_option maxHeartbeats 2000000 in
theorem v_runs (p pp : Option Addr) (c n cp : Nat) (L : List ThrV) (W : World) (h : ThsAt W p L) (hl : L.length ≤ 1048576) :
    Calls Try.prog 27 #[.agg #[.slice p L.length c, .slice pp n cp]] W fun e W' => e = .returned (.bool (runsB L)) ∧ Chg (fun _ => False) W W' := by
  obtain ⟨W0, hW0⟩ : ∃ W0, W0 = W.alloc (.cells #[.slice p L.length c, .slice pp n cp] 25) := ⟨_, rfl⟩
  have C0 : Hid (Chg (fun _ => False) W W0) := by rw [hW0]; exact (Chg.refl _ _).alloc _
  have hb0 : W0.heap[W.heap.size]? = some (.cells #[.slice p L.length c, .slice pp n cp] 25 (0, 0)) := by rw [hW0]; exact heap_alloc_new _ _
  have x0 : W0.cell? ⟨W.heap.size, 0, none⟩ = some (.slice p L.length c) := cell_of hb0 0
  have H := keepH (h.chg C0.out)
  have HW0 := keepH hW0
  clear h hb0
  go_enter Try.func27, Try.ntmps27
  go_wp2_with fail
  rw [← hW0]
  clear hW0
  go_loopw [3] (fun s wr => ∃ k : Nat, k ≤ L.length ∧ s = .int .i64 (k : Int) ∧ wr = W0 ∧ Hid (∀ j x, j < k → L[j]? = some x → x.ks.length ≤ 4096)) (fun s _ => L.length - (intOf s).toNat)
  case atStart => exact ⟨0, by omega, rfl, by first | rfl | exact HW0.out.symm, fun j x hj => absurd hj (Nat.not_lt_zero _)⟩
  case round =>
    obtain ⟨k, hk, rfl, rfl, HK⟩ := hrel
    by_cases hlt : k < L.length
    · have t2 : (k : Int) < (L.length : Int) := by omega
      obtain ⟨x, hx⟩ : ∃ x, L[k]? = some x := ⟨L[k], List.getElem?_eq_getElem hlt⟩
      obtain ⟨bk, off, hp, hb, hc0⟩ := H.out.row.resolve_left (fun e => by rw [e] at hlt; simp at hlt)
      subst hp
      have hc := hc0 k x hx
      unfold ThrV.v at hc
      clear hc0
      by_cases h2 : 4096 < x.ks.length
      · have t3 : (4096 : Int) < (x.ks.length : Int) := by omega
        go_wp2_with fail
        go_ret
        refine ⟨?_, C0.out⟩
        have e : runsB L = false := by
          unfold runsB
          rw [Bool.and_eq_false_iff]
          refine .inl ?_
          rw [List.all_eq_false]
          exact ⟨x, List.mem_of_getElem? hx, by simpa using h2⟩
        simp [e]
      · have t3 : ¬ (4096 : Int) < (x.ks.length : Int) := by omega
        go_wp2_with fail
        go_roundw
        case rel => exact ⟨k + 1, by omega, by go_num, by first | trivial | rfl, fun j y hj hy => by
            by_cases e : j = k
            · subst e
              rw [hx] at hy
              simp at hy
              subst hy
              omega
            · exact HK.out j y (by omega) hy⟩
        case measure => simp [intOf]; omega
    · obtain rfl : k = L.length := by omega
      have e0 : L.all (fun t => decide (t.ks.length ≤ 4096)) = true := by
        rw [List.all_eq_true]
        intro x hx
        obtain ⟨j, hj⟩ := List.getElem?_of_mem hx
        have := HK.out j x (List.getElem?_eq_some_iff.1 hj).1 hj
        simpa using this
      have HE0 := keepH e0
      clear e0
      go_wp2_with fail
      go_ret
      refine ⟨?_, C0.out⟩
      simp [runsB, HE0.out]
      omega
set_option maxRecDepth 100000 in
set_option maxHeartbeats 2000000 in
theorem v_honest (p pp : Option Addr) (c n cp : Nat) (L : List ThrV) (W : World) (h : ThsAt W p L) (hl : L.length ≤ 1048576) :
    Calls Try.prog 9 #[.agg #[.slice p L.length c, .slice pp n cp]] W fun e W' => e = .returned (.bool (honB L)) ∧ Chg (fun _ => False) W W' := by
  obtain ⟨W0, hW0⟩ : ∃ W0, W0 = W.alloc (.cells #[.slice p L.length c, .slice pp n cp] 25) := ⟨_, rfl⟩
  have C0 : Hid (Chg (fun _ => False) W W0) := by rw [hW0]; exact (Chg.refl _ _).alloc _
  have hb0 : Hid (W0.heap[W.heap.size]? = some (.cells #[.slice p L.length c, .slice pp n cp] 25 (0, 0))) := by rw [hW0]; exact heap_alloc_new _ _
  have H := keepH (h.chg C0.out)
  have HW0 := keepH hW0
  clear h
  go_enter Try.func9, Try.ntmps9
  go_wp2_with fail
  rw [← hW0]
  clear hW0
  go_loopw [3] (fun s wr => ∃ k : Nat, k ≤ L.length ∧ s = .int .i64 (k : Int) ∧ Hid (Chg (fun _ => False) W0 wr) ∧ Hid (∀ j x, j < k → L[j]? = some x → ∀ q ∈ x.ks, 0 ≤ q.kind ∧ q.kind ≤ 3)) (fun s _ => L.length - (intOf s).toNat)
  case atStart => exact ⟨0, by omega, rfl, by first | exact Chg.refl _ _ | (rw [← HW0.out]; exact Chg.refl _ _), fun j x hj => absurd hj (Nat.not_lt_zero _)⟩
  case round =>
    obtain ⟨k, hk, rfl, HC, HK⟩ := hrel
    have x0 : wr.cell? ⟨W.heap.size, 0, none⟩ = some (.slice p L.length c) := cell_of ((HC.out.block _ (lt_of hb0.out) (fun x => x)).trans hb0.out) 0
    have x1 : wr.cell? ⟨W.heap.size, 1, none⟩ = some (.slice pp n cp) := cell_of ((HC.out.block _ (lt_of hb0.out) (fun x => x)).trans hb0.out) 1
    by_cases hlt : k < L.length
    · have t2 : (k : Int) < (L.length : Int) := by omega
      obtain ⟨x, hx⟩ : ∃ x, L[k]? = some x := ⟨L[k], List.getElem?_eq_getElem hlt⟩
      have HX := keepH hx
      have mx := List.mem_of_getElem? hx
      obtain ⟨bk, off, hp, hb, hc0⟩ := H.out.row.resolve_left (fun e => by rw [e] at hlt; simp at hlt)
      subst hp
      have HCc : Hid (W0.cell? ⟨bk, off + k, none⟩ = some (.slice x.p x.ks.length x.c)) := hc0 k x hx
      have hlen := H.out.len x mx
      have HKx := keepH (H.out.ks x mx)
      clear hc0 hx mx hb
      have hc : wr.cell? ⟨bk, off + k, none⟩ = some (.slice x.p x.ks.length x.c) := cell_chg HC.out HCc.out (fun x => x)
      go_wp2_with fail
      go_loopw [4] (fun s wi => ∃ j : Nat, j ≤ x.ks.length ∧ s = .int .i64 (j : Int) ∧ Hid (Chg (fun _ => False) W0 wi) ∧ Hid (∀ i q, i < j → x.ks[i]? = some q → 0 ≤ q.kind ∧ q.kind ≤ 3)) (fun s _ => x.ks.length - (intOf s).toNat)
      case atStart => exact ⟨0, by omega, rfl, HC, fun j x hj => absurd hj (Nat.not_lt_zero _)⟩
      case round =>
        obtain ⟨j, hj, rfl, HC2, HJ⟩ := hrel
        have x0' : wr.cell? ⟨W.heap.size, 0, none⟩ = some (.slice (some ⟨bk, off, none⟩) L.length c) := cell_of ((HC2.out.block _ (lt_of hb0.out) (fun x => x)).trans hb0.out) 0
        have hc' : wr.cell? ⟨bk, off + k, none⟩ = some (.slice x.p x.ks.length x.c) := cell_chg HC2.out HCc.out (fun x => x)
        by_cases hj2 : j < x.ks.length
        · have t3 : (j : Int) < (x.ks.length : Int) := by omega
          obtain ⟨q, hq⟩ : ∃ q, x.ks[j]? = some q := ⟨x.ks[j], List.getElem?_eq_getElem hj2⟩
          have HQ := keepH hq
          obtain ⟨bk2, off2, hp2, hb2, hcc⟩ := HKx.out.resolve_left (fun e => by rw [e] at hj2; simp at hj2)
          have hcell : ∀ (i : Nat) (u : Value), q.cells[i]? = some u → wr.cell? ⟨bk2, off2 + j * 4 + i, none⟩ = some u := fun i u hi => by rw [Nat.add_assoc]; exact cell_chg HC2.out (hcc j q hq i u hi) (fun x => x)
          have d0 : wr.cell? ⟨bk2, off2 + j * 4, none⟩ = some (.int .i64 q.kind) := hcell 0 _ rfl
          have d1 : wr.cell? ⟨bk2, off2 + j * 4 + 1, none⟩ = some (.int .u64 (q.obj : Int)) := hcell 1 _ rfl
          have d2 : wr.cell? ⟨bk2, off2 + j * 4 + 2, none⟩ = some (.int .u64 (q.a : Int)) := hcell 2 _ rfl
          have d3 : wr.cell? ⟨bk2, off2 + j * 4 + 3, none⟩ = some (.int .u64 (q.b : Int)) := hcell 3 _ rfl
          rw [hp2] at hc'
          clear hcell hcc hq hp2 hb2
          have bad : ¬ (0 ≤ q.kind ∧ q.kind ≤ 3) → honB L = false := fun z => by
            unfold honB
            rw [Bool.and_eq_false_iff]
            refine .inl ?_
            rw [List.all_eq_false]
            refine ⟨x, List.mem_of_getElem? HX.out, ?_⟩
            rw [Bool.not_eq_true, List.all_eq_false]
            exact ⟨q, List.mem_of_getElem? HQ.out, by simpa using z⟩
          have HBad := keepH bad
          clear bad
          have C3 : Hid (∀ o, Chg (fun _ => False) W0 (wr.alloc o)) := fun o => HC2.out.alloc o
          by_cases n0 : q.kind < 0
          · have g0 : decide (q.kind < 0) = true := decide_eq_true n0
            go_wp2_with fail
            go_ret
            exact ⟨by rw [HBad.out (by omega)]; simp, C0.out.trans (C3.out _) (fun _ _ x => x) (fun _ _ x => x)⟩
          · have g0 : decide (q.kind < 0) = false := decide_eq_false n0
            by_cases n3 : 3 < q.kind
            · go_wp2_with fail
              go_ret
              exact ⟨by rw [HBad.out (by omega)]; simp, C0.out.trans (C3.out _) (fun _ _ x => x) (fun _ _ x => x)⟩
            · go_wp2_with fail
              refine ⟨⟨j + 1, by omega, by simp, C3.out _, fun i y hi hy => ?_⟩, by simp [intOf]; omega⟩
              by_cases e : i = j
              · subst e
                rw [HQ.out] at hy
                simp at hy
                subst hy
                omega
              · exact HJ.out i y (by omega) hy
        · have t3 : ¬ (j : Int) < (x.ks.length : Int) := by omega
          obtain rfl : j = x.ks.length := by omega
          go_wp2_with fail
          refine ⟨⟨k + 1, by omega, by simp, HC2, fun i y hi hy => ?_⟩, by simp [intOf]; omega⟩
          by_cases e : i = k
          · subst e
            rw [HX.out] at hy
            simp at hy
            subst hy
            intro q hq
            obtain ⟨z, hz⟩ := List.getElem?_of_mem hq
            exact HJ.out z q (List.getElem?_eq_some_iff.1 hz).1 hz
          · exact HK.out i y (by omega) hy
    · have t2 : ¬ (k : Int) < (L.length : Int) := by omega
      obtain rfl : k = L.length := by omega
      have e0 : L.all (fun t => t.ks.all (fun k => decide (0 ≤ k.kind ∧ k.kind ≤ 3))) = true := by
        rw [List.all_eq_true]
        intro x hx
        obtain ⟨j, hj⟩ := List.getElem?_of_mem hx
        rw [List.all_eq_true]
        intro q hq
        exact decide_eq_true (HK.out j x (List.getElem?_eq_some_iff.1 hj).1 hj q hq)
      have HE0 := keepH e0
      clear e0
      go_wp2_with fail
      refine (v_runs p pp c n cp L wr (H.out.chg HC.out) hl).mono ?_
      rintro e w2 ⟨rfl, C2⟩
      have HC3 := keepH C2
      clear C2
      go_wp2_with fail
      go_ret
      exact ⟨by have z : honB L = runsB L := (by unfold honB; rw [HE0.out]; rfl); rw [z]; simp, (C0.out.trans HC.out (fun _ _ x => x) (fun _ _ x => x)).trans HC3.out (fun _ _ x => x) (fun _ _ x => x)⟩
theorem GI.first : GI 5 [0, 1, 0, 0, 0] (fun _ => []) := by
  refine ⟨by omega, by decide, fun o ho => ?_, fun o ho a ha => by simp at ha, fun o ho => List.Pairwise.nil, fun o p a ho hp ha => by simp at ha⟩
  obtain ⟨h1, h2⟩ := ho
  obtain rfl | rfl | rfl : o = 2 ∨ o = 3 ∨ o = 4 := by omega
  · rfl
  · rfl
  · rfl
set_option maxRecDepth 100000 in
theorem mem_16k (W : World) : Calls Try.prog 7 #[.int .i64 16384] W fun e W' => e = .returned (.tuple #[.pointer (some ⟨W.heap.size + 1, 0, none⟩), .int .u64 1]) ∧ IsMem W' (W.heap.size + 1) W.heap.size ∧ (∃ F l, Bank W' F W.heap.size 16384 5 [0, 1, 0, 0, 0] l ∧ l.length = 1 ∧ (∀ k, F k → W.heap.size ≤ k) ∧ ¬ F (W.heap.size + 1)) ∧ Chg (fun _ => False) W W' := by
  go_enter Try.func7, Try.ntmps7
  go_wp2_with fail
  refine (m_new 16384 W (by omega)).mono ?_
  rintro e W1 ⟨rfl, M1, B1, C1, S1⟩
  have S2 := keepH ((St.new0 (th := -1) M1 B1 C1 S1).chg' ((Chg.refl _ _).alloc (.cells ([1, 0, 0, 0].map u64V).toArray 27)))
  have HM1 := keepH M1
  have HS1 := keepH S1
  clear B1 S1 C1 M1
  go_wp2_with fail
  refine (m_view _ W.heap.size (-1) _ HM1.out).mono ?_
  rintro e w ⟨rfl, rfl⟩
  clear HM1
  go_wp2_with fail
  refine (v_alloc W1.heap.size W.heap.size 16384 1 0 (-1) (some ⟨W1.heap.size + 1, 0, none⟩) 4 [1, 0, 0, 0] _ _ _ _ S2.out.view S2.out.bank S2.out.nv (by omega) (by simp) (reads_new _ [1, 0, 0, 0] _ (by simp)) (fun ad e _ => by cases e; have := HS1.out; show ¬ W1.heap.size + 1 = W.heap.size; omega) (fun ad e _ => by cases e; show W1.heap.size + 1 ≠ W1.heap.size; omega) (by simp) (by simp)).mono ?_
  rintro e w3 ⟨rfl, F3, vs3, B3, V3, G3⟩
  have e3 : alAt 16384 1 [1, 0, 0, 0].length = 1 := by decide
  have e3' : alN 16384 1 [] [1, 0, 0, 0] = [0, 1, 0, 0, 0] := by decide
  have e3n : alNext 16384 1 [1, 0, 0, 0].length = 5 := by decide
  rw [e3', e3n] at B3
  have S3 := keepH (S2.out.step G3 B3 V3)
  clear B3 V3 G3 S2 e3' e3n
  go_wp2_with fail
  go_ret2
  exact ⟨by simp [show alAt 16384 1 4 = 1 from e3], S3.out.mem, ⟨F3, _, S3.out.bank, rfl, S3.out.inF, S3.out.nm⟩, S3.out.chg⟩
/-- What is there behind so many picks. -/
structure EndR (W X : World) (m b : Nat) (R : List ThrV) (sv : Value) (cl : Nat → Nat) (pv : Nat → Nat → Value) (qv : Nat → Value) (c : Cfg VP) (ch : Nat → List Nat) (own : Nat → Nat × Nat) (k : Nat) : Prop where
  mem : IsMem X m b
  bank : ∃ F l, Bank X F b 16384 c.next c.cs l ∧ l.length ≤ k + 16000000
  procs : ∀ i j, i < R.length → j < cl i → ∃ D, vcK.H X D (pv i j) (c.σ i j)
  out : X.ownsRow 0 47 1 sv R.length ((List.range R.length).map qv)
  inn : ∀ i, i < R.length → X.ownsRow 0 58 6 (qv i) (cl i) (prRow (pv i) (cl i))
  len : ∀ i t, R[i]? = some t → cl i = t.ks.length
  sig : ∀ i j t q, R[i]? = some t → t.ks[j]? = some q → VP.sig (c.σ i j) = VP.sig q.start
  inv : VInv R.length cl c ch own
  chg : Chg (fun _ => False) W X
theorem EndR.quiet {W X Y : World} {m b : Nat} {R : List ThrV} {sv : Value} {cl : Nat → Nat} {pv : Nat → Nat → Value} {qv : Nat → Value} {c : Cfg VP} {ch : Nat → List Nat} {own : Nat → Nat × Nat} {k : Nat} (h : EndR W X m b R sv cl pv qv c ch own k) (d : Chg (fun _ => False) X Y) : EndR W Y m b R sv cl pv qv c ch own k := by
  refine ⟨h.mem.chg d (fun x => x), ?_, fun i j hi hj => ?_, row_kept h.out fun k e => d.block k (row_lt h.out k e) (fun x => x), fun i hi => row_kept (h.inn i hi) fun k e => d.block k (row_lt (h.inn i hi) k e) (fun x => x), h.len, h.sig, h.inv, h.chg.trans d (fun _ _ x => x) (fun _ _ x => x)⟩
  · obtain ⟨F, l, B, hl⟩ := h.bank
    exact ⟨F, l, B.chg d (fun _ _ x => x), hl⟩
  · obtain ⟨D, H⟩ := h.procs i j hi hj
    exact ⟨D, vcK.kept H (fun k e => d.block k (vcK.lt H e) (fun x => x))⟩
theorem RE.ends {W X Z : World} {m b : Nat} {L : List ThrV} {picks : List Int} {k next : Nat} {cs : List Nat} {ch : Nat → List Nat} {sv : Value} {r : Nat} {cl vb : Nat → Nat} {pv : Nat → Nat → Value} {c0 : Cfg VP} {qv : Nat → Value} (h : RE W m b L picks k next cs ch X sv r cl vb pv c0 Z qv) :
    ∃ ch' own', VGo L.length cl c0 ch (fun _ => (L.length, 0)) (c0.run vcK 16384 L.length cl (picks.take k)) ch' own' ∧ EndR W X m b L sv cl pv qv (c0.run vcK 16384 L.length cl (picks.take k)) ch' own' k := by
  obtain ⟨ch', own', V⟩ := h.inv.run (picks.take k)
  refine ⟨ch', own', V, ?_⟩
  obtain ⟨G, K, vw, tv, ev, av, ths, evs, ats, g⟩ := h.run
  obtain ⟨F, D, md, tg, M⟩ := g.ma
  obtain ⟨l, B, hl⟩ := M.bank
  have tn := M.tn
  rw [← hl] at tn
  have ro := h.out
  refine ⟨M.mem, ⟨F, l, B, by simpa using tn⟩, fun i j hi hj => ⟨D i j, M.procs i j hi hj⟩, row_kept ro fun j e => (g.keep j (.inl e)).2.1, fun i hi => row_kept (h.inn i hi) fun j e => (g.keep j (.inr ⟨i, hi, e⟩)).2.1, h.len, fun i j t q ht hq => ?_, V.inv, g.chg⟩
  rw [V.sig, h.sg i j t q ht hq]
end Go.Proofs.Ytadbgmcfjemkeaa
