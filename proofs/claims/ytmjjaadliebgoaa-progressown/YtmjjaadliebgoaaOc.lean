/- Longest, by a set of the steps at which calls returned. -/
import Derived.Test.YtmjjaadliebgoaaOb
import Derived.Maps.OwnSet
namespace Go.Proofs.Ytmjjaadliebgoaa
open Go.RowKit Go.Maps
set_option linter.unusedVariables false

theorem law3 : Keyed Try.prog 3 := int_keyed Try.underlying3
theorem zero62 (w : World) : (zeroValue 62).run Try.prog w = .ok (.agg #[]) w := by kernel_rfl
def keysOf (ds : List DidA) : List Lit := (ds.filter fun d => decide (0 ≤ d.tz)).map fun d => .int .i64 d.tz
def setD (ds : List DidA) : DataW Unit := setOf (.agg []) (keysOf ds)
theorem has_setD (ds : List DidA) (z : Int) : Maps.has (setD ds) (.int .i64 z) = retAt ds z := by
  unfold setD keysOf retAt
  rw [has_setOf _ _ _ (fun y hy => by obtain ⟨_, _, rfl⟩ := List.mem_map.1 hy; trivial), List.any_map, List.any_filter]
  congr 1
  funext d
  simp only [Function.comp]
  congr 1
  by_cases e : d.tz = z
  · rw [e, WideAt.sameKey_self (by trivial)]; simp
  · rw [sameKey_ne (fun x => e (by injection x))]; simp [e]
theorem setD_put (ds : List DidA) (k : Nat) (d : DidA) (h : ds[k]? = some d) (h0 : 0 ≤ d.tz) : setD (ds.take (k + 1)) = (setD (ds.take k)).put (.int .i64 d.tz) (.agg []) := by
  unfold setD keysOf
  rw [List.take_add_one, h]
  simp [List.filter_append, h0, setOf_snoc]
theorem setD_stay (ds : List DidA) (k : Nat) (d : DidA) (h : ds[k]? = some d) (h0 : ¬ 0 ≤ d.tz) : setD (ds.take (k + 1)) = setD (ds.take k) := by
  unfold setD keysOf
  rw [List.take_add_one, h]
  have : d.tz < 0 := by omega
  simp [List.filter_append, this]
theorem own_chg {H : Type} {P : Program} {k : TypeId} {R : Value → Option (DataW H × List MemPlace)} {w w' : World} {b n : Nat} {D : DataW H} {F : Nat → Prop} (h : w.ownsMap P k R b n D) (c : Chg F w w') (hb : ¬ F b) : w'.ownsMap P k R b n D := by
  obtain ⟨es, clock, e, r⟩ := h
  exact ⟨es, clock, (c.block b (lt_of e) hb).trans e, r⟩
theorem setCells_of (t : TypeId) (p : Nat) (vs : List Value) : ∀ (pre old post : List Value) (w : World), w.heap[p]? = some (.cells (pre ++ old ++ post).toArray t (0, 0)) → old.length = vs.length → (w.setCells p pre.length vs).heap[p]? = some (.cells (pre ++ vs ++ post).toArray t (0, 0)) := by
  induction vs with
  | nil =>
    intro pre old post w h hl
    obtain rfl : old = [] := List.length_eq_zero_iff.1 hl
    simpa [World.setCells] using h
  | cons x vs ih =>
    intro pre old post w h hl
    obtain ⟨y, old', rfl⟩ : ∃ y old', old = y :: old' := by
      cases old with
      | nil => simp at hl
      | cons y o => exact ⟨y, o, rfl⟩
    have h1 := set_of h pre.length x
    have e : (pre ++ y :: old' ++ post).toArray.setIfInBounds pre.length x = ((pre ++ [x]) ++ old' ++ post).toArray := by
      rw [List.setIfInBounds_toArray]
      congr 1
      simp
    rw [e] at h1
    have h2 := ih (pre ++ [x]) old' post (w.setCell ⟨p, pre.length, none⟩ x) h1 (by simpa using hl)
    simp only [List.length_append, List.length_singleton] at h2
    simpa [World.setCells] using h2
theorem setCells_chg (p : Nat) (vs : List Value) : ∀ (o : Nat) (w : World), Chg (fun k => k = p) w (w.setCells p o vs) := by
  induction vs with
  | nil => intro o w; exact Chg.refl _ _
  | cons x vs ih =>
    intro o w
    exact ((Chg.refl (fun k => k = p) w).setCell (p := ⟨p, o, none⟩) (fun _ => rfl) x).trans (ih (o + 1) _) (fun _ _ x => x) (fun _ _ x => x)
/-- A new block, and what is stored into all of it. -/
theorem new_row (w : World) (t : TypeId) (zs vs : List Value) (hl : zs.length = vs.length) : ∃ w', w' = (w.alloc (.cells zs.toArray t)).setCells w.heap.size 0 vs ∧ w'.heap[w.heap.size]? = some (.cells vs.toArray t (0, 0)) ∧ Chg (fun _ => False) w w' ∧ (w.alloc (.cells zs.toArray t)).there w.heap.size 0 vs.length := by
  have h0 := heap_alloc_new w (.cells zs.toArray t)
  refine ⟨_, rfl, ?_, ?_, fun j hj => ?_⟩
  · have := setCells_of t w.heap.size vs [] zs [] (w.alloc (.cells zs.toArray t)) (by rw [List.nil_append, List.append_nil]; exact h0) hl
    rw [List.nil_append, List.append_nil] at this
    exact this
  · exact ((Chg.refl (fun _ => False) w).alloc _).trans (setCells_chg w.heap.size vs 0 _) (fun _ _ x => x) (fun i hi x => by omega)
  · refine ⟨?_, free_of h0 _⟩
    rw [cell_of h0, List.getElem?_toArray, List.getElem?_eq_getElem (by omega)]
    rfl
def zeroDid : DidA := ⟨0, 0, 0, 0, 0, 0, 0, 0, 0, false, 0, 0, none, 0, 0, 0, 0, 0, false, 0, false, 0, none, 0, 0, 0⟩
theorem did_size (d : DidA) : (Try.prog.info? 58).map (·.size) = some d.cells.length := by
  rw [show d.cells.length = 22 from rfl]; kernel_rfl
theorem did_size' (d : DidA) : (Try.prog.info? 58).map (·.size) = some d.cells.toArray.size := by
  rw [show d.cells.toArray.size = 22 from rfl]; kernel_rfl
theorem did_one (d : DidA) : d.cells.toArray.all (·.oneCell') = true := by unfold DidA.cells; simp [Value.oneCell']

theorem wpList_store_to {P : Program} {ops : Array Oper} {rest : List Oper} {op : Oper} {a : Act} {w : World} {Q : Exit → Act → World → Prop} (hgd : op.guard = none) (ty : TypeId) (x y : Operand) (ho : op.op = .store ty x y)
    (b o : Nat) (cells : Array Value) (hx : a.eval x = .pointer (some ⟨b, o, none⟩)) (hy : a.eval y = .agg cells)
    (ht : w.there b o cells.size) (hi : (P.info? ty).map (·.size) = some cells.size) (h1 : cells.all (·.oneCell') = true) (w' : World) (hw : w' = w.setCells b o cells.toList)
    (h : wpList P ops Q rest (a.put op.dst undef) w') : wpList P ops Q (op :: rest) a w := by
  subst hw
  exact wpList_store_mid hgd ty x y ho b o cells hx hy ht hi h1 h
theorem stp_wf {ss : List Int} (h : ∀ x ∈ ss, (Lit.int .i64 x).wf = true) (k : Nat) : (Lit.int .i64 (stp ss k)).wf = true := by
  unfold stp
  cases e : ss[k]? with
  | none => decide
  | some x => exact h x (List.mem_of_getElem? e)
theorem longN_step (r : ResA) (k : Nat) (q : Bool) (hq : q = retAt r.ds (stp r.ss k)) : longN r (k + 1) = (max (longN r k).1 (if q = true then 0 else (longN r k).2 + 1), if q = true then 0 else (longN r k).2 + 1) := by
  subst hq; rfl
structure LS (r : ResA) (W wr : World) (k : Nat) : Prop where
  own : wr.ownsMap Try.prog 3 (unitElem (H := Unit)) (W.heap.size + 1) k (setD (r.ds.take k))
  box : wr.heap[W.heap.size]? = some (.cells r.cells.toArray 26 (0, 0))
  chg : Chg (fun _ => False) W wr
theorem LS.quiet {r : ResA} {W wr wx : World} {k : Nat} (h : LS r W wr k) (c : Chg (fun _ => False) wr wx) : LS r W wx k := ⟨own_chg h.own c (fun x => x), (c.block _ (lt_of h.box) (fun x => x)).trans h.box, h.chg.falls c⟩
theorem LS.put {r : ResA} {W wr wx : World} {k : Nat} {d : DidA} (h : LS r W wr k) (hd : r.ds[k]? = some d) (h0 : 0 ≤ d.tz) (ho : wx.ownsMap Try.prog 3 (unitElem (H := Unit)) (W.heap.size + 1) (k + 1) ((setD (r.ds.take k)).put (.int .i64 d.tz) (.agg []))) (hg : wr.grownBy wx (some (W.heap.size + 1))) : LS r W wx (k + 1) :=
  ⟨by rw [setD_put _ _ d hd h0]; exact ho, (hg.block _ (lt_of h.box) (by simp)).trans h.box, h.chg.grown hg (fun j e hj => by injection e with e; omega)⟩
theorem LS.stay {r : ResA} {W wr : World} {k : Nat} {d : DidA} (h : LS r W wr k) (hd : r.ds[k]? = some d) (h0 : ¬ 0 ≤ d.tz) : LS r W wr (k + 1) :=
  ⟨by rw [setD_stay _ _ d hd h0]; exact h.own.mono (Nat.le_succ _), h.box, h.chg⟩

set_option maxRecDepth 100000 in
set_option maxHeartbeats 4000000 in
theorem p_longest (r : ResA) (W : World) (h : r.At W) : Calls Try.prog 8 #[.agg r.cells.toArray] W fun e w => e = .returned (.int .i64 (((longN r r.ts.length).1 : Nat) : Int)) ∧ Chg (fun _ => False) W w := by
  have HR := keepH h
  have hnd := h.nd
  have hnt := h.nt
  clear h
  have hmm := @run_makeMap Try.prog
  obtain ⟨W1, hW1⟩ : ∃ W1, W1 = (W.alloc (.cells r.cells.toArray 26)).alloc (.map #[] 0) := ⟨_, rfl⟩
  have C1 : Chg (fun _ => False) W W1 := by rw [hW1]; exact ((Chg.refl _ _).alloc _).alloc _
  have k1 : W1.heap[W.heap.size]? = some (.cells r.cells.toArray 26 (0, 0)) := by rw [hW1]; exact alloc_of (heap_alloc_new _ _) _
  have m1 : W1.ownsMap Try.prog 3 (unitElem (H := Unit)) (W.heap.size + 1) 0 (setD (r.ds.take 0)) := by
    rw [hW1]
    have := World.ownsMap_made (H := Unit) (W.alloc (.cells r.cells.toArray 26)) Try.prog 3 unitElem
    rw [World.size_alloc] at this
    exact this
  have L1 : Hid (LS r W W1 0) := ⟨m1, k1, C1⟩
  have b0 : W1.cell? ⟨W.heap.size, 0, none⟩ = some (.slice r.pd r.ds.length r.cd) := cell_of k1 0
  have b1 : W1.cell? ⟨W.heap.size, 1, none⟩ = some (.slice r.pt r.ts.length r.ct) := cell_of k1 1
  have b2 : W1.cell? ⟨W.heap.size, 2, none⟩ = some (.slice r.ps r.ss.length r.cs) := cell_of k1 2
  clear C1 k1 m1
  go_enter Try.func8, Try.ntmps8
  go_upto_region 2 with fail
  rw [← hW1]
  clear hW1 hmm
  go_wp2_with fail
  go_loopw [15] (fun s wr => ∃ k : Nat, k ≤ r.ds.length ∧ s = .int .i64 (k : Int) ∧ Hid (LS r W wr k)) (fun s _ => r.ds.length - (intOf s).toNat)
  case atStart => exact ⟨0, by omega, rfl, L1⟩
  case round =>
    clear b0 b1 b2 L1
    obtain ⟨k, hk, rfl, HK⟩ := hrel
    by_cases hlt : k < r.ds.length
    · have t1 : (k : Int) < (r.ds.length : Int) := by omega
      obtain ⟨d, hd⟩ : ∃ d, r.ds[k]? = some d := ⟨r.ds[k], List.getElem?_eq_getElem hlt⟩
      obtain ⟨bk, off, e, hb, c0⟩ := (HR.out.ds.chg HK.out.chg).get k d.cells (by simp [hd])
      have hkey : keyOf Try.prog 3 (.int .i64 d.tz) = some (.int .i64 d.tz) := keyOf_int_mk Try.underlying3 (HR.out.wd d (List.mem_of_getElem? hd))
      obtain ⟨w2, hw2, B2, C2, th⟩ := new_row wr 58 zeroDid.cells d.cells rfl
      have HD := keepH hd
      have HW2 := keepH hw2
      have HB2 := keepH B2
      have HC2 := keepH C2
      have HTH := keepH th
      have HC0 := keepH c0
      have HRA : Hid (w2.rangeAt wr.heap.size 0 d.cells) := fun j v hv => by rw [cell_of B2]; simpa using hv
      rw [e]
      clear hd hw2 B2 C2 th c0 hb
      by_cases h0 : 0 ≤ d.tz
      · have e0 : decide (0 ≤ d.tz) = true := by simpa using h0
        go_wp2_with (first
          | (refine wpList_load_mid rfl 58 (.tmp 17) rfl bk (off + k * 22) rfl d.cells _ HC0.out Try.underlying58 rfl (did_size d) ?_)
          | (refine wpList_store_to rfl 58 (.tmp 5) (.tmp 18) rfl wr.heap.size 0 d.cells.toArray rfl rfl HTH.out (did_size' d) (did_one d) w2 HW2.out ?_; clear HW2 HTH)
          | (refine wpList_load_mid rfl 58 (.tmp 5) rfl wr.heap.size 0 rfl d.cells _ HRA.out Try.underlying58 rfl (did_size d) ?_)
          | fail)
        refine (p_returned d w2).mono ?_
        rintro e1 w3 ⟨rfl, C3⟩
        rw [e0]
        have HL3 := keepH ((HK.out.quiet HC2.out).quiet C3)
        have c3 : w3.cell? ⟨wr.heap.size, 3, none⟩ = some (.int .i64 d.tz) := (cell_chg C3 (lt_of HB2.out)).trans (cell_of HB2.out 3)
        clear C3
        go_wp2_with (first
          | (at_mapUpdate; refine wpList_mapUpdate_own _ rfl _ _ _ 60 rfl 3 62 law3 Try.underlying60 (unitElem (H := Unit)) (W.heap.size + 1) k _ rfl HL3.out.own (by unfold maxLen; omega) _ _ _ rfl rfl hkey _ [] unitElem_mk ?_; intro w4 hown1 hgrow1)
          | fail)
        have HL4 := keepH (HL3.out.put HD.out h0 hown1 hgrow1)
        go_roundw
        case rel => exact ⟨k + 1, by omega, by first | rfl | go_num, HL4⟩
        case measure => simp [intOf]; omega
      · have e0 : decide (0 ≤ d.tz) = false := by simpa using h0
        go_wp2_with (first
          | (refine wpList_load_mid rfl 58 (.tmp 17) rfl bk (off + k * 22) rfl d.cells _ HC0.out Try.underlying58 rfl (did_size d) ?_)
          | (refine wpList_store_to rfl 58 (.tmp 5) (.tmp 18) rfl wr.heap.size 0 d.cells.toArray rfl rfl HTH.out (did_size' d) (did_one d) w2 HW2.out ?_; clear HW2 HTH)
          | (refine wpList_load_mid rfl 58 (.tmp 5) rfl wr.heap.size 0 rfl d.cells _ HRA.out Try.underlying58 rfl (did_size d) ?_)
          | fail)
        refine (p_returned d w2).mono ?_
        rintro e1 w3 ⟨rfl, C3⟩
        rw [e0]
        have HL3 := keepH (((HK.out.quiet HC2.out).quiet C3).stay HD.out (by omega))
        clear C3
        go_wp2_with fail
        go_roundw
        case rel => exact ⟨k + 1, by omega, by first | rfl | go_num, HL3⟩
        case measure => simp [intOf]; omega
    · obtain rfl : k = r.ds.length := by omega
      have t1 : ¬ (r.ds.length : Int) < (r.ds.length : Int) := by omega
      have b1 : wr.cell? ⟨W.heap.size, 1, none⟩ = some (.slice r.pt r.ts.length r.ct) := cell_of HK.out.box 1
      go_wp2_with fail
      clear b1
      go_loopw [6, 7, 30] (fun x y s wx => ∃ k : Nat, k ≤ r.ts.length ∧ s = .int .i64 (k : Int) ∧ x = .int .i64 (((longN r k).1 : Nat) : Int) ∧ y = .int .i64 (((longN r k).2 : Nat) : Int) ∧ Hid (LS r W wx r.ds.length)) (fun _ _ s _ => r.ts.length - (intOf s).toNat)
      case atStart => exact ⟨0, by omega, rfl, rfl, rfl, HK⟩
      case round =>
        obtain ⟨k, hk, rfl, rfl, rfl, HX⟩ := hrel
        by_cases hlt : k < r.ts.length
        · have t2 : (k : Int) < (r.ts.length : Int) := by omega
          have hl := longN_le r k
          have HAT := keepH (HR.out.chg HX.out.chg)
          have b0 : wr.cell? ⟨W.heap.size, 0, none⟩ = some (.slice r.pd r.ds.length r.cd) := cell_of HX.out.box 0
          have b1 : wr.cell? ⟨W.heap.size, 1, none⟩ = some (.slice r.pt r.ts.length r.ct) := cell_of HX.out.box 1
          have b2 : wr.cell? ⟨W.heap.size, 2, none⟩ = some (.slice r.ps r.ss.length r.cs) := cell_of HX.out.box 2
          obtain ⟨m, hm⟩ : ∃ m, m = (longN r k).1 := ⟨_, rfl⟩
          obtain ⟨n, hn2⟩ : ∃ n, n = (longN r k).2 := ⟨_, rfl⟩
          rw [← hm, ← hn2] at hl ⊢
          have HM := keepH hm
          have HN := keepH hn2
          clear hm hn2
          obtain ⟨hl1, hl2⟩ := hl
          obtain ⟨z, hz⟩ : ∃ z, z = stp r.ss k := ⟨_, rfl⟩
          have hkey : keyOf Try.prog 3 (.int .i64 z) = some (.int .i64 z) := keyOf_int_mk Try.underlying3 (by rw [hz]; exact stp_wf HR.out.ws k)
          have HZ := keepH hz
          obtain ⟨q, hq⟩ : ∃ q, q = retAt r.ds (stp r.ss k) := ⟨_, rfl⟩
          have HQ := keepH hq
          clear hq hz
          cases q with
          | true =>
            have hq : Maps.has (setD r.ds) (.int .i64 z) = true := by rw [has_setD, HZ.out]; exact HQ.out.symm
            go_wp2_with fail
            refine (p_step r k wr HAT.out (by omega)).mono ?_
            rintro e w5 ⟨rfl, C5⟩
            rw [← HZ.out]
            have HL5 := keepH (HX.out.quiet C5)
            clear C5
            go_wp2_with (first
              | (at_lookup; refine wpList_lookup_own_unit _ rfl _ _ 60 rfl 3 62 law3 Try.underlying60 (zero62 _) (W.heap.size + 1) r.ds.length _ rfl HL5.out.own _ _ rfl hkey ?_)
              | fail)
            all_goals go_roundw
            all_goals first
              | (case rel => exact ⟨k + 1, by omega, by first | rfl | go_num, by rw [longN_step r k _ HQ.out, ← HM.out]; simp, by rw [longN_step r k _ HQ.out]; simp, keepH (HL5.out.quiet ((Chg.refl _ _).alloc _))⟩)
              | (case measure => simp [intOf]; omega)
          | false =>
            by_cases mx : m < n + 1
            · have mz : (m : Int) < (n : Int) + 1 := by omega
              have hq : Maps.has (setD r.ds) (.int .i64 z) = false := by rw [has_setD, HZ.out]; exact HQ.out.symm
              go_wp2_with fail
              refine (p_step r k wr HAT.out (by omega)).mono ?_
              rintro e w5 ⟨rfl, C5⟩
              rw [← HZ.out]
              have HL5 := keepH (HX.out.quiet C5)
              clear C5
              go_wp2_with (first
                | (at_lookup; refine wpList_lookup_own_unit _ rfl _ _ 60 rfl 3 62 law3 Try.underlying60 (zero62 _) (W.heap.size + 1) r.ds.length _ rfl HL5.out.own _ _ rfl hkey ?_)
                | fail)
              all_goals go_roundw
              all_goals first
                | (case rel => exact ⟨k + 1, by omega, by first | rfl | go_num, by rw [longN_step r k _ HQ.out, ← HM.out, ← HN.out]; simp; omega, by rw [longN_step r k _ HQ.out, ← HN.out]; simp, keepH (HL5.out.quiet ((Chg.refl _ _).alloc _))⟩)
                | (case measure => simp [intOf]; omega)
            · have mz : ¬ (m : Int) < (n : Int) + 1 := by omega
              have hq : Maps.has (setD r.ds) (.int .i64 z) = false := by rw [has_setD, HZ.out]; exact HQ.out.symm
              go_wp2_with fail
              refine (p_step r k wr HAT.out (by omega)).mono ?_
              rintro e w5 ⟨rfl, C5⟩
              rw [← HZ.out]
              have HL5 := keepH (HX.out.quiet C5)
              clear C5
              go_wp2_with (first
                | (at_lookup; refine wpList_lookup_own_unit _ rfl _ _ 60 rfl 3 62 law3 Try.underlying60 (zero62 _) (W.heap.size + 1) r.ds.length _ rfl HL5.out.own _ _ rfl hkey ?_)
                | fail)
              all_goals go_roundw
              all_goals first
                | (case rel => exact ⟨k + 1, by omega, by first | rfl | go_num, by rw [longN_step r k _ HQ.out, ← HM.out, ← HN.out]; simp; omega, by rw [longN_step r k _ HQ.out, ← HN.out]; simp, keepH (HL5.out.quiet ((Chg.refl _ _).alloc _))⟩)
                | (case measure => simp [intOf]; omega)
        · obtain rfl : k = r.ts.length := by omega
          have t2 : ¬ (r.ts.length : Int) < (r.ts.length : Int) := by omega
          go_wp2_with fail
          go_ret
          exact ⟨by simp, HX.out.chg⟩
end Go.Proofs.Ytmjjaadliebgoaa
