/- Whatever the numbers of threads and of calls: too many of either are ErrLong, no memory is ErrNil, else a runner that comes to its end (shutterlaw04.StepLong is true for every input). -/
import Derived.Test.YtmckdefijcnhcabRows
import Derived.WalkKit
import Derived.ProofKit
import Derived.OpenShut
import Derived.JoinedCond
import Derived.Carry
import Derived.Lib.SmallJoins
import Derived.Test.YtmckdefijcnhcabSLong
import Derived.Test.YtmckdefijcnhcabALive
namespace Go.Proofs.Ytmckdefijcnhcab.stepLong
open Go.ChangeShapes Go.WideShapes Go.ChangeAt Go.RowKit Go.Joins Go.Shelf
set_option linter.unusedVariables false

theorem own : ownKnob Try.prog.godebug = none := by kernel_rfl
theorem laidOut : laidOutB Try.prog = true := by kernel_rfl

theorem infoPs : (Try.prog.info? 24).map (fun i => (i.zero, i.size, i.bytes)) = some (some (.slice none 0 0), 1, 24) := by kernel_rfl

set_option maxRecDepth 100000 in
theorem l_min1 (n : Nat) (h : 0 < n) (W : World) : Calls Try.prog 12 #[.int .i64 (n : Int)] W fun e W' => e = .returned (.int .i64 1) ∧ W' = W := by
  have t : (0 : Int) < (n : Int) := by omega
  go_enter Try.func12, Try.ntmps12
  go_wp2_with fail
  go_ret
  exact ⟨by simp, rfl⟩
set_option maxRecDepth 100000 in
theorem l_min0 (W : World) : Calls Try.prog 12 #[.int .i64 0] W fun e W' => e = .returned (.int .i64 0) ∧ W' = W := by
  go_enter Try.func12, Try.ntmps12
  go_wp2_with fail
  go_ret
  exact ⟨by simp, rfl⟩

/-- The threads that are handed in: all have none, the last one so many nil procs. -/
def longL (T C g : Nat) : List (Value × List Value) := if T = 0 then [] else List.replicate (T - 1) (.slice none 0 0, []) ++ [(.slice (some ⟨g, 0, none⟩) C C, List.replicate C .nilIface)]
theorem longL_len (T C g : Nat) : (longL T C g).length = T := by
  unfold longL
  split
  · simp_all
  · simp
    omega
theorem longL_long (T C g : Nat) : tooLongB (longL T C g) = decide (64 < T ∨ 0 < T ∧ 4096 < C) := by
  unfold tooLongB
  rw [longL_len]
  unfold longL
  by_cases h : T = 0
  · simp [h]
  · rw [if_neg h]
    have h0 : 0 < T := by omega
    simp [h0, List.any_append]
theorem longL_get (T C g j : Nat) (x : Value × List Value) (h : (longL T C g)[j]? = some x) : (j + 1 < T → x.2 = []) ∧ (j + 1 = T → x.2 = List.replicate C .nilIface) := by
  unfold longL at h
  by_cases h0 : T = 0
  · simp [h0] at h
  · rw [if_neg h0] at h
    by_cases hj : j < T - 1
    · rw [List.getElem?_append_left (by simpa using hj), List.getElem?_replicate, if_pos hj] at h
      simp at h
      subst h
      exact ⟨fun _ => rfl, fun e => by omega⟩
    · rw [List.getElem?_append_right (by simpa using Nat.le_of_not_lt hj)] at h
      have hm := List.mem_of_getElem? h
      simp at hm
      subst hm
      exact ⟨fun e => by omega, fun _ => rfl⟩

theorem nrun_start {W X Y : World} {G : Nat → Prop} {r m b T C g : Nat} {tv : Value} {ths : List Thr} {vbs : List Nat} (hW : Chg (fun _ => False) W X) (hm : IsMem X m b) (hb : Bank X (fun k => k = b) b 128 1 [] []) (hmW : W.heap.size ≤ m ∧ W.heap.size ≤ b) (h : Made X Y G r m b tv (longL T C g) ths vbs T) (hl : ths.length = T) : NRun W Y r m b T C 0 := by
  have lm := hm.lt
  have lb : b < X.heap.size := by obtain ⟨_, _, B⟩ := hb; exact B.lt b rfl
  have hs := hW.size
  refine ⟨G, fun k => k = b ∨ k = m, _, tv, _, _, ths, [], [], h.run, ⟨fun k => k = b, hm.chg h.chg (fun h => h), hb.chg h.chg (fun _ _ h => h), rfl⟩, fun j e e2 => ?_, hl, fun j t ht hj => ?_, fun j t ht hj => ?_, fun j hj => ?_, by simp, rfl, fun j e => ?_, hW.trans h.chg (fun _ _ x => x) (fun _ _ x => x)⟩
  · have := h.inG j e
    omega
  · obtain ⟨x, hx, e1, e2, _⟩ := h.thr j t ht
    exact ⟨e1.trans ((longL_get T C g j x hx).1 hj), e2⟩
  · obtain ⟨x, hx, e1, e2, _⟩ := h.thr j t ht
    exact ⟨e1.trans ((longL_get T C g j x hx).2 hj), e2⟩
  · have hv := h.vl
    exact ⟨vbs[j]'(by omega), vwOf_get vbs j _ (List.getElem?_eq_getElem (by omega))⟩
  · rcases e with e | e
    · have := h.inG j e
      omega
    · omega


theorem rep_set {α : Type} (a b : α) (T : Nat) (h : 0 < T) : (List.replicate T a).set (T - 1) b = List.replicate (T - 1) a ++ [b] := by
  obtain ⟨n, rfl⟩ : ∃ n, T = n + 1 := ⟨T - 1, by omega⟩
  rw [Nat.add_sub_cancel, List.replicate_succ', List.set_append_right _ _ (by simp)]
  simp

/-- The lists that are handed in, in a world. -/
theorem long_lists {X : World} {g g2 T C : Nat} {A B : Array Value} (hT : 0 < T) (hTl : T ≤ 300) (hCl : C ≤ 12288) (hA : A.toList = List.replicate T (.slice none 0 0)) (hB : B.toList = List.replicate C .nilIface)
    (h1 : X.heap[g]? = some (.cells (A.setIfInBounds (T - 1) (.slice (some ⟨g2, 0, none⟩) C C)) 24 (0, 0))) (h2 : X.heap[g2]? = some (.cells B 47 (0, 0))) : Lists X (.slice (some ⟨g, 0, none⟩) T T) (longL T C g2) := by
  have eL : longL T C g2 = List.replicate (T - 1) (.slice none 0 0, []) ++ [(.slice (some ⟨g2, 0, none⟩) C C, List.replicate C .nilIface)] := by unfold longL; rw [if_neg (by omega)]
  have sA : A.size = T := by rw [← Array.length_toList, hA]; simp
  have sB : B.size = C := by rw [← Array.length_toList, hB]; simp
  refine ⟨?_, fun x hx => ?_, fun x hx u hu => ?_⟩
  · have e := row_of (n := T) (s := 1) h1 (by simp [sA]) (by omega)
    rw [longL_len, eL]
    rw [Array.toList_setIfInBounds, hA, rep_set _ _ T hT] at e
    simpa using e
  · rw [eL] at hx
    rcases List.mem_append.1 hx with hx | hx
    · rw [List.eq_of_mem_replicate hx]
      exact World.ownsRow_nil _ _ _ _
    · rw [List.mem_singleton.1 hx]
      have e := row_of (n := C) (s := 1) h2 (by simp [sB]) (by omega)
      rw [hB] at e
      simpa using e
  · rw [eL] at hx
    rcases List.mem_append.1 hx with hx | hx
    · rw [List.eq_of_mem_replicate hx] at hu
      simp at hu
    · rw [List.mem_singleton.1 hx] at hu
      rw [List.eq_of_mem_replicate hu]
      rfl
theorem no_lists {X : World} {g : Nat} {C g2 : Nat} {A : Array Value} (hA : A.toList = []) (h1 : X.heap[g]? = some (.cells A 24 (0, 0))) : Lists X (.slice (some ⟨g, 0, none⟩) 0 0) (longL 0 C g2) := by
  have sA : A.size = 0 := by rw [← Array.length_toList, hA]; simp
  refine ⟨?_, fun x hx => by simp [longL] at hx, fun x hx => by simp [longL] at hx⟩
  have e := row_of (n := 0) (s := 1) h1 (by simp [sA]) (by omega)
  rw [hA] at e
  simpa [longL] using e


set_option maxRecDepth 100000 in
set_option maxHeartbeats 8000000 in
theorem walk (a0 a1 : Int) (w : World)  :
    Calls Try.prog 3 #[.int .i64 a0, .int .i64 a1] w fun e w' => e = .returned (.bool true) ∧ Below w.heap.size w w' := by
  obtain ⟨iL, hiL, hL0, hL1, hL2⟩ := info_parts infoPs
  obtain ⟨iP, hiP, hP0, hP1, hP2⟩ := info_parts infoP
  by_cases hin : 0 ≤ a0 ∧ a0 ≤ 300 ∧ 0 ≤ a1 ∧ a1 ≤ 12288
  · obtain ⟨T, rfl⟩ : ∃ T : Nat, a0 = (T : Int) := ⟨a0.toNat, by omega⟩
    obtain ⟨C, rfl⟩ : ∃ C : Nat, a1 = (C : Int) := ⟨a1.toNat, by omega⟩
    have hT : T ≤ 300 := by omega
    have hC : C ≤ 12288 := by omega
    have t1 : ¬ (T : Int) < 0 := by omega
    have t2 : ¬ (300 : Int) < (T : Int) := by omega
    have t3 : ¬ (C : Int) < 0 := by omega
    have t4 : ¬ (12288 : Int) < (C : Int) := by omega
    obtain ⟨A, hA⟩ : ∃ A, A = madeCells #[Value.slice none 0 0] T := ⟨_, rfl⟩
    obtain ⟨B, hB⟩ : ∃ B, B = madeCells #[Value.nilIface] C := ⟨_, rfl⟩
    have hAl : A.toList = List.replicate T (.slice none 0 0) := by rw [hA]; exact toList_madeCells_one _ _
    have hBl : B.toList = List.replicate C .nilIface := by rw [hB]; exact toList_madeCells_one _ _
    have hmT : ∀ u : World, (Instr.makeSlice 23 (.int .i64 (T : Int)) (.int .i64 (T : Int))).run Try.prog u = .ok (.slice (some ⟨u.heap.size, 0, none⟩) T T) (u.alloc (.cells A 24)) := fun u => by
      have h := run_make (P := Try.prog) u 23 24 iL (.slice none 0 0) Try.underlying23 hiL hL0 .i64 .i64 (T : Int) (T : Int) (by omega) (Int.le_refl _) (by rw [hL2]; omega) (by omega)
      rw [hA]
      simpa [hL1, Value.cells] using h
    have hmC : ∀ u : World, (Instr.makeSlice 24 (.int .i64 (C : Int)) (.int .i64 (C : Int))).run Try.prog u = .ok (.slice (some ⟨u.heap.size, 0, none⟩) C C) (u.alloc (.cells B 47)) := fun u => by
      have h := run_make (P := Try.prog) u 24 47 iP .nilIface Try.underlying24 hiP hP0 .i64 .i64 (C : Int) (C : Int) (by omega) (Int.le_refl _) (by rw [hP2]; omega) (by omega)
      rw [hB]
      simpa [hP1, Value.cells] using h
    have HAl := keepH hAl
    have HBl := keepH hBl
    have hAg : 0 < T → A[T - 1]? = some (.slice none 0 0) := fun h0 => by
      rw [← Array.getElem?_toList, hAl, List.getElem?_replicate, if_pos (by omega)]
    clear hA hB hAl hBl
    clear hin
    by_cases hT0 : T = 0
    · subst hT0
      have hA0 : Hid (A.toList = []) := HAl.out
      have hm0 : ∀ u : World, (Instr.makeSlice 23 (.int .i64 0) (.int .i64 0)).run Try.prog u = .ok (.slice (some ⟨u.heap.size, 0, none⟩) 0 0) (u.alloc (.cells A 24)) := hmT
      clear hAg HAl HBl hmC hmT t1 t2 hT
      go_enter Try.func3, Try.ntmps3
      go_wp2_with fail
      refine (s_live _).mono ?_
      rintro e W0 ⟨rfl, C0⟩
      have HC0 := keepH C0
      clear C0
      go_wp2_with fail
      obtain ⟨W2, hW2⟩ : ∃ W2, W2 = W0.alloc (.cells A 24) := ⟨_, rfl⟩
      rw [← hW2]
      have LL : Hid (Lists W2 (.slice (some ⟨W0.heap.size, 0, none⟩) 0 0) (longL 0 C 0)) := by
        refine no_lists hA0.out ?_
        rw [hW2]
        exact heap_alloc_new _ _
      have C2 : Hid (Chg (fun _ => False) W0 W2) := by rw [hW2]; exact (Chg.refl _ _).alloc _
      clear hW2 hm0 hA0
      refine (m_new 128 W2 (by omega)).mono ?_
      rintro e W3 ⟨rfl, M3, B3, C3, S3⟩
      have HM3 := keepH M3
      have HB3 := keepH B3
      have HC3 := keepH (C2.out.trans C3 (H := fun _ => False) (fun _ _ x => x) (fun _ _ x => x))
      have HL3 := keepH (LL.out.chg C3)
      have hmw : Hid (W0.heap.size ≤ W2.heap.size) := C2.out.size
      clear M3 B3 C3 S3 LL
      go_wp2_with fail
      refine (s_new _ _ _ _ _ HM3.out HL3.out (by rfl)).mono ?_
      rintro e W4 ⟨r, G, tv, ths, vbs, rfl, MD, hl⟩
      have NR : Hid (NRun W0 W4 r (W2.heap.size + 1) W2.heap.size 0 C 0) := nrun_start HC3.out HM3.out HB3.out (by have := hmw.out; omega) MD hl
      clear MD hl
      go_wp2_with fail
      refine (s_new_nil _ _).mono ?_
      rintro e w'' ⟨rfl, rfl⟩
      go_wp2_with fail
      refine (nr_finish NR.out (.inl rfl) (by omega)).mono ?_
      rintro e W5 ⟨rfl, N5⟩
      obtain ⟨G5, K5, vw5, tv5, ev5, av5, ths5, evs5, ats5, h5⟩ := N5
      have hd6 : allDone ths5 = true := by rw [nr_allDone h5 (Nat.zero_le _)]; simp
      have HR5 : Hid (RunAt W5 G5 r (W2.heap.size + 1) vw5 tv5 ev5 av5 ths5 0 evs5 ats5) := h5.run
      have HC5 := keepH h5.chg
      clear h5 NR
      go_wp2_with fail
      refine (r_steps _ HR5.out).mono ?_
      rintro e w3 ⟨rfl, rfl⟩
      go_wp2_with fail
      refine (l_min0 _).mono ?_
      rintro e W6 ⟨rfl, rfl⟩
      go_wp2_with fail
      refine (r_done _ HR5.out).mono ?_
      rintro e w4 ⟨rfl, q, rfl⟩
      go_wp2_with fail
      go_ret
      exact ⟨by simp, (((HC0.out.trans HC5.out (H := fun k => w.heap.size ≤ k) (fun _ _ x => x.elim) (fun _ _ x => x.elim))).trans (Goes.drewN _ (fun _ => False) q).chg (H := fun k => w.heap.size ≤ k) (fun _ _ x => x) (fun _ _ x => x.elim)).below (Nat.le_refl _)⟩
    · have t5 : (0 : Int) < (T : Int) := by omega
      have wT : IntKind.i64.wrap ((T : Int) - 1) = ((T - 1 : Nat) : Int) := by rw [IntKind.wrap_i64]; omega
      have t6 : ((T - 1 : Nat) : Int) < (T : Int) := by omega
      have t7 : 0 < T := by omega
      have hAc := hAg t7
      clear hAg
      go_enter Try.func3, Try.ntmps3
      go_wp2_with fail
      refine (s_live _).mono ?_
      rintro e W0 ⟨rfl, C0⟩
      have HC0 := keepH C0
      clear C0
      go_wp2_with fail
      obtain ⟨W2, hW2⟩ : ∃ W2, W2 = ((W0.alloc (.cells (A.setIfInBounds (T - 1) (.slice (some ⟨W0.heap.size + 1, 0, none⟩) C C)) 24)).alloc (.cells B 47)) := ⟨_, rfl⟩
      rw [← hW2]
      have LL : Hid (Lists W2 (.slice (some ⟨W0.heap.size, 0, none⟩) T T) (longL T C (W0.heap.size + 1))) := by
        refine long_lists t7 hT hC HAl.out HBl.out ?_ ?_
        · rw [hW2]
          exact alloc_of (heap_alloc_new _ _) _
        · have e := heap_alloc_new (W0.alloc (.cells (A.setIfInBounds (T - 1) (.slice (some ⟨W0.heap.size + 1, 0, none⟩) C C)) 24)) (.cells B 47)
          rw [World.size_alloc] at e
          rw [hW2]
          exact e
      have C2 : Hid (Chg (fun _ => False) W0 W2) := by rw [hW2]; exact ((Chg.refl _ _).alloc _).alloc _
      clear hW2 hmT hmC hAc HAl HBl
      refine (m_new 128 W2 (by omega)).mono ?_
      rintro e W3 ⟨rfl, M3, B3, C3, S3⟩
      have HM3 := keepH M3
      have HB3 := keepH B3
      have HC3 := keepH (C2.out.trans C3 (H := fun _ => False) (fun _ _ x => x) (fun _ _ x => x))
      have HL3 := keepH (LL.out.chg C3)
      have hlen := longL_len T C (W0.heap.size + 1)
      have hlong := longL_long T C (W0.heap.size + 1)
      have HI : Hid (∀ x ∈ longL T C (W0.heap.size + 1), x.2.length ≤ 1099511627776) := fun x hx => by
        unfold longL at hx
        rw [if_neg (by omega)] at hx
        rcases List.mem_append.1 hx with hx | hx
        · rw [List.eq_of_mem_replicate hx]; simp
        · rw [List.mem_singleton.1 hx]; simp; omega
      clear M3 B3 C3 S3 LL
      by_cases hlg : 64 < T ∨ 4096 < C
      · have hB : tooLongB (longL T C (W0.heap.size + 1)) = true := by rw [hlong]; simp; omega
        have e1 : (decide (64 < T) || (decide (0 < T) && decide (4096 < C))) = true := by simp; omega
        have HLT := keepH hlong
        clear hlong
        by_cases h64 : 64 < T
        · have u1 : (64 : Int) < (T : Int) := by omega
          go_wp2_with fail
          refine (s_new_long _ _ _ _ HL3.out (by omega) HI.out hB).mono ?_
          rintro e w' ⟨rfl, rfl⟩
          go_wp2_with fail
          refine (s_new_nil _ _).mono ?_
          rintro e w'' ⟨rfl, rfl⟩
          go_wp2_with fail
          go_ret
          exact ⟨by simp, ((HC0.out.trans HC3.out (H := fun k => w.heap.size ≤ k) (fun _ _ x => x.elim) (fun _ _ x => x.elim))).below (Nat.le_refl _)⟩
        · have u1 : ¬ (64 : Int) < (T : Int) := by omega
          have u2 : (4096 : Int) < (C : Int) := by omega
          go_wp2_with fail
          refine (s_new_long _ _ _ _ HL3.out (by omega) HI.out hB).mono ?_
          rintro e w' ⟨rfl, rfl⟩
          go_wp2_with fail
          refine (s_new_nil _ _).mono ?_
          rintro e w'' ⟨rfl, rfl⟩
          go_wp2_with fail
          go_ret
          exact ⟨by simp, ((HC0.out.trans HC3.out (H := fun k => w.heap.size ≤ k) (fun _ _ x => x.elim) (fun _ _ x => x.elim))).below (Nat.le_refl _)⟩
      · have hB : tooLongB (longL T C (W0.heap.size + 1)) = false := by rw [hlong]; simp; omega
        have u1 : ¬ (64 : Int) < (T : Int) := by omega
        have u2 : ¬ (4096 : Int) < (C : Int) := by omega
        have hC4 : C ≤ 4096 := by omega
        have eK : endK T C = C := by rw [endK, if_neg hT0]
        have EK := keepH eK
        have wC : IntKind.i64.wrap (C : Int) = (C : Int) := i64_lt (by omega)
        have HLN := keepH hlen
        have hmw : Hid (W0.heap.size ≤ W2.heap.size) := C2.out.size
        clear hlong hlen eK hlg
        go_wp2_with fail
        refine (s_new _ _ _ _ _ HM3.out HL3.out hB).mono ?_
        rintro e W4 ⟨r, G, tv, ths, vbs, rfl, MD, hl⟩
        have NR : Hid (NRun W0 W4 r (W2.heap.size + 1) W2.heap.size T C 0) := by
          rw [HLN.out] at MD hl
          exact nrun_start HC3.out HM3.out HB3.out (by have := hmw.out; omega) MD hl
        clear MD hl
        go_wp2_with fail
        refine (s_new_nil _ _).mono ?_
        rintro e w'' ⟨rfl, rfl⟩
        go_wp2_with fail
        refine (nr_finish NR.out (.inr hC4) (by omega)).mono ?_
        rintro e W5 ⟨rfl, N5⟩
        rw [EK.out] at N5
        obtain ⟨G5, K5, vw5, tv5, ev5, av5, ths5, evs5, ats5, h5⟩ := N5
        have hd5 := nr_allDone h5 (Nat.le_refl _)
        have hd6 : allDone ths5 = true := by rw [hd5]; simp
        have HR5 := keepH h5.run
        have HC5 := keepH h5.chg
        clear h5 hd5 NR
        go_wp2_with fail
        refine (r_steps _ HR5.out).mono ?_
        rintro e w'' ⟨rfl, rfl⟩
        go_wp2_with fail
        refine (l_min1 T t7 _).mono ?_
        rintro e W6 ⟨rfl, rfl⟩
        go_wp2_with fail
        refine (r_done _ HR5.out).mono ?_
        rintro e w'' ⟨rfl, q, rfl⟩
        go_wp2_with fail
        go_ret
        exact ⟨by simp, (((HC0.out.trans HC5.out (H := fun k => w.heap.size ≤ k) (fun _ _ x => x.elim) (fun _ _ x => x.elim))).trans (Goes.drewN _ (fun _ => False) q).chg (H := fun k => w.heap.size ≤ k) (fun _ _ x => x) (fun _ _ x => x.elim)).below (Nat.le_refl _)⟩
  · have fin : ∀ (W0 : World), Chg (fun _ => False) w W0 → Below w.heap.size w W0 := fun W0 h => (h.mono (G := fun k => w.heap.size ≤ k) (fun _ _ x => x.elim)).below (Nat.le_refl _)
    by_cases h1 : a0 < 0
    · clear hin
      go_enter Try.func3, Try.ntmps3
      go_wp2_with fail
      refine (s_live _).mono ?_
      rintro e W0 ⟨rfl, C0⟩
      have HC0 := keepH C0
      clear C0
      go_wp2_with fail
      go_ret
      exact ⟨by simp, fin _ HC0.out⟩
    · by_cases h2 : 300 < a0
      · clear hin
        go_enter Try.func3, Try.ntmps3
        go_wp2_with fail
        refine (s_live _).mono ?_
        rintro e W0 ⟨rfl, C0⟩
        have HC0 := keepH C0
        clear C0
        go_wp2_with fail
        go_ret
        exact ⟨by simp, fin _ HC0.out⟩
      · by_cases h3 : a1 < 0
        · clear hin
          go_enter Try.func3, Try.ntmps3
          go_wp2_with fail
          refine (s_live _).mono ?_
          rintro e W0 ⟨rfl, C0⟩
          have HC0 := keepH C0
          clear C0
          go_wp2_with fail
          go_ret
          exact ⟨by simp, fin _ HC0.out⟩
        · have h4 : 12288 < a1 := by omega
          clear hin
          go_enter Try.func3, Try.ntmps3
          go_wp2_with fail
          refine (s_live _).mono ?_
          rintro e W0 ⟨rfl, C0⟩
          have HC0 := keepH C0
          clear C0
          go_wp2_with fail
          go_ret
          exact ⟨by simp, fin _ HC0.out⟩

set_option maxRecDepth 100000 in
theorem lifted (os : Os) (started : os.Started) (H : Type) (enc : TypeId × Value → H) :
    ReturnsInHanded {} Try.checked os 3 .any (Rows.stepLongSpec.pre6 enc Try.prog Try.f3 Rows.stepLongRow.domain false) (Rows.stepLongSpec.post enc Try.prog Try.f3 false true false false) := by
  refine returnsInHanded_of_change_sized (C := Try.checked) own started (by kernel_rfl) Try.func3
    (ChangeSpec.witness6 (enc := enc) (C := Try.checked) false ⟨#[], #[.int .i64 0, .int .i64 0], []⟩ 8 (by kernel_rfl) (by kernel_rfl) (by kernel_rfl) (by kernel_rfl)) ?_
  intro W base args ds gs before hval0 hW hcnd hsz0 _
  have hval : ∀ (j : Nat) t v, Try.f3.params[j]? = some t → args[j]? = some v → Value.okWide Try.prog W .any base t v := hval0
  have hsz : (DataW.weightsEach Try.prog (Try.f3.params.toList ++ Rows.stepLongSpec.plain.varTypes Try.prog) (ds ++ gs)).all (· ≤ reachBytes) = true := hsz0
  clear hsz0
  have hW' := hW
  obtain ⟨p, q, hA0, hV, rfl, hfz, hnd⟩ := hW
  have hA : DataW.TrodAll enc Try.prog W 0 (fun _ => true) true Try.f3.params.toList args.toList ds p := hA0
  rw [Try.params3] at hA hval hsz
  obtain ⟨v0, vs0, d0, ds0, p0, q0, hargs, rfl, rfl, h0, r0⟩ := trodAll_cons hA
  obtain ⟨v1, vs1, d1, ds1, p1, q1, rfl, rfl, rfl, h1, r1⟩ := trodAll_cons r0
  obtain ⟨rfl, rfl, rfl⟩ := trodAll_nil r1
  obtain rfl : args = #[v0, v1] := by cases args; simp_all
  obtain ⟨rfl, rfl⟩ := trodVars_none hV
  have k0 := h0
  have lt0 : ∀ x ∈ p0, x.block < W.heap.size := by obtain ⟨m, hm⟩ := k0; exact DataW.trod_lt m _ _ _ hm
  have k1 := h1
  have lt1 : ∀ x ∈ p1, x.block < W.heap.size := by obtain ⟨m, hm⟩ := k1; exact DataW.trod_lt m _ _ _ hm
  obtain ⟨a0, rfl, rfl, rfl, w0⟩ := open_int Try.underlying3 (hval 0 3 v0 rfl rfl) h0
  obtain ⟨a1, rfl, rfl, rfl, w1⟩ := open_int Try.underlying3 (hval 1 3 v1 rfl rfl) h1
  clear hA0 hval0
  refine (walk a0 a1 W).mono fun e W' ⟨he, bel⟩ => ?_
  subst he
  exact ⟨_, rfl, _, _, _, [], _, [], hW', trodAll_mk1 (shut_bool Try.underlying4 _), (trodAll_cons_mk (Below.trod laidOut (by kernel_rfl) (of_decide_eq_true (by kernel_rfl)) k0 bel lt0) (trodAll_cons_mk (Below.trod laidOut (by kernel_rfl) (of_decide_eq_true (by kernel_rfl)) k1 bel lt1) trodAll_mk0)), rfl, bel.frame _, fun h => by cases h⟩

theorem over : Rows.stepLongRow.holds Try.pinned (OpenSpec.ofChange Rows.stepLongSpec) :=
  OpenClaim.holds_of_wide 3 Try.f3 rfl rfl rfl rfl rfl rfl rfl ⟨rfl, rfl, rfl, rfl, rfl⟩ rfl rfl rfl rfl rfl (by kernel_rfl) Try.func3 (by kernel_rfl)
    (of_decide_eq_true (by kernel_rfl)) (by unfold Func.isWrapper; first | (rw [if_pos (by decide +kernel)]; kernel_rfl) | (rw [if_neg (by decide +kernel)]; exact ⟨rfl, rfl⟩))
    (fun os started H enc _ => lifted os started H enc)
end Go.Proofs.Ytmckdefijcnhcab.stepLong
namespace Go.Proofs.Ytmckdefijcnhcab
theorem stepLong_holds : Rows.StepLongSaid := stepLong.over
end Go.Proofs.Ytmckdefijcnhcab
