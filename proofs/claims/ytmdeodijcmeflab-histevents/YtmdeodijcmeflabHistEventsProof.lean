/- Whatever the events: what Spans tells is right, and has a span for each call; else nothing is told (shutterlaw05.HistEvents is true for every input). -/
import Derived.Test.YtmdeodijcmeflabRows
import Derived.WalkKit
import Derived.ProofKit
import Derived.OpenShut
import Derived.JoinedCond
import Derived.Carry
import Derived.Lib.SmallJoins
import Derived.Test.YtmdeodijcmeflabHEvOk
import Derived.Test.YtmdeodijcmeflabHLive
import Derived.Test.YtmdeodijcmeflabHArgs2
namespace Go.Proofs.Ytmdeodijcmeflab.histEvents
open Go.ChangeShapes Go.WideShapes Go.ChangeAt Go.RowKit Go.Joins
set_option linter.unusedVariables false

theorem own : ownKnob Try.prog.godebug = none := by kernel_rfl
theorem laidOut : laidOutB Try.prog = true := by kernel_rfl

set_option maxRecDepth 100000 in
set_option maxHeartbeats 8000000 in
theorem walk (pe : Option Addr) (ce : Nat) (es : List Evt) (w : World) (hE : EReads w pe es) (oke : ∀ e ∈ es, e.Ok) (be : es.length ≤ 4398046511000) :
    Calls Try.prog 4 #[.slice pe es.length ce] w fun e w' => e = .returned (.bool true) ∧ Below w.heap.size w w' := by
  have HE := keepH hE
  have OE := keepH oke
  clear hE oke
  go_enter Try.func4, Try.ntmps4
  go_wp2_with fail
  refine (h_spans pe ce es _ HE.out OE.out be).mono ?_
  rintro e W1 ⟨C1, v, ⟨sp, hsp, rfl, R1, N1⟩ | ⟨hn, rfl⟩⟩
  · have EI := keepH (ev_inv es.length (by omega) sp hsp)
    have OK := keepH (ev_ok OE.out es.length sp hsp)
    have HC := keepH C1
    have HR := keepH R1
    obtain ⟨pa, ca, rfl⟩ := slice_of HR.out
    have hspl : sp.length ≤ 4398046511104 := by have e1 := EI.out.count; have e2 := callsN_le es es.length; omega
    clear C1 R1 N1 hsp
    go_wp2_with fail
    go_loopw [5, 6] (fun s5 s6 wr => ∃ k : Nat, k ≤ es.length ∧ s5 = .int .i64 ((callsN es k : Nat) : Int) ∧ s6 = .int .i64 (k : Int) ∧ Hid (wr = W1)) (fun _ s6 _ => es.length - (intOf s6).toNat)
    case atStart => exact ⟨0, by omega, by simp [callsN], rfl, keepH rfl⟩
    case round =>
      obtain ⟨k, hk, rfl, rfl, HW⟩ := hrel
      have e1 : wr = W1 := HW.out
      rw [e1]
      clear e1 HW
      obtain ⟨cn, hcn⟩ : ∃ cn, cn = callsN es k := ⟨_, rfl⟩
      have hcl : cn ≤ k := by rw [hcn]; exact callsN_le es k
      rw [← hcn]
      have HCN := keepH hcn
      clear hcn
      by_cases hlt : k < es.length
      · have t1 : (k : Int) < (es.length : Int) := by omega
        obtain ⟨e, he⟩ : ∃ e, es[k]? = some e := ⟨es[k], List.getElem?_eq_getElem hlt⟩
        obtain ⟨bk, off, rfl, hbk, c0, c1, c2, c3⟩ := (HE.out.chg HC.out (fun _ _ x => x)).get k e he
        have HX := keepH he
        clear he hbk
        obtain ⟨er, her⟩ : ∃ er, e.ret = er := ⟨_, rfl⟩
        have HER := keepH her
        rw [her] at c3
        clear her
        cases er with
        | true =>
          go_wp2_with fail
          go_roundw
          case rel => exact ⟨k + 1, by omega, by rw [callsN_succ HX.out, if_pos HER.out, ← HCN.out], by first | rfl | go_num, by first | exact keepH rfl | exact keepH trivial⟩
          case measure => simp [intOf]; omega
        | false =>
          go_wp2_with fail
          go_roundw
          case rel =>
            refine ⟨k + 1, by omega, ?_, by first | rfl | go_num, by first | exact keepH rfl | exact keepH trivial⟩
            rw [callsN_succ HX.out, if_neg (by rw [HER.out]; simp), ← HCN.out]
            first | rfl | go_num
          case measure => simp [intOf]; omega
      · obtain rfl : k = es.length := by omega
        have t1 : ¬ (es.length : Int) < (es.length : Int) := by omega
        have hcs : cn = sp.length := by rw [HCN.out, EI.out.count]
        subst hcs
        go_wp2_with fail
        refine (h_live _).mono ?_
        rintro e W2 ⟨rfl, C2⟩
        have HC2 := keepH (HC.out.trans C2 (H := fun _ => False) (fun _ _ x => x) (fun _ _ x => x))
        have HR2 := keepH (row_kept HR.out fun b hb => C2.block b (row_lt HR.out b hb) (fun x => x))
        clear C2
        go_wp2_with fail
        refine (h_right pa ca sp _ (SReads.of_row HR2.out) OK.out hspl).mono ?_
        rintro e W3 ⟨x, rfl, hx, C3⟩
        have hx0 : x = 0 := by
          rcases hx with h | h
          · exact h.2
          · exact absurd EI.out.right h.1
        subst hx0
        have HC3 := keepH (HC2.out.trans C3 (H := fun k => w.heap.size ≤ k) (fun _ _ x => x.elim) (fun _ _ x => x.elim))
        clear C3 hx
        go_wp2_with fail
        go_ret
        exact ⟨by simp, HC3.out.below (Nat.le_refl _)⟩
  · have HC := keepH C1
    clear C1 hn
    go_wp2_with fail
    refine (h_live _).mono ?_
    rintro e W2 ⟨rfl, C2⟩
    have HC2 := keepH (HC.out.trans C2 (H := fun k => w.heap.size ≤ k) (fun _ _ x => x.elim) (fun _ _ x => x.elim))
    clear C2
    go_wp2_with fail
    go_ret
    exact ⟨by simp, HC2.out.below (Nat.le_refl _)⟩

set_option maxRecDepth 100000 in
theorem lifted (os : Os) (started : os.Started) (H : Type) (enc : TypeId × Value → H) :
    ReturnsInHanded {} Try.checked os 4 .any (Rows.histEventsSpec.pre6 enc Try.prog Try.f4 Rows.histEventsRow.domain false) (Rows.histEventsSpec.post enc Try.prog Try.f4 false true false false) := by
  refine returnsInHanded_of_change_sized (C := Try.checked) own started (by kernel_rfl) Try.func4
    (ChangeSpec.witness6 (enc := enc) (C := Try.checked) false ⟨#[], #[.slice none 0 0], []⟩ 8 (by kernel_rfl) (by kernel_rfl) (by kernel_rfl) (by kernel_rfl)) ?_
  intro W base args ds gs before hval0 hW hcnd hsz0 _
  have hval : ∀ (j : Nat) t v, Try.f4.params[j]? = some t → args[j]? = some v → Value.okWide Try.prog W .any base t v := hval0
  have hsz : (DataW.weightsEach Try.prog (Try.f4.params.toList ++ Rows.histEventsSpec.plain.varTypes Try.prog) (ds ++ gs)).all (· ≤ reachBytes) = true := hsz0
  clear hsz0
  have hW' := hW
  obtain ⟨p, q, hA0, hV, rfl, hfz, hnd⟩ := hW
  have hA : DataW.TrodAll enc Try.prog W 0 (fun _ => true) true Try.f4.params.toList args.toList ds p := hA0
  rw [Try.params4] at hA hval hsz
  obtain ⟨v0, vs0, d0, ds0, p0, q0, hargs, rfl, rfl, h0, r0⟩ := trodAll_cons hA
  obtain ⟨rfl, rfl, rfl⟩ := trodAll_nil r0
  obtain rfl : args = #[v0] := by cases args; simp_all
  obtain ⟨rfl, rfl⟩ := trodVars_none hV
  have k0 := h0
  have lt0 : ∀ x ∈ p0, x.block < W.heap.size := by obtain ⟨m, hm⟩ := k0; exact DataW.trod_lt m _ _ _ hm
  obtain ⟨pe, ne, ce, rfl⟩ := okWide_slice Try.underlying31 (hval 0 31 v0 rfl rfl)
  have se := slice_size Try.underlying31 h0 hsz (j := 0) rfl rfl
  rw [bytesEvent] at se
  obtain ⟨es, hle, oke, hE⟩ := events_open h0
  subst hle
  have be : es.length ≤ 4398046511000 := by simp only [reachBytes] at se; omega
  clear hA0 hval0
  refine (walk pe ce es W hE oke be).mono fun e W' ⟨he, bel⟩ => ?_
  subst he
  exact ⟨_, rfl, _, _, _, [], _, [], hW', trodAll_mk1 (shut_bool Try.underlying4 _), (trodAll_cons_mk (Below.trod laidOut (by kernel_rfl) (of_decide_eq_true (by kernel_rfl)) k0 bel lt0) trodAll_mk0), rfl, bel.frame _, fun h => by cases h⟩

theorem over : Rows.histEventsRow.holds Try.pinned (OpenSpec.ofChange Rows.histEventsSpec) :=
  OpenClaim.holds_of_wide 4 Try.f4 rfl rfl rfl rfl rfl rfl rfl ⟨rfl, rfl, rfl, rfl, rfl⟩ rfl rfl rfl rfl rfl (by kernel_rfl) Try.func4 (by kernel_rfl)
    (of_decide_eq_true (by kernel_rfl)) (by unfold Func.isWrapper; first | (rw [if_pos (by decide +kernel)]; kernel_rfl) | (rw [if_neg (by decide +kernel)]; exact ⟨rfl, rfl⟩))
    (fun os started H enc _ => lifted os started H enc)
end Go.Proofs.Ytmdeodijcmeflab.histEvents
namespace Go.Proofs.Ytmdeodijcmeflab
theorem histEvents_holds : Rows.HistEventsSaid := histEvents.over
end Go.Proofs.Ytmdeodijcmeflab
