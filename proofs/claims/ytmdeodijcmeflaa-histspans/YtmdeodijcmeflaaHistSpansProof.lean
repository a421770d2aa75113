/- Whatever the events and the spans: what Spans tells of the events and what Right tells of the spans is the document's, and the spans stay (shutterlaw05.HistSpans is true for every input). -/
import Derived.Test.YtmdeodijcmeflaaRows
import Derived.WalkKit
import Derived.ProofKit
import Derived.OpenShut
import Derived.JoinedCond
import Derived.Carry
import Derived.Lib.SmallJoins
import Derived.Test.YtmdeodijcmeflaaHRSpans
import Derived.Test.YtmdeodijcmeflaaHRRight
import Derived.Test.YtmdeodijcmeflaaHLent
import Derived.Test.YtmdeodijcmeflaaHLive
import Derived.Test.YtmdeodijcmeflaaHArgs2
namespace Go.Proofs.Ytmdeodijcmeflaa.histSpans
open Go.ChangeShapes Go.WideShapes Go.ChangeAt Go.RowKit Go.Joins
set_option linter.unusedVariables false

theorem own : ownKnob Try.prog.godebug = none := by kernel_rfl
theorem laidOut : laidOutB Try.prog = true := by kernel_rfl

set_option maxRecDepth 100000 in
set_option maxHeartbeats 8000000 in
theorem walk (pe pl : Option Addr) (ce cl : Nat) (es : List Evt) (l : List Sp) (w : World) (hE : EReads w pe es) (oke : ∀ e ∈ es, e.Ok) (be : es.length ≤ 4398046511000) (ke : es.length ≤ ce) (hL : SReads w pl l) (okl : ∀ s ∈ l, s.Ok) (bl : l.length ≤ 4398046511000) :
    Calls Try.prog 3 #[.slice pe es.length ce, .slice pl l.length cl] w fun e w' => e = .returned (.bool true) ∧ Below w.heap.size w w' := by
  have HE := keepH hE
  have OE := keepH oke
  have HL := keepH hL
  have OL := keepH okl
  clear hE oke hL okl
  go_enter Try.func3, Try.ntmps3
  go_wp2_with fail
  refine (h_spans pe ce es _ HE.out OE.out be).mono ?_
  rintro e W1 ⟨C1, v, ⟨sp, hsp, rfl, R1, N1⟩ | ⟨hn, rfl⟩⟩
  · have hspl : sp.length ≤ 4398046511104 := by have e1 := (ev_inv es.length (by omega) sp hsp).count; have e2 := callsN_le es es.length; omega
    go_wp2_with fail
    refine (r_spans pe ce es _ (HE.out.chg C1 (fun _ _ x => x)) be ke).mono ?_
    rintro e W2 ⟨C2, u, ⟨sp2, hsp2, rfl, R2, N2⟩ | ⟨hn2, rfl⟩⟩
    · obtain rfl : sp = sp2 := by rw [hsp] at hsp2; simpa using hsp2
      have D2 := keepH (C1.trans C2 (H := fun _ => False) (fun _ _ x => x) (fun _ _ x => x))
      have HA := keepH (row_kept R1 fun b hb => C2.block b (row_lt R1 b hb) (fun x => x))
      have HB := keepH R2
      obtain ⟨pa, ca, rfl⟩ := slice_of HA.out
      obtain ⟨pb, cb, rfl⟩ := slice_of HB.out
      clear R1 R2 N1 N2 hsp hsp2
      clear C1 C2
      go_wp2_with fail
      refine (r_lent pl cl l _ (HL.out.chg D2.out (fun _ _ x => x)) (by omega)).mono ?_
      rintro e W3 ⟨g, cap, rfl, hg, hLt, C3⟩
      have D3 := keepH (D2.out.trans C3 (H := fun _ => False) (fun _ _ x => x) (fun _ _ x => x))
      have LT3 := keepH hLt
      have HA3 := keepH (row_kept HA.out fun b hb => C3.block b (row_lt HA.out b hb) (fun x => x))
      have HB3 := keepH (row_kept HB.out fun b hb => C3.block b (row_lt HB.out b hb) (fun x => x))
      clear hg hLt C3
      go_wp2_with fail
      refine (h_live _).mono ?_
      rintro e W4 ⟨rfl, C4⟩
      have D4 := keepH (D3.out.trans C4 (H := fun _ => False) (fun _ _ x => x) (fun _ _ x => x))
      have LT4 := keepH (LT3.out.chg C4 (fun x => x))
      have HA4 := keepH (row_kept HA3.out fun b hb => C4.block b (row_lt HA3.out b hb) (fun x => x))
      have HB4 := keepH (row_kept HB3.out fun b hb => C4.block b (row_lt HB3.out b hb) (fun x => x))
      clear C4
      go_wp2_with fail
      refine (r_same pa pb ca cb sp sp _ (SReads.of_row HA4.out) (SReads.of_row HB4.out) hspl).mono ?_
      rintro e W5 ⟨sv, rfl, hsv, C5⟩
      have hsv2 : sv = .bool true := by rcases hsv with h | h; exact h.2; exact absurd rfl h.1
      subst hsv2
      have D5 := keepH (D4.out.trans C5 (H := fun _ => False) (fun _ _ x => x) (fun _ _ x => x))
      have LT5 := keepH (LT4.out.chg C5 (fun x => x))
      clear C5 hsv
      go_wp2_with fail
      refine (h_right (some ⟨g, 0, none⟩) cap l _ LT5.out.reads OL.out (by omega)).mono ?_
      rintro e W6 ⟨x, rfl, hx, C6⟩
      have D6 := keepH (D5.out.trans C6 (H := fun _ => False) (fun _ _ x => x) (fun _ _ x => x))
      have LT6 := keepH (LT5.out.chg C6 (fun x => x))
      have HX := keepH hx
      clear C6 hx
      go_wp2_with fail
      refine (r_right pl cl l _ (HL.out.chg D6.out (fun _ _ x => x)) (by omega)).mono ?_
      rintro e W7 ⟨y, rfl, hy, C7⟩
      have hxy : x = y := by
        rcases HX.out with ⟨h1, e1⟩ | ⟨h1, e1⟩ <;> rcases hy with ⟨h2, e2⟩ | ⟨h2, e2⟩
        · rw [e1, e2]
        · exact absurd h1 h2
        · exact absurd h2 h1
        · rw [e1, e2]
      subst hxy
      have D7 := keepH (D6.out.trans C7 (H := fun _ => False) (fun _ _ x => x) (fun _ _ x => x))
      have LT7 := keepH (LT6.out.chg C7 (fun x => x))
      clear C7 hy HX
      go_wp2_with fail
      refine (r_kept pl cl g cap l _ (HL.out.chg D7.out (fun _ _ x => x)) LT7.out (by omega)).mono ?_
      rintro e W8 ⟨rfl, C8⟩
      have D8 := keepH (D7.out.trans C8 (H := fun _ => False) (fun _ _ x => x) (fun _ _ x => x))
      clear C8
      go_wp2_with fail
      go_ret
      exact ⟨by simp, (D8.out.mono (G := fun k => w.heap.size ≤ k) (fun _ _ x => x.elim)).below (Nat.le_refl _)⟩
    · rw [hsp] at hn2; simp at hn2
  · go_wp2_with fail
    refine (r_spans pe ce es _ (HE.out.chg C1 (fun _ _ x => x)) be ke).mono ?_
    rintro e W2 ⟨C2, u, ⟨sp2, hsp2, rfl, R2, N2⟩ | ⟨hn2, rfl⟩⟩
    · rw [hn] at hsp2; simp at hsp2
    · skip
      have D2 := keepH (C1.trans C2 (H := fun _ => False) (fun _ _ x => x) (fun _ _ x => x))
      clear hn hn2
      clear C1 C2
      go_wp2_with fail
      refine (r_lent pl cl l _ (HL.out.chg D2.out (fun _ _ x => x)) (by omega)).mono ?_
      rintro e W3 ⟨g, cap, rfl, hg, hLt, C3⟩
      have D3 := keepH (D2.out.trans C3 (H := fun _ => False) (fun _ _ x => x) (fun _ _ x => x))
      have LT3 := keepH hLt
      clear hg hLt C3
      go_wp2_with fail
      refine (h_live _).mono ?_
      rintro e W4 ⟨rfl, C4⟩
      have D4 := keepH (D3.out.trans C4 (H := fun _ => False) (fun _ _ x => x) (fun _ _ x => x))
      have LT4 := keepH (LT3.out.chg C4 (fun x => x))
      clear C4
      go_wp2_with fail
      refine (r_same none none 0 0 [] [] _ (.inl rfl) (.inl rfl) (by decide)).mono ?_
      rintro e W5 ⟨sv, rfl, hsv, C5⟩
      have hsv2 : sv = .bool true := by rcases hsv with h | h; exact h.2; exact absurd rfl h.1
      subst hsv2
      have D5 := keepH (D4.out.trans C5 (H := fun _ => False) (fun _ _ x => x) (fun _ _ x => x))
      have LT5 := keepH (LT4.out.chg C5 (fun x => x))
      clear C5 hsv
      go_wp2_with fail
      refine (h_right (some ⟨g, 0, none⟩) cap l _ LT5.out.reads OL.out (by omega)).mono ?_
      rintro e W6 ⟨x, rfl, hx, C6⟩
      have D6 := keepH (D5.out.trans C6 (H := fun _ => False) (fun _ _ x => x) (fun _ _ x => x))
      have LT6 := keepH (LT5.out.chg C6 (fun x => x))
      have HX := keepH hx
      clear C6 hx
      go_wp2_with fail
      refine (r_right pl cl l _ (HL.out.chg D6.out (fun _ _ x => x)) (by omega)).mono ?_
      rintro e W7 ⟨y, rfl, hy, C7⟩
      have hxy : x = y := by
        rcases HX.out with ⟨h1, e1⟩ | ⟨h1, e1⟩ <;> rcases hy with ⟨h2, e2⟩ | ⟨h2, e2⟩
        · rw [e1, e2]
        · exact absurd h1 h2
        · exact absurd h2 h1
        · rw [e1, e2]
      subst hxy
      have D7 := keepH (D6.out.trans C7 (H := fun _ => False) (fun _ _ x => x) (fun _ _ x => x))
      have LT7 := keepH (LT6.out.chg C7 (fun x => x))
      clear C7 hy HX
      go_wp2_with fail
      refine (r_kept pl cl g cap l _ (HL.out.chg D7.out (fun _ _ x => x)) LT7.out (by omega)).mono ?_
      rintro e W8 ⟨rfl, C8⟩
      have D8 := keepH (D7.out.trans C8 (H := fun _ => False) (fun _ _ x => x) (fun _ _ x => x))
      clear C8
      go_wp2_with fail
      go_ret
      exact ⟨by simp, (D8.out.mono (G := fun k => w.heap.size ≤ k) (fun _ _ x => x.elim)).below (Nat.le_refl _)⟩

set_option maxRecDepth 100000 in
theorem lifted (os : Os) (started : os.Started) (H : Type) (enc : TypeId × Value → H) :
    ReturnsInHanded {} Try.checked os 3 .any (Rows.histSpansSpec.pre6 enc Try.prog Try.f3 Rows.histSpansRow.domain false) (Rows.histSpansSpec.post enc Try.prog Try.f3 false true false false) := by
  refine returnsInHanded_of_change_sized (C := Try.checked) own started (by kernel_rfl) Try.func3
    (ChangeSpec.witness6 (enc := enc) (C := Try.checked) false ⟨#[], #[.slice none 0 0, .slice none 0 0], []⟩ 8 (by kernel_rfl) (by kernel_rfl) (by kernel_rfl) (by kernel_rfl)) ?_
  intro W base args ds gs before hval0 hW hcnd hsz0 _
  have hval : ∀ (j : Nat) t v, Try.f3.params[j]? = some t → args[j]? = some v → Value.okWide Try.prog W .any base t v := hval0
  have hsz : (DataW.weightsEach Try.prog (Try.f3.params.toList ++ Rows.histSpansSpec.plain.varTypes Try.prog) (ds ++ gs)).all (· ≤ reachBytes) = true := hsz0
  clear hsz0
  have hW' := hW
  obtain ⟨p, q, hA0, hV, rfl, hfz, hnd⟩ := hW
  have hA : DataW.TrodAll enc Try.prog W 0 (fun _ => true) true Try.f3.params.toList args.toList ds p := hA0
  rw [Try.params3] at hA hval hsz
  obtain ⟨v0, vs0, d0, ds0, p0, q0, hargs, rfl, rfl, h0, r0⟩ := trodAll_cons hA
  obtain ⟨v1, vs1, d1, ds1, p1, q1, rfl, rfl, rfl, h1, r1⟩ := trodAll_cons r0
  obtain ⟨rfl, rfl, rfl⟩ := trodAll_nil r1
  obtain rfl : args = #[v0, v1] := by cases args; simp_all
  obtain ⟨rfl, rfl⟩ := trodVars_none hV
  have k0 := h0
  have lt0 : ∀ x ∈ p0, x.block < W.heap.size := by obtain ⟨m, hm⟩ := k0; exact DataW.trod_lt m _ _ _ hm
  have k1 := h1
  have lt1 : ∀ x ∈ p1, x.block < W.heap.size := by obtain ⟨m, hm⟩ := k1; exact DataW.trod_lt m _ _ _ hm
  obtain ⟨pe, ne, ce, rfl⟩ := okWide_slice Try.underlying22 (hval 0 22 v0 rfl rfl)
  have se := slice_size Try.underlying22 h0 hsz (j := 0) rfl rfl
  have ke := slice_cap Try.underlying22 h0
  rw [bytesEvent] at se
  obtain ⟨es, hle, oke, hE⟩ := events_open h0
  obtain ⟨pl, nl, cl, rfl⟩ := okWide_slice Try.underlying23 (hval 1 23 v1 rfl rfl)
  have sl := slice_size Try.underlying23 h1 hsz (j := 1) rfl rfl
  rw [bytesSpan] at sl
  obtain ⟨l, hll, okl, hL⟩ := spans_open h1
  subst hle
  subst hll
  have be : es.length ≤ 4398046511000 := by simp only [reachBytes] at se; omega
  have bl : l.length ≤ 4398046511000 := by simp only [reachBytes] at sl; omega
  clear hA0 hval0
  refine (walk pe pl ce cl es l W hE oke be ke hL okl bl).mono fun e W' ⟨he, bel⟩ => ?_
  subst he
  exact ⟨_, rfl, _, _, _, [], _, [], hW', trodAll_mk1 (shut_bool Try.underlying4 _), (trodAll_cons_mk (Below.trod laidOut (by kernel_rfl) (of_decide_eq_true (by kernel_rfl)) k0 bel lt0) (trodAll_cons_mk (Below.trod laidOut (by kernel_rfl) (of_decide_eq_true (by kernel_rfl)) k1 bel lt1) trodAll_mk0)), rfl, bel.frame _, fun h => by cases h⟩

theorem over : Rows.histSpansRow.holds Try.pinned (OpenSpec.ofChange Rows.histSpansSpec) :=
  OpenClaim.holds_of_wide 3 Try.f3 rfl rfl rfl rfl rfl rfl rfl ⟨rfl, rfl, rfl, rfl, rfl⟩ rfl rfl rfl rfl rfl (by kernel_rfl) Try.func3 (by kernel_rfl)
    (of_decide_eq_true (by kernel_rfl)) (by unfold Func.isWrapper; first | (rw [if_pos (by decide +kernel)]; kernel_rfl) | (rw [if_neg (by decide +kernel)]; exact ⟨rfl, rfl⟩))
    (fun os started H enc _ => lifted os started H enc)
end Go.Proofs.Ytmdeodijcmeflaa.histSpans
namespace Go.Proofs.Ytmdeodijcmeflaa
theorem histSpans_holds : Rows.HistSpansSaid := histSpans.over
end Go.Proofs.Ytmdeodijcmeflaa
