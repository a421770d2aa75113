/- Whatever the spans: if they are right, some of those that are left stand first, and to take one away each time gives an order that keeps them (shutterlaw05.HistSomebody is true for every input). -/
import Derived.Test.YtmdeodijcmeflabRows
import Derived.WalkKit
import Derived.ProofKit
import Derived.OpenShut
import Derived.JoinedCond
import Derived.Carry
import Derived.Lib.SmallJoins
import Derived.Test.YtmdeodijcmeflabHSome
import Derived.Test.YtmdeodijcmeflabHRRight
import Derived.Test.YtmdeodijcmeflabHLive
import Derived.Test.YtmdeodijcmeflabHArgs2
namespace Go.Proofs.Ytmdeodijcmeflab.histSomebody
open Go.ChangeShapes Go.WideShapes Go.ChangeAt Go.RowKit Go.Joins
set_option linter.unusedVariables false

theorem own : ownKnob Try.prog.godebug = none := by kernel_rfl
theorem laidOut : laidOutB Try.prog = true := by kernel_rfl

set_option maxRecDepth 100000 in
set_option maxHeartbeats 8000000 in
theorem walk (pl : Option Addr) (cl : Nat) (l : List Sp) (w : World) (hL : SReads w pl l) (okl : ∀ s ∈ l, s.Ok) (bl : l.length ≤ 4398046511000) :
    Calls Try.prog 3 #[.slice pl l.length cl] w fun e w' => e = .returned (.bool true) ∧ Below w.heap.size w w' := by
  have HL := keepH hL
  have OK := keepH okl
  have bl2 : l.length ≤ 4398046511104 := by omega
  clear hL okl
  have fin : ∀ wz, Chg (fun _ => False) w wz → ∀ wy, Chg (fun _ => False) wz wy → Below w.heap.size w wy := fun wz hz wy hy => (((hz.trans hy (H := fun _ => False) (fun _ _ x => x) (fun _ _ x => x))).mono (G := fun k => w.heap.size ≤ k) (fun _ _ x => x.elim)).below (Nat.le_refl _)
  have FIN := keepH fin
  clear fin
  go_enter Try.func3, Try.ntmps3
  go_wp2_with fail
  refine (h_right pl cl l _ HL.out OK.out bl2).mono ?_
  rintro e W1 ⟨x, rfl, hx, C1⟩
  have HC1 := keepH C1
  clear C1
  rcases hx with ⟨hR, rfl⟩ | ⟨hR, rfl⟩
  · have HR := keepH hR
    clear hR
    obtain ⟨w0, hmk, hB0, hC0⟩ := make_bools l.length bl2 W1
    have HB0 := keepH hB0
    have HC0 := keepH (HC1.out.trans hC0 (H := fun _ => False) (fun _ _ x => x) (fun _ _ x => x))
    obtain ⟨gb, hgb⟩ : ∃ gb, gb = W1.heap.size := ⟨_, rfl⟩
    rw [← hgb] at hmk HB0
    have HGB : Hid (w.heap.size ≤ gb) := by have := HC1.out.size; show _ ≤ _; omega
    clear hB0 hC0 hgb
    go_wp2_with fail
    clear hmk
    go_loopw [4] (fun s wr => ∃ k : Nat, k ≤ l.length ∧ s = .int .i64 (k : Int) ∧ Hid (BAt wr gb (fillN l.length k) ∧ Chg (fun _ => False) w wr)) (fun s _ => l.length - (intOf s).toNat)
    case atStart => exact ⟨0, by omega, rfl, keepH ⟨HB0.out, HC0.out⟩⟩
    case round =>
      obtain ⟨k, hk, rfl, HK⟩ := hrel
      by_cases hlt : k < l.length
      · have t1 : (k : Int) < (l.length : Int) := by omega
        have fc := HK.out.1.cell k (decide (k < k)) (fillN_get l.length k k hlt)
        have fz := HK.out.1.free k
        simp only [Nat.lt_irrefl, decide_false] at fc
        go_wp2_with fail
        go_roundw
        case rel => exact ⟨k + 1, by omega, by first | rfl | go_num, keepH ⟨HK.out.1.set k true, HK.out.2.setCell (fun hlt => absurd hlt (Nat.not_lt.2 HGB.out)) _⟩⟩
        case measure => simp [intOf]; omega
      · obtain rfl : k = l.length := by omega
        have t1 : ¬ (l.length : Int) < (l.length : Int) := by omega
        have HS0 : Hid (SB l w wr gb (List.replicate l.length true) [] (.slice none 0 0)) := by
          have e := HK.out.1
          rw [fillN_full] at e
          exact ⟨Tak.zero l, e, World.ownsRow_nil _ _ _ _, HK.out.2, fun b hb => by simp [Value.ownBlock] at hb⟩
        go_wp2_with fail
        clear HK t1 HB0 HC0
        go_loopw [5] (fun v wx => ∃ (bs : List Bool) (o : List Nat), o.length ≤ l.length ∧ Hid (SB l w wx gb bs o v)) (fun v _ => l.length - lenV v)
        case atStart => exact ⟨_, [], by simp, HS0⟩
        case round =>
          clear HS0
          obtain ⟨wx, hwx⟩ : ∃ wx, wx = wr := ⟨_, rfl⟩
          rw [← hwx] at hrel ⊢
          clear hwx
          obtain ⟨bs, o, hol, HJ⟩ := hrel
          obtain ⟨pv, cv, hvv⟩ := slice_of HJ.out.row
          subst hvv
          by_cases hlo : o.length < l.length
          · have t2 : (o.length : Int) < (l.length : Int) := by omega
            obtain ⟨n, hn1, hn2⟩ := HJ.out.tak.count hlo
            have hne := some_first HR.out hn1 hn2
            have hbl : bs.length = l.length := HJ.out.tak.len
            have HFC := h_first pl (some ⟨gb, 0, none⟩) cl l.length l bs wx (HL.out.chg HJ.out.chg (fun _ _ x => x)) HJ.out.pl.reads bl2 (by omega)
            rw [hbl] at HFC
            clear hn1 hn2 n hbl
            go_wp2_with fail
            refine HFC.mono ?_
            rintro e W2 ⟨v2, rfl, R2, N2, C2⟩
            clear HFC
            obtain ⟨m, hm⟩ : ∃ m, (firstsN l bs l.length)[0]? = some m := ⟨(firstsN l bs l.length)[0]'(List.length_pos_iff.2 hne), List.getElem?_eq_getElem _⟩
            obtain ⟨hml, hmf⟩ := firstsN_mem (List.mem_of_getElem? hm)
            obtain ⟨gf, cf, rfl⟩ := slice_pos R2 (List.length_pos_iff.2 hne)
            have fcell : W2.cell? ⟨gf, 0, none⟩ = some (.int .i64 (m : Int)) := by
              have e := World.ownsRow.cellAt R2 0 (by have := List.length_pos_iff.2 hne; omega)
              rw [e, iRow, List.getElem?_map, hm]
              rfl
            obtain ⟨nf, hnf⟩ : ∃ nf, nf = (firstsN l bs l.length).length := ⟨_, rfl⟩
            rw [← hnf]
            have hnfp : 0 < nf := by rw [hnf]; exact List.length_pos_iff.2 hne
            have t3 : (0 : Int) < (nf : Int) := by omega
            have t4 : ¬ (nf : Int) = 0 := by omega
            have t5 : ((nf : Int) == 0) = false := by simp; omega
            have t6 : (m : Int) < (l.length : Int) := by omega
            have dm : decide ((m : Int) < 0) = false := by simp
            have dm2 : decide (l.length ≤ m) = false := by simp; omega
            have dm3 : decide ((l.length : Int) ≤ (m : Int)) = false := by simp; omega
            have HMF := keepH hmf
            have HPL := keepH (HJ.out.pl.chg C2 (fun x => x))
            have hbm : bs[m]? = some true := by
              have e := hmf.1
              unfold leftB at e
              cases hb : bs[m]? with
              | none => rw [hb] at e; simp at e
              | some b => rw [hb] at e; simp at e; rw [e]
            have fl1 := HPL.out.cell m true hbm
            have fz := HPL.out.free m
            have hgf : gb < gf := Nat.lt_of_lt_of_le HJ.out.pl.lt (N2 gf rfl)
            obtain ⟨cur, hcur⟩ := row_block R2 gf rfl
            have fcell2 : (W2.setCell ⟨gb, m, none⟩ (.bool false)).cell? ⟨gf, 0, none⟩ = some (.int .i64 (m : Int)) := by
              rw [cell_of (other_of hcur (by omega) (.bool false)) 0, ← cell_of hcur 0]
              exact fcell
            have HC2 := keepH C2
            have HR5 : Hid ((W2.setCell ⟨gb, m, none⟩ (.bool false)).ownsRow 0 3 1 (.slice pv o.length cv) o.length (iRow o)) := by
              have hv : (Value.slice pv o.length cv).ownBlock ≠ some gb := block_apart HJ.out.row HJ.out.pl (by decide)
              have r1 := row_kept HJ.out.row fun b hb => C2.block b (row_lt HJ.out.row b hb) (fun x => x)
              refine row_kept r1 fun b hb => Below.heap_setCell W2 ⟨gb, m, none⟩ (.bool false) b (fun e => hv (by rw [hb, e]))
            have hsz5 : Hid ((W2.setCell ⟨gb, m, none⟩ (.bool false)).heap.size = W2.heap.size) := by show _ = _; simp [World.setCell]
            clear hne hm hmf hnf hbm hgf hcur cur R2 N2 C2 hnfp
            obtain ⟨i0, hi, hz0, hz1, hz2⟩ := info_parts infoInt
            have hob : o.length + 1 ≤ 4398046511104 := by omega
            go_wp2_with (first | (at_builtin; refine wpList_append_own_at _ rfl (.tmp 67) (.tmp 71) 27 rfl 0 3 i0 (.int .i64 0) 1 8 Try.underlying27 hi hz0 hz1 hz2 rfl (by decide) (.slice pv o.length cv) o.length (iRow o) rfl (HR5.out.alloc _) ⟨W2.heap.size, 0, none⟩ 1 1 [.int .i64 (m : Int)] rfl rfl (cells_new _ _ hsz5.out _ _) (by intro u hu; simp at hu; subst hu; rfl) (by unfold maxLen; omega) (by omega) (Nat.zero_le _) ?_; intro v3 w3 r1 r2 r3 r4; have R1 := keepH r1; have R2 := keepH r2; have R4 := keepH r4; clear r1 r2 r3 r4) | go_in)
            obtain ⟨p3, c3, hv3⟩ := slice_of R1.out
            have HSB := keepH (HJ.out.next HGB.out hml HMF.out HC2.out R1.out R2.out R4.out)
            subst hv3
            go_roundw
            case rel => exact ⟨_, _, by rw [List.length_append]; simp; omega, HSB⟩
            case measure => simp [lenV]; omega
          · have hlo2 : l.length ≤ o.length := by omega
            have t2 : ¬ (o.length : Int) < (l.length : Int) := by omega
            have HKP : Hid (KeepsP l (oInts o)) := HJ.out.tak.keeps hlo2
            have hlen : (oInts o).length = o.length := by unfold oInts; rw [List.length_map]
            go_wp2_with fail
            refine (h_live _).mono ?_
            rintro e W2 ⟨rfl, C2⟩
            have HC2 := keepH (HJ.out.chg.trans C2 (H := fun _ => False) (fun _ _ x => x) (fun _ _ x => x))
            have HRW := keepH (row_kept HJ.out.row fun b hb => C2.block b (row_lt HJ.out.row b hb) (fun x => x))
            have HKC := h_keeps pl pv cl cv l (oInts o) W2 (HL.out.chg HC2.out (fun _ _ x => x)) (IReads.of_row HRW.out) bl2 (by omega)
            rw [hlen] at HKC
            clear C2 hlen
            go_wp2_with fail
            refine HKC.mono ?_
            rintro e W3 ⟨v, rfl, hv, C3⟩
            have hv2 : v = .bool true := by
              rcases hv with h | h
              · exact h.2
              · exact absurd HKP.out h.1
            subst hv2
            have HC3 := keepH C3
            clear C3 hv HKC
            go_wp2_with fail
            go_ret
            exact ⟨by simp, FIN.out _ HC2.out _ HC3.out⟩
  · have HR := keepH hR
    clear hR
    go_wp2_with fail
    refine (h_live _).mono ?_
    rintro e W2 ⟨rfl, C2⟩
    have HC2 := keepH (HC1.out.trans C2 (H := fun _ => False) (fun _ _ x => x) (fun _ _ x => x))
    clear C2
    go_wp2_with fail
    refine (r_right pl cl l _ (HL.out.chg HC2.out (fun _ _ x => x)) bl2).mono ?_
    rintro e W3 ⟨y, rfl, hy, C3⟩
    have hy2 : y = 50 := by
      rcases hy with h | h
      · exact absurd h.1 HR.out
      · exact h.2
    subst hy2
    have HC3 := keepH C3
    clear C3 hy
    go_wp2_with fail
    go_ret
    exact ⟨by simp, FIN.out _ HC2.out _ HC3.out⟩

set_option maxRecDepth 100000 in
theorem lifted (os : Os) (started : os.Started) (H : Type) (enc : TypeId × Value → H) :
    ReturnsInHanded {} Try.checked os 3 .any (Rows.histSomebodySpec.pre6 enc Try.prog Try.f3 Rows.histSomebodyRow.domain false) (Rows.histSomebodySpec.post enc Try.prog Try.f3 false true false false) := by
  refine returnsInHanded_of_change_sized (C := Try.checked) own started (by kernel_rfl) Try.func3
    (ChangeSpec.witness6 (enc := enc) (C := Try.checked) false ⟨#[], #[.slice none 0 0], []⟩ 8 (by kernel_rfl) (by kernel_rfl) (by kernel_rfl) (by kernel_rfl)) ?_
  intro W base args ds gs before hval0 hW hcnd hsz0 _
  have hval : ∀ (j : Nat) t v, Try.f3.params[j]? = some t → args[j]? = some v → Value.okWide Try.prog W .any base t v := hval0
  have hsz : (DataW.weightsEach Try.prog (Try.f3.params.toList ++ Rows.histSomebodySpec.plain.varTypes Try.prog) (ds ++ gs)).all (· ≤ reachBytes) = true := hsz0
  clear hsz0
  have hW' := hW
  obtain ⟨p, q, hA0, hV, rfl, hfz, hnd⟩ := hW
  have hA : DataW.TrodAll enc Try.prog W 0 (fun _ => true) true Try.f3.params.toList args.toList ds p := hA0
  rw [Try.params3] at hA hval hsz
  obtain ⟨v0, vs0, d0, ds0, p0, q0, hargs, rfl, rfl, h0, r0⟩ := trodAll_cons hA
  obtain ⟨rfl, rfl, rfl⟩ := trodAll_nil r0
  obtain rfl : args = #[v0] := by cases args; simp_all
  obtain ⟨rfl, rfl⟩ := trodVars_none hV
  have k0 := h0
  have lt0 : ∀ x ∈ p0, x.block < W.heap.size := by obtain ⟨m, hm⟩ := k0; exact DataW.trod_lt m _ _ _ hm
  obtain ⟨pl, nl, cl, rfl⟩ := okWide_slice Try.underlying22 (hval 0 22 v0 rfl rfl)
  have sl := slice_size Try.underlying22 h0 hsz (j := 0) rfl rfl
  rw [bytesSpan] at sl
  obtain ⟨l, hll, okl, hL⟩ := spans_open h0
  subst hll
  have bl : l.length ≤ 4398046511000 := by simp only [reachBytes] at sl; omega
  clear hA0 hval0
  refine (walk pl cl l W hL okl bl).mono fun e W' ⟨he, bel⟩ => ?_
  subst he
  exact ⟨_, rfl, _, _, _, [], _, [], hW', trodAll_mk1 (shut_bool Try.underlying4 _), (trodAll_cons_mk (Below.trod laidOut (by kernel_rfl) (of_decide_eq_true (by kernel_rfl)) k0 bel lt0) trodAll_mk0), rfl, bel.frame _, fun h => by cases h⟩

theorem over : Rows.histSomebodyRow.holds Try.pinned (OpenSpec.ofChange Rows.histSomebodySpec) :=
  OpenClaim.holds_of_wide 3 Try.f3 rfl rfl rfl rfl rfl rfl rfl ⟨rfl, rfl, rfl, rfl, rfl⟩ rfl rfl rfl rfl rfl (by kernel_rfl) Try.func3 (by kernel_rfl)
    (of_decide_eq_true (by kernel_rfl)) (by unfold Func.isWrapper; first | (rw [if_pos (by decide +kernel)]; kernel_rfl) | (rw [if_neg (by decide +kernel)]; exact ⟨rfl, rfl⟩))
    (fun os started H enc _ => lifted os started H enc)
end Go.Proofs.Ytmdeodijcmeflab.histSomebody
namespace Go.Proofs.Ytmdeodijcmeflab
theorem histSomebody_holds : Rows.HistSomebodySaid := histSomebody.over
end Go.Proofs.Ytmdeodijcmeflab
