/- The law ReplayTexts, walked. -/
import Derived.Test.YtdgagpcofghbaaaGreatDoorRuk
namespace Go.Proofs.YtdgagpcofghbaaaGreatDoor
open Go.RowKit Go.Shelf
set_option linter.unusedVariables false

theorem ph_vals {t : List UInt8} {xs : List Ax} {er ln : Nat} (h : PH t xs er ln) : xs.length ≤ t.length ∧ ∀ x ∈ xs, x.vals.length ≤ t.length := by
  rcases h with ⟨_, _, e, _⟩ | ⟨_, e, _⟩
  · rw [e]
    exact ⟨printA_ge xs, fun x hx => print_vals hx⟩
  · rw [e]
    exact ⟨by simp, fun x hx => by simp at hx⟩
theorem both_print (p : Option Addr) (c : Nat) (l : List Ax) (W : World) (h : In W p l) (T : Tb W) : ∃ (sp : ByteArray) (er : Nat),
    (∀ (q : Option Addr) (d : Nat) (w' : World), Below W.heap.size W w' → ARd w' q l → Calls Tryz.prog 6 #[.slice q l.length d] w' fun e W' => e = .returned (.tuple #[.string sp, .int .i64 (er : Int)]) ∧ Below w'.heap.size w' W') ∧
    (∀ (w' : World), Below W.heap.size W w' → Calls Tryz.prog 7 #[.slice p l.length c] w' fun e W' => e = .returned (.tuple #[.string sp, .int .i64 (er : Int)]) ∧ Below w'.heap.size w' W') := by
  by_cases hr : ∀ x ∈ l, RightA x
  · refine ⟨mkS (printA l), 0, fun q d w' hb ha => print_yes q d l w' ha h.ok h.len h.vl (by have := h.pl; omega) (T.on hb) hr, fun w' hb => ?_⟩
    refine (dprint_any p c l w' (h.on hb) (T.on hb)).mono ?_
    rintro e w2 ⟨v, rfl, hq, hB⟩
    exact ⟨by rw [hq.1 hr]; rfl, hB⟩
  · refine ⟨mkS [], 52, fun q d w' hb ha => print_no q d l w' ha h.ok h.len hr, fun w' hb => ?_⟩
    refine (dprint_any p c l w' (h.on hb) (T.on hb)).mono ?_
    rintro e w2 ⟨v, rfl, hq, hB⟩
    exact ⟨by rw [hq.2 hr]; rfl, hB⟩
/-- both readings, one behind the other -/
theorem both_parse (t : List UInt8) (ht : t.length ≤ 1048576) (W : World) (T : Tb W) : Calls Tryz.prog 8 #[.string (mkS t)] W fun e w1 => ∃ (pa : Option Addr) (ca k er ln : Nat), e = .returned (.tuple #[.slice pa k ca, .int .i64 (er : Int), .int .i64 (ln : Int)]) ∧ Below W.heap.size W w1 ∧
    Calls Tryz.prog 9 #[.string (mkS t)] w1 fun e w2 => ∃ (pb : Option Addr) (cb : Nat), e = .returned (.tuple #[.slice pb k cb, .int .i64 (er : Int), .int .i64 (ln : Int)]) ∧ Below W.heap.size W w2 ∧
      ∀ w', Below w2.heap.size w2 w' → Calls Tryz.prog 11 #[.slice pa k ca, .slice pb k cb] w' fun e w3 => e = .returned (.bool true) ∧ Below w'.heap.size w' w3 := by
  refine (parse_any t (by omega) W T).mono ?_
  rintro e w1 ⟨v, er, ln, ys, rfl, hA, hP⟩
  obtain ⟨pa, ca, rfl⟩ := row_a_slice hA.row
  refine ⟨pa, ca, ys.length, er, ln, rfl, hA.bel, (dparse_any t ht w1 (T.on hA.bel)).mono ?_⟩
  rintro e w2 ⟨v, er', ln', zs, rfl, hA', hP'⟩
  obtain ⟨pb, cb, rfl⟩ := row_a_slice hA'.row
  obtain ⟨e1, rfl, rfl⟩ := ph_one hP hP'
  have hkl : ys.length = zs.length := by have := congrArg List.length e1; simpa using this
  obtain ⟨v1, v2⟩ := ph_vals hP
  refine ⟨pb, cb, by rw [hkl], below_chain hA.bel hA'.bel, fun w' hb => ?_⟩
  have r1 := (hA.reads.on hA'.bel).on hb
  have r2 := hA'.reads.on hb
  rw [← e1] at r2
  have h := s_trace pa pb ca cb (ys.map Prod.fst) w' r1 r2 (by omega) (fun x hx => by have := v2 x hx; omega)
  rw [List.length_map] at h
  exact h

set_option maxRecDepth 100000 in
set_option maxHeartbeats 4000000 in
theorem texts_walk (p : Option Addr) (c : Nat) (l : List Ax) (t : List UInt8) (W : World) (h : In W p l) (ht : t.length ≤ 1048576) (T : Tb W) :
    Calls Tryz.prog 3 #[.slice p l.length c, .string (mkS t)] W fun e W' => e = .returned (.bool true) ∧ Below W.heap.size W W' := by
  have hco := copied_any p c l W h
  obtain ⟨sp, er, hpr, hdp⟩ := both_print p c l W h T
  have hbp := fun (w' : World) (hb : Below W.heap.size W w') => both_parse t ht w' (T.on hb)
  have hsm := fun (q : Option Addr) (d : Nat) (w' : World) (hb : Below W.heap.size W w') (hq : ARd w' q l) => s_trace q p d c l w' hq (h.rd.on hb) (by have := h.len; omega) h.vl
  obtain ⟨s, hs⟩ : ∃ s, s = mkS t := ⟨_, rfl⟩
  obtain ⟨n, hn⟩ : ∃ n, n = l.length := ⟨_, rfl⟩
  rw [← hs] at hbp ⊢
  rw [← hn] at hco hpr hdp hsm ⊢
  have HPR := keepH hpr
  have HDP := keepH hdp
  have HBP := keepH hbp
  have HSM := keepH hsm
  have HN := keepH hn
  have HT := keepH T
  have hq : (sp.toList == sp.toList) = true := by simp
  clear h hs hn T hpr hdp hbp hsm
  go_enter Tryz.func3, Tryz.ntmps3
  go_wp2_with fail
  refine hco.mono ?_
  rintro e w1 ⟨v, rfl, ys, hA, hys⟩
  obtain ⟨pm, cm, rfl⟩ := row_a_slice hA.row
  have hyl : ys.length = n := by rw [HN.out, ← hys, List.length_map]
  rw [hyl]
  have hrd := hA.reads
  rw [hys] at hrd
  have B1 := hA.bel
  have HRD := keepH hrd
  have hp1 := HPR.out pm cm w1 B1 hrd
  clear hyl hrd hA hys hco
  go_wp2_with fail
  refine hp1.mono ?_
  rintro e w2 ⟨rfl, C2⟩
  have B2 := below_chain B1 C2
  have HR2 := keepH (HRD.out.on C2)
  have hp2 := HDP.out w2 B2
  clear hp1 C2 HRD
  go_wp2_with fail
  refine hp2.mono ?_
  rintro e w3 ⟨rfl, C3⟩
  have B3 := below_chain B2 C3
  have HR3 := keepH (HR2.out.on C3)
  have hp3 := HBP.out w3 B3
  clear hp2 C3 HR2
  go_wp2_with fail
  refine hp3.mono ?_
  rintro e w4 ⟨pa, ca, k, er4, ln, rfl, C4, hd4⟩
  have B4 := below_chain B3 C4
  clear hp3
  go_wp2_with fail
  refine hd4.mono ?_
  rintro e w5 ⟨pb, cb, rfl, C5, hs5⟩
  have B5 := below_chain B3 C5
  have HR5 := keepH (HR3.out.on C5)
  have HS5 := keepH hs5
  have hlv := live_21 w5 (HT.out.on B5)
  clear hd4 C4 C5 hs5 HR3
  go_wp2_with fail
  refine hlv.mono ?_
  rintro e w6 ⟨rfl, C6⟩
  have B6 := below_chain B5 C6
  have hs6 := HS5.out w6 C6
  have HR6 := keepH (HR5.out.on C6)
  clear hlv C6 HR5
  go_wp2_with fail
  refine hs6.mono ?_
  rintro e w7 ⟨rfl, C7⟩
  have B7 := below_chain B6 C7
  have hs7 := HSM.out pm cm w7 B7 (HR6.out.on C7)
  clear hs6 C7
  go_wp2_with fail
  refine hs7.mono ?_
  rintro e w8 ⟨rfl, C8⟩
  have B8 := below_chain B7 C8
  clear hs7 C8
  go_wp2_with fail
  go_ret
  exact ⟨by first | rfl | simp, B8⟩
end Go.Proofs.YtdgagpcofghbaaaGreatDoor
