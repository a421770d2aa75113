/- The law HistBack, walked. -/
import Derived.Test.YtfohpbpekdcneaaDoorHtj
import Derived.Test.YtfohpbpekdcneaaDoorHtk
import Derived.Test.YtfohpbpekdcneaaDoorHSame
import Derived.Test.YtfohpbpekdcneaaDoorHLive
namespace Go.Proofs.YtfohpbpekdcneaaDoor
open Go.RowKit Go.Shelf
set_option linter.unusedVariables false

theorem print_ge (l : List Sp) : l.length ≤ (printL l).length := by
  induction l with
  | nil => simp
  | cons s l ih =>
    obtain ⟨a, _, e⟩ := line_piece s
    rw [printL_cons, List.length_append, e, List.length_cons]
    simp
    omega
theorem cut_ok {l : List Sp} (h : ∀ s ∈ l, s.Ok) (step : Int) (k : Nat) : ∀ s ∈ cutN l step k, s.Ok := by
  intro s hs
  obtain ⟨j, t, _, hj, _, rfl⟩ := cutN_mem hs
  have o := h t (List.mem_of_getElem? hj)
  unfold cutS
  split
  · exact ⟨o.th, o.ix, o.fr, by constructor <;> (simp only; omega)⟩
  · exact o
theorem ph_right {l l' : List Sp} {er : Int} (h : PH (printL l) l' er) (hr : RightP l) (hok : ∀ s ∈ l, s.Ok) : l' = l ∧ er = 0 := by
  rcases h with ⟨e, _, _, _, q⟩ | ⟨_, _, q⟩
  · exact ⟨(q l hr hok rfl).symm, e⟩
  · exact absurd rfl (q l hr hok)
theorem same_yes (p q : Option Addr) (c d : Nat) (l : List Sp) (W : World) (ha : SReads W p l) (hb : SReads W q l) (hl : l.length ≤ 4398046511104) :
    Calls Tryd.prog 10 #[.slice p l.length c, .slice q l.length d] W fun e W' => e = .returned (.bool true) ∧ Below W.heap.size W W' := by
  refine (r_same p q c d l l W ha hb hl).mono ?_
  rintro e W' ⟨v, rfl, hv, C⟩
  rcases hv with ⟨_, rfl⟩ | ⟨h, _⟩
  · exact ⟨rfl, chgB C⟩
  · exact absurd rfl h
theorem right_yes (p : Option Addr) (c : Nat) (l : List Sp) (W : World) (h : SReads W p l) (hok : ∀ s ∈ l, s.Ok) (hl : l.length ≤ 4398046511104) (hr : RightP l) :
    Calls Tryd.prog 13 #[.slice p l.length c] W fun e W' => e = .returned (.int .i64 0) ∧ Below W.heap.size W W' := by
  refine (h_right p c l W h hok hl).mono ?_
  rintro e W' ⟨x, rfl, hx, C⟩
  rcases hx with ⟨_, rfl⟩ | ⟨q, _⟩
  · exact ⟨rfl, chgB C⟩
  · exact absurd hr q
theorem live_b (W : World) : Calls Tryd.prog 9 #[] W fun e W' => e = .returned (.bool true) ∧ Below W.heap.size W W' := by
  refine (h_live W).mono ?_
  rintro e W' ⟨rfl, C⟩
  exact ⟨rfl, chgB C⟩
theorem reads_row {W : World} {B : Nat} {p : Option Addr} {c : Nat} {l : List Sp} (h : W.ownsRow B 38 4 (.slice p l.length c) l.length (spRow l)) : SReads W p l := SReads.of_row (c := c) (row_base h (Nat.zero_le _))

set_option maxRecDepth 100000 in
set_option maxHeartbeats 4000000 in
theorem back_walk (p : Option Addr) (c : Nat) (l : List Sp) (t : List UInt8) (step : Int) (W : World) (h : SReads W p l) (hok : ∀ s ∈ l, s.Ok) (hl : l.length ≤ 1048576) (ht : t.length ≤ 1048576) (T : Tb W) :
    Calls Tryd.prog 4 #[.slice p l.length c, .string (mkS t), .int .i64 step] W fun e W' => e = .returned (.bool true) ∧ Below W.heap.size W W' := by
  obtain ⟨s, hs⟩ : ∃ s, s = mkS t := ⟨_, rfl⟩
  have HS := keepH hs
  have HT := keepH T
  rw [← hs]
  clear hs T
  by_cases hr : RightP l
  · have hpr := print_yes p c l W h hok hl HT.out hr
    have hlen := printL_len hok
    have hcut := h_cut p c step l
    have hcl := cutN_le l step l.length
    obtain ⟨sp, hsp⟩ : ∃ x, x = mkS (printL l) := ⟨_, rfl⟩
    have hpp := fun w' hb => parse_any (printL l) (by omega) w' (HT.out.on hb)
    rw [← hsp] at hpr hpp
    obtain ⟨n, hn⟩ : ∃ n, n = l.length := ⟨_, rfl⟩
    have HN := keepH hn
    have HL := keepH hlen
    have HH : Hid (SReads W p l ∧ (∀ s ∈ l, s.Ok) ∧ l.length ≤ 1048576 ∧ RightP l) := keepH ⟨h, hok, hl, hr⟩
    have hsm := fun (q : Option Addr) (d : Nat) (w' : World) (hb : Below W.heap.size W w') (hq : SReads w' q l) => same_yes p q c d l w' (h.chg (belowC hb) (fun _ _ x => x)) hq (by omega)
    have hct := fun (w' : World) (hb : Below W.heap.size W w') => hcut w' (h.chg (belowC hb) (fun _ _ x => x)) (by omega)
    have hrt := fun (q : Option Addr) (d : Nat) (w' : World) (hq : SReads w' q (cutN l step l.length)) => right_yes q d (cutN l step l.length) w' hq (cut_ok hok step _) (by omega) (right_cut hr step _ (Nat.le_refl _))
    rw [← hn] at hpr hsm ⊢
    obtain ⟨cl, hcl2⟩ : ∃ cl, cl = cutN l step l.length := ⟨_, rfl⟩
    rw [← hcl2] at hct hrt
    rw [show l.length = n from hn.symm] at hct
    have HPP := keepH hpp
    have HSM := keepH hsm
    have HCT := keepH hct
    have HRT := keepH hrt
    clear hsp hn hlen hcut hcl h hok hl hr hpp hsm hct hrt hcl2
    go_enter Tryd.func4, Tryd.ntmps4
    go_wp2_with fail
    refine hpr.mono ?_
    rintro e w1 ⟨rfl, B1⟩
    go_wp2_with fail
    refine (HPP.out w1 B1).mono ?_
    rintro e w2 ⟨⟨v, er, m, rfl, hph, hrow⟩, C2⟩
    obtain ⟨rfl, rfl⟩ := ph_right hph HH.out.2.2.2 HH.out.2.1
    have B2 := below_chain B1 C2
    obtain ⟨pm, cm, rfl⟩ := slice_row hrow
    have hsm := HSM.out pm cm w2 B2 (reads_row hrow)
    rw [← HN.out]
    clear hph hrow C2 B1
    go_wp2_with fail
    refine hsm.mono ?_
    rintro e w3 ⟨rfl, C3⟩
    have B3 := below_chain B2 C3
    clear C3 hsm
    go_wp2_with fail
    refine (HCT.out w3 B3).mono ?_
    rintro e w4 ⟨v4, rfl, hrow4, _, C4⟩
    have B4 := below_chain B3 (chgB C4)
    obtain ⟨p4, c4, rfl⟩ := slice_row hrow4
    have hrt := HRT.out p4 c4 w4 (reads_row hrow4)
    obtain ⟨k4, hk4⟩ : ∃ k, k = cl.length := ⟨_, rfl⟩
    rw [← hk4] at hrt ⊢
    clear hk4 hrow4 C4
    go_wp2_with fail
    refine hrt.mono ?_
    rintro e w5 ⟨rfl, C5⟩
    have B5 := below_chain B4 C5
    clear C5 hrt
    have hp2 := parse_any t (by omega) w5 (HT.out.on B5)
    rw [← HS.out] at hp2
    go_wp2_with fail
    refine hp2.mono ?_
    rintro e w8 ⟨⟨v, er, m, rfl, hph, hrow⟩, C8⟩
    have B8 := below_chain B5 C8
    obtain ⟨pm, cm, rfl⟩ := slice_row hrow
    rcases hph with ⟨rfl, hmr, hmo, htm, _⟩ | ⟨rfl, rfl, _⟩
    · have hml : m.length ≤ 1048576 := by have := print_ge m; rw [← htm] at this; omega
      have hpr2 := print_yes pm cm m w8 (reads_row hrow) hmo hml (HT.out.on B8) hmr
      rw [← htm, ← HS.out] at hpr2
      obtain ⟨k, hk⟩ : ∃ k, k = m.length := ⟨_, rfl⟩
      rw [← hk] at hpr2 ⊢
      clear hk hmr hmo htm hrow C8 hp2
      go_wp2_with fail
      refine hpr2.mono ?_
      rintro e w9 ⟨rfl, C9⟩
      have B9 := below_chain B8 C9
      clear hpr2 C9
      go_wp2_with fail
      refine (live_b w9).mono ?_
      rintro e w10 ⟨rfl, C10⟩
      have B10 := below_chain B9 C10
      clear C10
      go_wp2_with fail
      go_ret
      exact ⟨by first | rfl | simp, B10⟩
    · clear hp2 hrow C8
      go_wp2_with fail
      refine (live_b w8).mono ?_
      rintro e w9 ⟨rfl, C9⟩
      have B9 := below_chain B8 C9
      clear C9
      go_wp2_with fail
      go_ret
      exact ⟨rfl, B9⟩
  · have hpr := print_no p c l W h hok hl hr
    clear h hok hl hr
    go_enter Tryd.func4, Tryd.ntmps4
    go_wp2_with fail
    refine hpr.mono ?_
    rintro e w5 ⟨rfl, B5⟩
    have hp2 := parse_any t (by omega) w5 (HT.out.on B5)
    rw [← HS.out] at hp2
    go_wp2_with fail
    refine hp2.mono ?_
    rintro e w8 ⟨⟨v, er, m, rfl, hph, hrow⟩, C8⟩
    have B8 := below_chain B5 C8
    obtain ⟨pm, cm, rfl⟩ := slice_row hrow
    rcases hph with ⟨rfl, hmr, hmo, htm, _⟩ | ⟨rfl, rfl, _⟩
    · have hml : m.length ≤ 1048576 := by have := print_ge m; rw [← htm] at this; omega
      have hpr2 := print_yes pm cm m w8 (reads_row hrow) hmo hml (HT.out.on B8) hmr
      rw [← htm, ← HS.out] at hpr2
      obtain ⟨k, hk⟩ : ∃ k, k = m.length := ⟨_, rfl⟩
      rw [← hk] at hpr2 ⊢
      clear hk hmr hmo htm hrow C8 hp2
      go_wp2_with fail
      refine hpr2.mono ?_
      rintro e w9 ⟨rfl, C9⟩
      have B9 := below_chain B8 C9
      clear hpr2 C9
      go_wp2_with fail
      refine (live_b w9).mono ?_
      rintro e w10 ⟨rfl, C10⟩
      have B10 := below_chain B9 C10
      clear C10
      go_wp2_with fail
      go_ret
      exact ⟨by first | rfl | simp, B10⟩
    · clear hp2 hrow C8
      go_wp2_with fail
      refine (live_b w8).mono ?_
      rintro e w9 ⟨rfl, C9⟩
      have B9 := below_chain B8 C9
      clear C9
      go_wp2_with fail
      go_ret
      exact ⟨rfl, B9⟩
end Go.Proofs.YtfohpbpekdcneaaDoor
