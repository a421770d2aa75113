/- The law HistTexts, walked. -/
import Derived.Test.YtfohpbpekdcneaaDoorHtq
namespace Go.Proofs.YtfohpbpekdcneaaDoor
open Go.RowKit Go.Shelf
set_option linter.unusedVariables false

theorem ph_same {t : List UInt8} {l l' : List Sp} {er er' : Int} (h : PH t l er) (h' : PH t l' er') : l' = l ∧ er' = er := by
  rcases h with ⟨rfl, a, b, c, d⟩ | ⟨rfl, rfl, d⟩
  · rcases h' with ⟨rfl, a', b', c', d'⟩ | ⟨rfl, rfl, d'⟩
    · exact ⟨d l' a' b' c', rfl⟩
    · exact absurd c (d' l a b)
  · rcases h' with ⟨rfl, a', b', c', d'⟩ | ⟨rfl, rfl, d'⟩
    · exact absurd c' (d l' a' b')
    · exact ⟨rfl, rfl⟩
theorem prints (p : Option Addr) (c : Nat) (l : List Sp) (W : World) (h : SReads W p l) (hok : ∀ s ∈ l, s.Ok) (hl : l.length ≤ 1048576) (T : Tb W) :
    ∃ (sp : ByteArray) (er : Int), (∀ w, Below W.heap.size W w → Calls Tryd.prog 5 #[.slice p l.length c] w fun e w' => e = .returned (.tuple #[.string sp, .int .i64 er]) ∧ Below w.heap.size w w') ∧
      (∀ w, Below W.heap.size W w → Calls Tryd.prog 6 #[.slice p l.length c] w fun e w' => e = .returned (.tuple #[.string sp, .int .i64 er]) ∧ Below w.heap.size w w') := by
  by_cases hr : RightP l
  · exact ⟨_, _, fun w hb => print_yes p c l w (h.chg (belowC hb) (fun _ _ x => x)) hok hl (T.on hb) hr, fun w hb => rprint_yes p c l w (h.chg (belowC hb) (fun _ _ x => x)) hok (by omega) (T.on hb) hr⟩
  · exact ⟨_, _, fun w hb => print_no p c l w (h.chg (belowC hb) (fun _ _ x => x)) hok hl hr, fun w hb => rprint_no p c l w (h.chg (belowC hb) (fun _ _ x => x)) (by omega) hr⟩

set_option maxRecDepth 100000 in
set_option maxHeartbeats 4000000 in
theorem texts_walk (p : Option Addr) (c : Nat) (l : List Sp) (t : List UInt8) (step : Int) (W : World) (h : SReads W p l) (hok : ∀ s ∈ l, s.Ok) (hl : l.length ≤ 1048576) (ht : t.length ≤ 1048576) (T : Tb W) :
    Calls Tryd.prog 3 #[.slice p l.length c, .string (mkS t), .int .i64 step] W fun e W' => e = .returned (.bool true) ∧ Below W.heap.size W W' := by
  obtain ⟨sp, er, hp1, hp2⟩ := prints p c l W h hok hl T
  have hq1 := fun w (hb : Below W.heap.size W w) => parse_any t (by omega) w (T.on hb)
  have hq2 := fun w (hb : Below W.heap.size W w) => r_parse t (by omega) w (T.on hb)
  have hc1 := fun (w : World) (hb : Below W.heap.size W w) => h_cut p c step l w (h.chg (belowC hb) (fun _ _ x => x)) (by omega)
  have hc2 := fun (w : World) (hb : Below W.heap.size W w) => r_cut p c step l w (h.chg (belowC hb) (fun _ _ x => x)) (by omega)
  have hcl := cutN_le l step l.length
  obtain ⟨cl, hcl2⟩ : ∃ cl, cl = cutN l step l.length := ⟨_, rfl⟩
  rw [← hcl2] at hc1 hc2 hcl
  have hcl3 : cl.length ≤ 1048576 := by omega
  obtain ⟨s, hs⟩ : ∃ s, s = mkS t := ⟨_, rfl⟩
  rw [← hs] at hq1 hq2 ⊢
  obtain ⟨n, hn⟩ : ∃ n, n = l.length := ⟨_, rfl⟩
  rw [← hn] at hp1 hp2 hc1 hc2 ⊢
  have HP2 := keepH hp2
  have HQ1 := keepH hq1
  have HQ2 := keepH hq2
  have HC1 := keepH hc1
  have HC2 := keepH hc2
  have hp1 := hp1 W (Below.refl _ _)
  clear hp2 hq1 hq2 hc1 hc2 hcl hcl2 hs hn h hok hl T
  go_enter Tryd.func3, Tryd.ntmps3
  go_wp2_with fail
  refine hp1.mono ?_
  rintro e w1 ⟨rfl, B1⟩
  clear hp1
  go_wp2_with fail
  refine (HP2.out w1 B1).mono ?_
  rintro e w2 ⟨rfl, C2⟩
  have B2 := below_chain B1 C2
  clear C2 B1
  go_wp2_with fail
  refine (HQ1.out w2 B2).mono ?_
  rintro e w3 ⟨⟨v, er1, m, rfl, hph, hrow⟩, C3⟩
  have B3 := below_chain B2 C3
  obtain ⟨pm, cm, rfl⟩ := slice_row hrow
  have hm1 := reads_row hrow
  clear hrow C3 B2
  go_wp2_with fail
  refine (HQ2.out w3 B3).mono ?_
  rintro e w4 ⟨⟨v, er2, m2, rfl, hph2, hrow2⟩, C4⟩
  obtain ⟨rfl, rfl⟩ := ph_same hph hph2
  have B4 := below_chain B3 C4
  obtain ⟨pm2, cm2, rfl⟩ := slice_row hrow2
  have hm2 := reads_row hrow2
  replace hm1 := hm1.chg (belowC C4) (fun _ _ x => x)
  have hml : m2.length ≤ 1048576 := by
    rcases hph with ⟨_, _, _, e, _⟩ | ⟨_, e, _⟩
    · have := print_ge m2; rw [← e] at this; omega
    · rw [e]; simp
  have hsm := fun (w : World) (hb : Below w4.heap.size w4 w) => same_yes pm pm2 cm cm2 m2 w (hm1.chg (belowC hb) (fun _ _ x => x)) (hm2.chg (belowC hb) (fun _ _ x => x)) (by omega)
  obtain ⟨k, hk⟩ : ∃ k, k = m2.length := ⟨_, rfl⟩
  rw [← hk] at hsm ⊢
  have HSM := keepH hsm
  clear hsm hm1 hm2 hrow2 hk hml hph hph2 C4 B3
  go_wp2_with fail
  refine (live_b w4).mono ?_
  rintro e w5 ⟨rfl, C5⟩
  have B5 := below_chain B4 C5
  go_wp2_with fail
  refine (HSM.out w5 C5).mono ?_
  rintro e w6 ⟨rfl, C6⟩
  have B6 := below_chain B5 C6
  clear C5 C6 B4 B5
  go_wp2_with fail
  refine (HC1.out w6 B6).mono ?_
  rintro e w7 ⟨v7, rfl, hrow7, _, C7⟩
  have B7 := below_chain B6 (chgB C7)
  obtain ⟨p7, c7, rfl⟩ := slice_row hrow7
  have hr7 := reads_row hrow7
  clear hrow7 C7 B6
  go_wp2_with fail
  refine (HC2.out w7 B7).mono ?_
  rintro e w8 ⟨v8, rfl, hrow8, _, C8⟩
  have B8 := below_chain B7 (chgB C8)
  obtain ⟨p8, c8, rfl⟩ := slice_row hrow8
  have hsm2 := same_yes p7 p8 c7 c8 cl w8 (hr7.chg C8 (fun _ _ x => x)) (reads_row hrow8) (by omega)
  obtain ⟨k8, hk8⟩ : ∃ k, k = cl.length := ⟨_, rfl⟩
  rw [← hk8] at hsm2 ⊢
  clear hrow8 C8 hr7 hk8 B7
  go_wp2_with fail
  refine hsm2.mono ?_
  rintro e w9 ⟨rfl, C9⟩
  have B9 := below_chain B8 C9
  clear C9 hsm2
  go_wp2_with fail
  go_ret
  exact ⟨by first | rfl | simp, B9⟩
end Go.Proofs.YtfohpbpekdcneaaDoor
