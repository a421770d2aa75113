/- The pivot that is chosen lies in the part. -/
import Derived.Test.YtomdnmmghdmpgaaUf
namespace Go.Proofs.Ytomdnmmghdmpgaa
open Go.RowKit
set_option linter.unusedVariables false

/-- The row as it was, and a cell that counts. -/
structure PV (W w : World) (g : Nat) (zs : List Nat) (sb : Nat) : Prop where
  row : RowU w g zs
  blk : ∃ z : Int, Blk w sb 3 [.int .i64 z]
  ne : ¬ g = sb
  chg : Chg (fun k => k = sb) W w
theorem PV.quiet {W w w' : World} {g : Nat} {zs : List Nat} {sb : Nat} (h : PV W w g zs sb) (c : Chg (fun _ => False) w w') : PV W w' g zs sb := by
  obtain ⟨z, hz⟩ := h.blk
  exact ⟨h.row.chg c (fun x => x), ⟨z, hz.chg c (fun x => x)⟩, h.ne, h.chg.pf c⟩
theorem PV.put {W w : World} {g : Nat} {zs : List Nat} {sb : Nat} (h : PV W w g zs sb) (z : Int) : PV W (w.setCell ⟨sb, 0, none⟩ (.int .i64 z)) g zs sb := by
  obtain ⟨y, hy⟩ := h.blk
  exact ⟨h.row.chg (setP (p := sb) _) h.ne, ⟨z, hy.set 0 _⟩, h.ne, h.chg.p (setP _)⟩
set_option maxRecDepth 100000 in
set_option maxHeartbeats 4000000 in
theorem ord2_g {W w : World} {g c sb a b n : Nat} {zs : List Nat} (h : PV W w g zs sb) (hn : n = zs.length) (ha : a < n) (hb : b < n) :
    Calls Try.prog 68 #[.slice (some ⟨g, 0, none⟩) n c, .int .i64 (a : Int), .int .i64 (b : Int), .pointer (some ⟨sb, 0, none⟩)] w fun e w' => (∃ p q : Nat, e = .returned (.tuple #[.int .i64 (p : Int), .int .i64 (q : Int)]) ∧ (p = a ∨ p = b) ∧ (q = a ∨ q = b)) ∧ PV W w' g zs sb := by
  obtain ⟨x, hx⟩ : ∃ x, zs[b]? = some x := ⟨_, List.getElem?_eq_getElem (by omega)⟩
  obtain ⟨y, hy⟩ : ∃ y, zs[a]? = some y := ⟨_, List.getElem?_eq_getElem (by omega)⟩
  have cx := h.row.cell b x hx
  have cy := h.row.cell a y hy
  have H := keepH h
  clear h hn hx hy
  cases hlt : decide (x < y) with
  | true =>
    have HLS := keepH (less_is hlt)
    clear hlt
    go_enter Try.func68, Try.ntmps68
    go_upto_region 1 with fail
    go_quiet (first | (go_at_call 46; refine (HLS.out _).mono ?_; rintro q r ⟨rfl, rfl⟩; exact ⟨rfl, _, rfl⟩))
    obtain ⟨w3, hw3⟩ : ∃ z : World, z = w.drewN nq := ⟨_, rfl⟩
    have H3 : Hid (PV W w3 g zs sb) := by rw [hw3]; exact H.out.quiet (drewN_chg w nq)
    rw [← hw3]
    clear hw3 cx cy HLS H
    obtain ⟨z, hz⟩ := H3.out.blk
    have s1 : w3.cell? ⟨sb, 0, none⟩ = some (.int .i64 z) := hz.cell 0
    have s2 := hz.free 0
    have H4 : Hid (∀ v : Int, PV W (w3.setCell ⟨sb, 0, none⟩ (.int .i64 v)) g zs sb) := fun v => H3.out.put v
    clear hz H3
    go_wp2_with fail
    exact bodyPost_ret (results_tmp2 rfl _ _ _) rfl ⟨⟨b, a, rfl, .inr rfl, .inl rfl⟩, H4.out _⟩
  | false =>
    have HLS := keepH (less_is hlt)
    clear hlt
    go_enter Try.func68, Try.ntmps68
    go_upto_region 1 with fail
    go_quiet (first | (go_at_call 46; refine (HLS.out _).mono ?_; rintro q r ⟨rfl, rfl⟩; exact ⟨rfl, _, rfl⟩))
    obtain ⟨w3, hw3⟩ : ∃ z : World, z = w.drewN nq := ⟨_, rfl⟩
    have H3 : Hid (PV W w3 g zs sb) := by rw [hw3]; exact H.out.quiet (drewN_chg w nq)
    rw [← hw3]
    clear hw3 cx cy HLS H
    go_wp2_with fail
    exact bodyPost_ret (results_tmp2 rfl _ _ _) rfl ⟨⟨a, b, rfl, .inl rfl, .inr rfl⟩, H3.out⟩
set_option maxRecDepth 100000 in
set_option maxHeartbeats 4000000 in
theorem med_g {W w : World} {g c sb a b d n : Nat} {zs : List Nat} (h : PV W w g zs sb) (hn : n = zs.length) (ha : a < n) (hb : b < n) (hd : d < n) :
    Calls Try.prog 64 #[.slice (some ⟨g, 0, none⟩) n c, .int .i64 (a : Int), .int .i64 (b : Int), .int .i64 (d : Int), .pointer (some ⟨sb, 0, none⟩)] w fun e w' => (∃ p : Nat, e = .returned (.int .i64 (p : Int)) ∧ (p = a ∨ p = b ∨ p = d)) ∧ PV W w' g zs sb := by
  have H := keepH h
  have HN := keepH hn
  clear h hn
  go_enter Try.func64, Try.ntmps64
  go_wp2_with fail
  refine (ord2_g H.out HN.out ha hb).mono ?_
  rintro e w1 ⟨⟨p1, q1, rfl, hp1, hq1⟩, h1⟩
  have H1 := keepH h1
  have HA : Hid ((p1 = a ∨ p1 = b) ∧ (q1 = a ∨ q1 = b)) := ⟨hp1, hq1⟩
  clear h1 hp1 hq1
  go_wp2_with fail
  refine (ord2_g H1.out HN.out (by have := HA.out; omega) hd).mono ?_
  rintro e w2 ⟨⟨p2, q2, rfl, hp2, hq2⟩, h2⟩
  have H2 := keepH h2
  have HB : Hid ((p2 = q1 ∨ p2 = d) ∧ (q2 = q1 ∨ q2 = d)) := ⟨hp2, hq2⟩
  clear h2 hp2 hq2
  go_wp2_with fail
  refine (ord2_g H2.out HN.out (by have := HA.out; omega) (by have := HA.out; have := HB.out; omega)).mono ?_
  rintro e w3 ⟨⟨p3, q3, rfl, hp3, hq3⟩, h3⟩
  have H3 := keepH h3
  have HC : Hid (q3 = p1 ∨ q3 = p2) := hq3
  clear h3 hp3 hq3
  go_wp2_with fail
  exact bodyPost_ret (results_tmp rfl _ _ _) rfl ⟨⟨q3, rfl, by have := HA.out; have := HB.out; have := HC.out; omega⟩, H3.out⟩
set_option maxRecDepth 100000 in
set_option maxHeartbeats 4000000 in
theorem medadj_g {W w : World} {g c sb a n : Nat} {zs : List Nat} (h : PV W w g zs sb) (hn : n = zs.length) (ha : a + 1 < n) (h1 : 1 ≤ a) (hz : n ≤ 1152921504606846976) :
    Calls Try.prog 63 #[.slice (some ⟨g, 0, none⟩) n c, .int .i64 (a : Int), .pointer (some ⟨sb, 0, none⟩)] w fun e w' => (∃ p : Nat, e = .returned (.int .i64 (p : Int)) ∧ p ≤ a + 1 ∧ a ≤ p + 1) ∧ PV W w' g zs sb := by
  have H := keepH h
  have HN := keepH hn
  obtain ⟨l, hl⟩ : ∃ l, a = l + 1 := ⟨a - 1, by omega⟩
  obtain ⟨r, hr⟩ : ∃ r, r = a + 1 := ⟨_, rfl⟩
  have wl : IntKind.i64.wrap ((a : Int) - 1) = (l : Int) := by rw [IntKind.wrap_i64]; omega
  have wr : IntKind.i64.wrap ((a : Int) + 1) = (r : Int) := by rw [IntKind.wrap_i64]; omega
  have HA : Hid (a = l + 1 ∧ r = a + 1) := ⟨hl, hr⟩
  have b1 : l < n := by omega
  have b2 : r < n := by omega
  clear h hn hl hr
  go_enter Try.func63, Try.ntmps63
  go_wp2_with fail
  refine (med_g H.out HN.out b1 (by omega) b2).mono ?_
  rintro e w1 ⟨⟨p, rfl, hp⟩, k1⟩
  have H1 := keepH k1
  have HP : Hid (p ≤ a + 1 ∧ a ≤ p + 1) := by have := HA.out; exact ⟨by omega, by omega⟩
  clear k1 hp
  go_wp2_with fail
  exact bodyPost_ret (results_tmp rfl _ _ _) rfl ⟨⟨p, rfl, HP.out.1, HP.out.2⟩, H1.out⟩
end Go.Proofs.Ytomdnmmghdmpgaa
