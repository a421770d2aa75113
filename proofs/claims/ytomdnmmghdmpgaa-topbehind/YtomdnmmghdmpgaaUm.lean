/- Patterns broken: the same numbers. -/
import Derived.Test.YtomdnmmghdmpgaaUl
namespace Go.Proofs.Ytomdnmmghdmpgaa
open Go.RowKit Go.Lib
set_option linter.unusedVariables false

/-- The same numbers, beside a generator of its own. -/
structure BX (W w0 w : World) (g : Nat) (zs : List Nat) (rb : Nat) : Prop where
  row : ∃ zs' : List Nat, zs'.Perm zs ∧ RowU w g zs'
  gen : ∃ x : Nat, Blk w rb 105 [.int .u64 (x : Int)]
  ne : ¬ g = rb
  new : rb = W.heap.size
  pre : Chg (fun _ => False) W w0
  chg : Chg (fun k => k = g ∨ k = rb) w0 w
theorem BX.ends {W w0 w : World} {g : Nat} {zs : List Nat} {rb : Nat} (h : BX W w0 w g zs rb) : Same W g zs w := by
  obtain ⟨zs', P, R⟩ := h.row
  exact ⟨zs', P, R, h.pre.trans h.chg (fun _ _ x => x.elim) (fun i hi e => by rcases e with e | e; exact e; exact absurd hi (by have := h.new; omega))⟩
theorem BX.quiet {W w0 w w' : World} {g : Nat} {zs : List Nat} {rb : Nat} (h : BX W w0 w g zs rb) (c : Chg (fun _ => False) w w') : BX W w0 w' g zs rb := by
  obtain ⟨zs', P, R⟩ := h.row
  obtain ⟨x, hx⟩ := h.gen
  exact ⟨⟨zs', P, R.chg c (fun x => x)⟩, ⟨x, hx.chg c (fun x => x)⟩, h.ne, h.new, h.pre, h.chg.trans c (fun _ _ x => x) (fun _ _ x => x.elim)⟩
theorem BX.rnd {W w0 w w' : World} {g : Nat} {zs : List Nat} {rb r : Nat} (h : BX W w0 w g zs rb) (hb : Blk w' rb 105 [.int .u64 (r : Int)]) (c : Chg (fun k => k = rb) w w') : BX W w0 w' g zs rb := by
  obtain ⟨zs', P, R⟩ := h.row
  exact ⟨⟨zs', P, R.chg c h.ne⟩, ⟨r, hb⟩, h.ne, h.new, h.pre, h.chg.trans c (fun _ _ x => x) (fun _ _ x => .inr x)⟩
theorem BX.any {W w0 w : World} {g : Nat} {zs : List Nat} {rb : Nat} (h : BX W w0 w g zs rb) {i j : Nat} (hi : i < zs.length) (hj : j < zs.length) :
    ∃ x y : Nat, Hid (w.cell? ⟨g, i, none⟩ = some (.int .u64 (x : Int)) ∧ w.cell? ⟨g, j, none⟩ = some (.int .u64 (y : Int)) ∧ w.frozen? ⟨g, i, none⟩ = false ∧ (∀ v, (w.setCell ⟨g, i, none⟩ v).frozen? ⟨g, j, none⟩ = false) ∧ (∀ v, ∃ u, (w.setCell ⟨g, i, none⟩ v).cell? ⟨g, j, none⟩ = some u)
      ∧ BX W w0 ((w.setCell ⟨g, i, none⟩ (.int .u64 (y : Int))).setCell ⟨g, j, none⟩ (.int .u64 (x : Int))) g zs rb) := by
  obtain ⟨zs', P, R⟩ := h.row
  have hl := P.length_eq
  obtain ⟨x, y, hT⟩ := (Same.refl R).any (i := i) (j := j) (by omega) (by omega)
  obtain ⟨k1, k2, k3, k4, k5, k7⟩ : _ := (hT w (Chg.refl _ _)).out
  refine ⟨x, y, k1, k2, k3, k4, k5, ?_⟩
  obtain ⟨zt, P2, R2, C2⟩ := k7
  obtain ⟨z, hz⟩ := h.gen
  exact ⟨⟨zt, P2.trans P, R2⟩, ⟨z, hz.chg C2 (fun e => h.ne e.symm)⟩, h.ne, h.new, h.pre, h.chg.trans C2 (fun _ _ x => x) (fun _ _ x => .inl x)⟩
set_option maxRecDepth 100000 in
set_option maxHeartbeats 8000000 in
theorem break_g {W : World} {g c a b : Nat} {zs : List Nat} (hr : RowU W g zs) (hb : b ≤ zs.length) (hz : zs.length ≤ 60000) (ha : a + 12 < b) :
    Calls Try.prog 42 #[.slice (some ⟨g, 0, none⟩) zs.length c, .int .i64 (a : Int), .int .i64 (b : Int)] W fun e W' => e = .returned (.tuple #[]) ∧ Same W g zs W' := by
  obtain ⟨n, hn⟩ : ∃ n, n = zs.length := ⟨_, rfl⟩
  rw [← hn] at hz hb ⊢
  have HN := keepH hn
  obtain ⟨l, hl⟩ : ∃ l, l = b - a := ⟨_, rfl⟩
  obtain ⟨q, hq⟩ : ∃ q, q = l / 4 := ⟨_, rfl⟩
  obtain ⟨q2, hq2⟩ : ∃ q2, q2 = q * 2 := ⟨_, rfl⟩
  obtain ⟨j, hj⟩ : ∃ j, j = a + q2 := ⟨_, rfl⟩
  obtain ⟨j0, hj0⟩ : ∃ j0, j = j0 + 1 := ⟨j - 1, by omega⟩
  obtain ⟨j2, hj2⟩ : ∃ j2, j2 = j + 1 := ⟨_, rfl⟩
  have w1 : IntKind.i64.wrap ((b : Int) - (a : Int)) = (l : Int) := by rw [IntKind.wrap_i64]; omega
  have wl := wu64 l (by omega)
  have d1 : ((l : Int).tdiv 4) = (q : Int) := by rw [Int.tdiv_eq_ediv_of_nonneg (by omega)]; omega
  have d2 : IntKind.i64.wrap (q : Int) = (q : Int) := by rw [IntKind.wrap_i64]; omega
  have d3 : IntKind.i64.wrap ((q : Int) * 2) = (q2 : Int) := by rw [IntKind.wrap_i64]; omega
  have d4 : IntKind.i64.wrap ((a : Int) + (q2 : Int)) = (j : Int) := by rw [IntKind.wrap_i64]; omega
  have d5 : IntKind.i64.wrap ((j : Int) - 1) = (j0 : Int) := by rw [IntKind.wrap_i64]; omega
  have d6 : IntKind.i64.wrap ((j : Int) + 1) = (j2 : Int) := by rw [IntKind.wrap_i64]; omega
  have t8 : (8 : Int) ≤ (l : Int) := by omega
  have HB : Hid (l = b - a ∧ j2 < b ∧ a ≤ j0 ∧ j2 = j0 + 2) := ⟨hl, by omega, by omega, by omega⟩
  obtain ⟨rb, hrb⟩ : ∃ rb, rb = W.heap.size := ⟨_, rfl⟩
  obtain ⟨w0, hw0⟩ : ∃ w0, w0 = W.alloc (.cells #[.int .u64 (l : Int)] 105) := ⟨_, rfl⟩
  have H0 : Hid (BX W w0 w0 g zs rb) := by
    have lt : g < W.heap.size := by obtain ⟨rest, B⟩ := hr; exact lt_of B
    refine ⟨⟨zs, List.Perm.refl _, ?_⟩, ⟨l, ?_⟩, by omega, hrb, ?_, Chg.refl _ _⟩
    · rw [hw0]; exact hr.chg (F := fun _ => False) ((Chg.refl _ _).alloc _) (fun x => x)
    · rw [hw0, hrb]; exact heap_alloc_new _ _
    · rw [hw0]; exact (Chg.refl _ _).alloc _
  have HL : Hid (l < 65536 ∧ 1 ≤ l) := ⟨by omega, by omega⟩
  clear hr hn hl hq hq2 hj hj0 hj2
  go_enter Try.func42, Try.ntmps42
  go_wp2_with fail
  rw [← hw0, ← hrb]
  clear hw0 hrb
  refine (npot_s HL.out.1 HL.out.2 w0).mono ?_
  rintro e w' ⟨⟨P, rfl, hP1, hP2⟩, rfl⟩
  obtain ⟨P1, hP⟩ : ∃ P1, P = P1 + 1 := ⟨P - 1, by omega⟩
  have dP : IntKind.u64.wrap ((P : Int) - 1) = (P1 : Int) := by
    have : (P : Int) - 1 = (P1 : Int) := by omega
    rw [this]
    exact wu64 P1 (by have := HL.out; omega)
  have HP : Hid (P = P1 + 1 ∧ l < P ∧ P ≤ 2 * l) := ⟨hP, hP1, hP2⟩
  clear hP hP1 hP2 wl
  go_wp2_with fail
  go_loopw [9] (fun s9 wr => ∃ i : Nat, j0 ≤ i ∧ i ≤ j2 + 1 ∧ s9 = .int .i64 (i : Int) ∧ Hid (BX W w' wr g zs rb)) (fun s9 _ => j2 + 2 - (intOf s9).toNat)
  case atStart => exact ⟨j0, by omega, by have := HB.out; omega, by first | rfl | go_num, H0⟩
  case round =>
    obtain ⟨i, hi1, hi2, rfl, HI⟩ := hrel
    by_cases hle : i ≤ j2
    · have t1 : (i : Int) ≤ (j2 : Int) := by omega
      have wi : IntKind.i64.wrap ((i : Int) + 1) = ((i + 1 : Nat) : Int) := by rw [IntKind.wrap_i64]; have := HB.out; omega
      obtain ⟨x, hx⟩ := HI.out.gen
      have HXX := keepH (xor_s hx)
      clear hx
      go_wp2_with fail
      refine HXX.out.mono ?_
      rintro e w3 ⟨⟨r, rfl, hr64, hrb⟩, C3⟩
      have H3 := keepH (HI.out.rnd hrb C3)
      obtain ⟨o, ho⟩ : ∃ o, o = r &&& P1 := ⟨_, rfl⟩
      have b1 : bits .and .u64 (r : Int) (P1 : Int) = (o : Int) := by rw [bits_and_u64_nat r P1 hr64 (by have := HP.out; have := HL.out; omega), ho]
      have hoP : o ≤ P1 := by rw [ho]; exact Nat.and_le_right
      have boo : o < 131072 := by have := HP.out; have := HL.out; omega
      have bll : l < 65536 := HL.out.1
      have wo : IntKind.i64.wrap (o : Int) = (o : Int) := by rw [IntKind.wrap_i64]; have := HP.out; have := HL.out; omega
      clear hrb C3 ho hr64 HXX HI
      by_cases hol : l ≤ o
      · have t2 : (l : Int) ≤ (o : Int) := by omega
        obtain ⟨o1, ho1⟩ : ∃ o1, o1 = o - l := ⟨_, rfl⟩
        have wo1 : IntKind.i64.wrap ((o : Int) - (l : Int)) = (o1 : Int) := by rw [IntKind.wrap_i64]; omega
        have ho1l : o1 < l := by have := HP.out; omega
        clear ho1
        obtain ⟨y, hy⟩ : ∃ y, y = a + o1 := ⟨_, rfl⟩
        have wy : IntKind.i64.wrap ((a : Int) + (o1 : Int)) = (y : Int) := by rw [IntKind.wrap_i64]; omega
        have yn : y < n := by have := HB.out; omega
        have inn : i < n := by have := HB.out; omega
        clear hy
        obtain ⟨u1, u2, hT⟩ := H3.out.any (i := i) (j := y) (by rw [← HN.out]; omega) (by rw [← HN.out]; omega)
        obtain ⟨k1, k2, k3, k4, k5, k7⟩ : _ := hT.out
        have k4 := k4 (.int .u64 (u2 : Int))
        obtain ⟨u, k5⟩ := k5 (.int .u64 (u2 : Int))
        obtain ⟨w9, hw9⟩ : ∃ w9, w9 = ((w3.setCell ⟨g, i, none⟩ (.int .u64 (u2 : Int))).setCell ⟨g, y, none⟩ (.int .u64 (u1 : Int))).drew := ⟨_, rfl⟩
        have H9 : Hid (BX W w' w9 g zs rb) := by rw [hw9]; exact k7.quiet (Chg.refl _ _).drew
        clear k7 hT H3
        go_upto_region 10 with fail
        go_region
        all_goals (
          rw [← hw9]
          clear hw9 k1 k2 k3 k4 k5
          go_wp2_with fail
          go_roundw
          case rel => exact ⟨i + 1, by omega, by omega, by first | rfl | go_num, H9⟩
          case measure => simp [intOf]; omega)
      · have t2 : ¬ (l : Int) ≤ (o : Int) := by omega
        have ho1l : o < l := by omega
        obtain ⟨y, hy⟩ : ∃ y, y = a + o := ⟨_, rfl⟩
        have wy : IntKind.i64.wrap ((a : Int) + (o : Int)) = (y : Int) := by rw [IntKind.wrap_i64]; omega
        have yn : y < n := by have := HB.out; omega
        have inn : i < n := by have := HB.out; omega
        clear hy
        obtain ⟨u1, u2, hT⟩ := H3.out.any (i := i) (j := y) (by rw [← HN.out]; omega) (by rw [← HN.out]; omega)
        obtain ⟨k1, k2, k3, k4, k5, k7⟩ : _ := hT.out
        have k4 := k4 (.int .u64 (u2 : Int))
        obtain ⟨u, k5⟩ := k5 (.int .u64 (u2 : Int))
        obtain ⟨w9, hw9⟩ : ∃ w9, w9 = ((w3.setCell ⟨g, i, none⟩ (.int .u64 (u2 : Int))).setCell ⟨g, y, none⟩ (.int .u64 (u1 : Int))).drew := ⟨_, rfl⟩
        have H9 : Hid (BX W w' w9 g zs rb) := by rw [hw9]; exact k7.quiet (Chg.refl _ _).drew
        clear k7 hT H3
        go_upto_region 10 with fail
        go_region
        all_goals (
          rw [← hw9]
          clear hw9 k1 k2 k3 k4 k5
          go_wp2_with fail
          go_roundw
          case rel => exact ⟨i + 1, by omega, by omega, by first | rfl | go_num, H9⟩
          case measure => simp [intOf]; omega)
    · have t1 : ¬ (i : Int) ≤ (j2 : Int) := by omega
      have HE := keepH HI.out.ends
      clear HI
      go_wp2_with fail
      go_end0
      exact ⟨rfl, HE.out⟩
end Go.Proofs.Ytomdnmmghdmpgaa
