/- Patterns broken, told as a permutation of a part. -/
import Derived.Test.YtahgaghokpicgaaGreatW24OtH
import Derived.Test.YtahgaghokpicgaaGreatW25OtI
import Derived.Test.YtahgaghokpicgaaGreatW22OtB
import Derived.Test.YtahgaghokpicgaaGreatW21D8d
namespace Go.Proofs.YtahgaghokpicgaaGreat
open Go.RowKit Go.Lib Go.Sort
set_option linter.unusedVariables false
set_option maxHeartbeats 16000000
structure BX (W w0 w : World) (g : Nat) (d0 : Array Nat) (lo up : Nat) (rb : Nat) : Prop where
 row : ∃ d : Array Nat, PermIn lo up d0 d ∧ RowU w g d.toList
 gen : ∃ x : Nat, Blk w rb 187 [.int .u64 x]
 ne : ¬ g = rb
 new : rb = W.heap.size
 pre : Chg (fun _ => False) W w0
 chg : Chg (fun k => k = g ∨ k = rb) w0 w
 sz : SzK w0 w g
theorem BX.ends {W w0 w : World} {g : Nat} {d0 : Array Nat} {lo up rb n : Nat} (h : BX W w0 w g d0 lo up rb) (hn : d0.size = n) : St W g n (fun d => PermIn lo up d0 d) w := by
 obtain ⟨d, P, R⟩ := h.row
 exact ⟨d, P.1.trans hn, P, R, h.pre.trans h.chg (fun _ _ x => x.elim) (fun i hi e => by rcases e with e | e; exact e; exact absurd hi (by have := h.new; omega)), (SzK.chg h.pre (fun x => x)).trans h.sz⟩
theorem BX.quiet {W w0 w w' : World} {g : Nat} {d0 : Array Nat} {lo up rb : Nat} (h : BX W w0 w g d0 lo up rb) (c : Chg (fun _ => False) w w') : BX W w0 w' g d0 lo up rb := by
 obtain ⟨d, P, R⟩ := h.row
 obtain ⟨x, hx⟩ := h.gen
 exact ⟨⟨d, P, R.chg c (fun x => x)⟩, ⟨x, hx.chg c (fun x => x)⟩, h.ne, h.new, h.pre, h.chg.trans c (fun _ _ x => x) (fun _ _ x => x.elim), h.sz.trans (SzK.chg c (fun x => x))⟩
theorem BX.rnd {W w0 w w' : World} {g : Nat} {d0 : Array Nat} {lo up rb r : Nat} (h : BX W w0 w g d0 lo up rb) (hb : Blk w' rb 187 [.int .u64 r]) (c : Chg (fun k => k = rb) w w') : BX W w0 w' g d0 lo up rb := by
 obtain ⟨d, P, R⟩ := h.row
 exact ⟨⟨d, P, R.chg c h.ne⟩, ⟨r, hb⟩, h.ne, h.new, h.pre, h.chg.trans c (fun _ _ x => x) (fun _ _ x => .inr x), h.sz.trans (SzK.chg c h.ne)⟩
theorem BX.any {W w0 w : World} {g : Nat} {d0 : Array Nat} {lo up rb : Nat} (h : BX W w0 w g d0 lo up rb) (hu : up ≤ d0.size) {i j : Nat} (hi : lo ≤ i ∧ i < up) (hj : lo ≤ j ∧ j < up) :
    ∃ x y : Nat, Hid (w.cell? ⟨g, i, none⟩ = some (.int .u64 x) ∧ w.cell? ⟨g, j, none⟩ = some (.int .u64 y) ∧ w.frozen? ⟨g, i, none⟩ = false ∧ (∀ v, (w.setCell ⟨g, i, none⟩ v).frozen? ⟨g, j, none⟩ = false) ∧ (∀ v, ∃ u, (w.setCell ⟨g, i, none⟩ v).cell? ⟨g, j, none⟩ = some u)
     ∧ BX W w0 ((w.setCell ⟨g, i, none⟩ (.int .u64 y)).setCell ⟨g, j, none⟩ (.int .u64 x)) g d0 lo up rb) := by
 obtain ⟨d, P, R⟩ := h.row
 have hl := P.1
 obtain ⟨x, y, hx, hy, hT⟩ := (Ar.refl R).any (i := i) (j := j) (by omega) (by omega)
 obtain ⟨k1, k2, k3, k4, k5, k7⟩ : _ := (hT w (Chg.refl _ _)).out
 refine ⟨x, y, k1, k2, k3, k4, k5, ?_⟩
 obtain ⟨z, hz⟩ := h.gen
 exact ⟨⟨_, pi_swap P (by omega) hi.1 hi.2 hj.1 hj.2, k7.row⟩, ⟨z, hz.chg k7.chg (fun e => h.ne e.symm)⟩, h.ne, h.new, h.pre, h.chg.trans k7.chg (fun _ _ x => x) (fun _ _ x => .inl x), h.sz.trans k7.sz⟩
set_option maxRecDepth 100000 in
theorem break_o {W : World} {g c a b : Nat} {d0 : Array Nat} (hr : RowU W g d0.toList) (hb : b ≤ d0.size) (hz : d0.size ≤ 60000) (ha : a + 12 < b) :
    Calls Tryz.prog 106 #[.slice (some ⟨g, 0, none⟩) d0.size c, .int .i64 a, .int .i64 b] W fun e W' => e = .returned (.tuple #[]) ∧ St W g d0.size (fun d => PermIn a b d0 d) W' := by
 obtain ⟨n, hn⟩ : ∃ n, n = d0.size := ⟨_, rfl⟩
 rw [← hn] at hz hb ⊢
 have HN := keepH hn
 obtain ⟨l, hl⟩ : ∃ l, l = b - a := ⟨_, rfl⟩
 obtain ⟨q, hq⟩ : ∃ q, q = l / 4 := ⟨_, rfl⟩
 obtain ⟨q2, hq2⟩ : ∃ q2, q2 = q * 2 := ⟨_, rfl⟩
 obtain ⟨j, hj⟩ : ∃ j, j = a + q2 := ⟨_, rfl⟩
 obtain ⟨j0, hj0⟩ : ∃ j0, j = j0 + 1 := ⟨j - 1, by omega⟩
 obtain ⟨j2, hj2⟩ : ∃ j2, j2 = j + 1 := ⟨_, rfl⟩
 have w1 : IntKind.i64.wrap ((b : Int) - (a : Int)) = (l : Int) := by rw [IntKind.wrap_i64]; omega
 have wl := wu64 l (by omega)
 have d1 : ((l : Int).tdiv 4) = (q : Int) := by rw [Int.tdiv_eq_ediv_of_nonneg (by omega)]; omega
 have d2 : IntKind.i64.wrap (q : Int) = (q : Int) := by rw [IntKind.wrap_i64]; omega
 have d3 : IntKind.i64.wrap ((q : Int) * 2) = (q2 : Int) := by rw [IntKind.wrap_i64]; omega
 have d4 : IntKind.i64.wrap ((a : Int) + (q2 : Int)) = (j : Int) := by rw [IntKind.wrap_i64]; omega
 have d5 : IntKind.i64.wrap ((j : Int) - 1) = (j0 : Int) := by rw [IntKind.wrap_i64]; omega
 have d6 : IntKind.i64.wrap ((j : Int) + 1) = (j2 : Int) := by rw [IntKind.wrap_i64]; omega
 have t8 : (8 : Int) ≤ (l : Int) := by omega
 have HB : Hid (l = b - a ∧ j2 < b ∧ a ≤ j0 ∧ j2 = j0 + 2) := ⟨hl, by omega, by omega, by omega⟩
 obtain ⟨rb, hrb⟩ : ∃ rb, rb = W.heap.size := ⟨_, rfl⟩
 obtain ⟨w0, hw0⟩ : ∃ w0, w0 = W.alloc (.cells #[.int .u64 l] 187) := ⟨_, rfl⟩
 have H0 : Hid (BX W w0 w0 g d0 a b rb) := by
  have lt : g < W.heap.size := by obtain ⟨rest, B⟩ := hr; exact lt_of B
  refine ⟨⟨d0, permIn_refl _ _ _, ?_⟩, ⟨l, ?_⟩, by omega, hrb, ?_, Chg.refl _ _, SzK.refl _ _⟩
  ·rw [hw0]; exact hr.chg (F := fun _ => False) ((Chg.refl _ _).alloc _) (fun x => x)
  ·rw [hw0, hrb]; exact heap_alloc_new _ _
  ·rw [hw0]; exact (Chg.refl _ _).alloc _
 have HL : Hid (l < 65536 ∧ 1 ≤ l) := ⟨by omega, by omega⟩
 clear hr hn hl hq hq2 hj hj0 hj2
 go_enter Tryz.func106, Tryz.ntmps106
 go_wp2_with fail
 rw [← hw0, ← hrb]
 clear hw0 hrb
 refine (npot_s HL.out.1 HL.out.2 w0).mono ?_
 rintro e w' ⟨⟨P, rfl, hP1, hP2⟩, rfl⟩
 obtain ⟨P1, hP⟩ : ∃ P1, P = P1 + 1 := ⟨P - 1, by omega⟩
 have dP : IntKind.u64.wrap ((P : Int) - 1) = (P1 : Int) := by
  have : (P : Int) - 1 = (P1 : Int) := by omega
  rw [this]
  exact wu64 P1 (by have := HL.out; omega)
 have HP : Hid (P = P1 + 1 ∧ l < P ∧ P ≤ 2 * l) := ⟨hP, hP1, hP2⟩
 clear hP hP1 hP2 wl
 go_wp2_with fail
 go_loopw [9] (fun s9 wr => ∃ i : Nat, j0 ≤ i ∧ i ≤ j2 + 1 ∧ s9 = .int .i64 i ∧ Hid (BX W w' wr g d0 a b rb)) (fun s9 _ => j2 + 2 - (intOf s9).toNat)
 case atStart => exact ⟨j0, by omega, by have := HB.out; omega, by first | rfl | go_num, H0⟩
 case round =>
  obtain ⟨i, hi1, hi2, rfl, HI⟩ := hrel
  by_cases hle : i ≤ j2
  ·have t1 : (i : Int) ≤ (j2 : Int) := by omega
   have wi : IntKind.i64.wrap ((i : Int) + 1) = ((i + 1 : Nat) : Int) := by rw [IntKind.wrap_i64]; have := HB.out; omega
   obtain ⟨x, hx⟩ := HI.out.gen
   have HXX := keepH (xor_s hx)
   clear hx
   go_wp2_with fail
   refine HXX.out.mono ?_
   rintro e w3 ⟨⟨r, rfl, hr64, hrb⟩, C3⟩
   have H3 := keepH (HI.out.rnd hrb C3)
   obtain ⟨o, ho⟩ : ∃ o, o = r &&& P1 := ⟨_, rfl⟩
   have b1 : bits .and .u64 (r : Int) (P1 : Int) = (o : Int) := by rw [bits_and_u64_nat r P1 hr64 (by have := HP.out; have := HL.out; omega), ho]
   have hoP : o ≤ P1 := by rw [ho]; exact Nat.and_le_right
   have boo : o < 131072 := by have := HP.out; have := HL.out; omega
   have bll : l < 65536 := HL.out.1
   have wo : IntKind.i64.wrap (o : Int) = (o : Int) := by rw [IntKind.wrap_i64]; have := HP.out; have := HL.out; omega
   clear hrb C3 ho hr64 HXX HI
   by_cases hol : l ≤ o
   ·have t2 : (l : Int) ≤ (o : Int) := by omega
    obtain ⟨o1, ho1⟩ : ∃ o1, o1 = o - l := ⟨_, rfl⟩
    have wo1 : IntKind.i64.wrap ((o : Int) - (l : Int)) = (o1 : Int) := by rw [IntKind.wrap_i64]; omega
    have ho1l : o1 < l := by have := HP.out; omega
    clear ho1
    obtain ⟨y, hy⟩ : ∃ y, y = a + o1 := ⟨_, rfl⟩
    have wy : IntKind.i64.wrap ((a : Int) + (o1 : Int)) = (y : Int) := by rw [IntKind.wrap_i64]; omega
    have yn : y < n := by have := HB.out; omega
    have HYB : Hid (a ≤ y ∧ y < b) := by have := HB.out; exact ⟨by omega, by omega⟩
    have inn : i < n := by have := HB.out; omega
    clear hy
    obtain ⟨u1, u2, hT⟩ := H3.out.any (i := i) (j := y) (by rw [← HN.out]; omega) ⟨by have := HB.out; omega, by have := HB.out; omega⟩ ⟨by have := HYB.out; omega, by have := HYB.out; omega⟩
    obtain ⟨k1, k2, k3, k4, k5, k7⟩ : _ := hT.out
    have k4 := k4 (.int .u64 u2)
    obtain ⟨u, k5⟩ := k5 (.int .u64 u2)
    obtain ⟨w9, hw9⟩ : ∃ w9, w9 = ((w3.setCell ⟨g, i, none⟩ (.int .u64 u2)).setCell ⟨g, y, none⟩ (.int .u64 u1)).drew := ⟨_, rfl⟩
    have H9 : Hid (BX W w' w9 g d0 a b rb) := by rw [hw9]; exact k7.quiet (Chg.refl _ _).drew
    clear k7 hT H3
    go_upto_region 10 with fail
    go_region
    all_goals (
     rw [← hw9]
     clear hw9 k1 k2 k3 k4 k5
     go_wp2_with fail
     go_roundw
     case rel => exact ⟨i + 1, by omega, by omega, by first | rfl | go_num, H9⟩
     case measure => simp [intOf]; omega)
   ·have t2 : ¬ (l : Int) ≤ (o : Int) := by omega
    have ho1l : o < l := by omega
    obtain ⟨y, hy⟩ : ∃ y, y = a + o := ⟨_, rfl⟩
    have wy : IntKind.i64.wrap ((a : Int) + (o : Int)) = (y : Int) := by rw [IntKind.wrap_i64]; omega
    have yn : y < n := by have := HB.out; omega
    have HYB : Hid (a ≤ y ∧ y < b) := by have := HB.out; exact ⟨by omega, by omega⟩
    have inn : i < n := by have := HB.out; omega
    clear hy
    obtain ⟨u1, u2, hT⟩ := H3.out.any (i := i) (j := y) (by rw [← HN.out]; omega) ⟨by have := HB.out; omega, by have := HB.out; omega⟩ ⟨by have := HYB.out; omega, by have := HYB.out; omega⟩
    obtain ⟨k1, k2, k3, k4, k5, k7⟩ : _ := hT.out
    have k4 := k4 (.int .u64 u2)
    obtain ⟨u, k5⟩ := k5 (.int .u64 u2)
    obtain ⟨w9, hw9⟩ : ∃ w9, w9 = ((w3.setCell ⟨g, i, none⟩ (.int .u64 u2)).setCell ⟨g, y, none⟩ (.int .u64 u1)).drew := ⟨_, rfl⟩
    have H9 : Hid (BX W w' w9 g d0 a b rb) := by rw [hw9]; exact k7.quiet (Chg.refl _ _).drew
    clear k7 hT H3
    go_upto_region 10 with fail
    go_region
    all_goals (
     rw [← hw9]
     clear hw9 k1 k2 k3 k4 k5
     go_wp2_with fail
     go_roundw
     case rel => exact ⟨i + 1, by omega, by omega, by first | rfl | go_num, H9⟩
     case measure => simp [intOf]; omega)
  ·have t1 : ¬ (i : Int) ≤ (j2 : Int) := by omega
   have HE := keepH (HI.out.ends HN.out.symm)
   clear HI
   go_wp2_with fail
   go_end0
   exact ⟨rfl, HE.out⟩
def Tst (t : Bool) (P : Prop) : Prop := t = true → P
theorem St.from {W w w' : World} {g n : Nat} {d : Array Nat} {R : Array Nat → Prop} (h : Ar W g d w) (k : St w g n R w') : St W g n R w' := by
 obtain ⟨d2, h1, h2, h3⟩ := k
 exact ⟨d2, h1, h2, h.trans h3⟩
def Todo (a0 b0 : Nat) (d0 : Array Nat) (a b : Nat) (d : Array Nat) : Prop := Rest a0 b0 a b d0 d ∧ Blw a b d
theorem Todo.on {a0 b0 a b : Nat} {d0 d d2 : Array Nat} (h : Todo a0 b0 d0 a b d) (hb : b0 ≤ d0.size) (k : PermIn a b d d2) : Todo a0 b0 d0 a b d2 :=
 ⟨h.1.on hb k, blw_perm (by have := h.1.b1; have := h.1.perm.1; omega) h.2 k⟩
theorem Todo.start {a b : Nat} {d : Array Nat} (h : Blw a b d) : Todo a b d a b d := ⟨Rest.refl _ _ _, h⟩
theorem ins_n {W : World} {g c a b n : Nat} {d : Array Nat} (hr : RowU W g d.toList) (hn : d.size = n) (hab : a ≤ b) (hb : b ≤ n) (hz : n ≤ 60000) :
    Calls Tryz.prog 104 #[.slice (some ⟨g, 0, none⟩) n c, .int .i64 a, .int .i64 b] W fun e W' => e = .returned (.tuple #[]) ∧ St W g n (fun d' => PermIn a b d d' ∧ SortedIn ltN a b d') W' := by
 subst hn
 refine (ins_o hr hb (by omega) (by omega)).mono ?_
 rintro e w ⟨rfl, h⟩
 have q := insertionSort_holds swoN d a b hab hb
 exact ⟨rfl, _, q.1.1, q, h⟩
theorem heap_n {W : World} {g c a b n : Nat} {d : Array Nat} (hr : RowU W g d.toList) (hn : d.size = n) (hab : a < b) (hb : b ≤ n) (hz : n ≤ 60000) :
    Calls Tryz.prog 105 #[.slice (some ⟨g, 0, none⟩) n c, .int .i64 a, .int .i64 b] W fun e W' => e = .returned (.tuple #[]) ∧ St W g n (fun d' => PermIn a b d d' ∧ SortedIn ltN a b d') W' := by
 subst hn
 refine (heap_o hr hb (by omega) hab).mono ?_
 rintro e w ⟨rfl, h⟩
 have q := heapSort_holds swoN d a b (by omega) hb
 exact ⟨rfl, _, q.1.1, q, h⟩
theorem break_n {W : World} {g c a b n : Nat} {d : Array Nat} (hr : RowU W g d.toList) (hn : d.size = n) (hb : b ≤ n) (hz : n ≤ 60000) (ha : a + 12 < b) :
    Calls Tryz.prog 106 #[.slice (some ⟨g, 0, none⟩) n c, .int .i64 a, .int .i64 b] W fun e W' => e = .returned (.tuple #[]) ∧ St W g n (fun d' => PermIn a b d d') W' := by
 subst hn
 exact break_o hr hb hz ha
theorem rev_n {W : World} {g c a b n : Nat} {d : Array Nat} (hr : RowU W g d.toList) (hn : d.size = n) (hb : b ≤ n) (hz : n ≤ 60000) (ha : a < b) :
    Calls Tryz.prog 108 #[.slice (some ⟨g, 0, none⟩) n c, .int .i64 a, .int .i64 b] W fun e W' => e = .returned (.tuple #[]) ∧ St W g n (fun d' => PermIn a b d d') W' := by
 subst hn
 exact rev_o hr hb (by omega) ha
theorem pivot_n {W : World} {g c a b n : Nat} {d : Array Nat} (hr : RowU W g d.toList) (hn : d.size = n) (hb : b ≤ n) (hz : n ≤ 60000) (ha : a + 12 < b) :
    Calls Tryz.prog 107 #[.slice (some ⟨g, 0, none⟩) n c, .int .i64 a, .int .i64 b] W fun e W' => (∃ (p : Nat) (t : Int), e = .returned (.tuple #[.int .i64 p, .int .i64 t]) ∧ a ≤ p ∧ p < b) ∧ Chg (fun _ => False) W W' := by
 have e : n = d.toList.length := by rw [Array.length_toList]; exact hn.symm
 rw [e] at hb hz ⊢
 exact pivot_g hr hb (by omega) ha
theorem pins_n {W : World} {g c a b n : Nat} {d : Array Nat} (hr : RowU W g d.toList) (hn : d.size = n) (hb : b ≤ n) (hz : n ≤ 60000) (ha : a < b) (hB : Blw a b d) :
    Calls Tryz.prog 109 #[.slice (some ⟨g, 0, none⟩) n c, .int .i64 a, .int .i64 b] W fun e W' => ∃ t : Bool, e = .returned (.bool t) ∧ St W g n (fun d' => PermIn a b d d' ∧ (t = true → SortedIn ltN a b d')) W' := by
 subst hn
 refine (pins_o hr hb (by omega) ha).mono ?_
 rintro e w ⟨rfl, h⟩
 have q := partialInsertionSort_holds swoN d a b ha hb hB
 exact ⟨_, rfl, _, q.1.1, q, h⟩
theorem peq_n {W : World} {g c a b pv n : Nat} {d : Array Nat} (hr : RowU W g d.toList) (hn : d.size = n) (hb : b ≤ n) (hz : n ≤ 60000) (ha : a < b) (hp : pv < b) (hpa : a ≤ pv) :
    Calls Tryz.prog 111 #[.slice (some ⟨g, 0, none⟩) n c, .int .i64 a, .int .i64 b, .int .i64 pv] W fun e W' => ∃ m : Nat, e = .returned (.int .i64 m) ∧ (a < m ∧ m ≤ b) ∧ St W g n (fun d' => PartedE a b m d[pv]! d d') W' := by
 subst hn
 refine (peq_o hr hb (by omega) ha hp hpa).mono ?_
 rintro e w ⟨m, rfl, h⟩
 have k := h
 obtain ⟨d2, _, h2, _⟩ := k
 exact ⟨m, rfl, ⟨h2.am, h2.mb⟩, h⟩
theorem part_n {W : World} {g c a b pv n : Nat} {d : Array Nat} (hr : RowU W g d.toList) (hn : d.size = n) (hb : b ≤ n) (hz : n ≤ 60000) (ha : a < b) (hp : pv < b) (hpa : a ≤ pv) :
    Calls Tryz.prog 112 #[.slice (some ⟨g, 0, none⟩) n c, .int .i64 a, .int .i64 b, .int .i64 pv] W fun e W' => ∃ (m : Nat) (t : Bool), e = .returned (.tuple #[.int .i64 m, .bool t]) ∧ (a ≤ m ∧ m < b) ∧ St W g n (fun d' => Parted a b m d d') W' := by
 subst hn
 refine (part_o hr hb (by omega) ha hp hpa).mono ?_
 rintro e w ⟨m, t, rfl, h⟩
 have k := h
 obtain ⟨d2, _, h2, _⟩ := k
 exact ⟨m, t, rfl, ⟨h2.am, h2.mb⟩, h⟩
set_option maxRecDepth 100000 in
theorem pdq_o {g c n : Nat} (m : Nat) : ∀ {a b : Nat} {z : Int} {d0 : Array Nat} {W : World}, b - a ≤ m → RowU W g d0.toList → d0.size = n → b ≤ n → a ≤ b → n ≤ 60000 → Blw a b d0 →
    Calls Tryz.prog 100 #[.slice (some ⟨g, 0, none⟩) n c, .int .i64 a, .int .i64 b, .int .i64 z] W fun e W' => e = .returned (.tuple #[]) ∧ St W g n (fun d => PermIn a b d0 d ∧ SortedIn ltN a b d) W' := by
 induction m using Nat.strongRecOn with
 | ind m ih =>
 intro a b z d0 W hm hr hn hb hab hz hB
 have IH := keepH ih
 obtain ⟨a0, ha0⟩ : ∃ a0, a0 = a := ⟨_, rfl⟩
 obtain ⟨b0, hb0⟩ : ∃ b0, b0 = b := ⟨_, rfl⟩
 have HS : Hid (St W g n (Todo a0 b0 d0 a b) W) := ⟨d0, hn, by rw [ha0, hb0]; exact Todo.start hB, Ar.refl hr⟩
 have HB0 : Hid (b0 ≤ d0.size) := by show b0 ≤ _; omega
 suffices hh : Calls Tryz.prog 100 #[.slice (some ⟨g, 0, none⟩) n c, .int .i64 a, .int .i64 b, .int .i64 z] W fun e W' => e = .returned (.tuple #[]) ∧ St W g n (fun d => PermIn a0 b0 d0 d ∧ SortedIn ltN a0 b0 d) W' by
  rw [ha0, hb0] at hh
  exact hh
 clear hr ih hn hB ha0 hb0
 go_enter Tryz.func100, Tryz.ntmps100
 go_wp2_with fail
 go_loopw [1, 2, 3, 8, 9] (fun s1 s2 s3 s8 s9 wr => ∃ (a b : Nat) (z : Int) (t8 t9 : Bool), a ≤ b ∧ b ≤ n ∧ b - a ≤ m ∧ s1 = .int .i64 a ∧ s2 = .int .i64 b ∧ s3 = .int .i64 z ∧ s8 = .bool t8 ∧ s9 = .bool t9 ∧ Hid (St W g n (Todo a0 b0 d0 a b) wr)) (fun s1 s2 _ _ _ _ => (intOf s2).toNat - (intOf s1).toNat)
 case atStart => exact ⟨a, b, z, true, true, hab, hb, hm, rfl, rfl, rfl, rfl, rfl, HS⟩
 case round =>
  clear hab hb hm HS z
  clear a b
  obtain ⟨a, b, z, t8, t9, hab, hb, hm, rfl, rfl, rfl, rfl, rfl, HI⟩ := hrel
  obtain ⟨l, hl⟩ : ∃ l, l = b - a := ⟨_, rfl⟩
  have wl : IntKind.i64.wrap ((b : Int) - (a : Int)) = (l : Int) := by rw [IntKind.wrap_i64]; omega
  by_cases h12 : l ≤ 12
  ·have t1 : (l : Int) ≤ 12 := by omega
   obtain ⟨d, hd, hR, hA⟩ := HI.out
   have HD := keepH hd
   have HR := keepH hR
   have HA := keepH hA
   clear hd hR hA
   have HC := keepH (ins_n (c := c) HA.out.row HD.out hab hb hz)
   clear hl
   go_wp2_with fail
   refine HC.out.mono ?_
   rintro e w1 ⟨rfl, S1⟩
   have H1 : Hid (St W g n (fun d => PermIn a0 b0 d0 d ∧ SortedIn ltN a0 b0 d) w1) := (St.from HA.out S1).mono fun d' _ e => HR.out.1.ends HB0.out e.1 e.2
   clear S1
   go_wp2_with fail
   exact bodyPost_ret (results_none rfl _ _ _) rfl ⟨rfl, H1.out⟩
  ·have t1 : ¬ (l : Int) ≤ 12 := by omega
   have hal : a + 12 < b := by omega
   have HLL : Hid (l ≤ n) := by show _ ≤ _; omega
   clear hl
   by_cases z0 : z = 0
   ·have y0 : (z == 0) = true := by simp [z0]
    obtain ⟨d, hd, hR, hA⟩ := HI.out
    have HD := keepH hd
    have HR := keepH hR
    have HA := keepH hA
    clear hd hR hA
    have HC := keepH (heap_n (c := c) (a := a) HA.out.row HD.out (by omega) hb hz)
    clear z0
    go_wp2_with fail
    refine HC.out.mono ?_
    rintro e w1 ⟨rfl, S1⟩
    have H1 : Hid (St W g n (fun d => PermIn a0 b0 d0 d ∧ SortedIn ltN a0 b0 d) w1) := (St.from HA.out S1).mono fun d' _ e => HR.out.1.ends HB0.out e.1 e.2
    clear S1
    go_wp2_with fail
    exact bodyPost_ret (results_none rfl _ _ _) rfl ⟨rfl, H1.out⟩
   ·have y0 : (z == 0) = false := by simpa using z0
    clear z0
    go_upto_if 35 with fail
    go_cut [3] from 36 to 41 (fun s3 wz => ∃ z' : Int, s3 = .int .i64 z' ∧ Hid (St W g n (Todo a0 b0 d0 a b) wz))
    case first =>
     obtain ⟨d, hd, hR, hA⟩ := HI.out
     have HD := keepH hd
     have HR := keepH hR
     have HA := keepH hA
     clear hd hR hA
     have HC := keepH (break_n (c := c) HA.out.row HD.out hb hz hal)
     cases t8 with
     | true =>
      go_wp2_with fail
      go_meet
      exact ⟨z, rfl, HI⟩
     | false =>
      go_wp2_with fail
      refine HC.out.mono ?_
      rintro e w1 ⟨rfl, S1⟩
      have H1 : Hid (St W g n (Todo a0 b0 d0 a b) w1) := (St.from HA.out S1).mono fun d' _ e => HR.out.on HB0.out e
      clear S1 HC HI
      go_wp2_with fail
      go_meet
      exact ⟨_, rfl, H1⟩
    case rest =>
     obtain ⟨z', rfl, H1⟩ := hcut
     clear HI
     obtain ⟨d, hd, hR, hA⟩ := H1.out
     have HD := keepH hd
     have HR := keepH hR
     have HA := keepH hA
     clear hd hR hA
     have HC := keepH (pivot_n (c := c) HA.out.row HD.out hb hz hal)
     go_wp2_with fail
     refine HC.out.mono ?_
     rintro e w2 ⟨⟨p, h, rfl, hp1, hp2⟩, S2⟩
     have H2 : Hid (St W g n (Todo a0 b0 d0 a b) w2) := ⟨d, HD.out, HR.out, HA.out.quiet S2⟩
     clear S2 HC H1 HD HR HA
     have HPP : Hid (a ≤ p ∧ p < b) := ⟨hp1, hp2⟩
     clear hp1 hp2
     go_upto_region 11 with fail
     go_cut [50] from 49 to 50 (fun s50 wz => ∃ t : Bool, s50 = .bool t ∧ Hid (St W g n (Todo a0 b0 d0 a b) wz))
     case first =>
      by_cases hh2 : h = 2
      ·have yh : (h == 2) = true := by simp [hh2]
       clear hh2
       go_wp2_with fail
       go_meet
       exact ⟨_, rfl, H2⟩
      ·have yh : (h == 2) = false := by simpa using hh2
       clear hh2
       go_wp2_with fail
       go_meet
       exact ⟨_, rfl, H2⟩
     case rest =>
     obtain ⟨t2, rfl, H3⟩ := hcut
     clear H2
     go_upto_if 50 with fail
     go_cut [11, 12] from 51 to 60 (fun s11 s12 wz => ∃ (p : Nat) (h : Int), s11 = .int .i64 p ∧ s12 = .int .i64 h ∧ a ≤ p ∧ p < b ∧ Hid (St W g n (Todo a0 b0 d0 a b) wz))
     case first =>
      obtain ⟨d, hd, hR, hA⟩ := H3.out
      have HD := keepH hd
      have HR := keepH hR
      have HA := keepH hA
      clear hd hR hA
      have HC := keepH (rev_n (c := c) (a := a) HA.out.row HD.out hb hz (by omega))
      cases t2 with
      | false =>
       go_wp2_with fail
       go_meet
       exact ⟨p, h, rfl, rfl, HPP.out.1, HPP.out.2, H3⟩
      | true =>
       obtain ⟨p1, hp1⟩ : ∃ p1, p1 = b - 1 := ⟨_, rfl⟩
       obtain ⟨p2, hp2⟩ : ∃ p2, p2 = p - a := ⟨_, rfl⟩
       obtain ⟨p3, hp3⟩ : ∃ p3, p3 = p1 - p2 := ⟨_, rfl⟩
       have q1 : IntKind.i64.wrap ((b : Int) - 1) = (p1 : Int) := by rw [IntKind.wrap_i64]; omega
       have q2 : IntKind.i64.wrap ((p : Int) - (a : Int)) = (p2 : Int) := by rw [IntKind.wrap_i64]; have := HPP.out; omega
       have q3 : IntKind.i64.wrap ((p1 : Int) - (p2 : Int)) = (p3 : Int) := by rw [IntKind.wrap_i64]; have := HPP.out; omega
       have HP3 : Hid (a ≤ p3 ∧ p3 < b) := by have := HPP.out; exact ⟨by omega, by omega⟩
       clear hp1 hp2 hp3
       go_wp2_with fail
       refine HC.out.mono ?_
       rintro e w3 ⟨rfl, S3⟩
       have H4 : Hid (St W g n (Todo a0 b0 d0 a b) w3) := (St.from HA.out S3).mono fun d' _ e => HR.out.on HB0.out e
       clear S3 HC H3
       go_wp2_with fail
       go_meet
       exact ⟨p3, _, rfl, rfl, HP3.out.1, HP3.out.2, H4⟩
     case rest =>
     clear HPP
     obtain ⟨p, h, rfl, rfl, hp1, hp2, H4⟩ := hcut
     have HPP : Hid (a ≤ p ∧ p < b) := ⟨hp1, hp2⟩
     clear hp1 hp2 H3
     go_upto_region 15 with fail
     go_cut [68] from 61 to 68 (fun s68 wz => ∃ t : Bool, s68 = .bool t ∧ Hid (St W g n (Todo a0 b0 d0 a b) wz))
     case first =>
      by_cases hh1 : h = 1
      ·have yh : (h == 1) = true := by simp [hh1]
       clear hh1
       cases t8 <;> cases t9 <;> (
        go_wp2_with fail
        go_meet
        exact ⟨_, rfl, H4⟩)
      ·have yh : (h == 1) = false := by simpa using hh1
       clear hh1
       cases t8 <;> cases t9 <;> (
        go_wp2_with fail
        go_meet
        exact ⟨_, rfl, H4⟩)
     case rest =>
     obtain ⟨t5, rfl, H5⟩ := hcut
     clear H4
     go_upto_if 68 with fail
     go_cut [] from 69 to 72 (fun wz => Hid (St W g n (Todo a0 b0 d0 a b) wz))
     case first =>
      obtain ⟨d, hd, hR, hA⟩ := H5.out
      have HD := keepH hd
      have HR := keepH hR
      have HA := keepH hA
      clear hd hR hA
      have HC := keepH (pins_n (c := c) HA.out.row HD.out hb hz (by omega) HR.out.2)
      cases t5 with
      | false =>
       go_wp2_with fail
       go_meet
       exact H5
      | true =>
       go_wp2_with fail
       refine HC.out.mono ?_
       rintro e w3 ⟨t, rfl, S3⟩
       cases t with
       | true =>
        have H6 : Hid (St W g n (fun d => PermIn a0 b0 d0 d ∧ SortedIn ltN a0 b0 d) w3) := (St.from HA.out S3).mono fun d' _ e => HR.out.1.ends HB0.out e.1 (e.2 rfl)
        clear S3 HC H5
        go_wp2_with fail
        exact bodyPost_ret (results_none rfl _ _ _) rfl ⟨rfl, H6.out⟩
       | false =>
        have H6 : Hid (St W g n (Todo a0 b0 d0 a b) w3) := (St.from HA.out S3).mono fun d' _ e => HR.out.on HB0.out e.1
        clear S3 HC H5
        go_wp2_with fail
        go_meet
        exact H6
     case rest =>
     have H6 := hcut
     clear hcut H5
     go_upto_region 17 with fail
     go_cut [87] from 73 to 87 (fun s87 wz => ∃ t : Bool, s87 = .bool t ∧ Hid (St W g n (fun d => Todo a0 b0 d0 a b d ∧ Tst t (0 < a ∧ d[p]! ≤ d[a - 1]!)) wz))
     case first =>
      by_cases ha0 : 0 < a
      ·have t7 : (0 : Int) < (a : Int) := by omega
       obtain ⟨a1, ha1⟩ : ∃ a1, a1 = a - 1 := ⟨_, rfl⟩
       have wa1 : IntKind.i64.wrap ((a : Int) - 1) = (a1 : Int) := by rw [IntKind.wrap_i64]; omega
       have a1n : a1 < n := by omega
       have pn : p < n := by have := HPP.out; omega
       have HA1 : Hid (a - 1 = a1) := by show a - 1 = a1; omega
       obtain ⟨d, hd, hR, hA⟩ := H6.out
       have HD := keepH hd
       have HR := keepH hR
       have HA := keepH hA
       clear hd hR hA
       obtain ⟨x, y, hx, hy, hT⟩ := HA.out.any (i := a1) (j := p) (by rw [HD.out]; omega) (by rw [HD.out]; omega)
       have cx := (hT wc (Chg.refl _ _)).out.1
       have cy := (hT wc (Chg.refl _ _)).out.2.1
       clear hT ha1
       cases hlt : decide (x < y) with
       | true =>
        have HLS := keepH (less_is hlt)
        clear hlt hx hy
        go_quiet (first | (go_at_call 110; refine (HLS.out _).mono ?_; rintro q r ⟨rfl, rfl⟩; exact ⟨rfl, _, rfl⟩))
        obtain ⟨w9, hw9⟩ : ∃ z : World, z = wc.drewN nq := ⟨_, rfl⟩
        have H9 : Hid (St W g n (fun d => Todo a0 b0 d0 a b d ∧ Tst false (0 < a ∧ d[p]! ≤ d[a - 1]!)) w9) := by rw [hw9]; exact ⟨d, HD.out, ⟨HR.out, fun e => by simp at e⟩, HA.out.quiet (drewN_chg wc nq)⟩
        rw [← hw9]
        clear hw9 cx cy HLS
        go_wp2_with fail
        go_meet
        exact ⟨_, rfl, H9⟩
       | false =>
        have HLS := keepH (less_is hlt)
        have HLT : Hid (d[p]! ≤ d[a - 1]!) := by rw [HA1.out, ← hx, ← hy]; exact ltN_false.1 hlt
        clear hlt hx hy
        go_quiet (first | (go_at_call 110; refine (HLS.out _).mono ?_; rintro q r ⟨rfl, rfl⟩; exact ⟨rfl, _, rfl⟩))
        obtain ⟨w9, hw9⟩ : ∃ z : World, z = wc.drewN nq := ⟨_, rfl⟩
        have H9 : Hid (St W g n (fun d => Todo a0 b0 d0 a b d ∧ Tst true (0 < a ∧ d[p]! ≤ d[a - 1]!)) w9) := by rw [hw9]; exact ⟨d, HD.out, ⟨HR.out, fun _ => ⟨ha0, HLT.out⟩⟩, HA.out.quiet (drewN_chg wc nq)⟩
        rw [← hw9]
        clear hw9 cx cy HLS
        go_wp2_with fail
        go_meet
        exact ⟨_, rfl, H9⟩
      ·have t7 : ¬ (0 : Int) < (a : Int) := by omega
       go_quiet (fail)
       obtain ⟨w9, hw9⟩ : ∃ z : World, z = wc.drewN nq := ⟨_, rfl⟩
       have H9 : Hid (St W g n (fun d => Todo a0 b0 d0 a b d ∧ Tst false (0 < a ∧ d[p]! ≤ d[a - 1]!)) w9) := by rw [hw9]; exact (H6.out.quiet (drewN_chg wc nq)).mono fun d _ e => ⟨e, fun e => by simp at e⟩
       rw [← hw9]
       clear hw9
       go_wp2_with fail
       go_meet
       exact ⟨_, rfl, H9⟩
     case rest =>
     obtain ⟨t7, rfl, H7⟩ := hcut
     clear H6
     cases t7 with
     | true =>
      obtain ⟨d, hd, hR, hA⟩ := H7.out
      have HD := keepH hd
      have HR := keepH hR
      have HA := keepH hA
      clear hd hR hA
      have HC := keepH (peq_n (c := c) (a := a) HA.out.row HD.out hb hz (by omega) HPP.out.2 HPP.out.1)
      go_wp2_with fail
      refine HC.out.mono ?_
      rintro e w8 ⟨md, rfl, ⟨hd1, hd2⟩, S8⟩
      have H8 : Hid (St W g n (Todo a0 b0 d0 md b) w8) := (St.from HA.out S8).mono fun d' _ e => HR.out.1.1.peq HB0.out HR.out.1.2 (HR.out.2 rfl).1 (HR.out.2 rfl).2 e
      clear S8 HC H7
      go_wp2_with fail
      go_roundw
      case rel => exact ⟨md, b, z', t8, t9, by omega, by omega, by omega, by first | rfl | go_num, by first | rfl | go_num, rfl, rfl, rfl, H8⟩
      case measure => simp [intOf]; omega
     | false =>
      obtain ⟨d, hd, hR, hA⟩ := H7.out
      have HD := keepH hd
      have HR := keepH hR
      have HA := keepH hA
      clear hd hR hA
      have HC := keepH (part_n (c := c) (a := a) HA.out.row HD.out hb hz (by omega) HPP.out.2 HPP.out.1)
      go_wp2_with fail
      refine HC.out.mono ?_
      rintro e w8 ⟨md, t, rfl, ⟨hd1, hd2⟩, S8⟩
      obtain ⟨d2, hD2, hP2, hA2⟩ := St.from HA.out S8
      have HD2 := keepH hD2
      have HPT := keepH hP2
      have HA2 := keepH hA2
      replace HR : Hid (Todo a0 b0 d0 a b d) := HR.out.1
      clear S8 HC H7 HA HD hD2 hP2 hA2
      obtain ⟨ll, hll⟩ : ∃ ll, ll = md - a := ⟨_, rfl⟩
      obtain ⟨rl, hrl⟩ : ∃ rl, rl = b - md := ⟨_, rfl⟩
      obtain ⟨l8, hl8⟩ : ∃ l8, l8 = l / 8 := ⟨_, rfl⟩
      have v1 : IntKind.i64.wrap ((md : Int) - (a : Int)) = (ll : Int) := by rw [IntKind.wrap_i64]; omega
      have v2 : IntKind.i64.wrap ((b : Int) - (md : Int)) = (rl : Int) := by rw [IntKind.wrap_i64]; omega
      have v3 : ((l : Int).tdiv 8) = (l8 : Int) := by rw [Int.tdiv_eq_ediv_of_nonneg (by omega)]; omega
      have v4 : IntKind.i64.wrap (l8 : Int) = (l8 : Int) := by rw [IntKind.wrap_i64]; have := HLL.out; omega
      have v5 : IntKind.i64.wrap ((md : Int) + 1) = ((md + 1 : Nat) : Int) := by rw [IntKind.wrap_i64]; omega
      clear hll hrl hl8
      by_cases hlr : ll < rl
      ·have t9' : (ll : Int) < (rl : Int) := by omega
       have HC := keepH (IH.out (md - a) (by omega) (a := a) (b := md) (z := z') (Nat.le_refl _) HA2.out.row HD2.out (by omega) (by omega) hz (HPT.out.left (by have := HR.out.1.perm.1; have := HR.out.1.b1; have := HB0.out; omega) HR.out.2))
       go_wp2_with fail
       refine HC.out.mono ?_
       rintro e w10 ⟨rfl, S10⟩
       have H10 : Hid (St W g n (Todo a0 b0 d0 (md + 1) b) w10) := (St.from HA2.out S10).mono fun d' _ e => HR.out.1.partL HB0.out HPT.out e.1 e.2
       clear S10 HC
       go_wp2_with fail
       go_roundw
       case rel => exact ⟨md + 1, b, z', _, t, by omega, by omega, by omega, by first | rfl | go_num, by first | rfl | go_num, rfl, rfl, rfl, H10⟩
       case measure => simp [intOf]; omega
      ·have t9' : ¬ (ll : Int) < (rl : Int) := by omega
       obtain ⟨md1, hmd1⟩ : ∃ md1, md1 = md + 1 := ⟨_, rfl⟩
       have HMD : Hid (md1 = md + 1) := hmd1
       have v6 : IntKind.i64.wrap ((md : Int) + 1) = (md1 : Int) := by rw [v5]; omega
       have hmd : md < md1 := by omega
       have hmd2 : md1 ≤ b := by omega
       clear hmd1 v5
       have HC := keepH (IH.out (b - md1) (by omega) (a := md1) (b := b) (z := z') (Nat.le_refl _) HA2.out.row HD2.out (by omega) (by omega) hz (by rw [HMD.out]; exact HPT.out.right))
       go_wp2_with fail
       refine HC.out.mono ?_
       rintro e w10 ⟨rfl, S10⟩
       have H10 : Hid (St W g n (Todo a0 b0 d0 a md) w10) := (St.from HA2.out S10).mono fun d' _ e => HR.out.1.partR HB0.out HR.out.2 HPT.out (by have q := e.1; rw [HMD.out] at q; exact q) (by have q := e.2; rw [HMD.out] at q; exact q)
       clear S10 HC
       go_wp2_with fail
       go_roundw
       case rel => exact ⟨a, md, z', _, t, by omega, by omega, by omega, by first | rfl | go_num, by first | rfl | go_num, rfl, rfl, rfl, H10⟩
       case measure => simp [intOf]; omega
set_option maxRecDepth 100000 in
theorem sort_o {W : World} {g c : Nat} {zs : List Nat} (hr : RowU W g zs) (hz : zs.length ≤ 60000) :
    Calls Tryz.prog 91 #[.slice (some ⟨g, 0, none⟩) zs.length c] W fun e W' => e = .returned (.tuple #[]) ∧ ∃ zt : List Nat, zt.Perm zs ∧ zt.Pairwise (· ≤ ·) ∧ RowU W' g zt ∧ Chg (fun k => k = g) W W' ∧ SzK W W' g := by
 have HP : Hid (∀ z : Int, Calls Tryz.prog 100 #[.slice (some ⟨g, 0, none⟩) zs.length c, .int .i64 0, .int .i64 zs.length, .int .i64 z] W fun e W' => e = .returned (.tuple #[]) ∧ ∃ zt : List Nat, zt.Perm zs ∧ zt.Pairwise (· ≤ ·) ∧ RowU W' g zt ∧ Chg (fun k => k = g) W W' ∧ SzK W W' g) := fun z => by
  refine (pdq_o (n := zs.length) (a := 0) (b := zs.length) (d0 := zs.toArray) zs.length (by omega) hr (by simp) (Nat.le_refl _) (by omega) hz (.inl rfl)).mono ?_
  rintro e w ⟨rfl, d, h1, ⟨h2, h3⟩, h4⟩
  refine ⟨rfl, d.toList, ?_, ?_, h4.row, h4.chg, h4.sz⟩
  ·have q := h2.2.2
   rw [show zs.length = d.size from h1.symm, Array.extract_size, show d.size = zs.toArray.size by simp [h1], Array.extract_size] at q
   exact q
  ·rw [List.pairwise_iff_getElem]
   intro i j hi hj hij
   have q := ltf.1 (h3 i j (Nat.zero_le _) hij (by simp at hj; omega))
   simp at hi hj
   rw [getElem!_pos d i hi, getElem!_pos d j hj] at q
   simpa using q
 clear hr
 obtain ⟨n, hn⟩ : ∃ n, n = zs.length := ⟨_, rfl⟩
 rw [← hn] at hz HP ⊢
 clear hn
 have w1 := wu64 n (by omega)
 go_enter Tryz.func91, Tryz.ntmps91
 go_wp2_with fail
 refine (len_s (by omega) _).mono ?_
 rintro e W' ⟨⟨k, rfl, hk⟩, rfl⟩
 clear hk
 go_wp2_with fail
 refine (HP.out k).mono ?_
 rintro e W' ⟨rfl, S⟩
 have HS := keepH S
 clear S HP
 go_wp2_with fail
 go_end0
 exact ⟨rfl, HS.out⟩
end Go.Proofs.YtahgaghokpicgaaGreat
namespace Go.Proofs.YtahgaghokpicgaaGreat
open Go.RowKit Go.Maps Go.Shelf
set_option linter.unusedVariables false
set_option maxHeartbeats 16000000
section
attribute [local go_sem] Oper.semAt_some
theorem infoU64x : (Tryz.prog.info? 30).map (fun i => (i.zero, i.size, i.bytes)) = some (some (.int .u64 0), 1, 8) := by kernel_rfl
set_option maxRecDepth 100000 in
theorem appendSeq_in (n : Nat) (hn : 3 ≤ n) (Bm b nn : Nat) (D : DataW (Option Nat)) (h : Nat → Option Nat) (r : RdM elH (fun _ => True) D h) (w : World) (hBm : Bm < w.heap.size)
    (hc : w.cell? ⟨Bm, 0, none⟩ = some (.map (some b))) (hown : w.ownsMap Tryz.prog 30 heldM b nn D) (hN : Maps.size D ≤ 60000) :
    CallsIn Fence.wide n Tryz.prog 99 #[.slice none 0 0, .func (.func 92) #[] #[.pointer (some ⟨Bm, 0, none⟩)]] w fun e W' => (∃ v ss, e = .returned v ∧ AllU h ss ∧ ss.length ≤ 60000 ∧ W'.ownsRow w.heap.size 30 1 v ss.length (ss.map encU)) ∧ Below w.heap.size w W' := by
 have h1 : 1 ≤ n := by omega
 obtain ⟨i0, hi, hz0, hz1, hz2⟩ := info_parts infoU64x
 refine callsIn_of_wp_marks Tryz.func99 rfl trivial ?_ rfl
 simp only [Tryz.ntmps99, List.size_toArray, List.length_cons, List.length_nil, Nat.reduceAdd, Nat.reduceSub, Array.replicate_succ, Array.replicate_zero, List.push_toArray, List.append_toArray, List.nil_append, List.cons_append]
 gi_wp2
 have bO := Boxed.new w 33 (.slice none 0 0)
 have hR0 : (w.alloc (.cells #[.slice none 0 0] 33)).ownsRow w.heap.size 30 1 (.slice none 0 0) 0 [] := ⟨rfl, .inl ⟨rfl, rfl⟩⟩
 have hB0 : Below w.heap.size w (w.alloc (.cells #[.slice none 0 0] 33)) := (Below.refl _ w).alloc (Nat.le_refl _) _
 have hown1 := own_below hown hB0
 have hc1 : (w.alloc (.cells #[.slice none 0 0] 33)).cell? ⟨Bm, 0, none⟩ = some (.map (some b)) := (hB0.cell (p := ⟨Bm, 0, none⟩) hBm).trans hc
 refine wpIn_rangeFunc_ownG rfl h1 (gf := 92) (lb := #[.pointer (some ⟨Bm, 0, none⟩)]) rfl trivial (enters_of Tryz.func92 (by kernel_rfl) rfl)
  (keys_stops (n - 1) (by omega) Bm b nn D h r _ (by simp; omega) hc1 hown1) walksK_t walksK_b (Below.refl _ _) (fun _ => rfl)
  (fun pre W => (∃ v, Boxed W w.heap.size 33 v ∧ W.ownsRow w.heap.size 30 1 v pre.length (pre.map encU) ∧ pre.length ≤ 60000) ∧ Below w.heap.size w W)
  (fun _ _ _ => False)
  (OwnFrom.and (Own.from (holdsRow_own w.heap.size w.heap.size 33 30 1 (fun pre : List Nat => pre.length) (fun pre => pre.map encU) (fun pre _ => pre.length ≤ 60000)) _) (ownFrom_below (Nat.le_refl _) (by simp)))
  (fun _ _ _ _ _ hs _ _ => hs)
  ⟨⟨_, bO, hR0, by simp⟩, hB0⟩
  (fun x => { tmps := #[.slice none 0 0, .func (.func 92) #[] #[.pointer (some ⟨Bm, 0, none⟩)], .pointer (some ⟨w.heap.size, 0, none⟩), undef, .slice none 0 0, encU x, .func (.func 92) #[] #[.pointer (some ⟨Bm, 0, none⟩)], encU x, undef, undef, undef, undef, undef], defers := [] }) ?assign ?body ?done ?stop
 case assign =>
  intro l x W K hK
  unfold encU at hK ⊢
  gi_wp2
  exact hK
 case body =>
  rintro l pre x W ⟨⟨v, hv, hrow, _⟩, hB⟩ hlt
  have hc := hv.cell
  have hpl : pre.length < 60000 := by omega
  unfold encU
  gi_wp2_with (gi_at_builtin; refine wpListIn_append_own _ rfl _ _ 33 rfl w.heap.size 30 i0 (.int .u64 0) 1 8 Tryz.underlying33 hi hz0 hz1 hz2 rfl (by decide) _ _ _ rfl (hrow.alloc _) ⟨W.heap.size, 0, none⟩ 1 1 [.int .u64 x] rfl rfl (cell_one_new _ _ _) (by simp [Value.oneCell']) (by unfold maxLen; omega) (by omega) (by have := hB.size; simp; omega) ?_; intro v' w1 hown' hgrow _; obtain ⟨g', cap', rfl⟩ := ownsRow_succ hown'; obtain ⟨hv1, hv2, hr2, hk2, hb2⟩ := hv.appended (by decide) hrow hB.size (by omega) hown' hgrow; have hc1 := hv1.cell; have hf1 := hv1.frozen)
  exact ⟨hk2.from _, hk2.walks, ⟨_, hv2, by rw [List.map_append, List.length_append]; exact hr2, by simp; omega⟩, hB.trans hb2⟩
 case done =>
  rintro D ys W hD hA ⟨⟨v, hv, hrow, hl⟩, hB⟩ hK
  have hc := hv.cell
  gi_wp2
  refine ⟨by simp, .inl ⟨_, _, rfl, run_takeDeferred hK, ?_⟩⟩
  exact ⟨_, results_tmp rfl _ _ _, ⟨v, ys, rfl, hA, hl, ownsRow_putObj hrow (.deferred none) hK rfl⟩, hB.trans (belowK_b (w := w) (Nat.le_refl _) W D _ _ (by simp at hD; omega) hK rfl rfl)⟩
 case stop =>
  rintro D c pre W _ _ h _
  exact h.elim
theorem collect_in (n : Nat) (hn : 4 ≤ n) (Bm b nn : Nat) (D : DataW (Option Nat)) (h : Nat → Option Nat) (r : RdM elH (fun _ => True) D h) (w : World) (hBm : Bm < w.heap.size)
    (hc : w.cell? ⟨Bm, 0, none⟩ = some (.map (some b))) (hown : w.ownsMap Tryz.prog 30 heldM b nn D) (hN : Maps.size D ≤ 60000) :
    CallsIn Fence.wide n Tryz.prog 90 #[.func (.func 92) #[] #[.pointer (some ⟨Bm, 0, none⟩)]] w fun e W' => (∃ v ss, e = .returned v ∧ AllU h ss ∧ ss.length ≤ 60000 ∧ W'.ownsRow w.heap.size 30 1 v ss.length (ss.map encU)) ∧ Below w.heap.size w W' := by
 have h1 : 1 ≤ n := by omega
 refine callsIn_of_wp Tryz.func90 rfl trivial ?_ rfl
 simp only [Tryz.ntmps90, List.size_toArray, List.length_cons, List.length_nil, Nat.reduceAdd, Nat.reduceSub, Array.replicate_succ, Array.replicate_zero, List.push_toArray, List.append_toArray, List.nil_append, List.cons_append]
 gi_wp2_with (refine ⟨trivial, ?_⟩; gi_at_call 99; refine (appendSeq_in (n - 1) (by omega) Bm b nn D h r w hBm hc hown hN).mono ?_; rintro e w' ⟨⟨v, ss, rfl, hS, hl, hrow⟩, hb⟩)
 go_ret
 exact ⟨⟨v, ss, rfl, hS, hl, hrow⟩, hb⟩
end
set_option maxRecDepth 100000 in
theorem ins_le1 (v : Value) (n : Nat) (hn : n ≤ 1) (W : World) : Calls Tryz.prog 104 #[v, .int .i64 0, .int .i64 n] W fun e W' => e = .returned (.tuple #[]) ∧ W' = W := by
 have t1 : ¬ (1 : Int) < (n : Int) := by omega
 go_enter Tryz.func104, Tryz.ntmps104
 go_wp2_with fail
 go_loopw [6] (fun s6 wr => s6 = .int .i64 1 ∧ wr = W) (fun _ _ => 0)
 case atStart => exact ⟨rfl, rfl⟩
 case round =>
  obtain ⟨rfl, rfl⟩ := hrel
  go_wp2_with fail
  go_end0
  exact ⟨rfl, rfl⟩
set_option maxRecDepth 100000 in
theorem pdq_le1 (v : Value) (n : Nat) (hn : n ≤ 1) (k : Int) (W : World) : Calls Tryz.prog 100 #[v, .int .i64 0, .int .i64 n, .int .i64 k] W fun e W' => e = .returned (.tuple #[]) ∧ W' = W := by
 have t1 : (n : Int) ≤ 12 := by omega
 go_enter Tryz.func100, Tryz.ntmps100
 go_wp2_with fail
 go_loopw [1, 2] (fun s1 s2 wr => s1 = .int .i64 0 ∧ s2 = .int .i64 n ∧ wr = W) (fun _ _ _ => 0)
 case atStart => exact ⟨rfl, rfl, rfl⟩
 case round =>
  obtain ⟨rfl, rfl, rfl⟩ := hrel
  go_wp2_with fail
  refine (ins_le1 v n hn _).mono ?_
  rintro e W' ⟨rfl, rfl⟩
  go_wp2_with fail
  exact bodyPost_ret (results_none rfl _ _ _) rfl ⟨rfl, rfl⟩
set_option maxRecDepth 100000 in
theorem sort_0 (W : World) : Calls Tryz.prog 91 #[.slice none 0 0] W fun e W' => e = .returned (.tuple #[]) ∧ W' = W := by
 have HP := keepH (fun k => pdq_le1 (.slice none 0 0) 0 (by omega) k W)
 have HL := keepH (len_s (n := 0) (by omega) W)
 go_enter Tryz.func91, Tryz.ntmps91
 go_wp2_with fail
 refine HL.out.mono ?_
 rintro e W' ⟨⟨k, rfl, hk⟩, rfl⟩
 clear hk
 go_wp2_with fail
 refine (HP.out k).mono ?_
 rintro e W' ⟨rfl, rfl⟩
 go_wp2_with fail
 go_end0
 exact ⟨rfl, rfl⟩
def ListU (W : World) (base : Nat) (v : Value) (ss : List Nat) : Prop := (ss = [] ∧ v = .slice none 0 0) ∨ ∃ g c, v = .slice (some ⟨g, 0, none⟩) ss.length c ∧ base ≤ g ∧ RowU W g ss
theorem listU_of {W : World} {base : Nat} {v : Value} {ss : List Nat} (h : W.ownsRow base 30 1 v ss.length (ss.map encU)) : ListU W base v ss := by
 rcases h.2 with ⟨rfl, h0⟩ | ⟨g, cap, cur, rfl, hb, hgb, h1, h2, h3, h4⟩
 ·exact .inl ⟨List.eq_nil_of_length_eq_zero h0, rfl⟩
 ·refine .inr ⟨g, cap, rfl, hb, cur.toList.drop ss.length, ?_⟩
  have e : ss.map u64V = cur.toList.take ss.length := by rw [Nat.mul_one] at h4; rw [h4]; rfl
  unfold Blk
  rw [e, List.take_append_drop]
  exact hgb
theorem below_chg {w W : World} (h : Below w.heap.size w W) : Chg (fun _ => False) w W := ⟨h.os, h.tape, h.output, h.size, fun k hk _ => h.block k hk⟩
theorem owned_sorted {w1 w2 : World} {base g c : Nat} {ss zs : List Nat} (h : w1.ownsRow base 30 1 (.slice (some ⟨g, 0, none⟩) ss.length c) ss.length (ss.map encU)) (hr : RowU w2 g zs) (hs : SzK w1 w2 g) (hl : zs.length = ss.length) : w2.ownsRow base 30 1 (.slice (some ⟨g, 0, none⟩) zs.length c) zs.length (zs.map encU) := by
 obtain ⟨rest, B⟩ := hr
 rcases h.2 with ⟨e, _⟩ | ⟨g', cap, cur, e, hb, hg, h1, h2, h3, h4⟩
 ·cases e
 ·injection e with e1 e2 e3
  injection e1 with e1
  injection e1 with e1
  subst e1 e3
  obtain ⟨cs', k1, k2⟩ := hs _ _ _ hg
  have e : cs' = (zs.map u64V ++ rest).toArray := by
   have B2 : w2.heap[g]? = some (.cells (zs.map u64V ++ rest).toArray 30 (0, 0)) := B
   rw [k1] at B2
   injection B2 with B2
   injection B2
  refine ⟨by simp, .inr ⟨g, c, cs', rfl, hb, k1, by omega, h2, k2.trans h3, ?_⟩⟩
  rw [e, Nat.mul_one]
  show (zs.map u64V ++ rest).take zs.length = zs.map encU
  rw [List.take_append_of_le_length (by simp), List.take_of_length_le (by simp)]
  rfl
def AllO (h : Nat → Option Nat) (ss : List Nat) : Prop := ss.Pairwise (· < ·) ∧ ∀ x : Nat, x ∈ ss ↔ (h x).isSome = true
theorem allO_of {h : Nat → Option Nat} {ss zs : List Nat} (hA : AllU h ss) (hp : zs.Perm ss) (ho : zs.Pairwise (· ≤ ·)) : AllO h zs :=
 ⟨List.Pairwise.imp₂ (fun x y (h1 : x ≤ y) (h2 : x ≠ y) => by omega) ho (hp.nodup_iff.2 hA.1), fun x => by rw [hp.mem_iff]; exact hA.2 x⟩
theorem allO_nil {h : Nat → Option Nat} (hA : AllU h []) : AllO h [] := ⟨.nil, hA.2⟩
set_option maxRecDepth 100000 in
theorem sorted_any2 (Bm b nn : Nat) (D : DataW (Option Nat)) (h : Nat → Option Nat) (r : RdM elH (fun _ => True) D h) (w : World) (hBm : Bm < w.heap.size)
    (hc : w.cell? ⟨Bm, 0, none⟩ = some (.map (some b))) (hown : w.ownsMap Tryz.prog 30 heldM b nn D) (hN : Maps.size D ≤ 60000) :
    Calls Tryz.prog 54 #[.func (.func 92) #[] #[.pointer (some ⟨Bm, 0, none⟩)]] w fun e W' => (∃ v ss, e = .returned v ∧ AllO h ss ∧ ss.length ≤ 60000 ∧ W'.ownsRow w.heap.size 30 1 v ss.length (ss.map encU)) ∧ Chg (fun _ => False) w W' := by
 have HC := keepH (callsIn_wide.1 (collect_in 4 (Nat.le_refl _) Bm b nn D h r w hBm hc hown hN))
 clear hc hown r
 go_enter Tryz.func54, Tryz.ntmps54
 go_wp2_with fail
 refine HC.out.mono ?_
 rintro e w1 ⟨⟨v, ss, rfl, hA, hl, hrow⟩, hb⟩
 have HA := keepH hA
 have HB := keepH (below_chg hb)
 have hlu := listU_of hrow
 have HRO := keepH hrow
 clear hA hb hrow
 rcases hlu with ⟨rfl, rfl⟩ | ⟨g, c, rfl, hg, hr⟩
 ·go_wp2_with fail
  refine (sort_0 _).mono ?_
  rintro e w2 ⟨rfl, rfl⟩
  go_wp2_with fail
  go_ret
  exact ⟨⟨_, [], rfl, allO_nil HA.out, by simp, HRO.out⟩, HB.out⟩
 ·have HS := keepH (sort_o (c := c) hr hl)
  have HG := keepH hg
  clear hr hg
  obtain ⟨k, hk⟩ : ∃ k, k = ss.length := ⟨_, rfl⟩
  have HK := keepH hk
  rw [← hk] at HS ⊢
  clear hk
  go_wp2_with fail
  refine HS.out.mono ?_
  rintro e w2 ⟨rfl, zs, hp, ho, hr2, hc2, hsz⟩
  have HO := keepH (allO_of HA.out hp ho)
  have HP := keepH hp
  have HR := keepH hr2
  have HC2 := keepH hc2
  have HSZ := keepH hsz
  clear hp ho hr2 hc2 hsz
  go_wp2_with fail
  go_ret
  refine ⟨⟨_, zs, rfl, HO.out, by rw [HP.out.length_eq]; exact hl, by rw [show k = zs.length from HK.out.trans HP.out.length_eq.symm]; exact owned_sorted HRO.out HR.out HSZ.out HP.out.length_eq⟩, HB.out.trans HC2.out (fun _ _ x => x) (fun i hi e => by have := HG.out; omega)⟩
set_option maxRecDepth 100000 in
theorem m_handles2 {W : World} {m nw hd mu : Nat} {f h : Nat → Option Nat} {g : Nat → Nat → Option Nat} {n : Nat} (H : MoAt W m nw hd mu f h g n) (hn : n ≤ 60000) :
    Calls Tryz.prog 20 #[.pointer (some ⟨m, 0, none⟩)] W fun e W' => (∃ v ss, e = .returned v ∧ AllO h ss ∧ ss.length ≤ 60000 ∧ W'.ownsRow W.heap.size 30 1 v ss.length (ss.map encU)) ∧ Chg (fun _ => False) W W' := by
 have c2 : W.cell? ⟨m, 2, none⟩ = some (.map (some hd)) := cell_of H.md 2
 obtain ⟨D, hown, r⟩ := H.held
 have hsz := hown.size_le
 have hq : Below W.heap.size W (W.alloc (.cells #[.map (some hd)] 98)) := (Below.refl _ W).alloc (Nat.le_refl _) _
 have HS := keepH (sorted_any2 W.heap.size hd n D h r (W.alloc (.cells #[.map (some hd)] 98)) (by simp) (Boxed.new W 98 (.map (some hd))).cell (own_below hown hq) (by omega))
 clear H hown r hq
 go_enter Tryz.func20, Tryz.ntmps20
 go_wp2_with fail
 refine (callsIn_wide.1 (keys_in 4 hd W)).mono ?_
 rintro e w1 ⟨rfl, rfl⟩
 go_wp2_with fail
 refine HS.out.mono ?_
 rintro e w2 ⟨⟨v, ss, rfl, hA, hl, hu⟩, hb⟩
 have HZ : Hid (AllO h ss ∧ ss.length ≤ 60000 ∧ w2.ownsRow W.heap.size 30 1 v ss.length (ss.map encU)) := by
  refine ⟨hA, hl, hu.1, ?_⟩
  rcases hu.2 with h | ⟨g, cap, cur, e, hg, hr⟩
  ·exact .inl h
  ·exact .inr ⟨g, cap, cur, e, by simp at hg; omega, hr⟩
 have HB := keepH hb
 clear hA hl hu hb
 go_wp2_with fail
 go_ret
 exact ⟨⟨v, ss, rfl, HZ.out⟩, ((Chg.refl (fun _ => False) W).alloc _).trans HB.out (fun _ _ x => x) (fun _ _ x => x)⟩
theorem m_handles {W : World} {m nw hd mu : Nat} {f h : Nat → Option Nat} {g : Nat → Nat → Option Nat} {n : Nat} (H : MoAt W m nw hd mu f h g n) (hn : n ≤ 60000) :
    Calls Tryz.prog 20 #[.pointer (some ⟨m, 0, none⟩)] W fun e W' => (∃ v ss, e = .returned v ∧ AllO h ss ∧ ss.length ≤ 60000 ∧ ListU W' W.heap.size v ss) ∧ Chg (fun _ => False) W W' :=
 (m_handles2 H hn).mono (fun e W' hh => by
  obtain ⟨⟨v, ss, h1, h2, h3, h4⟩, hc⟩ := hh
  exact ⟨⟨v, ss, h1, h2, h3, listU_of h4⟩, hc⟩)
end Go.Proofs.YtahgaghokpicgaaGreat
namespace Go.Proofs.YtahgaghokpicgaaGreat
open Go.RowKit Go.Maps
set_option linter.unusedVariables false
set_option maxHeartbeats 16000000
theorem infoU64q : (Tryz.prog.info? 30).map (fun i => (i.zero, i.size, i.bytes)) = some (some (.int .u64 0), 1, 8) := by kernel_rfl
structure StU (Z : World) (l : List Nat) (v : Value) (wr : World) : Prop where
 row : wr.ownsRow Z.heap.size 30 1 v l.length (l.map encU)
 chg : Chg (fun _ => False) Z wr
theorem StU.more {Z : World} {l : List Nat} {v v' : Value} {w1 w2 : World} {x : Nat} {o : Obj} (h : StU Z l v w1) (hr : w2.ownsRow Z.heap.size 30 1 v' (l.length + 1) (l.map encU ++ [.int .u64 x])) (hg : (w1.alloc o).grownBy w2 v.ownBlock) : StU Z (l ++ [x]) v' w2 := by
 refine ⟨?_, (h.chg.alloc _).grown hg (fun k e hk => by have := (h.row.lt k e).1; omega)⟩
 rw [List.length_append, List.map_append]
 exact hr
def HandlesOf (pc : Nat → Option (Nat → Option Nat)) (ss : List Nat) : Prop := ss.Pairwise (· < ·) ∧ ∀ x : Nat, x ∈ ss ↔ (pc x).isSome = true
theorem AllO.of {h : Nat → Option Nat} {g : Nat → Nat → Option Nat} {ss : List Nat} (a : AllO h ss) : HandlesOf (pcs h g) ss := ⟨a.1, fun x => by rw [a.2 x]; unfold pcs; cases h x <;> simp⟩
theorem HandlesOf.uniq {pc : Nat → Option (Nat → Option Nat)} {ss zs : List Nat} (a : HandlesOf pc ss) (b : HandlesOf pc zs) : ss = zs :=
 List.Perm.eq_of_pairwise (fun x y _ _ h1 h2 => by omega) a.1 b.1 ((List.perm_ext_iff_of_nodup (a.1.imp (fun h => by omega)) (b.1.imp (fun h => by omega))).2 (fun x => (a.2 x).trans (b.2 x).symm))
theorem ListU.keys {W : World} {base : Nat} {v : Value} {ss : List Nat} (h : ListU W base v ss) (hs : ∀ k ∈ ss, k < 18446744073709551616) : ∃ p c, v = .slice p ss.length c ∧ KeysAt W p ss ∧ (ss = [] ∨ ∃ g, p = some ⟨g, 0, none⟩ ∧ base ≤ g) := by
 rcases h with ⟨rfl, rfl⟩ | ⟨g, c, rfl, hg, hr⟩
 ·exact ⟨none, 0, rfl, .inl rfl, .inl rfl⟩
 ·refine ⟨_, c, rfl, ?_, .inr ⟨g, rfl, hg⟩⟩
  by_cases e : ss = []
  ·exact .inl e
  ·refine .inr ⟨g, 0, rfl, ?_, fun i k hk => ⟨hs k (List.mem_of_getElem? hk), by rw [Nat.zero_add]; exact hr.cell i k hk⟩⟩
   obtain ⟨rest, hb⟩ := hr
   exact lt_of hb
set_option maxRecDepth 100000 in
theorem hand_list {W : World} {m : Nat} {mu : Int} {mv hv : Value} {hs : List (Nat × Value)} (H : RMod W m mu mv hv hs) (hl : hs.length ≤ 4000000) :
    Calls Tryz.prog 21 #[.pointer (some ⟨m, 0, none⟩)] W fun e W' => ∃ v, e = .returned v ∧ StU W (hs.map (·.1)) v W' := by
 obtain ⟨i0, hi, hz0, hz1, hz2⟩ := info_parts infoU64q
 obtain ⟨hp, hcap, rfl, hAt, -, -, -⟩ := H.row.slice
 have HM := keepH H
 have HAT := keepH hAt
 obtain ⟨n, hn⟩ : ∃ n, n = hs.length := ⟨_, rfl⟩
 have HN := keepH hn
 have hn2 : n ≤ 4000000 := by omega
 have HC : ∀ w, Chg (fun _ => False) W w → w.cell? ⟨m, 2, none⟩ = some (.slice hp n hcap) := fun w c => by rw [(HM.out.quiet c).c2, HN.out]
 have HCC := keepH HC
 clear H hAt hl hn HC
 go_enter Tryz.func21, Tryz.ntmps21
 go_wp2_with fail
 go_loopw [3, 4] (fun s3 s4 wr => ∃ i : Nat, i ≤ n ∧ s4 = .int .i64 i ∧ Hid (StU W ((hs.map (·.1)).take i) s3 wr)) (fun _ s4 _ => n - (intOf s4).toNat)
 case atStart => exact ⟨0, by omega, rfl, keepH ⟨⟨rfl, .inl ⟨rfl, rfl⟩⟩, Chg.refl _ _⟩⟩
 case round =>
  obtain ⟨i, hi2, rfl, HK⟩ := hrel
  have d2 := HCC.out wr HK.out.chg
  by_cases hlt : i < n
  ·have t1 : (i : Int) < (n : Int) := by omega
   have t0 : (0 : Int) ≤ (i : Int) := by omega
   obtain ⟨⟨k, x⟩, hx⟩ : ∃ y, hs[i]? = some y := ⟨hs[i]'(by have := HN.out; omega), List.getElem?_eq_getElem _⟩
   obtain ⟨bk, off, rfl, hbk, c0⟩ : ∃ bk off, hp = some ⟨bk, off, none⟩ ∧ bk < W.heap.size ∧ wr.cell? ⟨bk, off + i * 2, none⟩ = some (.int .u64 k) := by
    rcases HAT.out with e | ⟨bk, off, e1, e2, e3⟩
    ·rw [e] at hx; simp at hx
    ·exact ⟨bk, off, e1, e2, cell_chg HK.out.chg (e3 i k x hx).2.1 (fun x => x)⟩
   have HX := keepH hx
   have hln : ((hs.map (·.1)).take i).length = i := by rw [List.length_take, List.length_map, ← HN.out]; omega
   have HRW : Hid (wr.ownsRow W.heap.size 30 1 u3 i (((hs.map (·.1)).take i).map encU)) := keepH (by have q := HK.out.row; rw [hln] at q; exact q)
   have HLN := keepH hln
   clear hx hbk hln
   go_wp2_with (first | (at_builtin; go_loud (refine wpList_append_own_at _ rfl (.tmp 18) (.tmp 27) 33 rfl W.heap.size 30 i0 (.int .u64 0) 1 8 Tryz.underlying33 hi hz0 hz1 hz2 rfl (by decide) u3 i (((hs.map (·.1)).take i).map encU) rfl (HRW.out.alloc _) ⟨wr.heap.size, 0, none⟩ 1 1 [.int .u64 k] rfl rfl (cells_new _ _ rfl _ _) (by intro u hu; simp at hu; subst hu; rfl) (by unfold maxLen; omega) (by omega) (by have := HK.out.chg.size; simp; omega) ?_); intro v9 w9 r1 r2 r3 r4; have R1 := keepH r1; have R2 := keepH r2; have R4 := keepH r4; clear r1 r2 r3 r4))
   have HNS := keepH (HK.out.more (x := k) (by rw [HLN.out]; exact R1.out) R2.out)
   go_roundw
   case rel => exact ⟨i + 1, by omega, by first | rfl | go_num, keepH (by rw [List.take_add_one, List.getElem?_map, HX.out]; exact HNS.out)⟩
   case measure => simp [intOf]; omega
  ·obtain rfl : i = n := by omega
   have t1 : ¬ (i : Int) < (i : Int) := by omega
   have HE : Hid (StU W (hs.map (·.1)) u3 wr) := keepH (by have q := HK.out; rw [List.take_of_length_le (by rw [List.length_map, ← HN.out]; exact Nat.le_refl _)] at q; exact q)
   go_wp2_with fail
   go_ret
   exact ⟨_, by simp, HE.out⟩
end Go.Proofs.YtahgaghokpicgaaGreat
