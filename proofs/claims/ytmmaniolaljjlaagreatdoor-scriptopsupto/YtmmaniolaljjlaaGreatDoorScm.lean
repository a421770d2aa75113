/- A handle that is read, by the program. -/
import Derived.Test.YtmmaniolaljjlaaGreatDoorScl
namespace Go.Proofs.YtmmaniolaljjlaaGreatDoor
open Go.RowKit Go.Shelf
set_option linter.unusedVariables false

def HdQ (t : List UInt8) (ok : Bool) (hnd : Nat) (set : Bool) (rt ri : Int) : Prop := (ok = true → isU hnd ∧ isI rt ∧ isI ri ∧ rhB hnd set rt ri = true ∧ t = hText hnd set rt ri) ∧
  (∀ h s a b, isU h → isI a → isI b → rhB h s a b = true → t = hText h s a b → ok = true ∧ hnd = h ∧ set = s ∧ rt = a ∧ ri = b)
theorem dec_head (u : Nat) : (Lib.decDigits u).head? ≠ some 64 := by
  intro h
  have hm : (64 : UInt8) ∈ Lib.decDigits u := List.mem_of_mem_head? (by rw [h]; rfl)
  have := dec_digit u 64 hm
  revert this; decide
theorem hText_head {h : Nat} {s : Bool} {a b : Int} : (hText h s a b).head? = some 64 ↔ s = true := by
  cases s with
  | false => simp only [hText]; constructor
             · intro e; exact absurd e (dec_head h)
             · intro e; simp at e
  | true => simp [hText]
theorem hd_nat {t : List UInt8} {u : Nat} (h : natP t = some u) : HdQ t true u false 0 0 := by
  obtain ⟨e, hu⟩ := natP_some h
  refine ⟨fun _ => ⟨hu, ⟨by omega, by omega⟩, ⟨by omega, by omega⟩, rfl, e⟩, fun h' s a b hh ha hb hr he => ?_⟩
  cases s with
  | true =>
    exfalso
    have := (hText_head (h := h') (s := true) (a := a) (b := b)).2 rfl
    rw [← he, e] at this
    exact dec_head u this
  | false =>
    have e2 : t = Lib.decDigits h' := he
    rw [e2, natP_dec h' hh] at h
    simp only [Option.some.injEq] at h
    simp [rhB] at hr
    exact ⟨rfl, h.symm, rfl, hr.1.symm, hr.2.symm⟩
theorem hd_nonat {t : List UInt8} (h : natP t = none) (hn : t.head? ≠ some 64) (x : Nat) : HdQ t false x false 0 0 := by
  refine ⟨fun e => by simp at e, fun h' s a b hh ha hb hr he => ?_⟩
  exfalso
  cases s with
  | true =>
    have := (hText_head (h := h') (s := true) (a := a) (b := b)).2 rfl
    rw [← he] at this
    exact hn this
  | false =>
    have e2 : t = Lib.decDigits h' := he
    rw [e2, natP_dec h' hh] at h
    simp at h
theorem itoa_ne (v : Int) : Lib.itoa v ≠ [] := by
  by_cases h : v < 0
  · obtain ⟨u, rfl, hu⟩ : ∃ u : Nat, v = -(u : Int) ∧ 1 ≤ u := ⟨(-v).toNat, by omega, by omega⟩
    rw [Lib.itoa_neg u hu]; simp
  · obtain ⟨u, rfl⟩ : ∃ u : Nat, v = (u : Int) := ⟨v.toNat, by omega⟩
    rw [Lib.itoa_nonneg]; exact dec_ne u
theorem intP_nil : intP [] = none := by
  cases h : intP [] with
  | none => rfl
  | some v =>
    have e := (intP_some h).1
    have := itoa_ne v
    exact absurd e.symm this
def CutP (r l q : List UInt8) : Prop := (r = l ++ 46 :: q ∧ noB 46 l) ∨ (noB 46 r ∧ l = r ∧ q = [])
theorem noB_first (b : UInt8) : ∀ (r : List UInt8), (∃ l q, r = l ++ b :: q ∧ noB b l) ∨ noB b r
  | [] => .inr (noB_nil b)
  | c :: r => by
    by_cases h : c = b
    · exact .inl ⟨[], r, by rw [h]; rfl, noB_nil b⟩
    · rcases noB_first b r with ⟨l, q, e, hl⟩ | hr
      · exact .inl ⟨c :: l, q, by rw [e]; rfl, hl.cons h⟩
      · exact .inr (hr.cons h)
theorem cutDot_any (r : List UInt8) (hr : r.length ≤ 100000000) (w : World) : Calls Tryz.prog 53 #[.string (mkS r), .string ⟨#[46]⟩] w fun e w' => ∃ l q b, e = .returned (.tuple #[.string (mkS l), .string (mkS q), .bool b]) ∧ CutP r l q ∧ Below w.heap.size w w' := by
  rcases noB_first 46 r with ⟨l, q, rfl, hl⟩ | hn
  · refine (cut_dot l q (by simp at hr; omega) hl w).mono ?_
    rintro e w' ⟨rfl, hb⟩
    exact ⟨l, q, true, rfl, .inl ⟨rfl, hl⟩, hb⟩
  · refine (cut_nodot r hn w).mono ?_
    rintro e w' ⟨rfl, hb⟩
    exact ⟨r, [], false, rfl, .inr ⟨hn, rfl, rfl⟩, hb⟩
theorem itoa_dot (n : Int) : noB 46 (Lib.itoa n) := by
  intro x hx e
  subst e
  have := itoa_byte n 46 hx
  revert this; decide
theorem hd_ref {r l q : List UInt8} {a b : Int} (hc : CutP r l q) (h : [l, q].mapM intP = some [a, b]) : HdQ (64 :: r) (rhB 0 true a b) 0 true a b ∧ isI a ∧ isI b := by
  simp only [List.mapM_cons, List.mapM_nil, Option.bind_eq_bind, Option.bind_eq_some_iff, Option.pure_def, Option.some.injEq] at h
  obtain ⟨a', h1, r', ⟨b', h2, r'', hr'', rfl⟩, hh⟩ := h
  subst hr''
  simp only [List.cons.injEq, and_true] at hh
  obtain ⟨rfl, rfl⟩ := hh
  obtain ⟨e1, r1, r2⟩ := intP_some h1
  obtain ⟨e2, r3, r4⟩ := intP_some h2
  rcases hc with ⟨rfl, hl⟩ | ⟨_, rfl, rfl⟩
  · refine ⟨⟨fun ho => ⟨by unfold isU; omega, ⟨r1, r2⟩, ⟨r3, r4⟩, ho, ?_⟩, fun h' s c d hh hc hd hr he => ?_⟩, ⟨r1, r2⟩, ⟨r3, r4⟩⟩
    · rw [e1, e2]; simp [hText]
    · have hs : s = true := hText_head.1 (by rw [← he]; rfl)
      subst hs
      have e3 : l ++ 46 :: q = Lib.itoa c ++ 46 :: Lib.itoa d := by simpa [hText] using he
      obtain ⟨e4, e5⟩ := noB_cutG hl (itoa_dot c) e3
      rw [e4, intP_itoa c hc.1 hc.2] at h1
      rw [e5, intP_itoa d hd.1 hd.2] at h2
      simp only [Option.some.injEq] at h1 h2
      subst h1 h2
      have h0 : h' = 0 := by simp [rhB] at hr; exact hr.1
      subst h0
      exact ⟨hr, rfl, rfl, rfl, rfl⟩
  · rw [intP_nil] at h2
    simp at h2
theorem hd_noref {r l q : List UInt8} (hc : CutP r l q) (h : [l, q].mapM intP = none) : HdQ (64 :: r) false 0 false 0 0 := by
  refine ⟨fun e => by simp at e, fun h' s c d hh hc' hd hr he => ?_⟩
  exfalso
  have hs : s = true := hText_head.1 (by rw [← he]; rfl)
  subst hs
  have e3 : r = Lib.itoa c ++ 46 :: Lib.itoa d := by simpa [hText] using he
  rcases hc with ⟨rfl, hl⟩ | ⟨hn, _, _⟩
  · obtain ⟨e4, e5⟩ := noB_cutG hl (itoa_dot c) e3
    rw [e4, e5] at h
    simp [intP_itoa c hc'.1 hc'.2, intP_itoa d hd.1 hd.2] at h
  · exact hn 46 (by rw [e3]; simp) rfl
def RdQ (W : World) (P k : Nat) (t : List UInt8) (e : Ending) (W' : World) : Prop := ∃ ok hnd set rt ri, e = .returned (.bool ok) ∧ W'.heap[P]? = some (.cells (opR k 0 0 0 hnd set rt ri (.slice none 0 0) 0 0) 28 (0, 0)) ∧ HdQ t ok hnd set rt ri ∧ Chg (fun b => b = P) W W'
theorem chg_of_below {W X : World} {P : Nat} (h : Below W.heap.size W X) : Chg (fun b => b = P) W X := ⟨h.os, h.tape, h.output, h.size, fun k hk _ => h.block k hk⟩
theorem chg_setP {W X : World} {P : Nat} (h : Chg (fun b => b = P) W X) (i : Nat) (v : Value) : Chg (fun b => b = P) W (X.setCell ⟨P, i, none⟩ v) := h.setCell (fun _ => rfl) v

set_option maxRecDepth 100000 in
set_option maxHeartbeats 4000000 in
theorem readH_nat (P k : Nat) (t : List UInt8) (ht : t.length ≤ 100000000) (hn : t.head? ≠ some 64) (W : World) (T : Tb W) (hX : W.heap[P]? = some (.cells (opR k 0 0 0 0 false 0 0 (.slice none 0 0) 0 0) 28 (0, 0))) :
    Calls Tryz.prog 76 #[.pointer (some ⟨P, 0, none⟩), .string (mkS t)] W (RdQ W P k t) := by
  have h1 := cutP_no t (by omega) hn W
  have h2 := natural_any t (by omega) W T
  have HN := keepH hn
  have HX := keepH hX
  obtain ⟨s, hs⟩ : ∃ s, s = mkS t := ⟨_, rfl⟩
  rw [← hs] at h1 h2 ⊢
  have H2 := keepH h2
  clear hs hn hX T h2
  go_enter Tryz.func76, Tryz.ntmps76
  go_wp2_with fail
  refine h1.mono ?_
  rintro e w1 ⟨rfl, hw1⟩
  rw [hw1]
  clear hw1 h1
  go_wp2_with fail
  refine H2.out.mono ?_
  rintro e w2 ⟨v, rfl, hv, B2⟩
  have X2 := heap_below HX.out B2
  have HX2 := keepH X2
  have HB2 := keepH B2
  have p4 : w2.cell? ⟨P, 4, none⟩ = _ := cell_of X2 4
  have q4 : w2.frozen? ⟨P, 4, none⟩ = false := free_of X2 4
  clear B2 X2
  rcases hv with ⟨u, hu, rfl⟩ | ⟨hu, u, rfl⟩
  · have HU := keepH hu
    clear hu
    go_wp2_with fail
    go_ret
    exact ⟨true, u, false, 0, 0, by simp, set_of HX2.out 4 (.int .u64 (u : Int)), hd_nat HU.out, chg_setP (chg_of_below HB2.out) 4 _⟩
  · have HU := keepH hu
    clear hu
    go_wp2_with fail
    go_ret
    exact ⟨false, u, false, 0, 0, by simp, set_of HX2.out 4 (.int .u64 (u : Int)), hd_nonat HU.out HN.out u, chg_setP (chg_of_below HB2.out) 4 _⟩
theorem two_ints {W X : World} {v : Value} {us : List Int} (h : StZ W us v X) (hl : us.length = 2) : ∃ a b g c, us = [a, b] ∧ v = .slice (some ⟨g, 0, none⟩) 2 c ∧ X.cell? ⟨g, 0, none⟩ = some (.int .i64 a) ∧ X.cell? ⟨g, 1, none⟩ = some (.int .i64 b) ∧ W.heap.size ≤ g := by
  match us, hl with
  | [a, b], _ =>
    have hc := fun g (hg : v.ownBlock = some g) => h.row.cells (g := g) hg
    rcases h.row.2 with ⟨hv, h0⟩ | ⟨g, cap, cur, hv, _⟩
    · simp at h0
    · have c0 := hc g (by rw [hv]; rfl) 0 (.int .i64 a) rfl
      have c1 := hc g (by rw [hv]; rfl) 1 (.int .i64 b) rfl
      rw [Addr.add_mid] at c0 c1
      exact ⟨a, b, g, cap, rfl, hv, by simpa using c0, by simpa using c1, h.new g (by rw [hv]; rfl)⟩

set_option maxRecDepth 100000 in
set_option maxHeartbeats 8000000 in
theorem readH_ref (P k : Nat) (r : List UInt8) (ht : r.length ≤ 10000000) (W : World) (T : Tb W) (hX : W.heap[P]? = some (.cells (opR k 0 0 0 0 false 0 0 (.slice none 0 0) 0 0) 28 (0, 0))) :
    Calls Tryz.prog 76 #[.pointer (some ⟨P, 0, none⟩), .string (mkS (64 :: r))] W (RdQ W P k (64 :: r)) := by
  have h1 := cutP_yes r (by omega) W
  have h2 := cutDot_any r (by omega) W
  have HX := keepH hX
  have HNU := keepH (fun p c fs (hl : fs.length ≤ 200000000) (hf : ∀ f ∈ fs, f.length ≤ 200000000) w (hb : Below W.heap.size W w) (hr : SRd w p fs) => nums_z p c fs hl hf w (T.on hb) hr)
  have HRH := keepH (fun a b (ha : isI a) (hb : isI b) w => rh_any k 0 0 0 0 true a b (.slice none 0 0) 0 0 ha hb w)
  obtain ⟨s, hs⟩ : ∃ s, s = mkS (64 :: r) := ⟨_, rfl⟩
  obtain ⟨sr, hsr⟩ : ∃ s, s = mkS r := ⟨_, rfl⟩
  rw [← hs, ← hsr] at h1
  rw [← hsr] at h2
  rw [← hs]
  have H2 := keepH h2
  clear hs hsr hX T h2
  go_enter Tryz.func76, Tryz.ntmps76
  go_wp2_with fail
  refine h1.mono ?_
  rintro e w1 ⟨rfl, hw1⟩
  rw [hw1]
  clear hw1 h1
  go_wp2_with fail
  refine H2.out.mono ?_
  rintro e w2 ⟨l, q, bb, rfl, hc, B2⟩
  have hll : l.length ≤ 10000000 ∧ q.length ≤ 10000000 := by
    rcases hc with ⟨rfl, _⟩ | ⟨_, rfl, rfl⟩
    · simp at ht; omega
    · exact ⟨ht, by simp⟩
  obtain ⟨w3, hw3⟩ : ∃ w3, w3 = w2.alloc (.cells #[.string (mkS l), .string (mkS q)] 9) := ⟨_, rfl⟩
  have B3 : Below w2.heap.size w2 w3 := by rw [hw3]; exact below_alloc _ _
  have X3 : w3.heap[w2.heap.size]? = some (.cells #[.string (mkS l), .string (mkS q)] 9 (0, 0)) := by rw [hw3]; exact heap_alloc_new _ _
  have hsr : SRd w3 (some ⟨w2.heap.size, 0, none⟩) [l, q] := .inr ⟨_, 0, rfl, (Array.getElem?_eq_some_iff.1 X3).1, fun i f hf => by
    rw [cell_of X3 (0 + i)]
    match i, hf with
    | 0, hf => simp at hf; subst hf; rfl
    | 1, hf => simp at hf; subst hf; rfl
    | i + 2, hf => simp at hf⟩
  have HQ := keepH (HNU.out (some ⟨w2.heap.size, 0, none⟩) 2 [l, q] (by simp) (fun f hf => by simp at hf; rcases hf with rfl | rfl <;> omega) w3 (below_chain B2 B3) hsr)
  have HC := keepH hc
  have HX3 := keepH (heap_below (heap_below HX.out B2) B3)
  have HB3 := keepH (below_chain B2 B3)
  obtain ⟨sl, hsl⟩ : ∃ s, s = mkS l := ⟨_, rfl⟩
  obtain ⟨sq, hsq⟩ : ∃ s, s = mkS q := ⟨_, rfl⟩
  rw [← hsl, ← hsq] at hw3 ⊢
  have HW3 := keepH hw3
  clear hc B2 B3 X3 hsr hw3 hsl hsq hll
  go_wp2_with fail
  rw [← HW3.out]
  refine HQ.out.mono ?_
  rintro e w4 (⟨us, v, hm, rfl, hst⟩ | ⟨hm, rfl, B4⟩)
  · obtain ⟨a, b, g, c, rfl, rfl, c0, c1, hg⟩ := two_ints hst ((mapM_z_len hm).trans rfl)
    obtain ⟨hd, ia, ib⟩ := hd_ref HC.out hm
    have HD := keepH hd
    have HIA := keepH ia
    have HIB := keepH ib
    have HX4 := keepH (heap_below HX3.out hst.bel)
    have HB4 := keepH (below_chain HB3.out hst.bel)
    have p5 : w4.cell? ⟨P, 5, none⟩ = _ := cell_of HX4.out 5
    have p6 : w4.cell? ⟨P, 6, none⟩ = _ := cell_of HX4.out 6
    have p7 : w4.cell? ⟨P, 7, none⟩ = _ := cell_of HX4.out 7
    have q5 : w4.frozen? ⟨P, 5, none⟩ = false := free_of HX4.out 5
    have q6 : w4.frozen? ⟨P, 6, none⟩ = false := free_of HX4.out 6
    have q7 : w4.frozen? ⟨P, 7, none⟩ = false := free_of HX4.out 7
    have hne : P ≠ g := by
      have := (Array.getElem?_eq_some_iff.1 HX3.out).1
      omega
    clear hd ia ib hm hst hg
    go_wp2_with fail
    go_region
    obtain ⟨w6, hw6⟩ : ∃ w6, w6 = (((w4.setCell ⟨P, 5, none⟩ (.bool true)).setCell ⟨P, 6, none⟩ (.int .i64 a)).setCell ⟨P, 7, none⟩ (.int .i64 b)).drew := ⟨_, rfl⟩
    have HX6 : Hid (w6.heap[P]? = some (.cells (opR k 0 0 0 0 true a b (.slice none 0 0) 0 0) 28 (0, 0))) := keepH (by rw [hw6]; exact set_of (set_of (set_of HX4.out 5 (.bool true)) 6 (.int .i64 a)) 7 (.int .i64 b))
    have HC6 : Hid (Chg (fun x => x = P) W w6) := keepH (by rw [hw6]; exact (chg_setP (chg_setP (chg_setP (chg_of_below HB4.out) 5 _) 6 _) 7 _).drew)
    go_upto_region 11 with fail
    rw [← hw6]
    clear hw6 p5 p6 p7 q5 q6 q7 c0 c1
    have d0 : w6.cell? ⟨P, 0, none⟩ = _ := cell_of HX6.out 0
    have d1 : w6.cell? ⟨P, 1, none⟩ = _ := cell_of HX6.out 1
    have d2 : w6.cell? ⟨P, 2, none⟩ = _ := cell_of HX6.out 2
    have d3 : w6.cell? ⟨P, 3, none⟩ = _ := cell_of HX6.out 3
    have d4 : w6.cell? ⟨P, 4, none⟩ = _ := cell_of HX6.out 4
    have d5 : w6.cell? ⟨P, 5, none⟩ = _ := cell_of HX6.out 5
    have d6 : w6.cell? ⟨P, 6, none⟩ = _ := cell_of HX6.out 6
    have d7 : w6.cell? ⟨P, 7, none⟩ = _ := cell_of HX6.out 7
    have d8 : w6.cell? ⟨P, 8, none⟩ = _ := cell_of HX6.out 8
    have d9 : w6.cell? ⟨P, 9, none⟩ = _ := cell_of HX6.out 9
    have d10 : w6.cell? ⟨P, 10, none⟩ = _ := cell_of HX6.out 10
    go_wp2_with fail
    refine (HRH.out a b HIA.out HIB.out w6).mono ?_
    rintro e w7 ⟨rfl, B7⟩
    have HX7 := keepH (heap_below HX6.out B7)
    have HC7 := keepH (HC6.out.trans (chg_of_below (P := P) B7) (fun _ _ x => x) (fun _ _ x => x))
    clear B7 d0 d1 d2 d3 d4 d5 d6 d7 d8 d9 d10
    go_wp2_with fail
    go_ret
    exact ⟨_, 0, true, a, b, by simp, HX7.out, HD.out, HC7.out⟩
  · have HD := keepH (hd_noref HC.out hm)
    have HX4 := keepH (heap_below HX3.out B4)
    have HB4 := keepH (below_chain HB3.out B4)
    clear hm B4
    go_wp2_with fail
    go_ret
    exact ⟨false, 0, false, 0, 0, by simp, HX4.out, HD.out, chg_of_below HB4.out⟩
theorem readH_any (P k : Nat) (t : List UInt8) (ht : t.length ≤ 10000000) (W : World) (T : Tb W) (hX : W.heap[P]? = some (.cells (opR k 0 0 0 0 false 0 0 (.slice none 0 0) 0 0) 28 (0, 0))) :
    Calls Tryz.prog 76 #[.pointer (some ⟨P, 0, none⟩), .string (mkS t)] W (RdQ W P k t) := by
  by_cases hn : t.head? = some 64
  · match t, hn with
    | c :: r, hn =>
      simp at hn
      subst hn
      exact readH_ref P k r (by simp at ht; omega) W T hX
  · exact readH_nat P k t (by omega) hn W T hX
end Go.Proofs.YtmmaniolaljjlaaGreatDoor
