/- hist.Right: whatever spans: it tells whether they are right. -/
import Derived.Test.YtfohpbpekdcneaaDoorHRightP
import Derived.Deep.CutRange
namespace Go.Proofs.YtfohpbpekdcneaaDoor
open Go.RowKit Go.Maps

theorem h_possible_b {a b c d : Int} {B : Bool} (h : (decide (0 ≤ c) && (decide (d = -1) || decide (c ≤ d))) = B) (W : World) : Calls Tryd.prog 24 #[.agg #[.int .i64 a, .int .i64 b, .int .i64 c, .int .i64 d]] W fun e W' => e = .returned (.bool B) ∧ Chg (fun _ => False) W W' := by
  rw [← h]
  exact h_possible a b c d W
theorem h_pending_b {a b c d : Int} {B : Bool} (h : decide (d < 0) = B) (W : World) : Calls Tryd.prog 28 #[.agg #[.int .i64 a, .int .i64 b, .int .i64 c, .int .i64 d]] W fun e W' => e = .returned (.bool B) ∧ Chg (fun _ => False) W W' := by
  rw [← h]
  exact h_pending a b c d W
theorem h_ahead_b {s t : Sp} {B : Bool} (h : aheadB s t = B) (W : World) : Calls Tryd.prog 26 #[.agg #[.int .i64 s.th, .int .i64 s.ix, .int .i64 s.fr, .int .i64 s.to], .agg #[.int .i64 t.th, .int .i64 t.ix, .int .i64 t.fr, .int .i64 t.to]] W fun e W' => e = .returned (.bool B) ∧ Chg (fun _ => False) W W' := by
  rw [← h]
  exact h_ahead _ _ _ _ _ _ _ _ W
theorem h_own_b {b n : Nat} {f : Int → Option Int} {x t : Int} {B : Bool} (hB : ownB f x t = B) (W : World) (h : IMap W b n f) (hn : n < maxLen) (hx : isI x) (ht : isI t) :
    Calls Tryd.prog 27 #[.map (some b), .int .i64 x, .int .i64 t] W fun e W' => e = .returned (.bool B) ∧ IMap W' b (n + 1) (updI f x t) ∧ Chg (fun i => i = b) W W' := by
  rw [← hB]
  exact h_own b n f x t W h hn hx ht

theorem h_next_b {l : List Sp} {num : Nat} {s : Sp} {nx : Int} (hn : nx = wrap64 (s.ix + 1)) (p : Option Addr) (c : Nat) (W : World) (h : SReads W p l) (hs : l[num]? = some s) : Calls Tryd.prog 25 #[.slice p l.length c, .int .i64 (num : Int), .bool true] W fun e W' => e = .returned (.int .i64 nx) ∧ W' = W := by
  rw [hn]
  exact h_next p c l num s W h hs
theorem h_next0_b {nx : Int} (hn : nx = 0) (p : Option Addr) (n c : Nat) (num : Int) (W : World) : Calls Tryd.prog 25 #[.slice p n c, .int .i64 num, .bool false] W fun e W' => e = .returned (.int .i64 nx) ∧ W' = W := by
  rw [hn]
  exact h_next0 p n c num W
def BoxAt (W : World) (b : Nat) (s : Sp) : Prop := W.heap[b]? = some (.cells #[.int .i64 s.th, .int .i64 s.ix, .int .i64 s.fr, .int .i64 s.to] 38)
theorem BoxAt.cells {W : World} {b : Nat} {s : Sp} (h : BoxAt W b s) : W.cell? ⟨b, 0, none⟩ = some (.int .i64 s.th) ∧ W.cell? ⟨b, 1, none⟩ = some (.int .i64 s.ix) ∧ W.cell? ⟨b, 2, none⟩ = some (.int .i64 s.fr) ∧ W.cell? ⟨b, 3, none⟩ = some (.int .i64 s.to) :=
  ⟨(cell_of h 0).trans rfl, (cell_of h 1).trans rfl, (cell_of h 2).trans rfl, (cell_of h 3).trans rfl⟩
theorem BoxAt.chg {W X : World} {b : Nat} {s : Sp} {F : Nat → Prop} (h : BoxAt W b s) (hc : Chg F W X) (hF : ¬ F b) : BoxAt X b s := (hc.block b (lt_of h) hF).trans h

inductive Nx (l : List Sp) (k : Nat) (s : Sp) : Int → Bool → Int → Bool → Prop
  | none : lastN l k s.th = none → Nx l k s 0 false 0 true
  | some (n : Nat) (u : Sp) : lastN l k s.th = some n → l[n]? = some u → n < k → Nx l k s (n : Int) true (wrap64 (u.ix + 1)) (aheadB u s)
theorem Nx.next {l : List Sp} {k : Nat} {s : Sp} {num nx : Int} {known ab : Bool} (h : Nx l k s num known nx ab) (p : Option Addr) (c : Nat) (W : World) (hp : SReads W p l) : Calls Tryd.prog 25 #[.slice p l.length c, .int .i64 num, .bool known] W fun e W' => e = .returned (.int .i64 nx) ∧ W' = W := by
  cases h with
  | none h => exact h_next0 p l.length c 0 W
  | some n u h hu hn => exact h_next p c l n u W hp hu
theorem Nx.test {l : List Sp} {k : Nat} {s : Sp} {num nx : Int} {known ab : Bool} (h : Nx l k s num known nx ab) : (match lastN l k s.th with | .none => s.ix = 0 | .some n => ∀ t, l[n]? = .some t → s.ix = wrap64 (t.ix + 1) ∧ aheadB t s = true) ↔ s.ix = nx ∧ ab = true := by
  cases h with
  | none h => rw [h]; simp
  | some n u h hu hn =>
    rw [h]
    simp only
    constructor
    · intro hh
      exact hh u hu
    · intro hh t ht
      rw [hu] at ht
      simp at ht
      subst ht
      exact hh
theorem test_of {l : List Sp} {k : Nat} {s : Sp} {num nx : Int} {known ab b1 pb o1 o2 : Bool} (h : Nx l k s num known nx ab) (h1 : (decide (0 ≤ s.fr) && (decide (s.to = -1) || decide (s.fr ≤ s.to))) = b1) (h2 : decide (s.to < 0) = pb) (h3 : ownB (ownF l k) s.fr s.th = o1) (h4 : ownB (updI (ownF l k) s.fr s.th) s.to s.th = o2) :
    TestAt l k s ↔ b1 = true ∧ s.ix = nx ∧ ab = true ∧ o1 = true ∧ (pb = false → o2 = true) := by
  constructor
  · rintro ⟨a, b, c, d⟩
    have e := h.test.1 b
    refine ⟨by rw [← h1]; exact a, e.1, e.2, by rw [← h3]; exact c, fun hp => by rw [← h4]; exact d (by rw [← h2] at hp; simp at hp; exact hp)⟩
  · rintro ⟨a, b, c, d, e⟩
    exact ⟨by rw [h1]; exact a, h.test.2 ⟨b, c⟩, by rw [h3]; exact d, fun h0 => by rw [h4]; exact e (by rw [← h2]; simp; exact h0)⟩

def lastF (l : List Sp) (k : Nat) : Int → Option Int := fun th => (lastN l k th).map Int.ofNat
structure RI (l : List Sp) (p : Option Addr) (W wr : World) (k : Nat) : Prop where
  right : RightTo l k
  last : IMap wr W.heap.size k (lastF l k)
  own : IMap wr (W.heap.size + 1) (2 * k) (ownF l k)
  chg : Chg (fun _ => False) W wr
theorem RI.quiet {l : List Sp} {p : Option Addr} {W wr wx : World} {k : Nat} (h : RI l p W wr k) (hc : Chg (fun _ => False) wr wx) : RI l p W wx k :=
  ⟨h.right, h.last.chg hc (fun x => x), h.own.chg hc (fun x => x), h.chg.trans hc (fun _ _ x => x) (fun _ _ x => x)⟩
theorem lastF_succ {l : List Sp} {k : Nat} {s : Sp} (hs : l[k]? = some s) : updI (lastF l k) s.th (k : Int) = lastF l (k + 1) := by
  funext y
  unfold updI lastF
  rw [lastN, hs]
  simp only
  by_cases e : y = s.th
  · rw [if_pos e, if_pos e.symm]
    rfl
  · rw [if_neg e, if_neg (fun h => e h.symm)]
theorem RI.next {l : List Sp} {p : Option Addr} {W w1 w2 : World} {k : Nat} {s : Sp} (hs : l[k]? = some s) (hr : RightTo l k) (ht : OkAt l k s) (hl : IMap w2 W.heap.size (k + 1) (updI (lastF l k) s.th (k : Int))) (ho : IMap w1 (W.heap.size + 1) (2 * k + 2) (ownF l (k + 1))) (hc : Chg (fun _ => False) W w1) (h2 : Chg (fun i => i = W.heap.size) w1 w2) : RI l p W w2 (k + 1) :=
  ⟨hr.succ hs ht, by rw [lastF_succ hs] at hl; exact hl, ho.chg h2 (fun e => by omega), hc.trans h2 (fun _ _ x => x) (fun i hi x => by omega)⟩
theorem own_one {l : List Sp} {k : Nat} {s : Sp} (hs : l[k]? = some s) (h : ¬ 0 ≤ s.to) : ownF l (k + 1) = updI (ownF l k) s.fr s.th := by rw [ownF, hs]; simp only; rw [if_neg h]
theorem own_two {l : List Sp} {k : Nat} {s : Sp} (hs : l[k]? = some s) (h : 0 ≤ s.to) : ownF l (k + 1) = updI (updI (ownF l k) s.fr s.th) s.to s.th := by rw [ownF, hs]; simp only; rw [if_pos h]

set_option maxRecDepth 100000 in
set_option maxHeartbeats 8000000 in
theorem h_right (p : Option Addr) (c : Nat) (l : List Sp) (W : World) (h : SReads W p l) (hok : ∀ s ∈ l, s.Ok) (hl : l.length ≤ 4398046511104) :
    Calls Tryd.prog 13 #[.slice p l.length c] W fun e W' => ∃ x, e = .returned (.int .i64 x) ∧ (RightP l ∧ x = 0 ∨ ¬ RightP l ∧ x = 50) ∧ Chg (fun _ => False) W W' := by
  have hmm := @run_makeMap Tryd.prog
  have HP := keepH h
  have HO := keepH hok
  have HS : Hid (RI l p W ((W.alloc (.map #[] 0)).alloc (.map #[] 0)) 0) := by
    refine ⟨fun i s hi => by omega, (IMap.made W).chg ((Chg.refl (fun _ => False) _).alloc _) (fun x => x), ?_, ((Chg.refl _ _).alloc _).alloc _⟩
    have e := IMap.made (W.alloc (.map #[] 0))
    rw [World.size_alloc] at e
    exact e
  clear h hok
  go_enter Tryd.func13, Tryd.ntmps13
  go_wp2_with fail
  go_loopw [13] (fun s wr => ∃ k : Nat, k ≤ l.length ∧ s = .int .i64 (k : Int) ∧ Hid (RI l p W wr k)) (fun s _ => l.length - (intOf s).toNat)
  case atStart => exact ⟨0, by omega, rfl, HS⟩
  case round =>
    obtain ⟨k, hk, rfl, HK⟩ := hrel
    by_cases hlt : k < l.length
    · have t1 : (k : Int) < (l.length : Int) := by omega
      obtain ⟨s, hs⟩ : ∃ s, l[k]? = some s := ⟨l[k], List.getElem?_eq_getElem hlt⟩
      have hso := HO.out s (List.mem_of_getElem? hs)
      obtain ⟨bk, off, rfl, hbk, c0, c1, c2, c3⟩ := (HP.out.chg HK.out.chg (fun _ _ x => x)).get k s hs
      have HSO := keepH hso
      have HX := keepH hs
      have HNOT : Hid (¬ TestAt l k s → ¬ RightP l) := fun h => RightTo.not hlt hs (fun h2 => h ((test_iff HK.out.right (by omega)).2 h2))
      have HYES : Hid (TestAt l k s → OkAt l k s) := (test_iff HK.out.right (by omega)).1
      have hT : Hid (l[k]? = some s) := HX
      have hml : k < maxLen := by unfold maxLen; omega
      obtain ⟨w0, hw0⟩ : ∃ w0, w0 = wr.alloc (.cells #[.int .i64 s.th, .int .i64 s.ix, .int .i64 s.fr, .int .i64 s.to] 38) := ⟨_, rfl⟩
      have HB : Hid (BoxAt w0 wr.heap.size s) := by rw [hw0]; exact heap_alloc_new _ _
      have HQ : Hid (RI l (some ⟨bk, off, none⟩) W w0 k) := by rw [hw0]; exact HK.out.quiet ((Chg.refl _ _).alloc _)
      have HQL : Hid (IMap (wr.alloc (.cells #[.int .i64 s.th, .int .i64 s.ix, .int .i64 s.fr, .int .i64 s.to] 38)) W.heap.size k (lastF l k)) := HK.out.last.chg ((Chg.refl (fun _ => False) _).alloc _) (fun x => x)
      have HW0 := keepH hw0
      clear hs hso hbk hw0
      obtain ⟨b1, hb1⟩ : ∃ b1, (decide (0 ≤ s.fr) && (decide (s.to = -1) || decide (s.fr ≤ s.to))) = b1 := ⟨_, rfl⟩
      obtain ⟨pb, hpb⟩ : ∃ pb, decide (s.to < 0) = pb := ⟨_, rfl⟩
      obtain ⟨o1, ho1⟩ : ∃ o1, ownB (ownF l k) s.fr s.th = o1 := ⟨_, rfl⟩
      obtain ⟨o2, ho2⟩ : ∃ o2, ownB (updI (ownF l k) s.fr s.th) s.to s.th = o2 := ⟨_, rfl⟩
      have HB1 := keepH hb1
      have HPB := keepH hpb
      have HO1 := keepH ho1
      have HO2 := keepH ho2
      clear hb1 hpb ho1 ho2
      go_upto_region 6 with fail
      go_cut [7, 8, 13] from 13 to 72 (fun s7 s8 s13 wx => ∃ num known nx ab, s7 = .int .i64 num ∧ s8 = .bool known ∧ s13 = .int .i64 (k : Int) ∧ Hid (Nx l k s num known nx ab) ∧ Hid (wx = w0))
      case first =>
        cases hlast : lastN l k s.th with
        | none =>
          have HL := keepH hlast
          have HLF : Hid (lastF l k s.th = none) := by unfold lastF Hid; rw [hlast]; rfl
          clear hlast
          go_wp2_with (first | (at_lookup; refine look_none rfl _ _ rfl W.heap.size k (lastF l k) rfl HQL.out s.th rfl HSO.out.th HLF.out ?_) | go_in)
          go_meet
          exact ⟨0, false, 0, true, rfl, rfl, rfl, .none HL.out, HW0.out.symm⟩
        | some n =>
          have HL := keepH hlast
          have HLF : Hid (lastF l k s.th = some (n : Int)) := by unfold lastF Hid; rw [hlast]; rfl
          clear hlast
          go_wp2_with (first | (at_lookup; refine look_some rfl _ _ rfl W.heap.size k (lastF l k) rfl HQL.out s.th (n : Int) rfl HSO.out.th HLF.out ?_) | go_in)
          go_meet
          obtain ⟨q1, ⟨u, q2, _⟩, _⟩ := lastN_some HL.out
          exact ⟨n, true, _, _, rfl, rfl, rfl, .some n u HL.out q2 q1, HW0.out.symm⟩
      case rest =>
        obtain ⟨num, known, nx, ab, rfl, rfl, rfl, HN, HW1⟩ := hcut
        have e1 : w0 = wc := HW1.out.symm
        subst e1
        have HT := keepH (test_of HN.out HB1.out HPB.out HO1.out HO2.out)
        obtain ⟨k0, k1, k2, k3⟩ := HB.out.cells
        obtain ⟨g1, hg1⟩ : ∃ g1, g1 = !(b1 && decide (s.ix = nx)) := ⟨_, rfl⟩
        have HG1 := keepH hg1
        clear HW0 HW1 HQL c0 c1 c2 c3 hg1
        go_upto_region 7 with fail
        go_cut [13, 36] from 13 to 72 (fun s13 s36 wx => s13 = .int .i64 (k : Int) ∧ s36 = .bool g1 ∧ Hid (Chg (fun _ => False) w0 wx))
        case first =>
          cases b1 with
          | false =>
            refine wp_region_any (by kernel_rfl) ?_
            change wpAny _ _ _ _ _ _ _ (World.drew _)
            refine wpAny_ready (rs := [0]) (by kernel_rfl) (by simp) ?_
            refine AllReady.cons rfl (fun K hK => ?_) AllReady.nil
            go_simp
            refine hK _ _ ?_
            clear hK K
            refine wpAny_ready (rs := [1]) (by kernel_rfl) (by simp) ?_
            refine AllReady.cons rfl (fun K hK => ?_) AllReady.nil
            go_simp
            go_wp2_with (go_at_call 24; refine (h_possible_b HB1.out _).mono ?_; rintro e w1 ⟨rfl, C1⟩; have HC1 : Hid (Chg (fun _ => False) w0 w1) := ⟨C1.os, C1.tape, C1.output, C1.size, C1.block⟩; clear C1)
            refine wpAny_take (i := 2) (v := ?_) rfl (by kernel_rfl) (by kernel_rfl) (by kernel_rfl) (fun _ _ _ h => h) (Or.inl ⟨by rfl, ?_⟩) ?_
            rotate_left
            · intro w
              go_simp
              try with_reducible rfl
            refine wpAny_take (i := 3) (v := ?_) rfl (by kernel_rfl) (by kernel_rfl) (by kernel_rfl) (fun _ _ _ h => h) (Or.inl ⟨by rfl, ?_⟩) ?_
            rotate_left
            · intro w
              go_simp
              try with_reducible rfl
            refine wpAny_take (i := 4) (v := undef) rfl (by kernel_rfl) (by kernel_rfl) (by kernel_rfl) (fun _ _ _ h => h) (Or.inr ⟨by kernel_rfl, rfl⟩) ?_
            refine wpAny_take (i := 5) (v := undef) rfl (by kernel_rfl) (by kernel_rfl) (by kernel_rfl) (fun _ _ _ h => h) (Or.inr ⟨by kernel_rfl, rfl⟩) ?_
            refine wpAny_take (i := 6) (v := undef) rfl (by kernel_rfl) (by kernel_rfl) (by kernel_rfl) (fun _ _ _ h => h) (Or.inr ⟨by kernel_rfl, rfl⟩) ?_
            refine wpAny_take (i := 7) (v := undef) rfl (by kernel_rfl) (by kernel_rfl) (by kernel_rfl) (fun _ _ _ h => h) (Or.inr ⟨by kernel_rfl, rfl⟩) ?_
            refine wpAny_take (i := 8) (v := undef) rfl (by kernel_rfl) (by kernel_rfl) (by kernel_rfl) (fun _ _ _ h => h) (Or.inr ⟨by kernel_rfl, rfl⟩) ?_
            refine wpAny_take (i := 9) (v := undef) rfl (by kernel_rfl) (by kernel_rfl) (by kernel_rfl) (fun _ _ _ h => h) (Or.inr ⟨by kernel_rfl, rfl⟩) ?_
            refine wpAny_take (i := 10) (v := undef) rfl (by kernel_rfl) (by kernel_rfl) (by kernel_rfl) (fun _ _ _ h => h) (Or.inr ⟨by kernel_rfl, rfl⟩) ?_
            refine wpAny_take (i := 11) (v := ?_) rfl (by kernel_rfl) (by kernel_rfl) (by kernel_rfl) (fun _ _ _ h => h) (Or.inl ⟨by rfl, ?_⟩) ?_
            rotate_left
            · intro w
              go_simp
              try with_reducible rfl
            refine wpAny_done (by kernel_rfl) ?_ _
            go_simp
            go_wp2_with fail
            go_meet
            exact ⟨rfl, by rw [HG1.out]; rfl, HC1⟩
          | true =>
            refine wp_region_any (by kernel_rfl) ?_
            change wpAny _ _ _ _ _ _ _ (World.drew _)
            refine wpAny_ready (rs := [0]) (by kernel_rfl) (by simp) ?_
            refine AllReady.cons rfl (fun K hK => ?_) AllReady.nil
            go_simp
            refine hK _ _ ?_
            clear hK K
            refine wpAny_ready (rs := [1]) (by kernel_rfl) (by simp) ?_
            refine AllReady.cons rfl (fun K hK => ?_) AllReady.nil
            go_simp
            go_wp2_with (go_at_call 24; refine (h_possible_b HB1.out _).mono ?_; rintro e w1 ⟨rfl, C1⟩; have HC1 : Hid (Chg (fun _ => False) w0 w1) := ⟨C1.os, C1.tape, C1.output, C1.size, C1.block⟩; obtain ⟨m0, m1, m2, m3⟩ := (HB.out.chg HC1.out (fun x => x)).cells; clear C1)
            refine wpAny_take (i := 2) (v := ?_) rfl (by kernel_rfl) (by kernel_rfl) (by kernel_rfl) (fun _ _ _ h => h) (Or.inl ⟨by rfl, ?_⟩) ?_
            rotate_left
            · intro w
              go_simp
              try with_reducible rfl
            refine wpAny_take (i := 3) (v := ?_) rfl (by kernel_rfl) (by kernel_rfl) (by kernel_rfl) (fun _ _ _ h => h) (Or.inl ⟨by rfl, ?_⟩) ?_
            rotate_left
            · intro w
              go_simp
              try with_reducible rfl
            refine wpAny_take (i := 4) (v := ?_) rfl (by kernel_rfl) (by kernel_rfl) (by kernel_rfl) (fun _ _ _ h => h) (Or.inl ⟨by rfl, ?_⟩) ?_
            rotate_left
            · intro w
              go_simp
              try with_reducible rfl
            refine wpAny_take (i := 6) (v := ?_) rfl (by kernel_rfl) (by kernel_rfl) (by kernel_rfl) (fun _ _ _ h => h) (Or.inl ⟨by rfl, ?_⟩) ?_
            rotate_left
            · intro w
              go_simp
              try with_reducible rfl
            refine wpAny_take (i := 7) (v := ?_) rfl (by kernel_rfl) (by kernel_rfl) (by kernel_rfl) (fun _ _ _ h => h) (Or.inl ⟨by rfl, ?_⟩) ?_
            rotate_left
            · intro w
              go_simp
              try with_reducible rfl
            refine wpAny_take (i := 8) (v := ?_) rfl (by kernel_rfl) (by kernel_rfl) (by kernel_rfl) (fun _ _ _ h => h) (Or.inl ⟨by rfl, ?_⟩) ?_
            rotate_left
            · intro w
              go_simp
              try with_reducible rfl
            refine wpAny_ready (rs := [5, 9]) (by kernel_rfl) (by simp) ?_
            refine AllReady.cons rfl (fun K hK => ?_) ?_
            · go_simp
              refine hK _ _ ?_
              clear hK K
              refine wpAny_ready (rs := [9]) (by kernel_rfl) (by simp) ?_
              refine AllReady.cons rfl (fun K hK => ?_) AllReady.nil
              go_simp
              go_wp2_with (go_at_call 25; refine (HN.out.next _ _ _ (HP.out.chg (HQ.out.chg.trans HC1.out (H := fun _ => False) (fun _ _ x => x) (fun _ _ x => x)) (fun _ _ x => x))).mono ?_; rintro e w2 ⟨rfl, rfl⟩)
              refine wpAny_take (i := 10) (v := ?_) rfl (by kernel_rfl) (by kernel_rfl) (by kernel_rfl) (fun _ _ _ h => h) (Or.inl ⟨by rfl, ?_⟩) ?_
              rotate_left
              · intro w
                go_simp
                try with_reducible rfl
              refine wpAny_take (i := 11) (v := ?_) rfl (by kernel_rfl) (by kernel_rfl) (by kernel_rfl) (fun _ _ _ h => h) (Or.inl ⟨by rfl, ?_⟩) ?_
              rotate_left
              · intro w
                go_simp
                try with_reducible rfl
              refine wpAny_done (by kernel_rfl) ?_ _
              go_simp
              go_wp2_with fail
              go_meet
              exact ⟨rfl, by rw [HG1.out]; simp; by_cases e : s.ix = nx <;> simp [e], HC1⟩
            refine AllReady.cons rfl (fun K hK => ?_) AllReady.nil
            · go_simp
              go_wp2_with (go_at_call 25; refine (HN.out.next _ _ _ (HP.out.chg (HQ.out.chg.trans HC1.out (H := fun _ => False) (fun _ _ x => x) (fun _ _ x => x)) (fun _ _ x => x))).mono ?_; rintro e w2 ⟨rfl, rfl⟩)
              refine wpAny_ready (rs := [5]) (by kernel_rfl) (by simp) ?_
              refine AllReady.cons rfl (fun K hK => ?_) AllReady.nil
              go_simp
              refine hK _ _ ?_
              clear hK K
              refine wpAny_take (i := 10) (v := ?_) rfl (by kernel_rfl) (by kernel_rfl) (by kernel_rfl) (fun _ _ _ h => h) (Or.inl ⟨by rfl, ?_⟩) ?_
              rotate_left
              · intro w
                go_simp
                try with_reducible rfl
              refine wpAny_take (i := 11) (v := ?_) rfl (by kernel_rfl) (by kernel_rfl) (by kernel_rfl) (fun _ _ _ h => h) (Or.inl ⟨by rfl, ?_⟩) ?_
              rotate_left
              · intro w
                go_simp
                try with_reducible rfl
              refine wpAny_done (by kernel_rfl) ?_ _
              go_simp
              go_wp2_with fail
              go_meet
              exact ⟨rfl, by rw [HG1.out]; simp; by_cases e : s.ix = nx <;> simp [e], HC1⟩
        case rest =>
          obtain ⟨rfl, rfl, HC⟩ := hcut
          have HW := keepH (HQ.out.quiet HC.out)
          have HB2 := keepH (HB.out.chg HC.out (fun x => x))
          clear k0 k1 k2 k3
          cases g1 with
          | true =>
            go_wp2_with fail
            go_ret
            refine ⟨50, by simp, .inr ⟨HNOT.out (fun T => ?_), rfl⟩, HW.out.chg⟩
            have e := HT.out.1 T
            have e2 := HG1.out
            simp [e.1, e.2.1] at e2
          | false =>
            obtain ⟨k0, k1, k2, k3⟩ := HB2.out.cells
            have HBI : Hid (b1 = true ∧ s.ix = nx) := by
              have e2 := HG1.out
              simp at e2
              exact e2
            go_upto_region 9 with fail
            go_cut [13, 46] from 13 to 72 (fun s13 s46 wx => s13 = .int .i64 (k : Int) ∧ s46 = .bool (!ab) ∧ Hid (Chg (fun _ => False) wc wx))
            case first =>
              have hN := HN.out
              cases hN with
              | none hN =>
                refine wp_region_any (by kernel_rfl) ?_
                change wpAny _ _ _ _ _ _ _ (World.drew _)
                refine wpAny_take (i := 0) (v := ?_) rfl (by kernel_rfl) (by kernel_rfl) (by kernel_rfl) (fun _ _ _ h => h) (Or.inl ⟨by rfl, ?_⟩) ?_
                rotate_left
                · intro w
                  go_simp
                  try with_reducible rfl
                refine wpAny_take (i := 1) (v := ?_) rfl (by kernel_rfl) (by kernel_rfl) (by kernel_rfl) (fun _ _ _ h => h) (Or.inl ⟨by rfl, ?_⟩) ?_
                rotate_left
                · intro w
                  go_simp
                  try with_reducible rfl
                refine wpAny_take (i := 2) (v := undef) rfl (by kernel_rfl) (by kernel_rfl) (by kernel_rfl) (fun _ _ _ h => h) (Or.inr ⟨by kernel_rfl, rfl⟩) ?_
                refine wpAny_take (i := 3) (v := undef) rfl (by kernel_rfl) (by kernel_rfl) (by kernel_rfl) (fun _ _ _ h => h) (Or.inr ⟨by kernel_rfl, rfl⟩) ?_
                refine wpAny_take (i := 4) (v := undef) rfl (by kernel_rfl) (by kernel_rfl) (by kernel_rfl) (fun _ _ _ h => h) (Or.inr ⟨by kernel_rfl, rfl⟩) ?_
                refine wpAny_take (i := 5) (v := undef) rfl (by kernel_rfl) (by kernel_rfl) (by kernel_rfl) (fun _ _ _ h => h) (Or.inr ⟨by kernel_rfl, rfl⟩) ?_
                refine wpAny_take (i := 6) (v := undef) rfl (by kernel_rfl) (by kernel_rfl) (by kernel_rfl) (fun _ _ _ h => h) (Or.inr ⟨by kernel_rfl, rfl⟩) ?_
                refine wpAny_take (i := 7) (v := undef) rfl (by kernel_rfl) (by kernel_rfl) (by kernel_rfl) (fun _ _ _ h => h) (Or.inr ⟨by kernel_rfl, rfl⟩) ?_
                refine wpAny_take (i := 8) (v := undef) rfl (by kernel_rfl) (by kernel_rfl) (by kernel_rfl) (fun _ _ _ h => h) (Or.inr ⟨by kernel_rfl, rfl⟩) ?_
                refine wpAny_take (i := 9) (v := ?_) rfl (by kernel_rfl) (by kernel_rfl) (by kernel_rfl) (fun _ _ _ h => h) (Or.inl ⟨by rfl, ?_⟩) ?_
                rotate_left
                · intro w
                  go_simp
                  try with_reducible rfl
                refine wpAny_done (by kernel_rfl) ?_ _
                go_simp
                go_wp2_with fail
                go_meet
                exact ⟨rfl, rfl, (Chg.refl _ _).drew⟩
              | some n u hN hu hnk =>
                obtain ⟨bk', off', hbo, _, d0, d1, d2, d3⟩ := (HP.out.chg HW.out.chg (fun _ _ x => x)).get n u hu
                simp only [Option.some.injEq, Addr.mk.injEq, and_true] at hbo
                obtain ⟨rfl, rfl⟩ := hbo
                have t2 : (n : Int) < (l.length : Int) := by omega
                clear hN hu
                refine wp_region_any (by kernel_rfl) ?_
                change wpAny _ _ _ _ _ _ _ (World.drew _)
                refine wpAny_take (i := 0) (v := ?_) rfl (by kernel_rfl) (by kernel_rfl) (by kernel_rfl) (fun _ _ _ h => h) (Or.inl ⟨by rfl, ?_⟩) ?_
                rotate_left
                · intro w
                  go_simp
                  try with_reducible rfl
                refine wpAny_take (i := 1) (v := ?_) rfl (by kernel_rfl) (by kernel_rfl) (by kernel_rfl) (fun _ _ _ h => h) (Or.inl ⟨by rfl, ?_⟩) ?_
                rotate_left
                · intro w
                  go_simp
                  try with_reducible rfl
                refine wpAny_take (i := 2) (v := ?_) rfl (by kernel_rfl) (by kernel_rfl) (by kernel_rfl) (fun _ _ _ h => h) (Or.inl ⟨by rfl, ?_⟩) ?_
                rotate_left
                · intro w
                  go_simp
                  try with_reducible rfl
                refine wpAny_take (i := 3) (v := ?_) rfl (by kernel_rfl) (by kernel_rfl) (by kernel_rfl) (fun _ _ _ h => h) (Or.inl ⟨by rfl, ?_⟩) ?_
                rotate_left
                · intro w
                  go_simp
                  try with_reducible rfl
                refine wpAny_take (i := 4) (v := ?_) rfl (by kernel_rfl) (by kernel_rfl) (by kernel_rfl) (fun _ _ _ h => h) (Or.inl ⟨by rfl, ?_⟩) ?_
                rotate_left
                · intro w
                  go_simp
                  try with_reducible rfl
                refine wpAny_ready (rs := [5, 6]) (by kernel_rfl) (by simp) ?_
                refine AllReady.cons rfl (fun K hK => ?_) ?_
                · go_simp
                  refine hK _ _ ?_
                  clear hK K
                  refine wpAny_ready (rs := [6]) (by kernel_rfl) (by simp) ?_
                  refine AllReady.cons rfl (fun K hK => ?_) AllReady.nil
                  go_simp
                  refine hK _ _ ?_
                  clear hK K
                  refine wpAny_ready (rs := [7]) (by kernel_rfl) (by simp) ?_
                  refine AllReady.cons rfl (fun K hK => ?_) AllReady.nil
                  go_simp
                  go_wp2_with (go_at_call 26; refine (h_ahead_b rfl _).mono ?_; rintro e w1 ⟨rfl, C1⟩; have HC2 : Hid (Chg (fun _ => False) wc w1) := ⟨C1.os, C1.tape, C1.output, C1.size, C1.block⟩; clear C1)
                  refine wpAny_take (i := 8) (v := ?_) rfl (by kernel_rfl) (by kernel_rfl) (by kernel_rfl) (fun _ _ _ h => h) (Or.inl ⟨by rfl, ?_⟩) ?_
                  rotate_left
                  · intro w
                    go_simp
                    try with_reducible rfl
                  refine wpAny_take (i := 9) (v := ?_) rfl (by kernel_rfl) (by kernel_rfl) (by kernel_rfl) (fun _ _ _ h => h) (Or.inl ⟨by rfl, ?_⟩) ?_
                  rotate_left
                  · intro w
                    go_simp
                    try with_reducible rfl
                  refine wpAny_done (by kernel_rfl) ?_ _
                  go_simp
                  go_wp2_with fail
                  go_meet
                  exact ⟨rfl, by simp, HC2⟩
                refine AllReady.cons rfl (fun K hK => ?_) AllReady.nil
                · go_simp
                  refine hK _ _ ?_
                  clear hK K
                  refine wpAny_ready (rs := [5]) (by kernel_rfl) (by simp) ?_
                  refine AllReady.cons rfl (fun K hK => ?_) AllReady.nil
                  go_simp
                  refine hK _ _ ?_
                  clear hK K
                  refine wpAny_ready (rs := [7]) (by kernel_rfl) (by simp) ?_
                  refine AllReady.cons rfl (fun K hK => ?_) AllReady.nil
                  go_simp
                  go_wp2_with (go_at_call 26; refine (h_ahead_b rfl _).mono ?_; rintro e w1 ⟨rfl, C1⟩; have HC2 : Hid (Chg (fun _ => False) wc w1) := ⟨C1.os, C1.tape, C1.output, C1.size, C1.block⟩; clear C1)
                  refine wpAny_take (i := 8) (v := ?_) rfl (by kernel_rfl) (by kernel_rfl) (by kernel_rfl) (fun _ _ _ h => h) (Or.inl ⟨by rfl, ?_⟩) ?_
                  rotate_left
                  · intro w
                    go_simp
                    try with_reducible rfl
                  refine wpAny_take (i := 9) (v := ?_) rfl (by kernel_rfl) (by kernel_rfl) (by kernel_rfl) (fun _ _ _ h => h) (Or.inl ⟨by rfl, ?_⟩) ?_
                  rotate_left
                  · intro w
                    go_simp
                    try with_reducible rfl
                  refine wpAny_done (by kernel_rfl) ?_ _
                  go_simp
                  go_wp2_with fail
                  go_meet
                  exact ⟨rfl, by simp, HC2⟩
            case rest =>
              obtain ⟨rfl, rfl, HC3⟩ := hcut
              have HW3 := keepH (HW.out.quiet HC3.out)
              have HB3 := keepH (HB2.out.chg HC3.out (fun x => x))
              clear k0 k1 k2 k3
              cases ab with
              | false =>
                go_wp2_with fail
                go_ret
                refine ⟨50, by simp, .inr ⟨HNOT.out (fun T => ?_), rfl⟩, HW3.out.chg⟩
                have e := HT.out.1 T
                simp at e
              | true =>
                obtain ⟨k0, k1, k2, k3⟩ := HB3.out.cells
                have hwl : Hid (W.heap.size + 1 < wr.heap.size) := HK.out.own.lt
                have hm2 : 2 * k < maxLen := by unfold maxLen; omega
                have hm3 : 2 * k + 1 < maxLen := by unfold maxLen; omega
                cases o1 with
                | false =>
                  go_wp2_with fail
                  refine (h_own_b HO1.out _ HW3.out.own hm2 HSO.out.fr HSO.out.th).mono ?_
                  rintro e w1 ⟨rfl, I1, C1⟩
                  have HC4 : Hid (Chg (fun _ => False) W w1) := HW3.out.chg.trans C1 (fun _ _ x => x) (fun i hi x => by omega)
                  clear I1 C1
                  go_wp2_with fail
                  go_ret
                  refine ⟨50, by simp, .inr ⟨HNOT.out (fun T => ?_), rfl⟩, HC4.out⟩
                  have e := HT.out.1 T
                  simp at e
                | true =>
                  go_wp2_with fail
                  refine (h_own_b HO1.out _ HW3.out.own hm2 HSO.out.fr HSO.out.th).mono ?_
                  rintro e w1 ⟨rfl, I1, C1⟩
                  have HI1 := keepH I1
                  have HC4 : Hid (Chg (fun _ => False) W w1) := HW3.out.chg.trans C1 (fun _ _ x => x) (fun i hi x => by omega)
                  have HL4 : Hid (IMap w1 W.heap.size k (lastF l k)) := HW3.out.last.chg C1 (fun e => by omega)
                  have HB4 := keepH (HB3.out.chg C1 (fun e => by have := hwl.out; omega))
                  obtain ⟨m0, m1, m2, m3⟩ := HB4.out.cells
                  clear I1 C1 k0 k1 k2 k3
                  cases pb with
                  | true =>
                    have hto : ¬ 0 ≤ s.to := by have e := HPB.out; simp at e; omega
                    have HTO := keepH hto
                    clear hto
                    go_wp2_with fail
                    refine (h_pending_b HPB.out _).mono ?_
                    rintro e w2 ⟨rfl, C2⟩
                    have HC5 := keepH (HC4.out.trans C2 (H := fun _ => False) (fun _ _ x => x) (fun _ _ x => x))
                    have HI2 := keepH (HI1.out.chg C2 (fun x => x))
                    have HL5 := keepH (HL4.out.chg C2 (fun x => x))
                    obtain ⟨n0, n1, n2, n3⟩ := (HB4.out.chg C2 (fun x => x)).cells
                    have hci : isI (k : Int) := ⟨by omega, by omega⟩
                    clear C2 m0 m1 m2 m3
                    go_wp2_with (first | (at_mapUpdate; refine put_imap rfl _ _ _ rfl W.heap.size k (lastF l k) rfl HL5.out hml s.th (k : Int) rfl rfl HSO.out.th hci ?_; intro w3 I3 C3; have HI3 := keepH I3; have HC6 := keepH C3; clear I3 C3) | go_in)
                    go_roundw
                    case rel =>
                      refine ⟨k + 1, by omega, by first | rfl | go_num, ?_⟩
                      have ok := HYES.out (HT.out.2 (by simp [HBI.out.1, HBI.out.2]))
                      exact keepH (RI.next HX.out HK.out.right ok HI3.out (by rw [own_one HX.out (by have := HTO.out; omega)]; exact HI2.out.mono (by omega)) HC5.out HC6.out)
                    case measure => simp [intOf]; omega
                  | false =>
                    have hto : 0 ≤ s.to := by have e := HPB.out; simp at e; omega
                    have HTO := keepH hto
                    clear hto
                    cases o2 with
                    | false =>
                      go_wp2_with fail
                      refine (h_pending_b HPB.out _).mono ?_
                      rintro e w2 ⟨rfl, C2⟩
                      have HC5 := keepH (HC4.out.trans C2 (H := fun _ => False) (fun _ _ x => x) (fun _ _ x => x))
                      have HI2 := keepH (HI1.out.chg C2 (fun x => x))
                      obtain ⟨n0, n1, n2, n3⟩ := (HB4.out.chg C2 (fun x => x)).cells
                      clear C2 m0 m1 m2 m3
                      go_wp2_with fail
                      refine (h_own_b HO2.out _ HI2.out hm3 HSO.out.to HSO.out.th).mono ?_
                      rintro e w3 ⟨rfl, I3, C3⟩
                      have HC6 : Hid (Chg (fun _ => False) W w3) := HC5.out.trans C3 (fun _ _ x => x) (fun i hi x => by omega)
                      clear I3 C3
                      go_wp2_with fail
                      go_ret
                      refine ⟨50, by simp, .inr ⟨HNOT.out (fun T => ?_), rfl⟩, HC6.out⟩
                      have e := HT.out.1 T
                      simp at e
                    | true =>
                      go_wp2_with fail
                      refine (h_pending_b HPB.out _).mono ?_
                      rintro e w2 ⟨rfl, C2⟩
                      have HC5 := keepH (HC4.out.trans C2 (H := fun _ => False) (fun _ _ x => x) (fun _ _ x => x))
                      have HI2 := keepH (HI1.out.chg C2 (fun x => x))
                      have HL5 := keepH (HL4.out.chg C2 (fun x => x))
                      have HB5 := keepH (HB4.out.chg C2 (fun x => x))
                      obtain ⟨n0, n1, n2, n3⟩ := HB5.out.cells
                      clear C2 m0 m1 m2 m3
                      go_wp2_with fail
                      refine (h_own_b HO2.out _ HI2.out hm3 HSO.out.to HSO.out.th).mono ?_
                      rintro e w3 ⟨rfl, I3, C3⟩
                      have HI3 := keepH I3
                      have HC6 : Hid (Chg (fun _ => False) W w3) := HC5.out.trans C3 (fun _ _ x => x) (fun i hi x => by omega)
                      have HL6 : Hid (IMap w3 W.heap.size k (lastF l k)) := HL5.out.chg C3 (fun e => by omega)
                      obtain ⟨q0, q1, q2, q3⟩ := (HB5.out.chg C3 (fun e => by have := hwl.out; omega)).cells
                      have hci : isI (k : Int) := ⟨by omega, by omega⟩
                      clear I3 C3 n0 n1 n2 n3
                      go_wp2_with (first | (at_mapUpdate; refine put_imap rfl _ _ _ rfl W.heap.size k (lastF l k) rfl HL6.out hml s.th (k : Int) rfl rfl HSO.out.th hci ?_; intro w4 I4 C4; have HI4 := keepH I4; have HC7 := keepH C4; clear I4 C4) | go_in)
                      go_roundw
                      case rel =>
                        refine ⟨k + 1, by omega, by first | rfl | go_num, ?_⟩
                        have ok := HYES.out (HT.out.2 (by simp [HBI.out.1, HBI.out.2]))
                        exact keepH (RI.next HX.out HK.out.right ok HI4.out (by rw [own_two HX.out (by have := HTO.out; omega)]; exact HI3.out.mono (by omega)) HC6.out HC7.out)
                      case measure => simp [intOf]; omega

    · obtain rfl : k = l.length := by omega
      have t1 : ¬ (l.length : Int) < (l.length : Int) := by omega
      go_wp2_with fail
      go_ret
      exact ⟨0, by simp, .inl ⟨HK.out.right, rfl⟩, HK.out.chg⟩
end Go.Proofs.YtfohpbpekdcneaaDoor
