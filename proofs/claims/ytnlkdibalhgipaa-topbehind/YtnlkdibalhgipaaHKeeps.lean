/- hist.Keeps: whatever spans and order: it tells whether the order keeps them. -/
import Derived.Test.YtnlkdibalhgipaaHKeepsP
import Derived.Test.YtnlkdibalhgipaaHRef
import Derived.Test.YtnlkdibalhgipaaHRight
namespace Go.Proofs.Ytnlkdibalhgipaa
open Go.RowKit Go.Maps

def BAt (W : World) (b : Nat) (bs : List Bool) : Prop := W.heap[b]? = some (.cells (bs.map Value.bool).toArray 4)
theorem BAt.lt {W : World} {b : Nat} {bs : List Bool} (h : BAt W b bs) : b < W.heap.size := lt_of h
theorem BAt.cell {W : World} {b : Nat} {bs : List Bool} (h : BAt W b bs) (i : Nat) (x : Bool) (hx : bs[i]? = some x) : W.cell? ⟨b, i, none⟩ = some (.bool x) := by
  rw [cell_of h i]
  simp [hx]
theorem BAt.free {W : World} {b : Nat} {bs : List Bool} (h : BAt W b bs) (i : Nat) : W.frozen? ⟨b, i, none⟩ = false := free_of h i
theorem BAt.chg {W X : World} {b : Nat} {bs : List Bool} {F : Nat → Prop} (h : BAt W b bs) (hc : Chg F W X) (hF : ¬ F b) : BAt X b bs := (hc.block b (lt_of h) hF).trans h
theorem BAt.set {W : World} {b : Nat} {bs : List Bool} (h : BAt W b bs) (i : Nat) (x : Bool) : BAt (W.setCell ⟨b, i, none⟩ (.bool x)) b (bs.set i x) := by
  have e := set_of h i (.bool x)
  unfold BAt
  rw [e]
  congr 2
  simp
theorem BAt.reads {W : World} {b : Nat} {bs : List Bool} (h : BAt W b bs) : BReads W (some ⟨b, 0, none⟩) bs :=
  .inr ⟨b, 0, rfl, lt_of h, fun i x hx => by rw [Nat.zero_add]; exact h.cell i x hx⟩
theorem infoBool : (Try.prog.info? 4).map (fun i => (i.zero, i.size, i.bytes)) = some (some (.bool false), 1, 1) := by kernel_rfl
theorem make_bools (n : Nat) (hn : n ≤ 4398046511104) (u : World) : ∃ w, (Instr.makeSlice 71 (.int .i64 (n : Int)) (.int .i64 (n : Int))).run Try.prog u = .ok (.slice (some ⟨u.heap.size, 0, none⟩) n n) w ∧ BAt w u.heap.size (List.replicate n false) ∧ Chg (fun _ => False) u w := by
  obtain ⟨i0, hi, hz0, hz1, hz2⟩ := info_parts infoBool
  have h := run_make (P := Try.prog) u 71 4 i0 (.bool false) Try.underlying71 hi hz0 .i64 .i64 (n : Int) (n : Int) (by omega) (Int.le_refl _) (by rw [hz2]; omega) (by omega)
  refine ⟨u.alloc (.cells (madeCells #[Value.bool false] n) 4), by simpa [hz1, Value.cells] using h, ?_, (Chg.refl _ _).alloc _⟩
  have e : madeCells #[Value.bool false] n = ((List.replicate n false).map Value.bool).toArray := by
    apply Array.ext'
    rw [toList_madeCells_one]
    simp
  unfold BAt
  rw [e]
  exact heap_alloc_new _ _

structure KI (l : List Sp) (o : List Int) (W wr : World) (k : Nat) (b : Nat) : Prop where
  keep : KeepsTo l o k
  pl : BAt wr b (plN l o k)
  chg : Chg (fun _ => False) W wr
theorem KI.next {l : List Sp} {o : List Int} {W wr wx : World} {k b m : Nat} {a : Int} (h : KI l o W wr k b) (hb : W.heap.size ≤ b) (ha : o[k]? = some a) (hm : m = a.toNat) (ht : KeepAt l o k a) (hc : Chg (fun _ => False) wr wx) : KI l o W (wx.setCell ⟨b, m, none⟩ (.bool true)) (k + 1) b := by
  refine ⟨h.keep.succ ha ht, ?_, ?_⟩
  · rw [plN_succ ha, ← hm]
    exact (h.pl.chg hc (fun x => x)).set m true
  · exact (h.chg.trans hc (H := fun _ => False) (fun _ _ x => x) (fun _ _ x => x)).setCell (fun hlt => absurd hlt (Nat.not_lt.2 hb)) _
theorem AllIn.succ {l : List Sp} {o : List Int} {k : Nat} {s : Sp} (h : AllIn l o k) (hs : l[k]? = some s) (hi : 0 ≤ s.to → ∃ i : Nat, o[i]? = some (k : Int)) : AllIn l o (k + 1) := fun n t hn ht h0 => by
  by_cases e : n = k
  · subst e
    rw [hs] at ht
    simp at ht
    subst ht
    exact hi h0
  · exact h n t (by omega) ht h0
theorem placed_iff {l : List Sp} {o : List Int} {n : Nat} {b : Bool} (h : KeepsTo l o o.length) (hn : n < l.length) (hb : (plN l o o.length)[n]? = some b) : b = true ↔ ∃ i : Nat, o[i]? = some (n : Int) := by
  obtain ⟨b', hb', hi⟩ := plN_get (l := l) (Nat.le_refl _) (fun i x hx h1 => (h.each i x hx h1).1) hn
  rw [hb] at hb'
  simp at hb'
  subst hb'
  rw [hi]
  exact ⟨fun ⟨i, _, q⟩ => ⟨i, q⟩, fun ⟨i, q⟩ => ⟨i, (List.getElem?_eq_some_iff.1 q).1, q⟩⟩

set_option maxRecDepth 100000 in
set_option maxHeartbeats 8000000 in
theorem h_keeps (p q : Option Addr) (c d : Nat) (l : List Sp) (o : List Int) (W : World) (h : SReads W p l) (ho : IReads W q o) (hl : l.length ≤ 4398046511104) (hol : o.length ≤ 17592186044416) :
    Calls Try.prog 11 #[.slice p l.length c, .slice q o.length d] W fun e W' => ∃ v, e = .returned v ∧ (KeepsP l o ∧ v = .bool true ∨ ¬ KeepsP l o ∧ v = .bool false) ∧ Chg (fun _ => False) W W' := by
  obtain ⟨w0, hmk, hB0, hC0⟩ := make_bools l.length hl W
  have HS : Hid (KI l o W w0 0 W.heap.size) := ⟨KeepsTo.zero l o, hB0, hC0⟩
  have HP := keepH h
  have HO := keepH ho
  obtain ⟨gb, hgb⟩ : ∃ gb, gb = W.heap.size := ⟨_, rfl⟩
  have HGB : Hid (W.heap.size ≤ gb) := by show _ ≤ _; omega
  rw [← hgb] at hmk HS
  clear h ho hB0 hC0 hgb
  go_enter Try.func11, Try.ntmps11
  go_wp2_with fail
  clear hmk
  go_loopw [6, 17] (fun s6 s wr => ∃ k : Nat, k ≤ o.length ∧ s6 = .int .i64 (lateN l o k) ∧ s = .int .i64 (k : Int) ∧ Hid (KI l o W wr k gb)) (fun _ s _ => o.length - (intOf s).toNat)
  case atStart => exact ⟨0, by omega, rfl, rfl, HS⟩
  case round =>
    clear HS
    obtain ⟨k, hk, rfl, rfl, HK⟩ := hrel
    obtain ⟨late, hlate⟩ : ∃ late, late = lateN l o k := ⟨_, rfl⟩
    rw [← hlate]
    have HLT := keepH hlate
    clear hlate
    by_cases hlt : k < o.length
    · have t1 : (k : Int) < (o.length : Int) := by omega
      obtain ⟨a, ha⟩ : ∃ a, o[k]? = some a := ⟨o[k], List.getElem?_eq_getElem hlt⟩
      obtain ⟨bo, oo, rfl, _, c0⟩ := (HO.out.chg HK.out.chg (fun _ _ x => x)).get k a ha
      have HA := keepH ha
      clear ha
      have no : ∀ wz, Chg (fun _ => False) wr wz → ¬ KeepAt l o k a → ∃ v, Value.bool false = v ∧ (KeepsP l o ∧ v = .bool true ∨ ¬ KeepsP l o ∧ v = .bool false) ∧ Chg (fun _ => False) W wz := fun wz hz hn =>
        ⟨_, rfl, .inr ⟨KeepsP.not HA.out hn, rfl⟩, HK.out.chg.trans hz (fun _ _ x => x) (fun _ _ x => x)⟩
      have NO := keepH no
      clear no
      by_cases h1 : a < 0
      · have HH1 := keepH h1
        go_wp2_with fail
        go_ret
        obtain ⟨v, e1, e2, e3⟩ := NO.out wr (Chg.refl _ _) (fun t => by have := t.lo; have := HH1.out; omega)
        exact ⟨v, by rw [← e1]; simp, e2, e3⟩
      · by_cases h2 : (l.length : Int) ≤ a
        · have HH2 := keepH h2
          go_wp2_with fail
          go_ret
          obtain ⟨v, e1, e2, e3⟩ := NO.out wr (Chg.refl _ _) (fun t => by have := t.hi; have := HH2.out; omega)
          exact ⟨v, by rw [← e1]; simp, e2, e3⟩
        · obtain ⟨m, hm⟩ : ∃ m : Nat, a = (m : Int) := ⟨a.toNat, by omega⟩
          subst hm
          have t2 : (m : Int) < (l.length : Int) := by omega
          have hml : m < l.length := by omega
          obtain ⟨s, hs⟩ : ∃ s, l[m]? = some s := ⟨l[m], List.getElem?_eq_getElem hml⟩
          obtain ⟨b, hb⟩ : ∃ b, (plN l o k)[m]? = some b := ⟨(plN l o k)[m]'(by rw [plN_length]; exact hml), List.getElem?_eq_getElem _⟩
          have HKT : Hid (KeepAt l o k (m : Int) ↔ b = false ∧ ¬ (0 ≤ s.to ∧ s.to < late)) := by
            have e := keep_test (s := s) (b := b) hk HK.out.keep (a := (m : Int)) (by omega) t2 hs hb
            rw [← HLT.out] at e
            exact e
          have f0 : wr.cell? ⟨gb, m, none⟩ = some (.bool b) := HK.out.pl.cell m b hb
          obtain ⟨bk, off, rfl, _, d0, d1, d2, d3⟩ := (HP.out.chg HK.out.chg (fun _ _ x => x)).get m s hs
          have HX := keepH hs
          have HBM := keepH hb
          have dm : decide ((m : Int) < 0) = false := by simp
          clear hs hb h2
          cases b with
          | true =>
            go_wp2_with fail
            go_ret
            obtain ⟨v, e1, e2, e3⟩ := NO.out wr (Chg.refl _ _) (fun t => by have := (HKT.out.1 t).1; simp at this)
            exact ⟨v, by rw [← e1]; simp, e2, e3⟩
          | false =>
            go_wp2_with fail
            obtain ⟨w1, hw1⟩ : ∃ w1, w1 = wr.alloc (.cells #[.int .i64 s.th, .int .i64 s.ix, .int .i64 s.fr, .int .i64 s.to] 43) := ⟨_, rfl⟩
            have HB : Hid (BoxAt w1 wr.heap.size s) := by rw [hw1]; exact heap_alloc_new _ _
            have HC1 : Hid (Chg (fun _ => False) wr w1) := by rw [hw1]; exact (Chg.refl _ _).alloc _
            rw [← hw1]
            clear hw1 d0 d1 d2 d3 c0 f0
            obtain ⟨gx, hgx⟩ : ∃ gx, gx = wr.heap.size := ⟨_, rfl⟩
            rw [← hgx] at HB
            rw [← hgx]
            have HGX : Hid (gb ≠ gx) := by have := HK.out.pl.lt; show _ ≠ _; omega
            clear hgx
            by_cases h3 : s.to < 0
            · have hp : decide (s.to < 0) = true := by simp [h3]
              refine (h_pending_b hp _).mono ?_
              rintro e w2 ⟨rfl, C2⟩
              have HC2 := keepH (HC1.out.trans C2 (H := fun _ => False) (fun _ _ x => x) (fun _ _ x => x))
              have HBX := keepH (HB.out.chg C2 (fun x => x))
              obtain ⟨k0, k1, k2, k3⟩ := HBX.out.cells
              have fz := (HK.out.pl.chg HC2.out (fun x => x)).free m
              have fc := (HK.out.pl.chg HC2.out (fun x => x)).cell m false HBM.out
              have kz : (w2.setCell ⟨gb, m, none⟩ (.bool true)).cell? ⟨gx, 2, none⟩ = some (.int .i64 s.fr) := (cell_of (other_of HBX.out (fun e => HGX.out e.symm) (.bool true)) 2).trans rfl
              have TA : Hid (KeepAt l o k (m : Int)) := HKT.out.2 ⟨by first | rfl | trivial, fun h => by omega⟩
              clear C2 hp h3
              by_cases h5 : late < s.fr
              · have h6 : ¬ s.fr < late := by omega
                go_wp2_with fail
                go_roundw
                case rel =>
                  refine ⟨k + 1, by omega, ?_, by first | rfl | go_num, keepH (HK.out.next HGB.out HA.out rfl TA.out HC2.out)⟩
                  rw [lateN_succ HA.out (by simpa using HX.out), ← HLT.out]
                  first | rfl | (simp; omega) | (congr 1; omega)
                case measure => simp [intOf]; omega
              · skip
                go_wp2_with fail
                go_roundw
                case rel =>
                  refine ⟨k + 1, by omega, ?_, by first | rfl | go_num, keepH (HK.out.next HGB.out HA.out rfl TA.out HC2.out)⟩
                  rw [lateN_succ HA.out (by simpa using HX.out), ← HLT.out]
                  first | rfl | (simp; omega) | (congr 1; omega)
                case measure => simp [intOf]; omega
            · have hp : decide (s.to < 0) = false := by simp; omega
              refine (h_pending_b hp _).mono ?_
              rintro e w2 ⟨rfl, C2⟩
              have HC2 := keepH (HC1.out.trans C2 (H := fun _ => False) (fun _ _ x => x) (fun _ _ x => x))
              have HBX := keepH (HB.out.chg C2 (fun x => x))
              obtain ⟨k0, k1, k2, k3⟩ := HBX.out.cells
              clear C2 hp
              by_cases h4 : s.to < late
              · go_wp2_with fail
                go_ret
                obtain ⟨v, e1, e2, e3⟩ := NO.out w2 HC2.out (fun t => (HKT.out.1 t).2 ⟨by omega, by omega⟩)
                exact ⟨v, by rw [← e1]; simp, e2, e3⟩
              · have fz := (HK.out.pl.chg HC2.out (fun x => x)).free m
                have fc := (HK.out.pl.chg HC2.out (fun x => x)).cell m false HBM.out
                have kz : (w2.setCell ⟨gb, m, none⟩ (.bool true)).cell? ⟨gx, 2, none⟩ = some (.int .i64 s.fr) := (cell_of (other_of HBX.out (fun e => HGX.out e.symm) (.bool true)) 2).trans rfl
                have TA : Hid (KeepAt l o k (m : Int)) := HKT.out.2 ⟨by first | rfl | trivial, fun h => by omega⟩
                by_cases h5 : late < s.fr
                · have h6 : ¬ s.fr < late := by omega
                  go_wp2_with fail
                  go_roundw
                  case rel =>
                    refine ⟨k + 1, by omega, ?_, by first | rfl | go_num, keepH (HK.out.next HGB.out HA.out rfl TA.out HC2.out)⟩
                    rw [lateN_succ HA.out (by simpa using HX.out), ← HLT.out]
                    first | rfl | (simp; omega) | (congr 1; omega)
                  case measure => simp [intOf]; omega
                · skip
                  go_wp2_with fail
                  go_roundw
                  case rel =>
                    refine ⟨k + 1, by omega, ?_, by first | rfl | go_num, keepH (HK.out.next HGB.out HA.out rfl TA.out HC2.out)⟩
                    rw [lateN_succ HA.out (by simpa using HX.out), ← HLT.out]
                    first | rfl | (simp; omega) | (congr 1; omega)
                  case measure => simp [intOf]; omega
    · obtain rfl : k = o.length := by omega
      have t1 : ¬ (o.length : Int) < (o.length : Int) := by omega
      go_wp2_with fail
      obtain ⟨we, hwe⟩ : ∃ we, we = wr := ⟨_, rfl⟩
      rw [← hwe] at HK ⊢
      clear hwe HLT
      go_loopw [58] (fun s wx => ∃ j : Nat, j ≤ l.length ∧ s = .int .i64 (j : Int) ∧ Hid (AllIn l o j ∧ Chg (fun _ => False) we wx)) (fun s _ => l.length - (intOf s).toNat)
      case atStart => exact ⟨0, by omega, rfl, keepH ⟨fun n s hn => by omega, Chg.refl _ _⟩⟩
      case round =>
        obtain ⟨wx, hwx⟩ : ∃ wx, wx = wr := ⟨_, rfl⟩
        rw [← hwx] at hrel ⊢
        clear hwx
        obtain ⟨j, hj, rfl, HJ⟩ := hrel
        have HCX := keepH (HK.out.chg.trans HJ.out.2 (H := fun _ => False) (fun _ _ x => x) (fun _ _ x => x))
        by_cases hjl : j < l.length
        · have t2 : (j : Int) < (l.length : Int) := by omega
          obtain ⟨s, hs⟩ : ∃ s, l[j]? = some s := ⟨l[j], List.getElem?_eq_getElem hjl⟩
          obtain ⟨b, hb⟩ : ∃ b, (plN l o o.length)[j]? = some b := ⟨(plN l o o.length)[j]'(by rw [plN_length]; exact hjl), List.getElem?_eq_getElem _⟩
          have HPI := keepH (placed_iff HK.out.keep hjl hb)
          have HPB : Hid (BAt wx gb (plN l o o.length)) := HK.out.pl.chg HJ.out.2 (fun x => x)
          have HBB := keepH hb
          obtain ⟨bk, off, rfl, _, d0, d1, d2, d3⟩ := (HP.out.chg HCX.out (fun _ _ x => x)).get j s hs
          have HX := keepH hs
          clear hs hb
          go_wp2_with fail
          obtain ⟨w1, hw1⟩ : ∃ w1, w1 = wx.alloc (.cells #[.int .i64 s.th, .int .i64 s.ix, .int .i64 s.fr, .int .i64 s.to] 43) := ⟨_, rfl⟩
          have HC1 : Hid (Chg (fun _ => False) wx w1) := by rw [hw1]; exact (Chg.refl _ _).alloc _
          rw [← hw1]
          clear hw1 d0 d1 d2 d3
          by_cases h3 : s.to < 0
          · have hp : decide (s.to < 0) = true := by simp [h3]
            refine (h_pending_b hp _).mono ?_
            rintro e w2 ⟨rfl, C2⟩
            have HC2 := keepH (HC1.out.trans C2 (H := fun _ => False) (fun _ _ x => x) (fun _ _ x => x))
            have HH3 := keepH h3
            clear C2 hp h3
            go_wp2_with fail
            go_roundw
            case rel => exact ⟨j + 1, by omega, by first | rfl | go_num, keepH ⟨HJ.out.1.succ HX.out (fun h => by have := HH3.out; omega), HJ.out.2.trans HC2.out (fun _ _ x => x) (fun _ _ x => x)⟩⟩
            case measure => simp [intOf]; omega
          · have hp : decide (s.to < 0) = false := by simp; omega
            refine (h_pending_b hp _).mono ?_
            rintro e w2 ⟨rfl, C2⟩
            have HC2 := keepH (HC1.out.trans C2 (H := fun _ => False) (fun _ _ x => x) (fun _ _ x => x))
            have f0 : w2.cell? ⟨gb, j, none⟩ = some (.bool b) := (HPB.out.chg HC2.out (fun x => x)).cell j b HBB.out
            have HH3 := keepH h3
            clear C2 hp h3
            cases b with
            | true =>
              go_wp2_with fail
              go_roundw
              case rel => exact ⟨j + 1, by omega, by first | rfl | go_num, keepH ⟨HJ.out.1.succ HX.out (fun _ => HPI.out.1 (by first | rfl | trivial)), HJ.out.2.trans HC2.out (fun _ _ x => x) (fun _ _ x => x)⟩⟩
              case measure => simp [intOf]; omega
            | false =>
              go_wp2_with fail
              go_ret
              refine ⟨.bool false, by simp, .inr ⟨fun hK => ?_, rfl⟩, HCX.out.trans HC2.out (fun _ _ x => x) (fun _ _ x => x)⟩
              have := HPI.out.2 (hK.2 j s hjl HX.out (by have := HH3.out; omega))
              simp at this
        · obtain rfl : j = l.length := by omega
          have t2 : ¬ (l.length : Int) < (l.length : Int) := by omega
          go_wp2_with fail
          go_ret
          exact ⟨.bool true, by simp, .inl ⟨⟨HK.out.keep, HJ.out.1⟩, rfl⟩, HCX.out⟩
end Go.Proofs.Ytnlkdibalhgipaa
