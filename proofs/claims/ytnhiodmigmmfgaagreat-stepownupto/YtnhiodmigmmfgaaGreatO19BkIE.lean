/- The book's look at its lists of ints: where they share no memory it tells true. -/
import Derived.Test.YtnhiodmigmmfgaaGreatO18BkGs
namespace Go.Proofs.YtnhiodmigmmfgaaGreat
open Go.RowKit Go.Maps Go.Shelf

theorem infoLists : (Tryz.prog.info? 23).map (fun i => (i.zero, i.size, i.bytes)) = some (some (.slice none 0 0), 1, 24) := by kernel_rfl
set_option maxRecDepth 100000 in
set_option maxHeartbeats 16000000 in
theorem alone_g (Bk n : Nat) (ov : Value) (v : Nat → Value) (len : Nat → Nat) (w : World) (hn : n ≤ 8388608) (hn0 : 0 < n) (hb : BkB w Bk ov n v) (hr : RowsM w n v len (fun _ => 0)) (ha : Apart n v) (hlen : ∀ j, j < n → len j ≤ 4398046511000) :
    Calls Tryz.prog 55 #[.pointer (some ⟨Bk, 0, none⟩)] w fun e w' => e = .returned (.bool true) ∧ Chg (Fv n v) w w' := by
  obtain ⟨i0, hi, hz0, hz1, hz2⟩ := info_parts infoInt
  obtain ⟨i1, hi1, hy0, hy1, hy2⟩ := info_parts infoLists
  obtain ⟨go, co, rfl⟩ := slice_pos hb.outer hn0
  have HB := keepH hb
  have HR := keepH hr
  have HA := keepH ha
  have HLEN := keepH hlen
  have HI0 := keepH hi
  have HI1 := keepH hi1
  clear hb hr ha hlen hi hi1
  go_enter Tryz.func55, Tryz.ntmps55
  go_wp2_with fail
  go_loopw [3] (fun s wr => ∃ i : Nat, i ≤ n ∧ s = .int .i64 (i : Int) ∧ Hid (BkB wr Bk (.slice (some ⟨go, 0, none⟩) n co) n v ∧ RowsM wr n v len (fun j => if j < i then len j else 0) ∧ Chg (Fv n v) w wr)) (fun s _ => n - (intOf s).toNat)
  case atStart => exact ⟨0, by omega, rfl, keepH ⟨HB.out, by simpa using HR.out, Chg.refl _ _⟩⟩
  case round =>
    obtain ⟨i, hin, rfl, HK⟩ := hrel
    have c1 := HK.out.1.cell
    by_cases hlt : i < n
    · have t1 : (i : Int) < (n : Int) := by omega
      obtain ⟨xs, hx, hx2⟩ := HK.out.2.1 i hlt
      obtain ⟨pi, ci, hvi⟩ := slice_of hx
      obtain ⟨li, hli⟩ : ∃ li, li = len i := ⟨_, rfl⟩
      have hlib : li ≤ 4398046511000 := by rw [hli]; exact HLEN.out i hlt
      rw [← hli] at hvi
      have c2 := HK.out.1.at i hlt
      rw [hvi] at c2
      have HVI := keepH hvi
      have HLI := keepH hli
      clear hx2 hx hvi hli xs
      go_wp2_with fail
      clear c1 c2
      go_loopw [4] (fun s wx => ∃ k : Nat, k ≤ li ∧ s = .int .i64 (k : Int) ∧ Hid (BkB wx Bk (.slice (some ⟨go, 0, none⟩) n co) n v ∧ RowsM wx n v len (fun j => if j < i then len j else if j = i then k else 0) ∧ Chg (Fv n v) w wx)) (fun s _ => li - (intOf s).toNat)
      case atStart => exact ⟨0, by omega, rfl, keepH ⟨HK.out.1, HK.out.2.1.weak (fun j hj => by split; exact Nat.le_refl _; split <;> exact Nat.zero_le _), HK.out.2.2⟩⟩
      case round =>
        obtain ⟨wx, hwx⟩ : ∃ wx, wx = wr := ⟨_, rfl⟩
        rw [← hwx] at hrel ⊢
        clear hwx
        obtain ⟨k, hk, rfl, HJ⟩ := hrel
        have c1 := HJ.out.1.cell
        have c2 := HJ.out.1.at i hlt
        rw [HVI.out] at c2
        by_cases hkl : k < li
        · have t2 : (k : Int) < (li : Int) := by omega
          obtain ⟨xs, hx, _⟩ := HJ.out.2.1 i hlt
          rw [HVI.out, ← HLI.out] at hx
          obtain ⟨g, cg, hg⟩ := slice_pos hx (by omega)
          simp only [Value.slice.injEq, true_and] at hg
          obtain ⟨rfl, rfl⟩ := hg
          obtain ⟨y, hy⟩ : ∃ y, xs[k]? = some y := ⟨xs[k]'(by have := hx.1; omega), List.getElem?_eq_getElem _⟩
          have c3 : wx.cell? ⟨g, k, none⟩ = some y := by rw [← hy]; exact row_cellV hx k hkl
          obtain ⟨cur, hcur⟩ := row_block hx g rfl
          have fz : wx.frozen? ⟨g, k, none⟩ = false := free_of hcur k
          have hne := HJ.out.1.ne hx
          have HBN : Hid (BkB (wx.setCell ⟨g, k, none⟩ (mark i)) Bk (.slice (some ⟨go, 0, none⟩) n co) n v) := HJ.out.1.kept (Below.heap_setCell wx ⟨g, k, none⟩ (mark i) Bk (fun e => hne.1 (by rw [e]; rfl))) (fun b hb => Below.heap_setCell wx ⟨g, k, none⟩ (mark i) b (fun e => hne.2 b hb (by rw [e]; rfl)))
          have HRN : Hid (RowsM (wx.setCell ⟨g, k, none⟩ (mark i)) n v len (fun j => if j < i then len j else if j = i then k + 1 else 0)) := HJ.out.2.1.put HA.out hlt (by rw [← HLI.out]; exact hkl) (by rw [HVI.out, ← HLI.out]) (fun j q hj hq => by
            by_cases e1 : j < i
            · simp only [if_pos e1] at hq ⊢; exact .inl hq
            · by_cases e2 : j = i
              · simp only [if_neg e1, if_pos e2] at hq ⊢
                by_cases e3 : q = k
                · exact .inr ⟨e2, e3⟩
                · exact .inl (by omega)
              · simp only [if_neg e1, if_neg e2] at hq; omega)
          have HCN : Hid (Chg (Fv n v) w (wx.setCell ⟨g, k, none⟩ (mark i))) := HJ.out.2.2.setCell (fun _ => ⟨i, hlt, by rw [HVI.out]; rfl⟩) _
          clear hx hy hcur hne
          go_wp2_with fail
          go_roundw
          case rel => exact ⟨k + 1, by omega, by first | rfl | go_num, keepH ⟨HBN.out, HRN.out, HCN.out⟩⟩
          case measure => simp [intOf]; omega
        · obtain rfl : k = li := by omega
          have t2 : ¬ (k : Int) < (k : Int) := by omega
          go_wp2_with fail
          go_roundw
          case rel =>
            refine ⟨i + 1, by omega, by first | rfl | go_num, keepH ⟨HJ.out.1, HJ.out.2.1.weak (fun j hj => ?_), HJ.out.2.2⟩⟩
            by_cases e1 : j < i
            · simp only [if_pos e1, if_pos (show j < i + 1 by omega)]; exact Nat.le_refl _
            · by_cases e2 : j = i
              · simp only [if_neg e1, if_pos e2, if_pos (show j < i + 1 by omega)]; rw [e2, HLI.out]; exact Nat.le_refl _
              · simp only [if_neg (show ¬ j < i + 1 by omega)]; exact Nat.zero_le _
          case measure => simp [intOf]; omega
    · obtain rfl : i = n := by omega
      have t1 : ¬ (i : Int) < (i : Int) := by omega
      obtain ⟨wa, hwa⟩ : ∃ wa, wa = wr := ⟨_, rfl⟩
      rw [← hwa] at HK c1 ⊢
      clear hwa
      have HF : Hid (∀ j, j < i → wa.ownsRow 0 3 1 (v j) (len j) (List.replicate (len j) (mark j))) := fun j hj => by
        obtain ⟨xs, h1, h2⟩ := HK.out.2.1 j hj
        have e := all_marks (n := len j) (x := mark j) (by have := h1.1; omega) (fun q hq => h2 q (by simp only [if_pos hj]; exact hq))
        rw [← e]
        exact h1
      have HBV : Hid (BV wa i v) := ⟨HA.out, fun j b hj hb => row_lt (HF.out j hj) b hb, fun j hj => row_form (HF.out j hj)⟩
      have HBK : Hid (∀ X, Chg (Fv i v) wa X → BkB X Bk (.slice (some ⟨go, 0, none⟩) i co) i v) := fun X hX => HK.out.1.kept (hX.block Bk HK.out.1.lt (fun ⟨j, hj, e⟩ => (HK.out.1.ne (HF.out j hj)).1 e)) (fun b hb => hX.block b (row_lt HK.out.1.outer b hb) (fun ⟨j, hj, e⟩ => (HK.out.1.ne (HF.out j hj)).2 b hb e))
      have HCW : Hid (Chg (Fv i v) w wa) := HK.out.2.2
      have H20 : Hid (B2 wa wa i v len 0 (fun _ => .slice none 0 0) (.slice none 0 0)) := ⟨fun j _ hj => HF.out j hj, fun j hj q hq => by rw [row_cellV (HF.out j hj) q hq, List.getElem?_replicate, if_pos hq], fun j hj => by omega, World.ownsRow_nil _ _ _ _, fun b hb => by simp [Value.ownBlock] at hb, Chg.refl _ _⟩
      go_wp2_with fail
      clear c1 t1 HK HB HR
      go_loopw [5, 6] (fun av s wx => ∃ (m : Nat) (gs : Nat → Value), m ≤ i ∧ s = .int .i64 (m : Int) ∧ Hid (B2 wa wx i v len m gs av)) (fun _ s _ => i - (intOf s).toNat)
      case atStart => exact ⟨0, _, by omega, rfl, H20⟩
      case round =>
        clear H20
        obtain ⟨wi, hwi⟩ : ∃ wi, wi = wr := ⟨_, rfl⟩
        rw [← hwi] at hrel ⊢
        clear hwi
        obtain ⟨m, gs, hm, rfl, H2⟩ := hrel
        obtain ⟨av, hav⟩ : ∃ av, av = u5 := ⟨_, rfl⟩
        rw [← hav] at H2 ⊢
        clear hav
        have c1 := (HBK.out wi H2.out.chg).cell
        by_cases hmi : m < i
        · have t2 : (m : Int) < (i : Int) := by omega
          have c2 := (HBK.out wi H2.out.chg).at m hmi
          obtain ⟨pi, ci, hvi⟩ := slice_of (H2.out.rows m (Nat.le_refl _) hmi)
          obtain ⟨li, hli⟩ : ∃ li, li = len m := ⟨_, rfl⟩
          have hlib : li ≤ 4398046511000 := by rw [hli]; exact HLEN.out m hmi
          rw [← hli] at hvi
          rw [hvi] at c2
          have HVI := keepH hvi
          have HLI := keepH hli
          have HG0 : Hid (G2 wi wi (v m) li m 0 (.slice pi li ci)) := by
            have r := H2.out.rows m (Nat.le_refl _) hmi
            rw [← hli] at r
            exact ⟨by rw [← hvi]; exact r, fun q hq => by rw [row_cellV r q hq, List.getElem?_replicate, if_pos hq], .inl (by rw [hvi]), Chg.refl _ _, HBV.out.form m hmi, fun b hb => row_lt r b hb⟩
          clear hvi hli
          go_wp2_with fail
          clear c1 c2
          go_loopw [7, 8] (fun gv s wx => ∃ k : Nat, k ≤ 20 ∧ s = .int .i64 (k : Int) ∧ Hid (G2 wi wx (v m) li m k gv)) (fun _ s _ => 20 - (intOf s).toNat)
          case atStart => exact ⟨0, by omega, rfl, HG0⟩
          case round =>
            clear HG0
            obtain ⟨wx, hwx⟩ : ∃ wx, wx = wr := ⟨_, rfl⟩
            rw [← hwx] at hrel ⊢
            clear hwx
            obtain ⟨k, hk, rfl, HG⟩ := hrel
            obtain ⟨gv, hgv⟩ : ∃ gv, gv = u7 := ⟨_, rfl⟩
            rw [← hgv] at HG ⊢
            clear hgv
            by_cases hk20 : k < 20
            · have t3 : (k : Int) < 20 := by omega
              have hi := HI0.out
              go_wp2_with (first | (at_builtin; refine wpList_append_two _ rfl (.tmp 66) (.tmp 69) 23 rfl 3 i0 (.int .i64 0) 1 8 Tryz.underlying23 hi hz0 hz1 hz2 rfl (by decide) gv (li + k) (List.replicate (li + k) (mark m)) rfl (HG.out.row.alloc _) ⟨wx.heap.size, 0, none⟩ 1 1 [.int .i64 (-7 - (m : Int))] rfl rfl (cells_new _ _ rfl _ _) (by intro u hu; simp at hu; subst hu; rfl) (by decide) (by unfold maxLen; omega) (by omega) ?_; intro v2 w2 r1 r2; have R1 := keepH r1; have R2 := keepH r2; clear r1 r2) | go_in)
              go_roundw
              case rel => exact ⟨k + 1, by omega, by first | rfl | go_num, keepH (HG.out.more R1.out R2.out)⟩
              case measure => simp [intOf]; omega
            · obtain rfl : k = 20 := by omega
              have t3 : ¬ (20 : Int) < 20 := by omega
              obtain ⟨hb, cb, hgv⟩ := slice_pos HG.out.row (by omega)
              subst hgv
              have hi1 := HI1.out
              have HAR : Hid (wx.ownsRow 0 23 1 av m (LV gs m)) := row_kept H2.out.all fun b hb2 => HG.out.chg.block b (row_lt H2.out.all b hb2) (fun e => by have := HBV.out.lt m b hmi e; have := H2.out.alln b hb2; omega)
              have hmb : m + 1 ≤ 10000000 := by omega
              go_wp2_with (first | (at_builtin; refine wpList_append_own_at _ rfl (.tmp 71) (.tmp 73) 44 rfl 0 23 i1 (.slice none 0 0) 1 24 Tryz.underlying44 hi1 hy0 hy1 hy2 rfl (by decide) av m (LV gs m) rfl (HAR.out.alloc _) ⟨wx.heap.size, 0, none⟩ 1 1 [.slice (some ⟨hb, 0, none⟩) (li + 20) cb] rfl rfl (cells_new _ _ rfl _ _) (by intro u hu; simp at hu; subst hu; rfl) (by unfold maxLen; omega) (by omega) (Nat.zero_le _) ?_; intro v3 w3 r1 r2 r3 r4; have R1 := keepH r1; have R2 := keepH r2; have R4 := keepH r4; clear r1 r2 r3 r4) | go_in)
              have HGL : Hid (G2 wi wx (v m) (len m) m 20 (.slice (some ⟨hb, 0, none⟩) (li + 20) cb)) := by have e := HG.out; rw [HLI.out] at e ⊢; exact e
              go_roundw
              case rel => exact ⟨m + 1, _, by omega, by first | rfl | go_num, keepH (B2.next HBV.out H2.out hmi HGL.out R1.out R2.out R4.out)⟩
              case measure => simp [intOf]; omega
        · obtain rfl : m = i := by omega
          have t2 : ¬ (m : Int) < (m : Int) := by omega
          obtain ⟨pa, ca, hpa⟩ := slice_pos H2.out.all hn0
          subst hpa
          have HCE : Hid (Chg (Fv m v) w wi) := HCW.out.trans H2.out.chg (fun _ _ x => x) (fun _ _ x => x)
          go_wp2_with fail
          clear c1 t2
          go_loopw [9] (fun s wx => ∃ j : Nat, j ≤ m ∧ s = .int .i64 (j : Int) ∧ Hid (wx = wi)) (fun s _ => m - (intOf s).toNat)
          case atStart => exact ⟨0, by omega, rfl, by first | exact keepH rfl | exact keepH trivial⟩
          case round =>
            obtain ⟨j, hj, rfl, HW⟩ := hrel
            have e1 : wr = wi := HW.out
            rw [e1]
            clear e1 HW
            by_cases hjm : j < m
            · have t3 : (j : Int) < (m : Int) := by omega
              obtain ⟨hx, dx, q1, q2, _, q4, _⟩ := H2.out.gf j hjm
              have a1 : wi.cell? ⟨pa, j, none⟩ = some (.slice (some ⟨hx, 0, none⟩) (len j + 20) dx) := by
                have e := row_cellV H2.out.all j hjm
                rw [cellV_some, LV_get gs m j hjm, q1] at e
                exact e
              obtain ⟨li, hli⟩ : ∃ li, li = len j := ⟨_, rfl⟩
              have hlib : li ≤ 4398046511000 := by rw [hli]; exact HLEN.out j hjm
              obtain ⟨l20, hl20⟩ : ∃ l20, l20 = li + 20 := ⟨_, rfl⟩
              rw [← hli, ← hl20] at a1 q4
              have HQ4 := keepH q4
              have HLI := keepH hli
              have hl20b : l20 ≤ 4398046511020 := by omega
              clear q1 q2 q4 hli hl20
              go_wp2_with fail
              go_loopw [10] (fun s wx => ∃ k : Nat, k ≤ l20 ∧ s = .int .i64 (k : Int) ∧ Hid (wx = wi)) (fun s _ => l20 - (intOf s).toNat)
              case atStart => exact ⟨0, by omega, rfl, by first | exact keepH rfl | exact keepH trivial⟩
              case round =>
                obtain ⟨k, hk, rfl, HW⟩ := hrel
                have e1 : wr = wi := HW.out
                rw [e1]
                clear e1 HW
                by_cases hkl : k < l20
                · have t4 : (k : Int) < (l20 : Int) := by omega
                  have a2 : wi.cell? ⟨hx, k, none⟩ = some (.int .i64 (-7 - (j : Int))) := HQ4.out k hkl
                  go_wp2_with fail
                  go_roundw
                  case rel => exact ⟨k + 1, by omega, by first | rfl | go_num, by first | exact keepH rfl | exact keepH trivial⟩
                  case measure => simp [intOf]; omega
                · obtain rfl : k = l20 := by omega
                  have t4 : ¬ (k : Int) < (k : Int) := by omega
                  have c1 := (HBK.out wi H2.out.chg).cell
                  have c2 := (HBK.out wi H2.out.chg).at j hjm
                  obtain ⟨pj, nj, cj, hvj, hpj⟩ := HBV.out.form j hjm
                  have hvl : nj = li := by
                    obtain ⟨p', c', e⟩ := slice_of (HF.out j hjm)
                    rw [hvj] at e
                    simp only [Value.slice.injEq] at e
                    rw [HLI.out]
                    exact e.2.1
                  subst hvl
                  rw [hvj] at c2
                  have HVJ := keepH hvj
                  have HPJ := keepH hpj
                  clear hvj hpj
                  go_wp2_with fail
                  go_loopw [12] (fun s wx => ∃ k : Nat, k ≤ nj ∧ s = .int .i64 (k : Int) ∧ Hid (wx = wi)) (fun s _ => nj - (intOf s).toNat)
                  case atStart => exact ⟨0, by omega, rfl, by first | exact keepH rfl | exact keepH trivial⟩
                  case round =>
                    obtain ⟨k2, hk2, rfl, HW⟩ := hrel
                    have e1 : wr = wi := HW.out
                    rw [e1]
                    clear e1 HW
                    by_cases hkn : k2 < nj
                    · have t5 : (k2 : Int) < (nj : Int) := by omega
                      have hq := H2.out.rv j hjm k2 (by rw [← HLI.out]; exact hkn)
                      rw [HVJ.out] at hq
                      cases pj with
                      | none => simp [cellV] at hq
                      | some ad =>
                        obtain ⟨bl, off, spot⟩ := ad
                        obtain ⟨rfl, rfl⟩ := HPJ.out _ rfl
                        have a3 : wi.cell? ⟨bl, k2, none⟩ = some (.int .i64 (-7 - (j : Int))) := hq
                        clear hq
                        go_wp2_with fail
                        go_roundw
                        case rel => exact ⟨k2 + 1, by omega, by first | rfl | go_num, by first | exact keepH rfl | exact keepH trivial⟩
                        case measure => simp [intOf]; omega
                    · obtain rfl : k2 = nj := by omega
                      have t5 : ¬ (k2 : Int) < (k2 : Int) := by omega
                      go_wp2_with fail
                      go_roundw
                      case rel => exact ⟨j + 1, by omega, by first | rfl | go_num, by first | exact keepH rfl | exact keepH trivial⟩
                      case measure => simp [intOf]; omega
            · obtain rfl : j = m := by omega
              have t3 : ¬ (j : Int) < (j : Int) := by omega
              go_wp2_with fail
              go_ret
              exact ⟨by simp, HCE.out⟩
end Go.Proofs.YtnhiodmigmmfgaaGreat
/- A book's lists of events, of any lengths: what lies where, marked, grown. -/
namespace Go.Proofs.YtnhiodmigmmfgaaGreat
open Go.RowKit Go.Maps Go.Shelf

def markE (j : Nat) : Ev := ⟨-7 - (j : Int), 0, 0, false⟩
def mC (j q : Nat) : Option Value := (markE j).cells[q % 4]?
theorem evRow_snoc (l : List Ev) (e : Ev) : evRow (l ++ [e]) = evRow l ++ e.cells := by simp [evRow]
theorem evR_get {n j q : Nat} (h : q < n * 4) : (evRow (List.replicate n (markE j)))[q]? = mC j q := by
  induction n generalizing q with
  | zero => omega
  | succ n ih =>
    have e : evRow (List.replicate (n + 1) (markE j)) = (markE j).cells ++ evRow (List.replicate n (markE j)) := rfl
    rw [e]
    by_cases h4 : q < 4
    · rw [List.getElem?_append_left (by show q < 4; exact h4)]
      unfold mC
      rw [Nat.mod_eq_of_lt h4]
    · rw [List.getElem?_append_right (by show 4 ≤ q; omega)]
      have := ih (q := q - 4) (by omega)
      show (evRow (List.replicate n (markE j)))[q - 4]? = _
      rw [this]
      unfold mC
      rw [show q % 4 = (q - 4) % 4 by omega]
theorem evRow_set (l : List Ev) (k : Nat) (e : Ev) (h : k < l.length) : ((((evRow l).set (k * 4) (.int .i64 e.1)).set (k * 4 + 1) (.int .i64 e.2)).set (k * 4 + 2) (.int .i64 e.3)).set (k * 4 + 3) (.bool e.4) = evRow (l.set k e) := by
  induction l generalizing k with
  | nil => simp at h
  | cons x l ih =>
    have e1 : evRow (x :: l) = x.cells ++ evRow l := rfl
    cases k with
    | zero => rfl
    | succ k =>
      have e2 : evRow ((x :: l).set (k + 1) e) = x.cells ++ evRow (l.set k e) := rfl
      rw [e2, ← ih k (by simpa using h), e1]
      rw [show (k + 1) * 4 = (k * 4) + 4 by omega, show k * 4 + 4 + 1 = (k * 4 + 1) + 4 by omega, show k * 4 + 4 + 2 = (k * 4 + 2) + 4 by omega, show k * 4 + 4 + 3 = (k * 4 + 3) + 4 by omega]
      rfl
theorem row_cellVs {W : World} {v : Value} {n s : Nat} {xs : List Value} {e : TypeId} (h : W.ownsRow 0 e s v n xs) (q : Nat) (hq : q < n * s) : cellV W v q = xs[q]? := by
  have hn : 0 < n := Nat.pos_of_ne_zero (fun z => by rw [z, Nat.zero_mul] at hq; omega)
  obtain ⟨g, c, rfl⟩ := slice_pos h hn
  rw [cellV_some, World.ownsRow.cellAt h q hq]
/-- The book: its block, the list of lists. -/
structure BkBE (W : World) (Bk : Nat) (ov : Value) (n : Nat) (v : Nat → Value) : Prop where
  blk : ∃ cs, W.heap[Bk]? = some (.cells cs 63 (0, 0)) ∧ cs[5]? = some ov
  outer : W.ownsRow 0 65 1 ov n (LV v n)
theorem BkBE.cell {W : World} {Bk : Nat} {ov : Value} {n : Nat} {v : Nat → Value} (h : BkBE W Bk ov n v) : W.cell? ⟨Bk, 5, none⟩ = some ov := by
  obtain ⟨cs, h1, h2⟩ := h.blk
  rw [cell_of h1, h2]
theorem BkBE.kept {W X : World} {Bk : Nat} {ov : Value} {n : Nat} {v : Nat → Value} (h : BkBE W Bk ov n v) (h1 : X.heap[Bk]? = W.heap[Bk]?) (h2 : ∀ b, ov.ownBlock = some b → X.heap[b]? = W.heap[b]?) : BkBE X Bk ov n v := by
  obtain ⟨cs, q1, q2⟩ := h.blk
  exact ⟨⟨cs, h1.trans q1, q2⟩, row_kept h.outer h2⟩
theorem BkBE.lt {W : World} {Bk : Nat} {ov : Value} {n : Nat} {v : Nat → Value} (h : BkBE W Bk ov n v) : Bk < W.heap.size := by
  obtain ⟨cs, q1, _⟩ := h.blk
  exact lt_of q1
theorem BkBE.at {W : World} {Bk go co : Nat} {n : Nat} {v : Nat → Value} (h : BkBE W Bk (.slice (some ⟨go, 0, none⟩) n co) n v) (j : Nat) (hj : j < n) : W.cell? ⟨go, j, none⟩ = some (v j) := by
  have e := row_cellV h.outer j hj
  rw [cellV_some, LV_get v n j hj] at e
  exact e
theorem BkBE.ne {W : World} {Bk : Nat} {ov : Value} {n : Nat} {v : Nat → Value} {x : Value} {k : Nat} {xs : List Value} (h : BkBE W Bk ov n v) (hr : W.ownsRow 0 100 4 x k xs) : x.ownBlock ≠ some Bk ∧ ∀ b, ov.ownBlock = some b → x.ownBlock ≠ some b := by
  obtain ⟨cs, q1, _⟩ := h.blk
  exact ⟨block_apart hr q1 (by decide), fun b hb => rows_apart h.outer hr (by decide) b hb⟩

/-- The lists: of the list j the first t j bear its mark. -/
def RowsE (W : World) (n : Nat) (v : Nat → Value) (len t : Nat → Nat) : Prop := ∀ j, j < n → ∃ l : List Ev, l.length = len j ∧ W.ownsRow 0 100 4 (v j) (len j) (evRow l) ∧ ∀ q, q < t j → l[q]? = some (markE j)
theorem RowsE.weak {W : World} {n : Nat} {v : Nat → Value} {len t t' : Nat → Nat} (h : RowsE W n v len t) (ht : ∀ j, j < n → t' j ≤ t j) : RowsE W n v len t' := fun j hj => by
  obtain ⟨xs, h0, h1, h2⟩ := h j hj
  exact ⟨xs, h0, h1, fun q hq => h2 q (Nat.lt_of_lt_of_le hq (ht j hj))⟩
def putE (W : World) (g k i : Nat) : World := (((W.setCell ⟨g, k * 4, none⟩ (.int .i64 (-7 - (i : Int)))).setCell ⟨g, k * 4 + 1, none⟩ (.int .i64 0)).setCell ⟨g, k * 4 + 2, none⟩ (.int .i64 0)).setCell ⟨g, k * 4 + 3, none⟩ (.bool false)
theorem putE_block (W : World) (g k i b : Nat) (h : b ≠ g) : (putE W g k i).heap[b]? = W.heap[b]? := by
  unfold putE
  rw [Below.heap_setCell _ _ _ b h, Below.heap_setCell _ _ _ b h, Below.heap_setCell _ _ _ b h, Below.heap_setCell _ _ _ b h]
theorem RowsE.put {W : World} {n g c i k : Nat} {v : Nat → Value} {len t t' : Nat → Nat} (h : RowsE W n v len t) (ha : Apart n v) (hi : i < n) (hk : k < len i) (hg : v i = .slice (some ⟨g, 0, none⟩) (len i) c) (ht : ∀ j q, j < n → q < t' j → q < t j ∨ j = i ∧ q = k) : RowsE (putE W g k i) n v len t' := fun j hj => by
  obtain ⟨l, h0, h1, h2⟩ := h j hj
  by_cases e : j = i
  · subst e
    rw [hg] at h1
    refine ⟨l.set k (markE j), by simpa using h0, ?_, fun q hq => ?_⟩
    · rw [hg, ← evRow_set l k (markE j) (by omega)]
      exact (World.ownsRow.stored (World.ownsRow.stored (World.ownsRow.stored (World.ownsRow.stored h1 (k * 4) (.int .i64 (-7 - (j : Int)))).1 (k * 4 + 1) (.int .i64 0)).1 (k * 4 + 2) (.int .i64 0)).1 (k * 4 + 3) (.bool false)).1
    · rw [List.getElem?_set]
      by_cases e2 : k = q
      · rw [if_pos e2, if_pos (by omega)]
      · rw [if_neg e2]
        rcases ht j q hj hq with h3 | ⟨_, h3⟩
        · exact h2 q h3
        · exact absurd h3.symm e2
  · have hb : (v i).ownBlock = some g := by rw [hg]; rfl
    refine ⟨l, h0, row_kept h1 fun b hb2 => putE_block W g k i b (fun e3 => ?_), fun q hq => ?_⟩
    · exact ha i j b hi hj (fun e4 => e e4.symm) (by rw [hb]; exact congrArg some e3.symm) hb2
    · rcases ht j q hj hq with h3 | ⟨h3, _⟩
      · exact h2 q h3
      · exact absurd h3 e
theorem all_marksE {l : List Ev} {n j : Nat} (hl : l.length = n) (h : ∀ q, q < n → l[q]? = some (markE j)) : l = List.replicate n (markE j) := by
  apply List.ext_getElem?
  intro q
  by_cases c : q < n
  · rw [h q c, List.getElem?_replicate, if_pos c]
  · rw [List.getElem?_eq_none (by omega), List.getElem?_eq_none (by simp; omega)]

/-- While a list is grown. -/
structure G2E (wi wr : World) (vi : Value) (len i k : Nat) (gv : Value) : Prop where
  row : wr.ownsRow 0 100 4 gv (len + k) (evRow (List.replicate (len + k) (markE i)))
  rvi : ∀ q, q < len * 4 → cellV wr vi q = mC i q
  blk : gv.ownBlock = vi.ownBlock ∨ ∀ b, gv.ownBlock = some b → wi.heap.size ≤ b
  chg : Chg (fun b => vi.ownBlock = some b) wi wr
  form : ∃ p n c, vi = .slice p n c ∧ (∀ a, p = some a → a.off = 0 ∧ a.spot = none)
  vlt : ∀ b, vi.ownBlock = some b → b < wi.heap.size
theorem G2E.more {wi wr w2 : World} {vi gv v' : Value} {len i k : Nat} {o : Obj} (h : G2E wi wr vi len i k gv) (hr : w2.ownsRow 0 100 4 v' (len + k + 1) (evRow (List.replicate (len + k) (markE i)) ++ (markE i).cells))
    (hg : (wr.alloc o).grownBy w2 gv.ownBlock ∧ v'.ownBlock = gv.ownBlock ∨ (wr.alloc o).grownBy w2 none ∧ ∀ b, v'.ownBlock = some b → (wr.alloc o).heap.size ≤ b) : G2E wi w2 vi len i (k + 1) v' := by
  have hrow : w2.ownsRow 0 100 4 v' (len + (k + 1)) (evRow (List.replicate (len + (k + 1)) (markE i))) := by
    have e : evRow (List.replicate (len + (k + 1)) (markE i)) = evRow (List.replicate (len + k) (markE i)) ++ (markE i).cells := by
      rw [show len + (k + 1) = (len + k) + 1 by omega, List.replicate_succ', evRow_snoc]
    rw [e]
    exact hr
  have hs := h.chg.size
  have c1 : Chg (fun b => vi.ownBlock = some b) wi (wr.alloc o) := h.chg.alloc o
  rcases hg with ⟨g1, g2⟩ | ⟨g1, g2⟩
  · refine ⟨hrow, fun q hq => ?_, ?_, c1.grown g1 (fun b hb hlt => ?_), h.form, h.vlt⟩
    · by_cases e : gv.ownBlock = vi.ownBlock
      · obtain ⟨b, cb, rfl⟩ := slice_pos hrow (by omega)
        have hb : vi.ownBlock = some b := by rw [← e, ← g2]; rfl
        obtain ⟨p, n, c, rfl, hp⟩ := h.form
        cases p with
        | none => simp [Value.ownBlock] at hb
        | some a =>
          obtain ⟨bl, off, spot⟩ := a
          obtain ⟨rfl, rfl⟩ := hp _ rfl
          simp [Value.ownBlock] at hb
          subst hb
          have e2 := row_cellVs hrow q (by omega)
          rw [cellV_some, evR_get (by omega)] at e2
          exact e2
      · rw [cellV_kept (W := wr) (fun b hb => ?_) h.form]
        · exact h.rvi q hq
        · have hlt := h.vlt b hb
          refine (g1.block b (by simp; omega) (fun e3 => ?_)).trans (Below.heap_alloc _ _ _ (by omega))
          rcases h.blk with e4 | e4
          · exact e e4
          · have := e4 b e3.symm
            omega
    · rcases h.blk with e4 | e4
      · exact .inl (g2.trans e4)
      · exact .inr (by rw [g2]; exact e4)
    · rcases h.blk with e4 | e4
      · rw [← e4]; exact hb
      · have := e4 b hb
        omega
  · refine ⟨hrow, fun q hq => ?_, .inr fun b hb => ?_, c1.grown g1 (fun b hb => by simp at hb), h.form, h.vlt⟩
    · rw [cellV_kept (W := wr) (fun b hb => ?_) h.form]
      · exact h.rvi q hq
      · have hlt := h.vlt b hb
        exact (g1.block b (by simp; omega) (by simp)).trans (Below.heap_alloc _ _ _ (by omega))
    · have := g2 b hb
      simp at this
      omega
/-- So many lists are grown. -/
structure B2E (wa wr : World) (n : Nat) (v : Nat → Value) (len : Nat → Nat) (i : Nat) (gs : Nat → Value) (av : Value) : Prop where
  rows : ∀ j, i ≤ j → j < n → wr.ownsRow 0 100 4 (v j) (len j) (evRow (List.replicate (len j) (markE j)))
  rv : ∀ j, j < n → ∀ q, q < len j * 4 → cellV wr (v j) q = mC j q
  gf : ∀ j, j < i → ∃ h d, gs j = .slice (some ⟨h, 0, none⟩) (len j + 20) d ∧ h < wr.heap.size ∧ (∃ cur, wr.heap[h]? = some (.cells cur 100 (0, 0))) ∧ (∀ q, q < (len j + 20) * 4 → wr.cell? ⟨h, q, none⟩ = mC j q) ∧ ∀ j', i ≤ j' → j' < n → (v j').ownBlock ≠ some h
  all : wr.ownsRow 0 65 1 av i (LV gs i)
  alln : ∀ b, av.ownBlock = some b → wa.heap.size ≤ b
  chg : Chg (Fv n v) wa wr
theorem B2E.next {wa wi wr w2 : World} {n i : Nat} {v : Nat → Value} {len : Nat → Nat} {gs : Nat → Value} {av av' gv : Value} {o : Obj} (hv : BV wa n v) (h : B2E wa wi n v len i gs av) (hi : i < n) (hg : G2E wi wr (v i) (len i) i 20 gv)
    (hr : w2.ownsRow 0 65 1 av' (i + 1) (LV gs i ++ [gv])) (hgr : (wr.alloc o).grownBy w2 av.ownBlock) (hw : av'.ownBlock = av.ownBlock ∨ av'.ownBlock = some (wr.alloc o).heap.size) : B2E wa w2 n v len (i + 1) (fun j => if j = i then gv else gs j) av' := by
  have s1 := h.chg.size
  have s2 := hg.chg.size
  have c2 : Chg (fun b => av.ownBlock = some b) wr w2 := ((Chg.refl (fun b => av.ownBlock = some b) wr).alloc o).grown hgr (fun k e _ => e)
  have s3 := c2.size
  have away : ∀ b, b < wi.heap.size → (v i).ownBlock ≠ some b → av.ownBlock ≠ some b → w2.heap[b]? = wi.heap[b]? := fun b hb h1 h2 => (c2.block b (by omega) h2).trans (hg.chg.block b hb h1)
  have vaway : ∀ j, j < n → j ≠ i → ∀ b, (v j).ownBlock = some b → w2.heap[b]? = wi.heap[b]? := fun j hj hne b hb => by
    have hlt := hv.lt j b hj hb
    exact away b (by omega) (hv.apart j i b hj hi hne hb) (fun e => by have := h.alln b e; omega)
  obtain ⟨hb, cb, hgv⟩ := slice_pos hg.row (by omega)
  obtain ⟨cur, hcur⟩ := row_block hg.row hb (by rw [hgv]; rfl)
  have hA := h.all
  have hAr : wr.ownsRow 0 65 1 av i (LV gs i) := row_kept hA fun b hb2 => hg.chg.block b (row_lt hA b hb2) (fun e => by have := hv.lt i b hi e; have := h.alln b hb2; omega)
  have hne : av.ownBlock ≠ some hb := block_apart hAr hcur (by decide)
  have hkeep : w2.heap[hb]? = wr.heap[hb]? := c2.block hb (lt_of hcur) hne
  refine ⟨fun j h1 h2 => ?_, fun j hj q hq => ?_, fun j hj => ?_, ?_, fun b hb2 => ?_, ?_⟩
  · exact row_kept (h.rows j (by omega) h2) fun b hb2 => vaway j h2 (by omega) b hb2
  · by_cases e : j = i
    · subst e
      rw [cellV_kept (W := wr) (fun b hb2 => c2.block b (by have := hv.lt j b hj hb2; omega) (fun e => by have := hv.lt j b hj hb2; have := h.alln b e; omega)) (hv.form j hj)]
      exact hg.rvi q hq
    · rw [cellV_kept (W := wi) (fun b hb2 => vaway j hj e b hb2) (hv.form j hj)]
      exact h.rv j hj q hq
  · by_cases e : j = i
    · subst e
      rw [if_pos rfl]
      refine ⟨hb, cb, hgv, by have := lt_of hcur; omega, ⟨cur, hkeep.trans hcur⟩, fun q hq => ?_, fun j' h1 h2 e2 => ?_⟩
      · have e3 := row_cellVs hg.row q hq
        rw [hgv, cellV_some, evR_get hq] at e3
        exact (World.cell?_of_block (w := wr) hkeep).trans e3
      · rcases hg.blk with e4 | e4
        · exact hv.apart j j' hb hi h2 (by omega) (by rw [← e4, hgv]; rfl) e2
        · have := e4 hb (by rw [hgv]; rfl)
          have := hv.lt j' hb h2 e2
          omega
    · rw [if_neg e]
      obtain ⟨x, d, q1, q2, ⟨cx, q3⟩, q4, q5⟩ := h.gf j (by omega)
      have hx : w2.heap[x]? = wi.heap[x]? := away x q2 (q5 i (Nat.le_refl _) hi) (block_apart hA q3 (by decide))
      exact ⟨x, d, q1, by omega, ⟨cx, hx.trans q3⟩, fun q hq => (World.cell?_of_block (w := wi) hx).trans (q4 q hq), fun j' h1 h2 => q5 j' (by omega) h2⟩
  · rw [LV_snoc]
    exact hr
  · rcases hw with e | e
    · rw [e] at hb2
      exact h.alln b hb2
    · rw [e] at hb2
      simp at hb2
      omega
  · exact (h.chg.trans hg.chg (H := Fv n v) (fun _ _ x => x) (fun b _ x => ⟨i, hi, x⟩)).trans c2 (fun _ _ x => x) (fun b hb2 x => by have := h.alln b x; omega)
end Go.Proofs.YtnhiodmigmmfgaaGreat
/- The book's look at its lists of events. -/
namespace Go.Proofs.YtnhiodmigmmfgaaGreat
open Go.RowKit Go.Maps Go.Shelf

theorem infoListsE : (Tryz.prog.info? 65).map (fun i => (i.zero, i.size, i.bytes)) = some (some (.slice none 0 0), 1, 24) := by kernel_rfl
set_option maxRecDepth 100000 in
set_option maxHeartbeats 16000000 in
theorem alone_e (Bk n : Nat) (ov : Value) (v : Nat → Value) (len : Nat → Nat) (w : World) (hn : n ≤ 8388608) (hn0 : 0 < n) (hb : BkBE w Bk ov n v) (hr : RowsE w n v len (fun _ => 0)) (ha : Apart n v) (hlen : ∀ j, j < n → len j ≤ 4398046511000) :
    Calls Tryz.prog 58 #[.pointer (some ⟨Bk, 0, none⟩)] w fun e w' => e = .returned (.bool true) ∧ Chg (Fv n v) w w' := by
  obtain ⟨i0, hi, hz0, hz1, hz2⟩ := info_parts infoE
  obtain ⟨i1, hi1, hy0, hy1, hy2⟩ := info_parts infoListsE
  obtain ⟨go, co, rfl⟩ := slice_pos hb.outer hn0
  have HB := keepH hb
  have HR := keepH hr
  have HA := keepH ha
  have HLEN := keepH hlen
  have HI0 := keepH hi
  have HI1 := keepH hi1
  clear hb hr ha hlen hi hi1
  go_enter Tryz.func58, Tryz.ntmps58
  go_wp2_with fail
  go_loopw [3] (fun s wr => ∃ i : Nat, i ≤ n ∧ s = .int .i64 (i : Int) ∧ Hid (BkBE wr Bk (.slice (some ⟨go, 0, none⟩) n co) n v ∧ RowsE wr n v len (fun j => if j < i then len j else 0) ∧ Chg (Fv n v) w wr)) (fun s _ => n - (intOf s).toNat)
  case atStart => exact ⟨0, by omega, rfl, keepH ⟨HB.out, by simpa using HR.out, Chg.refl _ _⟩⟩
  case round =>
    obtain ⟨i, hin, rfl, HK⟩ := hrel
    have c1 := HK.out.1.cell
    by_cases hlt : i < n
    · have t1 : (i : Int) < (n : Int) := by omega
      obtain ⟨xs, hx0, hx, hx2⟩ := HK.out.2.1 i hlt
      obtain ⟨pi, ci, hvi⟩ := slice_of hx
      obtain ⟨li, hli⟩ : ∃ li, li = len i := ⟨_, rfl⟩
      have hlib : li ≤ 4398046511000 := by rw [hli]; exact HLEN.out i hlt
      rw [← hli] at hvi
      have c2 := HK.out.1.at i hlt
      rw [hvi] at c2
      have HVI := keepH hvi
      have HLI := keepH hli
      clear hx2 hx hx0 hvi hli xs
      go_wp2_with fail
      clear c1 c2
      go_loopw [4] (fun s wx => ∃ k : Nat, k ≤ li ∧ s = .int .i64 (k : Int) ∧ Hid (BkBE wx Bk (.slice (some ⟨go, 0, none⟩) n co) n v ∧ RowsE wx n v len (fun j => if j < i then len j else if j = i then k else 0) ∧ Chg (Fv n v) w wx)) (fun s _ => li - (intOf s).toNat)
      case atStart => exact ⟨0, by omega, rfl, keepH ⟨HK.out.1, HK.out.2.1.weak (fun j hj => by split; exact Nat.le_refl _; split <;> exact Nat.zero_le _), HK.out.2.2⟩⟩
      case round =>
        obtain ⟨wx, hwx⟩ : ∃ wx, wx = wr := ⟨_, rfl⟩
        rw [← hwx] at hrel ⊢
        clear hwx
        obtain ⟨k, hk, rfl, HJ⟩ := hrel
        have c1 := HJ.out.1.cell
        have c2 := HJ.out.1.at i hlt
        rw [HVI.out] at c2
        by_cases hkl : k < li
        · have t2 : (k : Int) < (li : Int) := by omega
          obtain ⟨xs, hx0, hx, _⟩ := HJ.out.2.1 i hlt
          rw [HVI.out, ← HLI.out] at hx
          obtain ⟨g, cg, hg⟩ := slice_pos hx (by omega)
          simp only [Value.slice.injEq, true_and] at hg
          obtain ⟨rfl, rfl⟩ := hg
          obtain ⟨y, hy⟩ : ∃ y, xs[k]? = some y := ⟨xs[k]'(by rw [hx0, ← HLI.out]; exact hkl), List.getElem?_eq_getElem _⟩
          have c30 := ev_cellY hx k 0 y hy hkl (by omega) (.int .i64 y.1) rfl
          have c31 := ev_cellY hx k 1 y hy hkl (by omega) (.int .i64 y.2) rfl
          have c32 := ev_cellY hx k 2 y hy hkl (by omega) (.int .i64 y.3) rfl
          have c33 := ev_cellY hx k 3 y hy hkl (by omega) (.bool y.4) rfl
          rw [Nat.add_zero] at c30
          obtain ⟨cur, hcur⟩ := row_block hx g rfl
          have fz0 : wx.frozen? ⟨g, k * 4, none⟩ = false := free_of hcur _
          have fz1 : wx.frozen? ⟨g, k * 4 + 1, none⟩ = false := free_of hcur _
          have fz2 : wx.frozen? ⟨g, k * 4 + 2, none⟩ = false := free_of hcur _
          have fz3 : wx.frozen? ⟨g, k * 4 + 3, none⟩ = false := free_of hcur _
          have hne := HJ.out.1.ne hx
          have HBN : Hid (BkBE (putE wx g k i) Bk (.slice (some ⟨go, 0, none⟩) n co) n v) := HJ.out.1.kept (putE_block _ _ _ _ Bk (fun e => hne.1 (by rw [e]; rfl))) (fun b hb => putE_block _ _ _ _ b (fun e => hne.2 b hb (by rw [e]; rfl)))
          have HRN : Hid (RowsE (putE wx g k i) n v len (fun j => if j < i then len j else if j = i then k + 1 else 0)) := HJ.out.2.1.put HA.out hlt (by rw [← HLI.out]; exact hkl) (by rw [HVI.out, ← HLI.out]) (fun j q hj hq => by
            by_cases e1 : j < i
            · simp only [if_pos e1] at hq ⊢; exact .inl hq
            · by_cases e2 : j = i
              · simp only [if_neg e1, if_pos e2] at hq ⊢
                by_cases e3 : q = k
                · exact .inr ⟨e2, e3⟩
                · exact .inl (by omega)
              · simp only [if_neg e1, if_neg e2] at hq; omega)
          have HCN : Hid (Chg (Fv n v) w (putE wx g k i)) := (((HJ.out.2.2.setCell (fun _ => ⟨i, hlt, by rw [HVI.out]; rfl⟩) _).setCell (fun _ => ⟨i, hlt, by rw [HVI.out]; rfl⟩) _).setCell (fun _ => ⟨i, hlt, by rw [HVI.out]; rfl⟩) _).setCell (fun _ => ⟨i, hlt, by rw [HVI.out]; rfl⟩) _
          clear hx hx0 hy hcur hne
          go_wp2_with fail
          go_roundw
          case rel => exact ⟨k + 1, by omega, by first | rfl | go_num, keepH ⟨HBN.out, HRN.out, HCN.out⟩⟩
          case measure => simp [intOf]; omega
        · obtain rfl : k = li := by omega
          have t2 : ¬ (k : Int) < (k : Int) := by omega
          go_wp2_with fail
          go_roundw
          case rel =>
            refine ⟨i + 1, by omega, by first | rfl | go_num, keepH ⟨HJ.out.1, HJ.out.2.1.weak (fun j hj => ?_), HJ.out.2.2⟩⟩
            by_cases e1 : j < i
            · simp only [if_pos e1, if_pos (show j < i + 1 by omega)]; exact Nat.le_refl _
            · by_cases e2 : j = i
              · simp only [if_neg e1, if_pos e2, if_pos (show j < i + 1 by omega)]; rw [e2, HLI.out]; exact Nat.le_refl _
              · simp only [if_neg (show ¬ j < i + 1 by omega)]; exact Nat.zero_le _
          case measure => simp [intOf]; omega
    · obtain rfl : i = n := by omega
      have t1 : ¬ (i : Int) < (i : Int) := by omega
      obtain ⟨wa, hwa⟩ : ∃ wa, wa = wr := ⟨_, rfl⟩
      rw [← hwa] at HK c1 ⊢
      clear hwa
      have HF : Hid (∀ j, j < i → wa.ownsRow 0 100 4 (v j) (len j) (evRow (List.replicate (len j) (markE j)))) := fun j hj => by
        obtain ⟨xs, h0, h1, h2⟩ := HK.out.2.1 j hj
        have e := all_marksE (n := len j) (j := j) h0 (fun q hq => h2 q (by simp only [if_pos hj]; exact hq))
        rw [← e]
        exact h1
      have HBV : Hid (BV wa i v) := ⟨HA.out, fun j b hj hb => row_lt (HF.out j hj) b hb, fun j hj => row_form (HF.out j hj)⟩
      have HBK : Hid (∀ X, Chg (Fv i v) wa X → BkBE X Bk (.slice (some ⟨go, 0, none⟩) i co) i v) := fun X hX => HK.out.1.kept (hX.block Bk HK.out.1.lt (fun ⟨j, hj, e⟩ => (HK.out.1.ne (HF.out j hj)).1 e)) (fun b hb => hX.block b (row_lt HK.out.1.outer b hb) (fun ⟨j, hj, e⟩ => (HK.out.1.ne (HF.out j hj)).2 b hb e))
      have HCW : Hid (Chg (Fv i v) w wa) := HK.out.2.2
      have H20 : Hid (B2E wa wa i v len 0 (fun _ => .slice none 0 0) (.slice none 0 0)) := ⟨fun j _ hj => HF.out j hj, fun j hj q hq => by rw [row_cellVs (HF.out j hj) q hq, evR_get hq], fun j hj => by omega, World.ownsRow_nil _ _ _ _, fun b hb => by simp [Value.ownBlock] at hb, Chg.refl _ _⟩
      go_wp2_with fail
      clear c1 t1 HK HB HR
      go_loopw [5, 6] (fun av s wx => ∃ (m : Nat) (gs : Nat → Value), m ≤ i ∧ s = .int .i64 (m : Int) ∧ Hid (B2E wa wx i v len m gs av)) (fun _ s _ => i - (intOf s).toNat)
      case atStart => exact ⟨0, _, by omega, rfl, H20⟩
      case round =>
        clear H20
        obtain ⟨wi, hwi⟩ : ∃ wi, wi = wr := ⟨_, rfl⟩
        rw [← hwi] at hrel ⊢
        clear hwi
        obtain ⟨m, gs, hm, rfl, H2⟩ := hrel
        obtain ⟨av, hav⟩ : ∃ av, av = u5 := ⟨_, rfl⟩
        rw [← hav] at H2 ⊢
        clear hav
        have c1 := (HBK.out wi H2.out.chg).cell
        by_cases hmi : m < i
        · have t2 : (m : Int) < (i : Int) := by omega
          have c2 := (HBK.out wi H2.out.chg).at m hmi
          obtain ⟨pi, ci, hvi⟩ := slice_of (H2.out.rows m (Nat.le_refl _) hmi)
          obtain ⟨li, hli⟩ : ∃ li, li = len m := ⟨_, rfl⟩
          have hlib : li ≤ 4398046511000 := by rw [hli]; exact HLEN.out m hmi
          rw [← hli] at hvi
          rw [hvi] at c2
          have HVI := keepH hvi
          have HLI := keepH hli
          have HG0 : Hid (G2E wi wi (v m) li m 0 (.slice pi li ci)) := by
            have r := H2.out.rows m (Nat.le_refl _) hmi
            rw [← hli] at r
            exact ⟨by rw [← hvi]; exact r, fun q hq => by rw [row_cellVs r q hq, evR_get hq], .inl (by rw [hvi]), Chg.refl _ _, HBV.out.form m hmi, fun b hb => row_lt r b hb⟩
          clear hvi hli
          go_wp2_with fail
          clear c1 c2
          go_loopw [7, 8] (fun gv s wx => ∃ k : Nat, k ≤ 20 ∧ s = .int .i64 (k : Int) ∧ Hid (G2E wi wx (v m) li m k gv)) (fun _ s _ => 20 - (intOf s).toNat)
          case atStart => exact ⟨0, by omega, rfl, HG0⟩
          case round =>
            clear HG0
            obtain ⟨wx, hwx⟩ : ∃ wx, wx = wr := ⟨_, rfl⟩
            rw [← hwx] at hrel ⊢
            clear hwx
            obtain ⟨k, hk, rfl, HG⟩ := hrel
            obtain ⟨gv, hgv⟩ : ∃ gv, gv = u7 := ⟨_, rfl⟩
            rw [← hgv] at HG ⊢
            clear hgv
            by_cases hk20 : k < 20
            · have t3 : (k : Int) < 20 := by omega
              have hi := HI0.out
              go_wp2_with (first | (at_builtin; refine wpList_append_two _ rfl (.tmp 67) (.tmp 71) 65 rfl 100 i0 (evV 0 0 0 false) 4 32 Tryz.underlying65 hi hz0 hz1 hz2 rfl (by decide) gv (li + k) (evRow (List.replicate (li + k) (markE m))) rfl (HG.out.row.alloc _) ⟨wx.heap.size, 0, none⟩ 1 1 (markE m).cells rfl rfl (cells_new _ _ rfl _ _) (by intro u hu; simp [markE, Ev.cells] at hu; rcases hu with rfl | rfl | rfl | rfl <;> rfl) (by decide) (by unfold maxLen; omega) (by omega) ?_; intro v2 w2 r1 r2; have R1 := keepH r1; have R2 := keepH r2; clear r1 r2) | go_in)
              go_roundw
              case rel => exact ⟨k + 1, by omega, by first | rfl | go_num, keepH (HG.out.more R1.out R2.out)⟩
              case measure => simp [intOf]; omega
            · obtain rfl : k = 20 := by omega
              have t3 : ¬ (20 : Int) < 20 := by omega
              obtain ⟨hb, cb, hgv⟩ := slice_pos HG.out.row (by omega)
              subst hgv
              have hi1 := HI1.out
              have HAR : Hid (wx.ownsRow 0 65 1 av m (LV gs m)) := row_kept H2.out.all fun b hb2 => HG.out.chg.block b (row_lt H2.out.all b hb2) (fun e => by have := HBV.out.lt m b hmi e; have := H2.out.alln b hb2; omega)
              have hmb : m + 1 ≤ 10000000 := by omega
              go_wp2_with (first | (at_builtin; refine wpList_append_own_at _ rfl (.tmp 73) (.tmp 75) 47 rfl 0 65 i1 (.slice none 0 0) 1 24 Tryz.underlying47 hi1 hy0 hy1 hy2 rfl (by decide) av m (LV gs m) rfl (HAR.out.alloc _) ⟨wx.heap.size, 0, none⟩ 1 1 [.slice (some ⟨hb, 0, none⟩) (li + 20) cb] rfl rfl (cells_new _ _ rfl _ _) (by intro u hu; simp at hu; subst hu; rfl) (by unfold maxLen; omega) (by omega) (Nat.zero_le _) ?_; intro v3 w3 r1 r2 r3 r4; have R1 := keepH r1; have R2 := keepH r2; have R4 := keepH r4; clear r1 r2 r3 r4) | go_in)
              have HGL : Hid (G2E wi wx (v m) (len m) m 20 (.slice (some ⟨hb, 0, none⟩) (li + 20) cb)) := by have e := HG.out; rw [HLI.out] at e ⊢; exact e
              go_roundw
              case rel => exact ⟨m + 1, _, by omega, by first | rfl | go_num, keepH (B2E.next HBV.out H2.out hmi HGL.out R1.out R2.out R4.out)⟩
              case measure => simp [intOf]; omega
        · obtain rfl : m = i := by omega
          have t2 : ¬ (m : Int) < (m : Int) := by omega
          obtain ⟨pa, ca, hpa⟩ := slice_pos H2.out.all hn0
          subst hpa
          have HCE : Hid (Chg (Fv m v) w wi) := HCW.out.trans H2.out.chg (fun _ _ x => x) (fun _ _ x => x)
          go_wp2_with fail
          clear c1 t2
          have HCL : Hid (∀ X a u, Chg (fun _ => False) wi X → wi.cell? a = some u → X.cell? a = some u) := fun X a u c h => cell_chg c h (fun x => x)
          have HBX : Hid (∀ X, Chg (fun _ => False) wi X → BkBE X Bk (.slice (some ⟨go, 0, none⟩) m co) m v) := fun X hX => HBK.out X (H2.out.chg.trans hX (fun _ _ x => x) (fun _ _ x => x.elim))
          go_loopw [9] (fun s wx => ∃ j : Nat, j ≤ m ∧ s = .int .i64 (j : Int) ∧ Hid (Chg (fun _ => False) wi wx)) (fun s _ => m - (intOf s).toNat)
          case atStart => exact ⟨0, by omega, rfl, keepH (Chg.refl _ _)⟩
          case round =>
            obtain ⟨j, hj, rfl, HW⟩ := hrel
            obtain ⟨wy, hwy⟩ : ∃ q, q = wr := ⟨_, rfl⟩
            subst hwy
            by_cases hjm : j < m
            · have t3 : (j : Int) < (m : Int) := by omega
              obtain ⟨hx, dx, q1, q2, _, q4, _⟩ := H2.out.gf j hjm
              have a10 : wi.cell? ⟨pa, j, none⟩ = some (.slice (some ⟨hx, 0, none⟩) (len j + 20) dx) := by
                have e := row_cellV H2.out.all j hjm
                rw [cellV_some, LV_get gs m j hjm, q1] at e
                exact e
              obtain ⟨li, hli⟩ : ∃ li, li = len j := ⟨_, rfl⟩
              have hlib : li ≤ 4398046511000 := by rw [hli]; exact HLEN.out j hjm
              obtain ⟨l20, hl20⟩ : ∃ l20, l20 = li + 20 := ⟨_, rfl⟩
              rw [← hli, ← hl20] at a10 q4
              have HQ4 : Hid (∀ X, Chg (fun _ => False) wi X → ∀ k, k < l20 → X.cell? ⟨hx, k * 4, none⟩ = some (.int .i64 (-7 - (j : Int))) ∧ X.cell? ⟨hx, k * 4 + 1, none⟩ = some (.int .i64 0) ∧ X.cell? ⟨hx, k * 4 + 2, none⟩ = some (.int .i64 0) ∧ X.cell? ⟨hx, k * 4 + 3, none⟩ = some (.bool false)) := fun X hX k hk => by
                have z0 := q4 (k * 4) (by omega)
                have z1 := q4 (k * 4 + 1) (by omega)
                have z2 := q4 (k * 4 + 2) (by omega)
                have z3 := q4 (k * 4 + 3) (by omega)
                unfold mC at z0 z1 z2 z3
                rw [show k * 4 % 4 = 0 by omega] at z0
                rw [show (k * 4 + 1) % 4 = 1 by omega] at z1
                rw [show (k * 4 + 2) % 4 = 2 by omega] at z2
                rw [show (k * 4 + 3) % 4 = 3 by omega] at z3
                exact ⟨HCL.out X _ _ hX z0, HCL.out X _ _ hX z1, HCL.out X _ _ hX z2, HCL.out X _ _ hX z3⟩
              have HA1 : Hid (∀ X, Chg (fun _ => False) wi X → X.cell? ⟨pa, j, none⟩ = some (.slice (some ⟨hx, 0, none⟩) l20 dx)) := fun X hX => HCL.out X _ _ hX a10
              have HLI := keepH hli
              have hl20b : l20 ≤ 4398046511020 := by omega
              have a1 := HA1.out wy HW.out
              clear q1 q2 q4 hli hl20 a10
              go_wp2_with fail
              clear a1
              go_loopw [10] (fun s wx => ∃ k : Nat, k ≤ l20 ∧ s = .int .i64 (k : Int) ∧ Hid (Chg (fun _ => False) wi wx)) (fun s _ => l20 - (intOf s).toNat)
              case atStart => exact ⟨0, by omega, rfl, HW⟩
              case round =>
                clear HW
                obtain ⟨k, hk, rfl, HW⟩ := hrel
                obtain ⟨wz, hwz⟩ : ∃ q, q = wr := ⟨_, rfl⟩
                subst hwz
                have a1 := HA1.out wz HW.out
                by_cases hkl : k < l20
                · have t4 : (k : Int) < (l20 : Int) := by omega
                  obtain ⟨a20, a21, a22, a23⟩ := HQ4.out wz HW.out k hkl
                  go_wp2_with fail
                  go_roundw
                  case rel => exact ⟨k + 1, by omega, by first | rfl | go_num, keepH (by repeat' (first | exact HW.out | refine Chg.setCell ?_ (fun h => absurd h (Nat.lt_irrefl _)) _ | refine Chg.alloc ?_ _))⟩
                  case measure => simp [intOf]; omega
                · obtain rfl : k = l20 := by omega
                  have t4 : ¬ (k : Int) < (k : Int) := by omega
                  have c1 := (HBX.out wz HW.out).cell
                  have c2 := (HBX.out wz HW.out).at j hjm
                  obtain ⟨pj, nj, cj, hvj, hpj⟩ := HBV.out.form j hjm
                  have hvl : nj = li := by
                    obtain ⟨p', c', e⟩ := slice_of (HF.out j hjm)
                    rw [hvj] at e
                    simp only [Value.slice.injEq] at e
                    rw [HLI.out]
                    exact e.2.1
                  subst hvl
                  rw [hvj] at c2
                  have HVJ := keepH hvj
                  have HPJ := keepH hpj
                  clear hvj hpj
                  go_wp2_with fail
                  clear c1 c2
                  go_loopw [12] (fun s wx => ∃ k : Nat, k ≤ nj ∧ s = .int .i64 (k : Int) ∧ Hid (Chg (fun _ => False) wi wx)) (fun s _ => nj - (intOf s).toNat)
                  case atStart => exact ⟨0, by omega, rfl, HW⟩
                  case round =>
                    clear HW a1
                    obtain ⟨k2, hk2, rfl, HW⟩ := hrel
                    obtain ⟨wu, hwu⟩ : ∃ q, q = wr := ⟨_, rfl⟩
                    subst hwu
                    have c1 := (HBX.out wu HW.out).cell
                    have c2 := (HBX.out wu HW.out).at j hjm
                    rw [HVJ.out] at c2
                    by_cases hkn : k2 < nj
                    · have t5 : (k2 : Int) < (nj : Int) := by omega
                      have y0 := H2.out.rv j hjm (k2 * 4) (by rw [← HLI.out]; omega)
                      have y1 := H2.out.rv j hjm (k2 * 4 + 1) (by rw [← HLI.out]; omega)
                      have y2 := H2.out.rv j hjm (k2 * 4 + 2) (by rw [← HLI.out]; omega)
                      have y3 := H2.out.rv j hjm (k2 * 4 + 3) (by rw [← HLI.out]; omega)
                      unfold mC at y0 y1 y2 y3
                      rw [show k2 * 4 % 4 = 0 by omega, HVJ.out] at y0
                      rw [show (k2 * 4 + 1) % 4 = 1 by omega, HVJ.out] at y1
                      rw [show (k2 * 4 + 2) % 4 = 2 by omega, HVJ.out] at y2
                      rw [show (k2 * 4 + 3) % 4 = 3 by omega, HVJ.out] at y3
                      cases pj with
                      | none => simp [cellV, markE, Ev.cells] at y0
                      | some ad =>
                        obtain ⟨bl, off, spot⟩ := ad
                        obtain ⟨rfl, rfl⟩ := HPJ.out _ rfl
                        have a30 : wu.cell? ⟨bl, k2 * 4, none⟩ = some (.int .i64 (-7 - (j : Int))) := HCL.out wu _ _ HW.out y0
                        have a31 : wu.cell? ⟨bl, k2 * 4 + 1, none⟩ = some (.int .i64 0) := HCL.out wu _ _ HW.out y1
                        have a32 : wu.cell? ⟨bl, k2 * 4 + 2, none⟩ = some (.int .i64 0) := HCL.out wu _ _ HW.out y2
                        have a33 : wu.cell? ⟨bl, k2 * 4 + 3, none⟩ = some (.bool false) := HCL.out wu _ _ HW.out y3
                        clear y0 y1 y2 y3
                        go_wp2_with fail
                        go_roundw
                        case rel => exact ⟨k2 + 1, by omega, by first | rfl | go_num, keepH (by repeat' (first | exact HW.out | refine Chg.setCell ?_ (fun h => absurd h (Nat.lt_irrefl _)) _ | refine Chg.alloc ?_ _))⟩
                        case measure => simp [intOf]; omega
                    · obtain rfl : k2 = nj := by omega
                      have t5 : ¬ (k2 : Int) < (k2 : Int) := by omega
                      go_wp2_with fail
                      go_roundw
                      case rel => exact ⟨j + 1, by omega, by first | rfl | go_num, HW⟩
                      case measure => simp [intOf]; omega
            · obtain rfl : j = m := by omega
              have t3 : ¬ (j : Int) < (j : Int) := by omega
              have HCF : Hid (Chg (Fv j v) w wy) := HCE.out.trans HW.out (fun _ _ x => x) (fun _ _ x => x.elim)
              go_wp2_with fail
              go_ret
              exact ⟨by simp, HCF.out⟩
end Go.Proofs.YtnhiodmigmmfgaaGreat
