/- The book's look at its lists of uint64s: where they share no memory it tells true. -/
import Derived.Test.YtjnkefggmklaoaaBkGU
namespace Go.Proofs.Ytjnkefggmklaoaa
open Go.RowKit Go.Maps

theorem infoLists : (Try.prog.info? 29).map (fun i => (i.zero, i.size, i.bytes)) = some (some (.slice none 0 0), 1, 24) := by kernel_rfl
set_option maxRecDepth 100000 in
set_option maxHeartbeats 16000000 in
theorem alone_g (Bk n : Nat) (ov : Value) (v : Nat → Value) (len : Nat → Nat) (w : World) (hn : n ≤ 1000) (hn0 : 0 < n) (hb : BkB w Bk ov n v) (hr : RowsM w n v len (fun _ => 0)) (ha : Apart n v) (hlen : ∀ j, j < n → len j ≤ 17592186043904) :
    Calls Try.prog 44 #[.pointer (some ⟨Bk, 0, none⟩)] w fun e w' => e = .returned (.bool true) ∧ Chg (Fv n v) w w' := by
  obtain ⟨i0, hi, hz0, hz1, hz2⟩ := info_parts infoU
  obtain ⟨i1, hi1, hy0, hy1, hy2⟩ := info_parts infoLists
  obtain ⟨go, co, rfl⟩ := slice_pos hb.outer hn0
  have HB := keepH hb
  have HR := keepH hr
  have HA := keepH ha
  have HLEN := keepH hlen
  have HI0 := keepH hi
  have HI1 := keepH hi1
  clear hb hr ha hlen hi hi1
  go_enter Try.func44, Try.ntmps44
  go_wp2_with fail
  go_loopw [3] (fun s wr => ∃ i : Nat, i ≤ n ∧ s = .int .i64 (i : Int) ∧ Hid (BkB wr Bk (.slice (some ⟨go, 0, none⟩) n co) n v ∧ RowsM wr n v len (fun j => if j < i then len j else 0) ∧ Chg (Fv n v) w wr)) (fun s _ => n - (intOf s).toNat)
  case atStart => exact ⟨0, by omega, rfl, keepH ⟨HB.out, by simpa using HR.out, Chg.refl _ _⟩⟩
  case round =>
    obtain ⟨i, hin, rfl, HK⟩ := hrel
    have c1 := HK.out.1.cell
    by_cases hlt : i < n
    · have t1 : (i : Int) < (n : Int) := by omega
      obtain ⟨xs, hx, hx2⟩ := HK.out.2.1 i hlt
      obtain ⟨pi, ci, hvi⟩ := slice_of hx
      obtain ⟨li, hli⟩ : ∃ li, li = len i := ⟨_, rfl⟩
      have hlib : li ≤ 17592186043904 := by rw [hli]; exact HLEN.out i hlt
      rw [← hli] at hvi
      have c2 := HK.out.1.at i hlt
      rw [hvi] at c2
      have HVI := keepH hvi
      have HLI := keepH hli
      clear hx2 hx hvi hli xs
      go_wp2_with fail
      clear c1 c2
      go_loopw [4] (fun s wx => ∃ k : Nat, k ≤ li ∧ s = .int .i64 (k : Int) ∧ Hid (BkB wx Bk (.slice (some ⟨go, 0, none⟩) n co) n v ∧ RowsM wx n v len (fun j => if j < i then len j else if j = i then k else 0) ∧ Chg (Fv n v) w wx)) (fun s _ => li - (intOf s).toNat)
      case atStart => exact ⟨0, by omega, rfl, keepH ⟨HK.out.1, HK.out.2.1.weak (fun j hj => by split; exact Nat.le_refl _; split <;> exact Nat.zero_le _), HK.out.2.2⟩⟩
      case round =>
        obtain ⟨wx, hwx⟩ : ∃ wx, wx = wr := ⟨_, rfl⟩
        rw [← hwx] at hrel ⊢
        clear hwx
        obtain ⟨k, hk, rfl, HJ⟩ := hrel
        have c1 := HJ.out.1.cell
        have c2 := HJ.out.1.at i hlt
        rw [HVI.out] at c2
        by_cases hkl : k < li
        · have t2 : (k : Int) < (li : Int) := by omega
          obtain ⟨xs, hx, _⟩ := HJ.out.2.1 i hlt
          rw [HVI.out, ← HLI.out] at hx
          obtain ⟨g, cg, hg⟩ := slice_pos hx (by omega)
          simp only [Value.slice.injEq, true_and] at hg
          obtain ⟨rfl, rfl⟩ := hg
          obtain ⟨y, hy⟩ : ∃ y, xs[k]? = some y := ⟨xs[k]'(by have := hx.1; omega), List.getElem?_eq_getElem _⟩
          have c3 : wx.cell? ⟨g, k, none⟩ = some y := by rw [← hy]; exact row_cellV hx k hkl
          obtain ⟨cur, hcur⟩ := row_block hx g rfl
          have fz : wx.frozen? ⟨g, k, none⟩ = false := free_of hcur k
          have hne := HJ.out.1.ne hx
          have HBN : Hid (BkB (wx.setCell ⟨g, k, none⟩ (mark i)) Bk (.slice (some ⟨go, 0, none⟩) n co) n v) := HJ.out.1.kept (Below.heap_setCell wx ⟨g, k, none⟩ (mark i) Bk (fun e => hne.1 (by rw [e]; rfl))) (fun b hb => Below.heap_setCell wx ⟨g, k, none⟩ (mark i) b (fun e => hne.2 b hb (by rw [e]; rfl)))
          have HRN : Hid (RowsM (wx.setCell ⟨g, k, none⟩ (mark i)) n v len (fun j => if j < i then len j else if j = i then k + 1 else 0)) := HJ.out.2.1.put HA.out hlt (by rw [← HLI.out]; exact hkl) (by rw [HVI.out, ← HLI.out]) (fun j q hj hq => by
            by_cases e1 : j < i
            · simp only [if_pos e1] at hq ⊢; exact .inl hq
            · by_cases e2 : j = i
              · simp only [if_neg e1, if_pos e2] at hq ⊢
                by_cases e3 : q = k
                · exact .inr ⟨e2, e3⟩
                · exact .inl (by omega)
              · simp only [if_neg e1, if_neg e2] at hq; omega)
          have HCN : Hid (Chg (Fv n v) w (wx.setCell ⟨g, k, none⟩ (mark i))) := HJ.out.2.2.setCell (fun _ => ⟨i, hlt, by rw [HVI.out]; rfl⟩) _
          clear hx hy hcur hne
          go_wp2_with fail
          go_roundw
          case rel => exact ⟨k + 1, by omega, by first | rfl | go_num, keepH ⟨HBN.out, HRN.out, HCN.out⟩⟩
          case measure => simp [intOf]; omega
        · obtain rfl : k = li := by omega
          have t2 : ¬ (k : Int) < (k : Int) := by omega
          go_wp2_with fail
          go_roundw
          case rel =>
            refine ⟨i + 1, by omega, by first | rfl | go_num, keepH ⟨HJ.out.1, HJ.out.2.1.weak (fun j hj => ?_), HJ.out.2.2⟩⟩
            by_cases e1 : j < i
            · simp only [if_pos e1, if_pos (show j < i + 1 by omega)]; exact Nat.le_refl _
            · by_cases e2 : j = i
              · simp only [if_neg e1, if_pos e2, if_pos (show j < i + 1 by omega)]; rw [e2, HLI.out]; exact Nat.le_refl _
              · simp only [if_neg (show ¬ j < i + 1 by omega)]; exact Nat.zero_le _
          case measure => simp [intOf]; omega
    · obtain rfl : i = n := by omega
      have t1 : ¬ (i : Int) < (i : Int) := by omega
      obtain ⟨wa, hwa⟩ : ∃ wa, wa = wr := ⟨_, rfl⟩
      rw [← hwa] at HK c1 ⊢
      clear hwa
      have HF : Hid (∀ j, j < i → wa.ownsRow 0 28 1 (v j) (len j) (List.replicate (len j) (mark j))) := fun j hj => by
        obtain ⟨xs, h1, h2⟩ := HK.out.2.1 j hj
        have e := all_marks (n := len j) (x := mark j) (by have := h1.1; omega) (fun q hq => h2 q (by simp only [if_pos hj]; exact hq))
        rw [← e]
        exact h1
      have HBV : Hid (BV wa i v) := ⟨HA.out, fun j b hj hb => row_lt (HF.out j hj) b hb, fun j hj => row_form (HF.out j hj)⟩
      have HBK : Hid (∀ X, Chg (Fv i v) wa X → BkB X Bk (.slice (some ⟨go, 0, none⟩) i co) i v) := fun X hX => HK.out.1.kept (hX.block Bk HK.out.1.lt (fun ⟨j, hj, e⟩ => (HK.out.1.ne (HF.out j hj)).1 e)) (fun b hb => hX.block b (row_lt HK.out.1.outer b hb) (fun ⟨j, hj, e⟩ => (HK.out.1.ne (HF.out j hj)).2 b hb e))
      have HCW : Hid (Chg (Fv i v) w wa) := HK.out.2.2
      have H20 : Hid (B2 wa wa i v len 0 (fun _ => .slice none 0 0) (.slice none 0 0)) := ⟨fun j _ hj => HF.out j hj, fun j hj q hq => by rw [row_cellV (HF.out j hj) q hq, List.getElem?_replicate, if_pos hq], fun j hj => by omega, World.ownsRow_nil _ _ _ _, fun b hb => by simp [Value.ownBlock] at hb, Chg.refl _ _⟩
      go_wp2_with fail
      clear c1 t1 HK HB HR
      go_loopw [5, 6] (fun av s wx => ∃ (m : Nat) (gs : Nat → Value), m ≤ i ∧ s = .int .i64 (m : Int) ∧ Hid (B2 wa wx i v len m gs av)) (fun _ s _ => i - (intOf s).toNat)
      case atStart => exact ⟨0, _, by omega, rfl, H20⟩
      case round =>
        clear H20
        obtain ⟨wi, hwi⟩ : ∃ wi, wi = wr := ⟨_, rfl⟩
        rw [← hwi] at hrel ⊢
        clear hwi
        obtain ⟨m, gs, hm, rfl, H2⟩ := hrel
        obtain ⟨av, hav⟩ : ∃ av, av = u5 := ⟨_, rfl⟩
        rw [← hav] at H2 ⊢
        clear hav
        have c1 := (HBK.out wi H2.out.chg).cell
        by_cases hmi : m < i
        · have t2 : (m : Int) < (i : Int) := by omega
          have c2 := (HBK.out wi H2.out.chg).at m hmi
          obtain ⟨pi, ci, hvi⟩ := slice_of (H2.out.rows m (Nat.le_refl _) hmi)
          obtain ⟨li, hli⟩ : ∃ li, li = len m := ⟨_, rfl⟩
          have hlib : li ≤ 17592186043904 := by rw [hli]; exact HLEN.out m hmi
          rw [← hli] at hvi
          rw [hvi] at c2
          have HVI := keepH hvi
          have HLI := keepH hli
          have HG0 : Hid (G2 wi wi (v m) li m 0 (.slice pi li ci)) := by
            have r := H2.out.rows m (Nat.le_refl _) hmi
            rw [← hli] at r
            exact ⟨by rw [← hvi]; exact r, fun q hq => by rw [row_cellV r q hq, List.getElem?_replicate, if_pos hq], .inl (by rw [hvi]), Chg.refl _ _, HBV.out.form m hmi, fun b hb => row_lt r b hb⟩
          clear hvi hli
          go_wp2_with fail
          clear c1 c2
          go_loopw [7, 8] (fun gv s wx => ∃ k : Nat, k ≤ 20 ∧ s = .int .i64 (k : Int) ∧ Hid (G2 wi wx (v m) li m k gv)) (fun _ s _ => 20 - (intOf s).toNat)
          case atStart => exact ⟨0, by omega, rfl, HG0⟩
          case round =>
            clear HG0
            obtain ⟨wx, hwx⟩ : ∃ wx, wx = wr := ⟨_, rfl⟩
            rw [← hwx] at hrel ⊢
            clear hwx
            obtain ⟨k, hk, rfl, HG⟩ := hrel
            obtain ⟨gv, hgv⟩ : ∃ gv, gv = u7 := ⟨_, rfl⟩
            rw [← hgv] at HG ⊢
            clear hgv
            by_cases hk20 : k < 20
            · have t3 : (k : Int) < 20 := by omega
              have hi := HI0.out
              go_wp2_with (first | (at_builtin; refine wpList_append_two _ rfl (.tmp 67) (.tmp 71) 29 rfl 28 i0 (.int .u64 0) 1 8 Try.underlying29 hi hz0 hz1 hz2 rfl (by decide) gv (li + k) (List.replicate (li + k) (mark m)) rfl (HG.out.row.alloc _) ⟨wx.heap.size, 0, none⟩ 1 1 [.int .u64 (1152921504606846976 + (m : Int))] rfl rfl (cells_new _ _ rfl _ _) (by intro u hu; simp at hu; subst hu; rfl) (by decide) (by unfold maxLen; omega) (by omega) ?_; intro v2 w2 r1 r2; have R1 := keepH r1; have R2 := keepH r2; clear r1 r2) | go_in)
              go_roundw
              case rel => exact ⟨k + 1, by omega, by first | rfl | go_num, keepH (HG.out.more R1.out R2.out)⟩
              case measure => simp [intOf]; omega
            · obtain rfl : k = 20 := by omega
              have t3 : ¬ (20 : Int) < 20 := by omega
              obtain ⟨hb, cb, hgv⟩ := slice_pos HG.out.row (by omega)
              subst hgv
              have hi1 := HI1.out
              have HAR : Hid (wx.ownsRow 0 29 1 av m (LV gs m)) := row_kept H2.out.all fun b hb2 => HG.out.chg.block b (row_lt H2.out.all b hb2) (fun e => by have := HBV.out.lt m b hmi e; have := H2.out.alln b hb2; omega)
              have hmb : m + 1 ≤ 1000000 := by omega
              go_wp2_with (first | (at_builtin; refine wpList_append_own_at _ rfl (.tmp 73) (.tmp 75) 53 rfl 0 29 i1 (.slice none 0 0) 1 24 Try.underlying53 hi1 hy0 hy1 hy2 rfl (by decide) av m (LV gs m) rfl (HAR.out.alloc _) ⟨wx.heap.size, 0, none⟩ 1 1 [.slice (some ⟨hb, 0, none⟩) (li + 20) cb] rfl rfl (cells_new _ _ rfl _ _) (by intro u hu; simp at hu; subst hu; rfl) (by unfold maxLen; omega) (by omega) (Nat.zero_le _) ?_; intro v3 w3 r1 r2 r3 r4; have R1 := keepH r1; have R2 := keepH r2; have R4 := keepH r4; clear r1 r2 r3 r4) | go_in)
              have HGL : Hid (G2 wi wx (v m) (len m) m 20 (.slice (some ⟨hb, 0, none⟩) (li + 20) cb)) := by have e := HG.out; rw [HLI.out] at e ⊢; exact e
              go_roundw
              case rel => exact ⟨m + 1, _, by omega, by first | rfl | go_num, keepH (B2.next HBV.out H2.out hmi HGL.out R1.out R2.out R4.out)⟩
              case measure => simp [intOf]; omega
        · obtain rfl : m = i := by omega
          have t2 : ¬ (m : Int) < (m : Int) := by omega
          obtain ⟨pa, ca, hpa⟩ := slice_pos H2.out.all hn0
          subst hpa
          have HCE : Hid (Chg (Fv m v) w wi) := HCW.out.trans H2.out.chg (fun _ _ x => x) (fun _ _ x => x)
          go_wp2_with fail
          clear c1 t2
          go_loopw [9] (fun s wx => ∃ j : Nat, j ≤ m ∧ s = .int .i64 (j : Int) ∧ Hid (wx = wi)) (fun s _ => m - (intOf s).toNat)
          case atStart => exact ⟨0, by omega, rfl, by first | exact keepH rfl | exact keepH trivial⟩
          case round =>
            obtain ⟨j, hj, rfl, HW⟩ := hrel
            have e1 : wr = wi := HW.out
            rw [e1]
            clear e1 HW
            by_cases hjm : j < m
            · have t3 : (j : Int) < (m : Int) := by omega
              obtain ⟨hx, dx, q1, q2, _, q4, _⟩ := H2.out.gf j hjm
              have a1 : wi.cell? ⟨pa, j, none⟩ = some (.slice (some ⟨hx, 0, none⟩) (len j + 20) dx) := by
                have e := row_cellV H2.out.all j hjm
                rw [cellV_some, LV_get gs m j hjm, q1] at e
                exact e
              obtain ⟨li, hli⟩ : ∃ li, li = len j := ⟨_, rfl⟩
              have hlib : li ≤ 17592186043904 := by rw [hli]; exact HLEN.out j hjm
              obtain ⟨l20, hl20⟩ : ∃ l20, l20 = li + 20 := ⟨_, rfl⟩
              rw [← hli, ← hl20] at a1 q4
              have HQ4 := keepH q4
              have HLI := keepH hli
              have hl20b : l20 ≤ 17592186043924 := by omega
              clear q1 q2 q4 hli hl20
              go_wp2_with fail
              go_loopw [10] (fun s wx => ∃ k : Nat, k ≤ l20 ∧ s = .int .i64 (k : Int) ∧ Hid (wx = wi)) (fun s _ => l20 - (intOf s).toNat)
              case atStart => exact ⟨0, by omega, rfl, by first | exact keepH rfl | exact keepH trivial⟩
              case round =>
                obtain ⟨k, hk, rfl, HW⟩ := hrel
                have e1 : wr = wi := HW.out
                rw [e1]
                clear e1 HW
                by_cases hkl : k < l20
                · have t4 : (k : Int) < (l20 : Int) := by omega
                  have a2 : wi.cell? ⟨hx, k, none⟩ = some (.int .u64 (1152921504606846976 + (j : Int))) := HQ4.out k hkl
                  go_wp2_with fail
                  go_roundw
                  case rel => exact ⟨k + 1, by omega, by first | rfl | go_num, by first | exact keepH rfl | exact keepH trivial⟩
                  case measure => simp [intOf]; omega
                · obtain rfl : k = l20 := by omega
                  have t4 : ¬ (k : Int) < (k : Int) := by omega
                  have c1 := (HBK.out wi H2.out.chg).cell
                  have c2 := (HBK.out wi H2.out.chg).at j hjm
                  obtain ⟨pj, nj, cj, hvj, hpj⟩ := HBV.out.form j hjm
                  have hvl : nj = li := by
                    obtain ⟨p', c', e⟩ := slice_of (HF.out j hjm)
                    rw [hvj] at e
                    simp only [Value.slice.injEq] at e
                    rw [HLI.out]
                    exact e.2.1
                  subst hvl
                  rw [hvj] at c2
                  have HVJ := keepH hvj
                  have HPJ := keepH hpj
                  clear hvj hpj
                  go_wp2_with fail
                  go_loopw [12] (fun s wx => ∃ k : Nat, k ≤ nj ∧ s = .int .i64 (k : Int) ∧ Hid (wx = wi)) (fun s _ => nj - (intOf s).toNat)
                  case atStart => exact ⟨0, by omega, rfl, by first | exact keepH rfl | exact keepH trivial⟩
                  case round =>
                    obtain ⟨k2, hk2, rfl, HW⟩ := hrel
                    have e1 : wr = wi := HW.out
                    rw [e1]
                    clear e1 HW
                    by_cases hkn : k2 < nj
                    · have t5 : (k2 : Int) < (nj : Int) := by omega
                      have hq := H2.out.rv j hjm k2 (by rw [← HLI.out]; exact hkn)
                      rw [HVJ.out] at hq
                      cases pj with
                      | none => simp [cellV] at hq
                      | some ad =>
                        obtain ⟨bl, off, spot⟩ := ad
                        obtain ⟨rfl, rfl⟩ := HPJ.out _ rfl
                        have a3 : wi.cell? ⟨bl, k2, none⟩ = some (.int .u64 (1152921504606846976 + (j : Int))) := hq
                        clear hq
                        go_wp2_with fail
                        go_roundw
                        case rel => exact ⟨k2 + 1, by omega, by first | rfl | go_num, by first | exact keepH rfl | exact keepH trivial⟩
                        case measure => simp [intOf]; omega
                    · obtain rfl : k2 = nj := by omega
                      have t5 : ¬ (k2 : Int) < (k2 : Int) := by omega
                      go_wp2_with fail
                      go_roundw
                      case rel => exact ⟨j + 1, by omega, by first | rfl | go_num, by first | exact keepH rfl | exact keepH trivial⟩
                      case measure => simp [intOf]; omega
            · obtain rfl : j = m := by omega
              have t3 : ¬ (j : Int) < (j : Int) := by omega
              go_wp2_with fail
              go_ret
              exact ⟨by simp, HCE.out⟩
end Go.Proofs.Ytjnkefggmklaoaa
