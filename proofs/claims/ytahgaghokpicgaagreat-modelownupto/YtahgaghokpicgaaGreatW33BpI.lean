/- The book's look at its lists of uint64s: where they share no memory it tells true. -/
import Derived.Test.YtahgaghokpicgaaGreatW32BwG
namespace Go.Proofs.YtahgaghokpicgaaGreat
open Go.RowKit Go.Maps
theorem infoLists : (Tryz.prog.info? 33).map (fun i => (i.zero, i.size, i.bytes)) = some (some (.slice none 0 0), 1, 24) := by kernel_rfl
set_option maxRecDepth 100000 in
theorem alone_g (Bk n : Nat) (ov : Value) (v : Nat → Value) (len : Nat → Nat) (w : World) (hn : n ≤ 4398046511104) (hn0 : 0 < n) (hb : BkB w Bk ov n v) (hr : RowsM w n v len (fun _ => 0)) (ha : Apart n v) (hlen : ∀ j, j < n → len j ≤ 17592186043904) :
    Calls Tryz.prog 60 #[.pointer (some ⟨Bk, 0, none⟩)] w fun e w' => e = .returned (.bool true) ∧ Chg (Fv n v) w w' := by
 obtain ⟨i0, hi, hz0, hz1, hz2⟩ := info_parts infoU
 obtain ⟨i1, hi1, hy0, hy1, hy2⟩ := info_parts infoLists
 obtain ⟨go, co, rfl⟩ := slice_pos hb.outer hn0
 have HB := keepH hb
 have HR := keepH hr
 have HA := keepH ha
 have HLEN := keepH hlen
 have HI0 := keepH hi
 have HI1 := keepH hi1
 clear hb hr ha hlen hi hi1
 go_enter Tryz.func60, Tryz.ntmps60
 go_wp2_with fail
 go_loopw [3] (fun s wr => ∃ i : Nat, i ≤ n ∧ s = .int .i64 i ∧ Hid (BkB wr Bk (.slice (some ⟨go, 0, none⟩) n co) n v ∧ RowsM wr n v len (fun j => if j < i then len j else 0) ∧ Chg (Fv n v) w wr)) (fun s _ => n - (intOf s).toNat)
 case atStart => exact ⟨0, by omega, rfl, keepH ⟨HB.out, by simpa using HR.out, Chg.refl _ _⟩⟩
 case round =>
  obtain ⟨i, hin, rfl, HK⟩ := hrel
  have c1 := HK.out.1.cell
  by_cases hlt : i < n
  ·have t1 : (i : Int) < (n : Int) := by omega
   obtain ⟨xs, hx, hx2⟩ := HK.out.2.1 i hlt
   obtain ⟨pi, ci, hvi⟩ := slice_of hx
   obtain ⟨li, hli⟩ : ∃ li, li = len i := ⟨_, rfl⟩
   have hlib : li ≤ 17592186043904 := by rw [hli]; exact HLEN.out i hlt
   rw [← hli] at hvi
   have c2 := HK.out.1.at i hlt
   rw [hvi] at c2
   have HVI := keepH hvi
   have HLI := keepH hli
   clear hx2 hx hvi hli xs
   go_wp2_with fail
   clear c1 c2
   go_loopw [4] (fun s wx => ∃ k : Nat, k ≤ li ∧ s = .int .i64 k ∧ Hid (BkB wx Bk (.slice (some ⟨go, 0, none⟩) n co) n v ∧ RowsM wx n v len (fun j => if j < i then len j else if j = i then k else 0) ∧ Chg (Fv n v) w wx)) (fun s _ => li - (intOf s).toNat)
   case atStart => exact ⟨0, by omega, rfl, keepH ⟨HK.out.1, HK.out.2.1.weak (fun j hj => by split; exact Nat.le_refl _; split <;> exact Nat.zero_le _), HK.out.2.2⟩⟩
   case round =>
    obtain ⟨wx, hwx⟩ : ∃ wx, wx = wr := ⟨_, rfl⟩
    rw [← hwx] at hrel ⊢
    clear hwx
    obtain ⟨k, hk, rfl, HJ⟩ := hrel
    have c1 := HJ.out.1.cell
    have c2 := HJ.out.1.at i hlt
    rw [HVI.out] at c2
    by_cases hkl : k < li
    ·have t2 : (k : Int) < (li : Int) := by omega
     obtain ⟨xs, hx, _⟩ := HJ.out.2.1 i hlt
     rw [HVI.out, ← HLI.out] at hx
     obtain ⟨g, cg, hg⟩ := slice_pos hx (by omega)
     simp only [Value.slice.injEq, true_and] at hg
     obtain ⟨rfl, rfl⟩ := hg
     obtain ⟨y, hy⟩ : ∃ y, xs[k]? = some y := ⟨xs[k]'(by have := hx.1; omega), List.getElem?_eq_getElem _⟩
     have c3 : wx.cell? ⟨g, k, none⟩ = some y := by rw [← hy]; exact row_cellV hx k hkl
     obtain ⟨cur, hcur⟩ := row_block hx g rfl
     have fz : wx.frozen? ⟨g, k, none⟩ = false := free_of hcur k
     have hne := HJ.out.1.ne hx
     have HBN : Hid (BkB (wx.setCell ⟨g, k, none⟩ (mark i)) Bk (.slice (some ⟨go, 0, none⟩) n co) n v) := HJ.out.1.kept (Below.heap_setCell wx ⟨g, k, none⟩ (mark i) Bk (fun e => hne.1 (by rw [e]; rfl))) (fun b hb => Below.heap_setCell wx ⟨g, k, none⟩ (mark i) b (fun e => hne.2 b hb (by rw [e]; rfl)))
     have HRN : Hid (RowsM (wx.setCell ⟨g, k, none⟩ (mark i)) n v len (fun j => if j < i then len j else if j = i then k + 1 else 0)) := HJ.out.2.1.put HA.out hlt (by rw [← HLI.out]; exact hkl) (by rw [HVI.out, ← HLI.out]) (fun j q hj hq => by
      by_cases e1 : j < i
      ·simp only [if_pos e1] at hq ⊢; exact .inl hq
      ·by_cases e2 : j = i
       ·simp only [if_neg e1, if_pos e2] at hq ⊢
        by_cases e3 : q = k
        ·exact .inr ⟨e2, e3⟩
        ·exact .inl (by omega)
       ·simp only [if_neg e1, if_neg e2] at hq; omega)
     have HCN : Hid (Chg (Fv n v) w (wx.setCell ⟨g, k, none⟩ (mark i))) := HJ.out.2.2.setCell (fun _ => ⟨i, hlt, by rw [HVI.out]; rfl⟩) _
     clear hx hy hcur hne
     go_wp2_with fail
     go_roundw
     case rel => exact ⟨k + 1, by omega, by first | rfl | go_num, keepH ⟨HBN.out, HRN.out, HCN.out⟩⟩
     case measure => simp [intOf]; omega
    ·obtain rfl : k = li := by omega
     have t2 : ¬ (k : Int) < (k : Int) := by omega
     go_wp2_with fail
     go_roundw
     case rel =>
      refine ⟨i + 1, by omega, by first | rfl | go_num, keepH ⟨HJ.out.1, HJ.out.2.1.weak (fun j hj => ?_), HJ.out.2.2⟩⟩
      by_cases e1 : j < i
      ·simp only [if_pos e1, if_pos (show j < i + 1 by omega)]; exact Nat.le_refl _
      ·by_cases e2 : j = i
       ·simp only [if_neg e1, if_pos e2, if_pos (show j < i + 1 by omega)]; rw [e2, HLI.out]; exact Nat.le_refl _
       ·simp only [if_neg (show ¬ j < i + 1 by omega)]; exact Nat.zero_le _
     case measure => simp [intOf]; omega
  ·obtain rfl : i = n := by omega
   have t1 : ¬ (i : Int) < (i : Int) := by omega
   obtain ⟨wa, hwa⟩ : ∃ wa, wa = wr := ⟨_, rfl⟩
   rw [← hwa] at HK c1 ⊢
   clear hwa
   have HF : Hid (∀ j, j < i → wa.ownsRow 0 30 1 (v j) (len j) (List.replicate (len j) (mark j))) := fun j hj => by
    obtain ⟨xs, h1, h2⟩ := HK.out.2.1 j hj
    have e := all_marks (n := len j) (x := mark j) (by have := h1.1; omega) (fun q hq => h2 q (by simp only [if_pos hj]; exact hq))
    rw [← e]
    exact h1
   have HBV : Hid (BV wa i v) := ⟨HA.out, fun j b hj hb => row_lt (HF.out j hj) b hb, fun j hj => row_form (HF.out j hj)⟩
   have HBK : Hid (∀ X, Chg (Fv i v) wa X → BkB X Bk (.slice (some ⟨go, 0, none⟩) i co) i v) := fun X hX => HK.out.1.kept (hX.block Bk HK.out.1.lt (fun ⟨j, hj, e⟩ => (HK.out.1.ne (HF.out j hj)).1 e)) (fun b hb => hX.block b (row_lt HK.out.1.outer b hb) (fun ⟨j, hj, e⟩ => (HK.out.1.ne (HF.out j hj)).2 b hb e))
   have HCW : Hid (Chg (Fv i v) w wa) := HK.out.2.2
   have H20 : Hid (B2 wa wa i v len 0 (fun _ => .slice none 0 0) (.slice none 0 0)) := ⟨fun j _ hj => HF.out j hj, fun j hj q hq => by rw [row_cellV (HF.out j hj) q hq, List.getElem?_replicate, if_pos hq], fun j hj => by omega, World.ownsRow_nil _ _ _ _, fun b hb => by simp [Value.ownBlock] at hb, Chg.refl _ _⟩
   go_wp2_with fail
   clear c1 t1 HK HB HR
   go_loopw [5, 6] (fun av s wx => ∃ (m : Nat) (gs : Nat → Value), m ≤ i ∧ s = .int .i64 m ∧ Hid (B2 wa wx i v len m gs av)) (fun _ s _ => i - (intOf s).toNat)
   case atStart => exact ⟨0, _, by omega, rfl, H20⟩
   case round =>
    clear H20
    obtain ⟨wi, hwi⟩ : ∃ wi, wi = wr := ⟨_, rfl⟩
    rw [← hwi] at hrel ⊢
    clear hwi
    obtain ⟨m, gs, hm, rfl, H2⟩ := hrel
    obtain ⟨av, hav⟩ : ∃ av, av = u5 := ⟨_, rfl⟩
    rw [← hav] at H2 ⊢
    clear hav
    have c1 := (HBK.out wi H2.out.chg).cell
    by_cases hmi : m < i
    ·have t2 : (m : Int) < (i : Int) := by omega
     have c2 := (HBK.out wi H2.out.chg).at m hmi
     obtain ⟨pi, ci, hvi⟩ := slice_of (H2.out.rows m (Nat.le_refl _) hmi)
     obtain ⟨li, hli⟩ : ∃ li, li = len m := ⟨_, rfl⟩
     have hlib : li ≤ 17592186043904 := by rw [hli]; exact HLEN.out m hmi
     rw [← hli] at hvi
     rw [hvi] at c2
     have HVI := keepH hvi
     have HLI := keepH hli
     have HG0 : Hid (G2 wi wi (v m) li m 0 (.slice pi li ci)) := by
      have r := H2.out.rows m (Nat.le_refl _) hmi
      rw [← hli] at r
      exact ⟨by rw [← hvi]; exact r, fun q hq => by rw [row_cellV r q hq, List.getElem?_replicate, if_pos hq], .inl (by rw [hvi]), Chg.refl _ _, HBV.out.form m hmi, fun b hb => row_lt r b hb⟩
     clear hvi hli
     go_wp2_with fail
     clear c1 c2
     go_loopw [7, 8] (fun gv s wx => ∃ k : Nat, k ≤ 20 ∧ s = .int .i64 k ∧ Hid (G2 wi wx (v m) li m k gv)) (fun _ s _ => 20 - (intOf s).toNat)
     case atStart => exact ⟨0, by omega, rfl, HG0⟩
     case round =>
      clear HG0
      obtain ⟨wx, hwx⟩ : ∃ wx, wx = wr := ⟨_, rfl⟩
      rw [← hwx] at hrel ⊢
      clear hwx
      obtain ⟨k, hk, rfl, HG⟩ := hrel
      obtain ⟨gv, hgv⟩ : ∃ gv, gv = u7 := ⟨_, rfl⟩
      rw [← hgv] at HG ⊢
      clear hgv
      by_cases hk20 : k < 20
      ·have t3 : (k : Int) < 20 := by omega
       have hi := HI0.out
       go_wp2_with (first | (at_builtin; refine wpList_append_two _ rfl (.tmp 67) (.tmp 71) 33 rfl 30 i0 (.int .u64 0) 1 8 Tryz.underlying33 hi hz0 hz1 hz2 rfl (by decide) gv (li + k) (List.replicate (li + k) (mark m)) rfl (HG.out.row.alloc _) ⟨wx.heap.size, 0, none⟩ 1 1 [.int .u64 (1152921504606846976 + (m : Int))] rfl rfl (cells_new _ _ rfl _ _) (by intro u hu; simp at hu; subst hu; rfl) (by decide) (by unfold maxLen; omega) (by omega) ?_; intro v2 w2 r1 r2; have R1 := keepH r1; have R2 := keepH r2; clear r1 r2) | go_in)
       go_roundw
       case rel => exact ⟨k + 1, by omega, by first | rfl | go_num, keepH (HG.out.more R1.out R2.out)⟩
       case measure => simp [intOf]; omega
      ·obtain rfl : k = 20 := by omega
       have t3 : ¬ (20 : Int) < 20 := by omega
       obtain ⟨hb, cb, hgv⟩ := slice_pos HG.out.row (by omega)
       subst hgv
       have hi1 := HI1.out
       have HAR : Hid (wx.ownsRow 0 33 1 av m (LV gs m)) := row_kept H2.out.all fun b hb2 => HG.out.chg.block b (row_lt H2.out.all b hb2) (fun e => by have := HBV.out.lt m b hmi e; have := H2.out.alln b hb2; omega)
       have hmb : m + 1 ≤ 4398046511105 := by omega
       go_wp2_with (first | (at_builtin; refine wpList_append_own_at _ rfl (.tmp 73) (.tmp 75) 55 rfl 0 33 i1 (.slice none 0 0) 1 24 Tryz.underlying55 hi1 hy0 hy1 hy2 rfl (by decide) av m (LV gs m) rfl (HAR.out.alloc _) ⟨wx.heap.size, 0, none⟩ 1 1 [.slice (some ⟨hb, 0, none⟩) (li + 20) cb] rfl rfl (cells_new _ _ rfl _ _) (by intro u hu; simp at hu; subst hu; rfl) (by unfold maxLen; omega) (by omega) (Nat.zero_le _) ?_; intro v3 w3 r1 r2 r3 r4; have R1 := keepH r1; have R2 := keepH r2; have R4 := keepH r4; clear r1 r2 r3 r4) | go_in)
       have HGL : Hid (G2 wi wx (v m) (len m) m 20 (.slice (some ⟨hb, 0, none⟩) (li + 20) cb)) := by have e := HG.out; rw [HLI.out] at e ⊢; exact e
       go_roundw
       case rel => exact ⟨m + 1, _, by omega, by first | rfl | go_num, keepH (B2.next HBV.out H2.out hmi HGL.out R1.out R2.out R4.out)⟩
       case measure => simp [intOf]; omega
    ·obtain rfl : m = i := by omega
     have t2 : ¬ (m : Int) < (m : Int) := by omega
     obtain ⟨pa, ca, hpa⟩ := slice_pos H2.out.all hn0
     subst hpa
     have HCE : Hid (Chg (Fv m v) w wi) := HCW.out.trans H2.out.chg (fun _ _ x => x) (fun _ _ x => x)
     go_wp2_with fail
     clear c1 t2
     go_loopw [9] (fun s wx => ∃ j : Nat, j ≤ m ∧ s = .int .i64 j ∧ Hid (wx = wi)) (fun s _ => m - (intOf s).toNat)
     case atStart => exact ⟨0, by omega, rfl, by first | exact keepH rfl | exact keepH trivial⟩
     case round =>
      obtain ⟨j, hj, rfl, HW⟩ := hrel
      have e1 : wr = wi := HW.out
      rw [e1]
      clear e1 HW
      by_cases hjm : j < m
      ·have t3 : (j : Int) < (m : Int) := by omega
       obtain ⟨hx, dx, q1, q2, _, q4, _⟩ := H2.out.gf j hjm
       have a1 : wi.cell? ⟨pa, j, none⟩ = some (.slice (some ⟨hx, 0, none⟩) (len j + 20) dx) := by
        have e := row_cellV H2.out.all j hjm
        rw [cellV_some, LV_get gs m j hjm, q1] at e
        exact e
       obtain ⟨li, hli⟩ : ∃ li, li = len j := ⟨_, rfl⟩
       have hlib : li ≤ 17592186043904 := by rw [hli]; exact HLEN.out j hjm
       obtain ⟨l20, hl20⟩ : ∃ l20, l20 = li + 20 := ⟨_, rfl⟩
       rw [← hli, ← hl20] at a1 q4
       have HQ4 := keepH q4
       have HLI := keepH hli
       have hl20b : l20 ≤ 17592186043924 := by omega
       clear q1 q2 q4 hli hl20
       go_wp2_with fail
       go_loopw [10] (fun s wx => ∃ k : Nat, k ≤ l20 ∧ s = .int .i64 k ∧ Hid (wx = wi)) (fun s _ => l20 - (intOf s).toNat)
       case atStart => exact ⟨0, by omega, rfl, by first | exact keepH rfl | exact keepH trivial⟩
       case round =>
        obtain ⟨k, hk, rfl, HW⟩ := hrel
        have e1 : wr = wi := HW.out
        rw [e1]
        clear e1 HW
        by_cases hkl : k < l20
        ·have t4 : (k : Int) < (l20 : Int) := by omega
         have a2 : wi.cell? ⟨hx, k, none⟩ = some (.int .u64 (1152921504606846976 + (j : Int))) := HQ4.out k hkl
         go_wp2_with fail
         go_roundw
         case rel => exact ⟨k + 1, by omega, by first | rfl | go_num, by first | exact keepH rfl | exact keepH trivial⟩
         case measure => simp [intOf]; omega
        ·obtain rfl : k = l20 := by omega
         have t4 : ¬ (k : Int) < (k : Int) := by omega
         have c1 := (HBK.out wi H2.out.chg).cell
         have c2 := (HBK.out wi H2.out.chg).at j hjm
         obtain ⟨pj, nj, cj, hvj, hpj⟩ := HBV.out.form j hjm
         have hvl : nj = li := by
          obtain ⟨p', c', e⟩ := slice_of (HF.out j hjm)
          rw [hvj] at e
          simp only [Value.slice.injEq] at e
          rw [HLI.out]
          exact e.2.1
         subst hvl
         rw [hvj] at c2
         have HVJ := keepH hvj
         have HPJ := keepH hpj
         clear hvj hpj
         go_wp2_with fail
         go_loopw [12] (fun s wx => ∃ k : Nat, k ≤ nj ∧ s = .int .i64 k ∧ Hid (wx = wi)) (fun s _ => nj - (intOf s).toNat)
         case atStart => exact ⟨0, by omega, rfl, by first | exact keepH rfl | exact keepH trivial⟩
         case round =>
          obtain ⟨k2, hk2, rfl, HW⟩ := hrel
          have e1 : wr = wi := HW.out
          rw [e1]
          clear e1 HW
          by_cases hkn : k2 < nj
          ·have t5 : (k2 : Int) < (nj : Int) := by omega
           have hq := H2.out.rv j hjm k2 (by rw [← HLI.out]; exact hkn)
           rw [HVJ.out] at hq
           cases pj with
           | none => simp [cellV] at hq
           | some ad =>
            obtain ⟨bl, off, spot⟩ := ad
            obtain ⟨rfl, rfl⟩ := HPJ.out _ rfl
            have a3 : wi.cell? ⟨bl, k2, none⟩ = some (.int .u64 (1152921504606846976 + (j : Int))) := hq
            clear hq
            go_wp2_with fail
            go_roundw
            case rel => exact ⟨k2 + 1, by omega, by first | rfl | go_num, by first | exact keepH rfl | exact keepH trivial⟩
            case measure => simp [intOf]; omega
          ·obtain rfl : k2 = nj := by omega
           have t5 : ¬ (k2 : Int) < (k2 : Int) := by omega
           go_wp2_with fail
           go_roundw
           case rel => exact ⟨j + 1, by omega, by first | rfl | go_num, by first | exact keepH rfl | exact keepH trivial⟩
           case measure => simp [intOf]; omega
      ·obtain rfl : j = m := by omega
       have t3 : ¬ (j : Int) < (j : Int) := by omega
       go_wp2_with fail
       go_ret
       exact ⟨by simp, HCE.out⟩
end Go.Proofs.YtahgaghokpicgaaGreat
namespace Go.Proofs.YtahgaghokpicgaaGreat
open Go.RowKit Go.Maps Go.Shelf
def markP (j : Nat) : Nat × Nat := (1152921504606846976 + j, 0)
def pcl (x : Nat × Nat) : List Value := [.int .u64 x.1, .int .u64 x.2]
def mP (j q : Nat) : Option Value := (pcl (markP j))[q % 2]?
theorem prRow_snoc (l : List (Nat × Nat)) (e : Nat × Nat) : prRow (l ++ [e]) = prRow l ++ pcl e := by simp [prRow, pcl]
theorem prR_get {n j q : Nat} (h : q < n * 2) : (prRow (List.replicate n (markP j)))[q]? = mP j q := by
 induction n generalizing q with
 | zero => omega
 | succ n ih =>
  have e : prRow (List.replicate (n + 1) (markP j)) = pcl (markP j) ++ prRow (List.replicate n (markP j)) := rfl
  rw [e]
  by_cases h4 : q < 2
  ·rw [List.getElem?_append_left (by show q < 2; exact h4)]
   unfold mP
   rw [Nat.mod_eq_of_lt h4]
  ·rw [List.getElem?_append_right (by show 2 ≤ q; omega)]
   have := ih (q := q - 2) (by omega)
   show (prRow (List.replicate n (markP j)))[q - 2]? = _
   rw [this]
   unfold mP
   rw [show q % 2 = (q - 2) % 2 by omega]
theorem prRow_set (l : List (Nat × Nat)) (k : Nat) (e : Nat × Nat) (h : k < l.length) : ((prRow l).set (k * 2) (.int .u64 e.1)).set (k * 2 + 1) (.int .u64 e.2) = prRow (l.set k e) := by
 induction l generalizing k with
 | nil => simp at h
 | cons x l ih =>
  have e1 : prRow (x :: l) = pcl x ++ prRow l := rfl
  cases k with
  | zero => rfl
  | succ k =>
   have e2 : prRow ((x :: l).set (k + 1) e) = pcl x ++ prRow (l.set k e) := rfl
   rw [e2, ← ih k (by simpa using h), e1]
   rw [show (k + 1) * 2 = (k * 2) + 2 by omega, show k * 2 + 2 + 1 = (k * 2 + 1) + 2 by omega]
   rfl
theorem pr_cell {W : World} {g n c : Nat} {l : List (Nat × Nat)} (h : W.ownsRow 0 86 2 (.slice (some ⟨g, 0, none⟩) n c) n (prRow l)) (j : Nat) (x : Nat × Nat) (hj : l[j]? = some x) (hn : j < n) : W.cell? ⟨g, j * 2, none⟩ = some (.int .u64 x.1) ∧ W.cell? ⟨g, j * 2 + 1, none⟩ = some (.int .u64 x.2) := by
 obtain ⟨q1, q2⟩ := prRow_get l j x.1 x.2 hj
 exact ⟨by rw [World.ownsRow.cellAt h (j * 2) (by omega)]; exact q1, by rw [World.ownsRow.cellAt h (j * 2 + 1) (by omega)]; exact q2⟩
theorem row_cellVs {W : World} {v : Value} {n s : Nat} {xs : List Value} {e : TypeId} (h : W.ownsRow 0 e s v n xs) (q : Nat) (hq : q < n * s) : cellV W v q = xs[q]? := by
 have hn : 0 < n := Nat.pos_of_ne_zero (fun z => by rw [z, Nat.zero_mul] at hq; omega)
 obtain ⟨g, c, rfl⟩ := slice_pos h hn
 rw [cellV_some, World.ownsRow.cellAt h q hq]
structure BkBP (W : World) (Bk : Nat) (ov : Value) (n : Nat) (v : Nat → Value) : Prop where
 blk : ∃ cs, W.heap[Bk]? = some (.cells cs 73 (0, 0)) ∧ cs[4]? = some ov
 outer : W.ownsRow 0 37 1 ov n (LV v n)
theorem BkBP.cell {W : World} {Bk : Nat} {ov : Value} {n : Nat} {v : Nat → Value} (h : BkBP W Bk ov n v) : W.cell? ⟨Bk, 4, none⟩ = some ov := by
 obtain ⟨cs, h1, h2⟩ := h.blk
 rw [cell_of h1, h2]
theorem BkBP.kept {W X : World} {Bk : Nat} {ov : Value} {n : Nat} {v : Nat → Value} (h : BkBP W Bk ov n v) (h1 : X.heap[Bk]? = W.heap[Bk]?) (h2 : ∀ b, ov.ownBlock = some b → X.heap[b]? = W.heap[b]?) : BkBP X Bk ov n v := by
 obtain ⟨cs, q1, q2⟩ := h.blk
 exact ⟨⟨cs, h1.trans q1, q2⟩, row_kept h.outer h2⟩
theorem BkBP.lt {W : World} {Bk : Nat} {ov : Value} {n : Nat} {v : Nat → Value} (h : BkBP W Bk ov n v) : Bk < W.heap.size := by
 obtain ⟨cs, q1, _⟩ := h.blk
 exact lt_of q1
theorem BkBP.at {W : World} {Bk go co : Nat} {n : Nat} {v : Nat → Value} (h : BkBP W Bk (.slice (some ⟨go, 0, none⟩) n co) n v) (j : Nat) (hj : j < n) : W.cell? ⟨go, j, none⟩ = some (v j) := by
 have e := row_cellV h.outer j hj
 rw [cellV_some, LV_get v n j hj] at e
 exact e
theorem BkBP.ne {W : World} {Bk : Nat} {ov : Value} {n : Nat} {v : Nat → Value} {x : Value} {k : Nat} {xs : List Value} (h : BkBP W Bk ov n v) (hr : W.ownsRow 0 86 2 x k xs) : x.ownBlock ≠ some Bk ∧ ∀ b, ov.ownBlock = some b → x.ownBlock ≠ some b := by
 obtain ⟨cs, q1, _⟩ := h.blk
 exact ⟨block_apart hr q1 (by decide), fun b hb => rows_apart h.outer hr (by decide) b hb⟩
def RowsP (W : World) (n : Nat) (v : Nat → Value) (len t : Nat → Nat) : Prop := ∀ j, j < n → ∃ l : List (Nat × Nat), l.length = len j ∧ W.ownsRow 0 86 2 (v j) (len j) (prRow l) ∧ ∀ q, q < t j → l[q]? = some (markP j)
theorem RowsP.weak {W : World} {n : Nat} {v : Nat → Value} {len t t' : Nat → Nat} (h : RowsP W n v len t) (ht : ∀ j, j < n → t' j ≤ t j) : RowsP W n v len t' := fun j hj => by
 obtain ⟨xs, h0, h1, h2⟩ := h j hj
 exact ⟨xs, h0, h1, fun q hq => h2 q (Nat.lt_of_lt_of_le hq (ht j hj))⟩
def putP (W : World) (g k i : Nat) : World := (W.setCell ⟨g, k * 2, none⟩ (.int .u64 (1152921504606846976 + (i : Int)))).setCell ⟨g, k * 2 + 1, none⟩ (.int .u64 0)
theorem putP_block (W : World) (g k i b : Nat) (h : b ≠ g) : (putP W g k i).heap[b]? = W.heap[b]? := by
 unfold putP
 rw [Below.heap_setCell _ _ _ b h, Below.heap_setCell _ _ _ b h]
theorem RowsP.put {W : World} {n g c i k : Nat} {v : Nat → Value} {len t t' : Nat → Nat} (h : RowsP W n v len t) (ha : Apart n v) (hi : i < n) (hk : k < len i) (hg : v i = .slice (some ⟨g, 0, none⟩) (len i) c) (ht : ∀ j q, j < n → q < t' j → q < t j ∨ j = i ∧ q = k) : RowsP (putP W g k i) n v len t' := fun j hj => by
 obtain ⟨l, h0, h1, h2⟩ := h j hj
 by_cases e : j = i
 ·subst e
  rw [hg] at h1
  refine ⟨l.set k (markP j), by simpa using h0, ?_, fun q hq => ?_⟩
  ·rw [hg, ← prRow_set l k (markP j) (by omega)]
   exact (World.ownsRow.stored (World.ownsRow.stored h1 (k * 2) (.int .u64 ((1152921504606846976 + j : Nat) : Int))).1 (k * 2 + 1) (.int .u64 0)).1
  ·rw [List.getElem?_set]
   by_cases e2 : k = q
   ·rw [if_pos e2, if_pos (by omega)]
   ·rw [if_neg e2]
    rcases ht j q hj hq with h3 | ⟨_, h3⟩
    ·exact h2 q h3
    ·exact absurd h3.symm e2
 ·have hb : (v i).ownBlock = some g := by rw [hg]; rfl
  refine ⟨l, h0, row_kept h1 fun b hb2 => putP_block W g k i b (fun e3 => ?_), fun q hq => ?_⟩
  ·exact ha i j b hi hj (fun e4 => e e4.symm) (by rw [hb]; exact congrArg some e3.symm) hb2
  ·rcases ht j q hj hq with h3 | ⟨h3, _⟩
   ·exact h2 q h3
   ·exact absurd h3 e
theorem all_marksP {l : List (Nat × Nat)} {n j : Nat} (hl : l.length = n) (h : ∀ q, q < n → l[q]? = some (markP j)) : l = List.replicate n (markP j) := by
 apply List.ext_getElem?
 intro q
 by_cases c : q < n
 ·rw [h q c, List.getElem?_replicate, if_pos c]
 ·rw [List.getElem?_eq_none (by omega), List.getElem?_eq_none (by simp; omega)]
structure G2P (wi wr : World) (vi : Value) (len i k : Nat) (gv : Value) : Prop where
 row : wr.ownsRow 0 86 2 gv (len + k) (prRow (List.replicate (len + k) (markP i)))
 rvi : ∀ q, q < len * 2 → cellV wr vi q = mP i q
 blk : gv.ownBlock = vi.ownBlock ∨ ∀ b, gv.ownBlock = some b → wi.heap.size ≤ b
 chg : Chg (fun b => vi.ownBlock = some b) wi wr
 form : ∃ p n c, vi = .slice p n c ∧ (∀ a, p = some a → a.off = 0 ∧ a.spot = none)
 vlt : ∀ b, vi.ownBlock = some b → b < wi.heap.size
theorem G2P.more {wi wr w2 : World} {vi gv v' : Value} {len i k : Nat} {o : Obj} (h : G2P wi wr vi len i k gv) (hr : w2.ownsRow 0 86 2 v' (len + k + 1) (prRow (List.replicate (len + k) (markP i)) ++ pcl (markP i)))
    (hg : (wr.alloc o).grownBy w2 gv.ownBlock ∧ v'.ownBlock = gv.ownBlock ∨ (wr.alloc o).grownBy w2 none ∧ ∀ b, v'.ownBlock = some b → (wr.alloc o).heap.size ≤ b) : G2P wi w2 vi len i (k + 1) v' := by
 have hrow : w2.ownsRow 0 86 2 v' (len + (k + 1)) (prRow (List.replicate (len + (k + 1)) (markP i))) := by
  have e : prRow (List.replicate (len + (k + 1)) (markP i)) = prRow (List.replicate (len + k) (markP i)) ++ pcl (markP i) := by
   rw [show len + (k + 1) = (len + k) + 1 by omega, List.replicate_succ', prRow_snoc]
  rw [e]
  exact hr
 have hs := h.chg.size
 have c1 : Chg (fun b => vi.ownBlock = some b) wi (wr.alloc o) := h.chg.alloc o
 rcases hg with ⟨g1, g2⟩ | ⟨g1, g2⟩
 ·refine ⟨hrow, fun q hq => ?_, ?_, c1.grown g1 (fun b hb hlt => ?_), h.form, h.vlt⟩
  ·by_cases e : gv.ownBlock = vi.ownBlock
   ·obtain ⟨b, cb, rfl⟩ := slice_pos hrow (by omega)
    have hb : vi.ownBlock = some b := by rw [← e, ← g2]; rfl
    obtain ⟨p, n, c, rfl, hp⟩ := h.form
    cases p with
    | none => simp [Value.ownBlock] at hb
    | some a =>
     obtain ⟨bl, off, spot⟩ := a
     obtain ⟨rfl, rfl⟩ := hp _ rfl
     simp [Value.ownBlock] at hb
     subst hb
     have e2 := row_cellVs hrow q (by omega)
     rw [cellV_some, prR_get (by omega)] at e2
     exact e2
   ·rw [cellV_kept (W := wr) (fun b hb => ?_) h.form]
    ·exact h.rvi q hq
    ·have hlt := h.vlt b hb
     refine (g1.block b (by simp; omega) (fun e3 => ?_)).trans (Below.heap_alloc _ _ _ (by omega))
     rcases h.blk with e4 | e4
     ·exact e e4
     ·have := e4 b e3.symm
      omega
  ·rcases h.blk with e4 | e4
   ·exact .inl (g2.trans e4)
   ·exact .inr (by rw [g2]; exact e4)
  ·rcases h.blk with e4 | e4
   ·rw [← e4]; exact hb
   ·have := e4 b hb
    omega
 ·refine ⟨hrow, fun q hq => ?_, .inr fun b hb => ?_, c1.grown g1 (fun b hb => by simp at hb), h.form, h.vlt⟩
  ·rw [cellV_kept (W := wr) (fun b hb => ?_) h.form]
   ·exact h.rvi q hq
   ·have hlt := h.vlt b hb
    exact (g1.block b (by simp; omega) (by simp)).trans (Below.heap_alloc _ _ _ (by omega))
  ·have := g2 b hb
   simp at this
   omega
structure B2P (wa wr : World) (n : Nat) (v : Nat → Value) (len : Nat → Nat) (i : Nat) (gs : Nat → Value) (av : Value) : Prop where
 rows : ∀ j, i ≤ j → j < n → wr.ownsRow 0 86 2 (v j) (len j) (prRow (List.replicate (len j) (markP j)))
 rv : ∀ j, j < n → ∀ q, q < len j * 2 → cellV wr (v j) q = mP j q
 gf : ∀ j, j < i → ∃ h d, gs j = .slice (some ⟨h, 0, none⟩) (len j + 20) d ∧ h < wr.heap.size ∧ (∃ cur, wr.heap[h]? = some (.cells cur 86 (0, 0))) ∧ (∀ q, q < (len j + 20) * 2 → wr.cell? ⟨h, q, none⟩ = mP j q) ∧ ∀ j', i ≤ j' → j' < n → (v j').ownBlock ≠ some h
 all : wr.ownsRow 0 37 1 av i (LV gs i)
 alln : ∀ b, av.ownBlock = some b → wa.heap.size ≤ b
 chg : Chg (Fv n v) wa wr
theorem B2P.next {wa wi wr w2 : World} {n i : Nat} {v : Nat → Value} {len : Nat → Nat} {gs : Nat → Value} {av av' gv : Value} {o : Obj} (hv : BV wa n v) (h : B2P wa wi n v len i gs av) (hi : i < n) (hg : G2P wi wr (v i) (len i) i 20 gv)
    (hr : w2.ownsRow 0 37 1 av' (i + 1) (LV gs i ++ [gv])) (hgr : (wr.alloc o).grownBy w2 av.ownBlock) (hw : av'.ownBlock = av.ownBlock ∨ av'.ownBlock = some (wr.alloc o).heap.size) : B2P wa w2 n v len (i + 1) (fun j => if j = i then gv else gs j) av' := by
 have s1 := h.chg.size
 have s2 := hg.chg.size
 have c2 : Chg (fun b => av.ownBlock = some b) wr w2 := ((Chg.refl (fun b => av.ownBlock = some b) wr).alloc o).grown hgr (fun k e _ => e)
 have s3 := c2.size
 have away : ∀ b, b < wi.heap.size → (v i).ownBlock ≠ some b → av.ownBlock ≠ some b → w2.heap[b]? = wi.heap[b]? := fun b hb h1 h2 => (c2.block b (by omega) h2).trans (hg.chg.block b hb h1)
 have vaway : ∀ j, j < n → j ≠ i → ∀ b, (v j).ownBlock = some b → w2.heap[b]? = wi.heap[b]? := fun j hj hne b hb => by
  have hlt := hv.lt j b hj hb
  exact away b (by omega) (hv.apart j i b hj hi hne hb) (fun e => by have := h.alln b e; omega)
 obtain ⟨hb, cb, hgv⟩ := slice_pos hg.row (by omega)
 obtain ⟨cur, hcur⟩ := row_block hg.row hb (by rw [hgv]; rfl)
 have hA := h.all
 have hAr : wr.ownsRow 0 37 1 av i (LV gs i) := row_kept hA fun b hb2 => hg.chg.block b (row_lt hA b hb2) (fun e => by have := hv.lt i b hi e; have := h.alln b hb2; omega)
 have hne : av.ownBlock ≠ some hb := block_apart hAr hcur (by decide)
 have hkeep : w2.heap[hb]? = wr.heap[hb]? := c2.block hb (lt_of hcur) hne
 refine ⟨fun j h1 h2 => ?_, fun j hj q hq => ?_, fun j hj => ?_, ?_, fun b hb2 => ?_, ?_⟩
 ·exact row_kept (h.rows j (by omega) h2) fun b hb2 => vaway j h2 (by omega) b hb2
 ·by_cases e : j = i
  ·subst e
   rw [cellV_kept (W := wr) (fun b hb2 => c2.block b (by have := hv.lt j b hj hb2; omega) (fun e => by have := hv.lt j b hj hb2; have := h.alln b e; omega)) (hv.form j hj)]
   exact hg.rvi q hq
  ·rw [cellV_kept (W := wi) (fun b hb2 => vaway j hj e b hb2) (hv.form j hj)]
   exact h.rv j hj q hq
 ·by_cases e : j = i
  ·subst e
   rw [if_pos rfl]
   refine ⟨hb, cb, hgv, by have := lt_of hcur; omega, ⟨cur, hkeep.trans hcur⟩, fun q hq => ?_, fun j' h1 h2 e2 => ?_⟩
   ·have e3 := row_cellVs hg.row q hq
    rw [hgv, cellV_some, prR_get hq] at e3
    exact (World.cell?_of_block (w := wr) hkeep).trans e3
   ·rcases hg.blk with e4 | e4
    ·exact hv.apart j j' hb hi h2 (by omega) (by rw [← e4, hgv]; rfl) e2
    ·have := e4 hb (by rw [hgv]; rfl)
     have := hv.lt j' hb h2 e2
     omega
  ·rw [if_neg e]
   obtain ⟨x, d, q1, q2, ⟨cx, q3⟩, q4, q5⟩ := h.gf j (by omega)
   have hx : w2.heap[x]? = wi.heap[x]? := away x q2 (q5 i (Nat.le_refl _) hi) (block_apart hA q3 (by decide))
   exact ⟨x, d, q1, by omega, ⟨cx, hx.trans q3⟩, fun q hq => (World.cell?_of_block (w := wi) hx).trans (q4 q hq), fun j' h1 h2 => q5 j' (by omega) h2⟩
 ·rw [LV_snoc]
  exact hr
 ·rcases hw with e | e
  ·rw [e] at hb2
   exact h.alln b hb2
  ·rw [e] at hb2
   simp at hb2
   omega
 ·exact (h.chg.trans hg.chg (H := Fv n v) (fun _ _ x => x) (fun b _ x => ⟨i, hi, x⟩)).trans c2 (fun _ _ x => x) (fun b hb2 x => by have := h.alln b x; omega)
theorem pair_self (j : Nat) (hj : j ≤ 4398046511104) (w : World) : (binOp .eql 86 (.agg #[.int .u64 (1152921504606846976 + (j : Int)), .int .u64 0]) (.agg #[.int .u64 (1152921504606846976 + (j : Int)), .int .u64 0])).run Tryz.prog w = .ok (.bool true) w := by
 have h := pair_eql (1152921504606846976 + j) 0 (1152921504606846976 + j) 0 (by omega) (by omega) (by omega) (by omega) w
 rw [show ((1152921504606846976 + j : Nat) : Int) = 1152921504606846976 + (j : Int) by omega, show ((0 : Nat) : Int) = 0 from rfl] at h
 simp only [binOp, go_sem]
 simp [h, Result.andThen]
theorem infoListsP : (Tryz.prog.info? 37).map (fun i => (i.zero, i.size, i.bytes)) = some (some (.slice none 0 0), 1, 24) := by kernel_rfl
set_option maxRecDepth 100000 in
theorem alone_p (Bk n : Nat) (ov : Value) (v : Nat → Value) (len : Nat → Nat) (w : World) (hn : n ≤ 4398046511104) (hn0 : 0 < n) (hb : BkBP w Bk ov n v) (hr : RowsP w n v len (fun _ => 0)) (ha : Apart n v) (hlen : ∀ j, j < n → len j ≤ 8796093022000) :
    Calls Tryz.prog 61 #[.pointer (some ⟨Bk, 0, none⟩)] w fun e w' => e = .returned (.bool true) ∧ Chg (Fv n v) w w' := by
 obtain ⟨i0, hi, hz0, hz1, hz2⟩ := info_parts infoPair
 obtain ⟨i1, hi1, hy0, hy1, hy2⟩ := info_parts infoListsP
 obtain ⟨go, co, rfl⟩ := slice_pos hb.outer hn0
 have HB := keepH hb
 have HR := keepH hr
 have HA := keepH ha
 have HLEN := keepH hlen
 have HI0 := keepH hi
 have HI1 := keepH hi1
 clear hb hr ha hlen hi hi1
 go_enter Tryz.func61, Tryz.ntmps61
 go_wp2_with fail
 go_loopw [3] (fun s wr => ∃ i : Nat, i ≤ n ∧ s = .int .i64 i ∧ Hid (BkBP wr Bk (.slice (some ⟨go, 0, none⟩) n co) n v ∧ RowsP wr n v len (fun j => if j < i then len j else 0) ∧ Chg (Fv n v) w wr)) (fun s _ => n - (intOf s).toNat)
 case atStart => exact ⟨0, by omega, rfl, keepH ⟨HB.out, by simpa using HR.out, Chg.refl _ _⟩⟩
 case round =>
  obtain ⟨i, hin, rfl, HK⟩ := hrel
  have c1 := HK.out.1.cell
  by_cases hlt : i < n
  ·have t1 : (i : Int) < (n : Int) := by omega
   obtain ⟨xs, hx0, hx, hx2⟩ := HK.out.2.1 i hlt
   obtain ⟨pi, ci, hvi⟩ := slice_of hx
   obtain ⟨li, hli⟩ : ∃ li, li = len i := ⟨_, rfl⟩
   have hlib : li ≤ 8796093022000 := by rw [hli]; exact HLEN.out i hlt
   rw [← hli] at hvi
   have c2 := HK.out.1.at i hlt
   rw [hvi] at c2
   have HVI := keepH hvi
   have HLI := keepH hli
   clear hx2 hx hx0 hvi hli xs
   go_wp2_with fail
   clear c1 c2
   go_loopw [4] (fun s wx => ∃ k : Nat, k ≤ li ∧ s = .int .i64 k ∧ Hid (BkBP wx Bk (.slice (some ⟨go, 0, none⟩) n co) n v ∧ RowsP wx n v len (fun j => if j < i then len j else if j = i then k else 0) ∧ Chg (Fv n v) w wx)) (fun s _ => li - (intOf s).toNat)
   case atStart => exact ⟨0, by omega, rfl, keepH ⟨HK.out.1, HK.out.2.1.weak (fun j hj => by split; exact Nat.le_refl _; split <;> exact Nat.zero_le _), HK.out.2.2⟩⟩
   case round =>
    obtain ⟨wx, hwx⟩ : ∃ wx, wx = wr := ⟨_, rfl⟩
    rw [← hwx] at hrel ⊢
    clear hwx
    obtain ⟨k, hk, rfl, HJ⟩ := hrel
    have c1 := HJ.out.1.cell
    have c2 := HJ.out.1.at i hlt
    rw [HVI.out] at c2
    by_cases hkl : k < li
    ·have t2 : (k : Int) < (li : Int) := by omega
     obtain ⟨xs, hx0, hx, _⟩ := HJ.out.2.1 i hlt
     rw [HVI.out, ← HLI.out] at hx
     obtain ⟨g, cg, hg⟩ := slice_pos hx (by omega)
     simp only [Value.slice.injEq, true_and] at hg
     obtain ⟨rfl, rfl⟩ := hg
     obtain ⟨y, hy⟩ : ∃ y, xs[k]? = some y := ⟨xs[k]'(by rw [hx0, ← HLI.out]; exact hkl), List.getElem?_eq_getElem _⟩
     obtain ⟨c30, c31⟩ := pr_cell hx k y hy hkl
     obtain ⟨cur, hcur⟩ := row_block hx g rfl
     have fz0 : wx.frozen? ⟨g, k * 2, none⟩ = false := free_of hcur _
     have fz1 : wx.frozen? ⟨g, k * 2 + 1, none⟩ = false := free_of hcur _
     have hne := HJ.out.1.ne hx
     have HBN : Hid (BkBP (putP wx g k i) Bk (.slice (some ⟨go, 0, none⟩) n co) n v) := HJ.out.1.kept (putP_block _ _ _ _ Bk (fun e => hne.1 (by rw [e]; rfl))) (fun b hb => putP_block _ _ _ _ b (fun e => hne.2 b hb (by rw [e]; rfl)))
     have HRN : Hid (RowsP (putP wx g k i) n v len (fun j => if j < i then len j else if j = i then k + 1 else 0)) := HJ.out.2.1.put HA.out hlt (by rw [← HLI.out]; exact hkl) (by rw [HVI.out, ← HLI.out]) (fun j q hj hq => by
      by_cases e1 : j < i
      ·simp only [if_pos e1] at hq ⊢; exact .inl hq
      ·by_cases e2 : j = i
       ·simp only [if_neg e1, if_pos e2] at hq ⊢
        by_cases e3 : q = k
        ·exact .inr ⟨e2, e3⟩
        ·exact .inl (by omega)
       ·simp only [if_neg e1, if_neg e2] at hq; omega)
     have HCN : Hid (Chg (Fv n v) w (putP wx g k i)) := (HJ.out.2.2.setCell (fun _ => ⟨i, hlt, by rw [HVI.out]; rfl⟩) _).setCell (fun _ => ⟨i, hlt, by rw [HVI.out]; rfl⟩) _
     clear hx hx0 hy hcur hne
     go_wp2_with fail
     go_roundw
     case rel => exact ⟨k + 1, by omega, by first | rfl | go_num, keepH ⟨HBN.out, HRN.out, HCN.out⟩⟩
     case measure => simp [intOf]; omega
    ·obtain rfl : k = li := by omega
     have t2 : ¬ (k : Int) < (k : Int) := by omega
     go_wp2_with fail
     go_roundw
     case rel =>
      refine ⟨i + 1, by omega, by first | rfl | go_num, keepH ⟨HJ.out.1, HJ.out.2.1.weak (fun j hj => ?_), HJ.out.2.2⟩⟩
      by_cases e1 : j < i
      ·simp only [if_pos e1, if_pos (show j < i + 1 by omega)]; exact Nat.le_refl _
      ·by_cases e2 : j = i
       ·simp only [if_neg e1, if_pos e2, if_pos (show j < i + 1 by omega)]; rw [e2, HLI.out]; exact Nat.le_refl _
       ·simp only [if_neg (show ¬ j < i + 1 by omega)]; exact Nat.zero_le _
     case measure => simp [intOf]; omega
  ·obtain rfl : i = n := by omega
   have t1 : ¬ (i : Int) < (i : Int) := by omega
   obtain ⟨wa, hwa⟩ : ∃ wa, wa = wr := ⟨_, rfl⟩
   rw [← hwa] at HK c1 ⊢
   clear hwa
   have HF : Hid (∀ j, j < i → wa.ownsRow 0 86 2 (v j) (len j) (prRow (List.replicate (len j) (markP j)))) := fun j hj => by
    obtain ⟨xs, h0, h1, h2⟩ := HK.out.2.1 j hj
    have e := all_marksP (n := len j) (j := j) h0 (fun q hq => h2 q (by simp only [if_pos hj]; exact hq))
    rw [← e]
    exact h1
   have HBV : Hid (BV wa i v) := ⟨HA.out, fun j b hj hb => row_lt (HF.out j hj) b hb, fun j hj => row_form (HF.out j hj)⟩
   have HBK : Hid (∀ X, Chg (Fv i v) wa X → BkBP X Bk (.slice (some ⟨go, 0, none⟩) i co) i v) := fun X hX => HK.out.1.kept (hX.block Bk HK.out.1.lt (fun ⟨j, hj, e⟩ => (HK.out.1.ne (HF.out j hj)).1 e)) (fun b hb => hX.block b (row_lt HK.out.1.outer b hb) (fun ⟨j, hj, e⟩ => (HK.out.1.ne (HF.out j hj)).2 b hb e))
   have HCW : Hid (Chg (Fv i v) w wa) := HK.out.2.2
   have H20 : Hid (B2P wa wa i v len 0 (fun _ => .slice none 0 0) (.slice none 0 0)) := ⟨fun j _ hj => HF.out j hj, fun j hj q hq => by rw [row_cellVs (HF.out j hj) q hq, prR_get hq], fun j hj => by omega, World.ownsRow_nil _ _ _ _, fun b hb => by simp [Value.ownBlock] at hb, Chg.refl _ _⟩
   go_wp2_with fail
   clear c1 t1 HK HB HR
   go_loopw [5, 6] (fun av s wx => ∃ (m : Nat) (gs : Nat → Value), m ≤ i ∧ s = .int .i64 m ∧ Hid (B2P wa wx i v len m gs av)) (fun _ s _ => i - (intOf s).toNat)
   case atStart => exact ⟨0, _, by omega, rfl, H20⟩
   case round =>
    clear H20
    obtain ⟨wi, hwi⟩ : ∃ wi, wi = wr := ⟨_, rfl⟩
    rw [← hwi] at hrel ⊢
    clear hwi
    obtain ⟨m, gs, hm, rfl, H2⟩ := hrel
    obtain ⟨av, hav⟩ : ∃ av, av = u5 := ⟨_, rfl⟩
    rw [← hav] at H2 ⊢
    clear hav
    have c1 := (HBK.out wi H2.out.chg).cell
    by_cases hmi : m < i
    ·have t2 : (m : Int) < (i : Int) := by omega
     have c2 := (HBK.out wi H2.out.chg).at m hmi
     obtain ⟨pi, ci, hvi⟩ := slice_of (H2.out.rows m (Nat.le_refl _) hmi)
     obtain ⟨li, hli⟩ : ∃ li, li = len m := ⟨_, rfl⟩
     have hlib : li ≤ 8796093022000 := by rw [hli]; exact HLEN.out m hmi
     rw [← hli] at hvi
     rw [hvi] at c2
     have HVI := keepH hvi
     have HLI := keepH hli
     have HG0 : Hid (G2P wi wi (v m) li m 0 (.slice pi li ci)) := by
      have r := H2.out.rows m (Nat.le_refl _) hmi
      rw [← hli] at r
      exact ⟨by rw [← hvi]; exact r, fun q hq => by rw [row_cellVs r q hq, prR_get hq], .inl (by rw [hvi]), Chg.refl _ _, HBV.out.form m hmi, fun b hb => row_lt r b hb⟩
     clear hvi hli
     go_wp2_with fail
     clear c1 c2
     go_loopw [7, 8] (fun gv s wx => ∃ k : Nat, k ≤ 20 ∧ s = .int .i64 k ∧ Hid (G2P wi wx (v m) li m k gv)) (fun _ s _ => 20 - (intOf s).toNat)
     case atStart => exact ⟨0, by omega, rfl, HG0⟩
     case round =>
      clear HG0
      obtain ⟨wx, hwx⟩ : ∃ wx, wx = wr := ⟨_, rfl⟩
      rw [← hwx] at hrel ⊢
      clear hwx
      obtain ⟨k, hk, rfl, HG⟩ := hrel
      obtain ⟨gv, hgv⟩ : ∃ gv, gv = u7 := ⟨_, rfl⟩
      rw [← hgv] at HG ⊢
      clear hgv
      by_cases hk20 : k < 20
      ·have t3 : (k : Int) < 20 := by omega
       have hi := HI0.out
       go_wp2_with (first | (at_builtin; refine wpList_append_two _ rfl (.tmp 68) (.tmp 73) 37 rfl 86 i0 (.agg #[.int .u64 0, .int .u64 0]) 2 16 Tryz.underlying37 hi hz0 hz1 hz2 rfl (by decide) gv (li + k) (prRow (List.replicate (li + k) (markP m))) rfl (HG.out.row.alloc _) ⟨wx.heap.size, 0, none⟩ 1 1 [.int .u64 (1152921504606846976 + (m : Int)), .int .u64 0] rfl rfl (cells_new _ _ rfl _ _) (by intro u hu; simp at hu; rcases hu with rfl | rfl <;> rfl) (by decide) (by unfold maxLen; omega) (by omega) ?_; intro v2 w2 r1 r2; have R1 := keepH r1; have R2 := keepH r2; clear r1 r2) | go_in)
       go_roundw
       case rel => exact ⟨k + 1, by omega, by first | rfl | go_num, keepH (HG.out.more R1.out R2.out)⟩
       case measure => simp [intOf]; omega
      ·obtain rfl : k = 20 := by omega
       have t3 : ¬ (20 : Int) < 20 := by omega
       obtain ⟨hb, cb, hgv⟩ := slice_pos HG.out.row (by omega)
       subst hgv
       have hi1 := HI1.out
       have HAR : Hid (wx.ownsRow 0 37 1 av m (LV gs m)) := row_kept H2.out.all fun b hb2 => HG.out.chg.block b (row_lt H2.out.all b hb2) (fun e => by have := HBV.out.lt m b hmi e; have := H2.out.alln b hb2; omega)
       have hmb : m + 1 ≤ 4398046511105 := by omega
       go_wp2_with (first | (at_builtin; refine wpList_append_own_at _ rfl (.tmp 75) (.tmp 77) 56 rfl 0 37 i1 (.slice none 0 0) 1 24 Tryz.underlying56 hi1 hy0 hy1 hy2 rfl (by decide) av m (LV gs m) rfl (HAR.out.alloc _) ⟨wx.heap.size, 0, none⟩ 1 1 [.slice (some ⟨hb, 0, none⟩) (li + 20) cb] rfl rfl (cells_new _ _ rfl _ _) (by intro u hu; simp at hu; subst hu; rfl) (by unfold maxLen; omega) (by omega) (Nat.zero_le _) ?_; intro v3 w3 r1 r2 r3 r4; have R1 := keepH r1; have R2 := keepH r2; have R4 := keepH r4; clear r1 r2 r3 r4) | go_in)
       have HGL : Hid (G2P wi wx (v m) (len m) m 20 (.slice (some ⟨hb, 0, none⟩) (li + 20) cb)) := by have e := HG.out; rw [HLI.out] at e ⊢; exact e
       go_roundw
       case rel => exact ⟨m + 1, _, by omega, by first | rfl | go_num, keepH (B2P.next HBV.out H2.out hmi HGL.out R1.out R2.out R4.out)⟩
       case measure => simp [intOf]; omega
    ·obtain rfl : m = i := by omega
     have t2 : ¬ (m : Int) < (m : Int) := by omega
     obtain ⟨pa, ca, hpa⟩ := slice_pos H2.out.all hn0
     subst hpa
     have HCE : Hid (Chg (Fv m v) w wi) := HCW.out.trans H2.out.chg (fun _ _ x => x) (fun _ _ x => x)
     go_wp2_with fail
     clear c1 t2
     have HCL : Hid (∀ X a u, Chg (fun _ => False) wi X → wi.cell? a = some u → X.cell? a = some u) := fun X a u c h => cell_chg c h (fun x => x)
     have HBX : Hid (∀ X, Chg (fun _ => False) wi X → BkBP X Bk (.slice (some ⟨go, 0, none⟩) m co) m v) := fun X hX => HBK.out X (H2.out.chg.trans hX (fun _ _ x => x) (fun _ _ x => x.elim))
     go_loopw [9] (fun s wx => ∃ j : Nat, j ≤ m ∧ s = .int .i64 j ∧ Hid (Chg (fun _ => False) wi wx)) (fun s _ => m - (intOf s).toNat)
     case atStart => exact ⟨0, by omega, rfl, keepH (Chg.refl _ _)⟩
     case round =>
      obtain ⟨j, hj, rfl, HW⟩ := hrel
      obtain ⟨wy, hwy⟩ : ∃ q, q = wr := ⟨_, rfl⟩
      subst hwy
      by_cases hjm : j < m
      ·have t3 : (j : Int) < (m : Int) := by omega
       obtain ⟨hx, dx, q1, q2, _, q4, _⟩ := H2.out.gf j hjm
       have a10 : wi.cell? ⟨pa, j, none⟩ = some (.slice (some ⟨hx, 0, none⟩) (len j + 20) dx) := by
        have e := row_cellV H2.out.all j hjm
        rw [cellV_some, LV_get gs m j hjm, q1] at e
        exact e
       obtain ⟨li, hli⟩ : ∃ li, li = len j := ⟨_, rfl⟩
       have hlib : li ≤ 8796093022000 := by rw [hli]; exact HLEN.out j hjm
       obtain ⟨l20, hl20⟩ : ∃ l20, l20 = li + 20 := ⟨_, rfl⟩
       rw [← hli, ← hl20] at a10 q4
       have HQ4 : Hid (∀ X, Chg (fun _ => False) wi X → ∀ k, k < l20 → X.cell? ⟨hx, k * 2, none⟩ = some (.int .u64 (1152921504606846976 + (j : Int))) ∧ X.cell? ⟨hx, k * 2 + 1, none⟩ = some (.int .u64 0)) := fun X hX k hk => by
        have z0 := q4 (k * 2) (by omega)
        have z1 := q4 (k * 2 + 1) (by omega)
        unfold mP at z0 z1
        rw [show k * 2 % 2 = 0 by omega] at z0
        rw [show (k * 2 + 1) % 2 = 1 by omega] at z1
        exact ⟨HCL.out X _ _ hX z0, HCL.out X _ _ hX z1⟩
       have HA1 : Hid (∀ X, Chg (fun _ => False) wi X → X.cell? ⟨pa, j, none⟩ = some (.slice (some ⟨hx, 0, none⟩) l20 dx)) := fun X hX => HCL.out X _ _ hX a10
       have HLI := keepH hli
       have hl20b : l20 ≤ 8796093022020 := by omega
       have a1 := HA1.out wy HW.out
       clear q1 q2 q4 hli hl20 a10
       go_wp2_with fail
       clear a1
       go_loopw [10] (fun s wx => ∃ k : Nat, k ≤ l20 ∧ s = .int .i64 k ∧ Hid (Chg (fun _ => False) wi wx)) (fun s _ => l20 - (intOf s).toNat)
       case atStart => exact ⟨0, by omega, rfl, HW⟩
       case round =>
        clear HW
        obtain ⟨k, hk, rfl, HW⟩ := hrel
        obtain ⟨wz, hwz⟩ : ∃ q, q = wr := ⟨_, rfl⟩
        subst hwz
        have a1 := HA1.out wz HW.out
        by_cases hkl : k < l20
        ·have t4 : (k : Int) < (l20 : Int) := by omega
         obtain ⟨a20, a21⟩ := HQ4.out wz HW.out k hkl
         have hpe := fun w => pair_self j (by omega) w
         go_wp2_with fail
         go_roundw
         case rel => exact ⟨k + 1, by omega, by first | rfl | go_num, keepH (by repeat' (first | exact HW.out | refine Chg.setCell ?_ (fun h => absurd h (Nat.lt_irrefl _)) _ | refine Chg.alloc ?_ _))⟩
         case measure => simp [intOf]; omega
        ·obtain rfl : k = l20 := by omega
         have t4 : ¬ (k : Int) < (k : Int) := by omega
         have c1 := (HBX.out wz HW.out).cell
         have c2 := (HBX.out wz HW.out).at j hjm
         obtain ⟨pj, nj, cj, hvj, hpj⟩ := HBV.out.form j hjm
         have hvl : nj = li := by
          obtain ⟨p', c', e⟩ := slice_of (HF.out j hjm)
          rw [hvj] at e
          simp only [Value.slice.injEq] at e
          rw [HLI.out]
          exact e.2.1
         subst hvl
         rw [hvj] at c2
         have HVJ := keepH hvj
         have HPJ := keepH hpj
         clear hvj hpj
         go_wp2_with fail
         clear c1 c2
         go_loopw [12] (fun s wx => ∃ k : Nat, k ≤ nj ∧ s = .int .i64 k ∧ Hid (Chg (fun _ => False) wi wx)) (fun s _ => nj - (intOf s).toNat)
         case atStart => exact ⟨0, by omega, rfl, HW⟩
         case round =>
          clear HW a1
          obtain ⟨k2, hk2, rfl, HW⟩ := hrel
          obtain ⟨wu, hwu⟩ : ∃ q, q = wr := ⟨_, rfl⟩
          subst hwu
          have c1 := (HBX.out wu HW.out).cell
          have c2 := (HBX.out wu HW.out).at j hjm
          rw [HVJ.out] at c2
          by_cases hkn : k2 < nj
          ·have t5 : (k2 : Int) < (nj : Int) := by omega
           have y0 := H2.out.rv j hjm (k2 * 2) (by rw [← HLI.out]; omega)
           have y1 := H2.out.rv j hjm (k2 * 2 + 1) (by rw [← HLI.out]; omega)
           unfold mP at y0 y1
           rw [show k2 * 2 % 2 = 0 by omega, HVJ.out] at y0
           rw [show (k2 * 2 + 1) % 2 = 1 by omega, HVJ.out] at y1
           cases pj with
           | none => simp [cellV, markP, pcl] at y0
           | some ad =>
            obtain ⟨bl, off, spot⟩ := ad
            obtain ⟨rfl, rfl⟩ := HPJ.out _ rfl
            have a30 : wu.cell? ⟨bl, k2 * 2, none⟩ = some (.int .u64 (1152921504606846976 + (j : Int))) := HCL.out wu _ _ HW.out y0
            have a31 : wu.cell? ⟨bl, k2 * 2 + 1, none⟩ = some (.int .u64 0) := HCL.out wu _ _ HW.out y1
            clear y0 y1
            have hpe := fun w => pair_self j (by omega) w
            go_wp2_with fail
            go_roundw
            case rel => exact ⟨k2 + 1, by omega, by first | rfl | go_num, keepH (by repeat' (first | exact HW.out | refine Chg.setCell ?_ (fun h => absurd h (Nat.lt_irrefl _)) _ | refine Chg.alloc ?_ _))⟩
            case measure => simp [intOf]; omega
          ·obtain rfl : k2 = nj := by omega
           have t5 : ¬ (k2 : Int) < (k2 : Int) := by omega
           go_wp2_with fail
           go_roundw
           case rel => exact ⟨j + 1, by omega, by first | rfl | go_num, HW⟩
           case measure => simp [intOf]; omega
      ·obtain rfl : j = m := by omega
       have t3 : ¬ (j : Int) < (j : Int) := by omega
       have HCF : Hid (Chg (Fv j v) w wy) := HCE.out.trans HW.out (fun _ _ x => x) (fun _ _ x => x.elim)
       go_wp2_with fail
       go_ret
       exact ⟨by simp, HCF.out⟩
end Go.Proofs.YtahgaghokpicgaaGreat
