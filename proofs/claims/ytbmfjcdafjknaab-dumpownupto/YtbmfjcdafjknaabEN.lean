/- The reader's mark. -/
import Derived.Test.YtbmfjcdafjknaabEM
namespace Go.Proofs.Ytbmfjcdafjknaab
open Go.RowKit
set_option linter.unusedVariables false

theorem rdM_short {bs : List Nat} {i : Nat} (h : i < 4) (hq : bs[i]? = none) : rdM bs (4 - i) = (270, i) := by
  have : i = 0 ∨ i = 1 ∨ i = 2 ∨ i = 3 := by omega
  rcases this with rfl | rfl | rfl | rfl <;> simp [rdM, hq]
theorem rdM_bad {bs : List Nat} {i q : Nat} (h : i < 4) (hq : bs[i]? = some q) (hm : ¬ some q = markB[i]?) : rdM bs (4 - i) = (271, i) := by
  have : i = 0 ∨ i = 1 ∨ i = 2 ∨ i = 3 := by omega
  rcases this with rfl | rfl | rfl | rfl <;> simp [rdM, hq, hm]
theorem rdM_more {bs : List Nat} {i : Nat} (h : i < 4) (hq : bs[i]? = markB[i]?) : rdM bs (4 - i) = rdM bs (4 - (i + 1)) := by
  have : i = 0 ∨ i = 1 ∨ i = 2 ∨ i = 3 := by omega
  rcases this with rfl | rfl | rfl | rfl <;> (simp only [markB] at hq; simp [markB, rdM, hq])
/-- What stays while the mark is read. -/
structure MI (W wr : World) (R : Nat) (p : Option Addr) (bs : List Nat) (c i : Nat) : Prop where
  eq : rdM bs 4 = rdM bs (4 - i)
  rd : Rd wr R p bs c i
  ch : Chg (fun j => j = R) W wr
theorem MI.more {W wr X : World} {R : Nat} {p : Option Addr} {bs : List Nat} {c i : Nat} (h : MI W wr R p bs c i) (h4 : i < 4) (hq : bs[i]? = markB[i]?) (hlt : i < bs.length) (hX : Chg (fun _ => False) wr X) : MI W (X.setCell ⟨R, 1, none⟩ (.int .i64 ((i + 1 : Nat) : Int))) R p bs c (i + 1) := by
  obtain ⟨h2, h3⟩ := h.rd.set hX (i + 1) (by omega)
  exact ⟨by rw [h.eq, rdM_more h4 hq], h2, h.ch.trans h3 (fun _ _ x => x) (fun _ _ x => x)⟩
set_option maxRecDepth 100000 in
set_option maxHeartbeats 4000000 in
theorem rd_mark {W : World} {R : Nat} {p : Option Addr} {bs : List Nat} {c : Nat} (H : Rd W R p bs c 0) :
    Calls Try.prog 45 #[.pointer (some ⟨R, 0, none⟩)] W fun e W' => e = .returned (.int .i64 ((rdM bs 4).1 : Int)) ∧ Rd W' R p bs c (rdM bs 4).2 ∧ Chg (fun j => j = R) W W' := by
  have HH := keepH H
  have hn := H.hn
  clear H
  go_enter Try.func45, Try.ntmps45
  go_wp2_with fail
  go_loopw [2] (fun _ wr => ∃ i : Nat, i ≤ 4 ∧ Hid (MI W wr R p bs c i)) (fun _ w => 4 - atOf w R)
  case atStart => exact ⟨0, by omega, keepH ⟨rfl, HH.out, Chg.refl _ _⟩⟩
  case round =>
    obtain ⟨i, hi4, HX⟩ := hrel
    have c0 := HX.out.rd.c0
    have c1 := HX.out.rd.c1
    have f1 := HX.out.rd.free
    have HE := keepH (fun X (h : Chg (fun _ => False) wr X) => at_end (HX.out.rd.on h (fun x => x) (fun _ _ _ x => x)))
    have HC1 := keepH (fun (X : World) (h : Chg (fun _ => False) wr X) => (HX.out.rd.on h (fun x => x) (fun _ _ _ x => x)).c1)
    have HF1 := keepH (fun (X : World) (h : Chg (fun _ => False) wr X) => (HX.out.rd.on h (fun x => x) (fun _ _ _ x => x)).free)
    have h5 : i = 0 ∨ i = 1 ∨ i = 2 ∨ i = 3 ∨ i = 4 := by omega
    clear HH
    rcases h5 with rfl | rfl | rfl | rfl | rfl
    · skip
      by_cases he : 0 = bs.length
      · rw [decide_eq_true he] at HE
        have HQ := keepH he
        clear he
        go_wp2_with (first | (go_at_call 48; refine (HE.out _ (by repeat' (first | refine Chg.alloc ?_ _ | refine chg_drewL ?_ _ | refine Chg.drew ?_ | exact Chg.refl _ _))).mono ?_; clear HE; rintro e W3 ⟨rfl, hC⟩; have HC := keepH hC; clear hC))
        go_ret
        rw [HX.out.eq, rdM_short (by omega) (List.getElem?_eq_none_iff.2 (by have := HQ.out; omega))]
        exact ⟨rfl, HX.out.rd.on HC.out (fun x => x) (fun _ _ _ x => x), HX.out.ch.trans HC.out (fun _ _ x => x) (fun _ _ x => x.elim)⟩
      · rw [decide_eq_false he] at HE
        have hi := HX.out.rd.hi
        have hlt : 0 < bs.length := by omega
        obtain ⟨q, hq⟩ : ∃ q, bs[0]? = some q := ⟨bs[0]'hlt, List.getElem?_eq_getElem _⟩
        obtain ⟨bk, off, rfl, hbk, hcs⟩ := HX.out.rd.hb.resolve_left (by intro e; subst e; simp at hq)
        obtain ⟨hq8, d0⟩ := hcs _ _ hq
        have HQ := keepH hq
        have HD0 := keepH d0
        simp only [Nat.add_zero] at HD0
        have hix : ((0 : Nat) : Int) < (bs.length : Int) := by omega
        clear hq hcs he d0
        by_cases hm : q = 83
        · have t1 : ((q : Int) != ((((⟨#[83, 72, 85, 49]⟩ : ByteArray)[0]'(by decide)).toNat : Nat) : Int)) = false := by
            show ((q : Int) != 83) = false
            simp [hm]
          go_wp2_with (first | (go_at_call 48; refine (HE.out _ (by repeat' (first | refine Chg.alloc ?_ _ | refine chg_drewL ?_ _ | refine Chg.drew ?_ | exact Chg.refl _ _))).mono ?_; clear HE; rintro e W3 ⟨rfl, hC⟩; have HC := keepH hC; clear hC; have c0 := cell_chg HC.out c0 (fun x => x); have c1 := HC1.out _ HC.out; have f1 := HF1.out _ HC.out; have d0 := cell_chg HC.out HD0.out (fun x => x)))
          go_quiet (fail)
          go_wp2_with fail
          have HY : Hid (∀ n, MI W ((W3.drewN n).setCell ⟨R, 1, none⟩ (.int .i64 1)) R (some ⟨bk, off, none⟩) bs c 1) := keepH (fun n => HX.out.more (by omega) (by rw [HQ.out, hm]; rfl) hlt (chg_drewL HC.out n))
          go_roundw
          case rel => exact ⟨1, by omega, keepH (HY.out _)⟩
          case measure =>
            rw [(HY.out _).rd.at, HX.out.rd.at]
            omega
        · have t1 : ((q : Int) != ((((⟨#[83, 72, 85, 49]⟩ : ByteArray)[0]'(by decide)).toNat : Nat) : Int)) = true := by
            show ((q : Int) != 83) = true
            simp; omega
          go_wp2_with (first | (go_at_call 48; refine (HE.out _ (by repeat' (first | refine Chg.alloc ?_ _ | refine chg_drewL ?_ _ | refine Chg.drew ?_ | exact Chg.refl _ _))).mono ?_; clear HE; rintro e W3 ⟨rfl, hC⟩; have HC := keepH hC; clear hC; have c0 := cell_chg HC.out c0 (fun x => x); have c1 := HC1.out _ HC.out; have f1 := HF1.out _ HC.out; have d0 := cell_chg HC.out HD0.out (fun x => x)))
          go_quiet (fail)
          go_wp2_with fail
          go_ret
          rw [HX.out.eq, rdM_bad (by omega) HQ.out (by simp [markB]; exact hm)]
          exact ⟨rfl, HX.out.rd.on (chg_drewL HC.out _) (fun x => x) (fun _ _ _ x => x), HX.out.ch.trans (chg_drewL HC.out _) (fun _ _ x => x) (fun _ _ x => x.elim)⟩
    · skip
      by_cases he : 1 = bs.length
      · rw [decide_eq_true he] at HE
        have HQ := keepH he
        clear he
        go_wp2_with (first | (go_at_call 48; refine (HE.out _ (by repeat' (first | refine Chg.alloc ?_ _ | refine chg_drewL ?_ _ | refine Chg.drew ?_ | exact Chg.refl _ _))).mono ?_; clear HE; rintro e W3 ⟨rfl, hC⟩; have HC := keepH hC; clear hC))
        go_ret
        rw [HX.out.eq, rdM_short (by omega) (List.getElem?_eq_none_iff.2 (by have := HQ.out; omega))]
        exact ⟨rfl, HX.out.rd.on HC.out (fun x => x) (fun _ _ _ x => x), HX.out.ch.trans HC.out (fun _ _ x => x) (fun _ _ x => x.elim)⟩
      · rw [decide_eq_false he] at HE
        have hi := HX.out.rd.hi
        have hlt : 1 < bs.length := by omega
        obtain ⟨q, hq⟩ : ∃ q, bs[1]? = some q := ⟨bs[1]'hlt, List.getElem?_eq_getElem _⟩
        obtain ⟨bk, off, rfl, hbk, hcs⟩ := HX.out.rd.hb.resolve_left (by intro e; subst e; simp at hq)
        obtain ⟨hq8, d0⟩ := hcs _ _ hq
        have HQ := keepH hq
        have HD0 := keepH d0
        have hix : ((1 : Nat) : Int) < (bs.length : Int) := by omega
        clear hq hcs he d0
        by_cases hm : q = 72
        · have t1 : ((q : Int) != ((((⟨#[83, 72, 85, 49]⟩ : ByteArray)[1]'(by decide)).toNat : Nat) : Int)) = false := by
            show ((q : Int) != 72) = false
            simp [hm]
          go_wp2_with (first | (go_at_call 48; refine (HE.out _ (by repeat' (first | refine Chg.alloc ?_ _ | refine chg_drewL ?_ _ | refine Chg.drew ?_ | exact Chg.refl _ _))).mono ?_; clear HE; rintro e W3 ⟨rfl, hC⟩; have HC := keepH hC; clear hC; have c0 := cell_chg HC.out c0 (fun x => x); have c1 := HC1.out _ HC.out; have f1 := HF1.out _ HC.out; have d0 := cell_chg HC.out HD0.out (fun x => x)))
          go_quiet (fail)
          go_wp2_with fail
          have HY : Hid (∀ n, MI W ((W3.drewN n).setCell ⟨R, 1, none⟩ (.int .i64 2)) R (some ⟨bk, off, none⟩) bs c 2) := keepH (fun n => HX.out.more (by omega) (by rw [HQ.out, hm]; rfl) hlt (chg_drewL HC.out n))
          go_roundw
          case rel => exact ⟨2, by omega, keepH (HY.out _)⟩
          case measure =>
            rw [(HY.out _).rd.at, HX.out.rd.at]
            omega
        · have t1 : ((q : Int) != ((((⟨#[83, 72, 85, 49]⟩ : ByteArray)[1]'(by decide)).toNat : Nat) : Int)) = true := by
            show ((q : Int) != 72) = true
            simp; omega
          go_wp2_with (first | (go_at_call 48; refine (HE.out _ (by repeat' (first | refine Chg.alloc ?_ _ | refine chg_drewL ?_ _ | refine Chg.drew ?_ | exact Chg.refl _ _))).mono ?_; clear HE; rintro e W3 ⟨rfl, hC⟩; have HC := keepH hC; clear hC; have c0 := cell_chg HC.out c0 (fun x => x); have c1 := HC1.out _ HC.out; have f1 := HF1.out _ HC.out; have d0 := cell_chg HC.out HD0.out (fun x => x)))
          go_quiet (fail)
          go_wp2_with fail
          go_ret
          rw [HX.out.eq, rdM_bad (by omega) HQ.out (by simp [markB]; exact hm)]
          exact ⟨rfl, HX.out.rd.on (chg_drewL HC.out _) (fun x => x) (fun _ _ _ x => x), HX.out.ch.trans (chg_drewL HC.out _) (fun _ _ x => x) (fun _ _ x => x.elim)⟩
    · skip
      by_cases he : 2 = bs.length
      · rw [decide_eq_true he] at HE
        have HQ := keepH he
        clear he
        go_wp2_with (first | (go_at_call 48; refine (HE.out _ (by repeat' (first | refine Chg.alloc ?_ _ | refine chg_drewL ?_ _ | refine Chg.drew ?_ | exact Chg.refl _ _))).mono ?_; clear HE; rintro e W3 ⟨rfl, hC⟩; have HC := keepH hC; clear hC))
        go_ret
        rw [HX.out.eq, rdM_short (by omega) (List.getElem?_eq_none_iff.2 (by have := HQ.out; omega))]
        exact ⟨rfl, HX.out.rd.on HC.out (fun x => x) (fun _ _ _ x => x), HX.out.ch.trans HC.out (fun _ _ x => x) (fun _ _ x => x.elim)⟩
      · rw [decide_eq_false he] at HE
        have hi := HX.out.rd.hi
        have hlt : 2 < bs.length := by omega
        obtain ⟨q, hq⟩ : ∃ q, bs[2]? = some q := ⟨bs[2]'hlt, List.getElem?_eq_getElem _⟩
        obtain ⟨bk, off, rfl, hbk, hcs⟩ := HX.out.rd.hb.resolve_left (by intro e; subst e; simp at hq)
        obtain ⟨hq8, d0⟩ := hcs _ _ hq
        have HQ := keepH hq
        have HD0 := keepH d0
        have hix : ((2 : Nat) : Int) < (bs.length : Int) := by omega
        clear hq hcs he d0
        by_cases hm : q = 85
        · have t1 : ((q : Int) != ((((⟨#[83, 72, 85, 49]⟩ : ByteArray)[2]'(by decide)).toNat : Nat) : Int)) = false := by
            show ((q : Int) != 85) = false
            simp [hm]
          go_wp2_with (first | (go_at_call 48; refine (HE.out _ (by repeat' (first | refine Chg.alloc ?_ _ | refine chg_drewL ?_ _ | refine Chg.drew ?_ | exact Chg.refl _ _))).mono ?_; clear HE; rintro e W3 ⟨rfl, hC⟩; have HC := keepH hC; clear hC; have c0 := cell_chg HC.out c0 (fun x => x); have c1 := HC1.out _ HC.out; have f1 := HF1.out _ HC.out; have d0 := cell_chg HC.out HD0.out (fun x => x)))
          go_quiet (fail)
          go_wp2_with fail
          have HY : Hid (∀ n, MI W ((W3.drewN n).setCell ⟨R, 1, none⟩ (.int .i64 3)) R (some ⟨bk, off, none⟩) bs c 3) := keepH (fun n => HX.out.more (by omega) (by rw [HQ.out, hm]; rfl) hlt (chg_drewL HC.out n))
          go_roundw
          case rel => exact ⟨3, by omega, keepH (HY.out _)⟩
          case measure =>
            rw [(HY.out _).rd.at, HX.out.rd.at]
            omega
        · have t1 : ((q : Int) != ((((⟨#[83, 72, 85, 49]⟩ : ByteArray)[2]'(by decide)).toNat : Nat) : Int)) = true := by
            show ((q : Int) != 85) = true
            simp; omega
          go_wp2_with (first | (go_at_call 48; refine (HE.out _ (by repeat' (first | refine Chg.alloc ?_ _ | refine chg_drewL ?_ _ | refine Chg.drew ?_ | exact Chg.refl _ _))).mono ?_; clear HE; rintro e W3 ⟨rfl, hC⟩; have HC := keepH hC; clear hC; have c0 := cell_chg HC.out c0 (fun x => x); have c1 := HC1.out _ HC.out; have f1 := HF1.out _ HC.out; have d0 := cell_chg HC.out HD0.out (fun x => x)))
          go_quiet (fail)
          go_wp2_with fail
          go_ret
          rw [HX.out.eq, rdM_bad (by omega) HQ.out (by simp [markB]; exact hm)]
          exact ⟨rfl, HX.out.rd.on (chg_drewL HC.out _) (fun x => x) (fun _ _ _ x => x), HX.out.ch.trans (chg_drewL HC.out _) (fun _ _ x => x) (fun _ _ x => x.elim)⟩
    · skip
      by_cases he : 3 = bs.length
      · rw [decide_eq_true he] at HE
        have HQ := keepH he
        clear he
        go_wp2_with (first | (go_at_call 48; refine (HE.out _ (by repeat' (first | refine Chg.alloc ?_ _ | refine chg_drewL ?_ _ | refine Chg.drew ?_ | exact Chg.refl _ _))).mono ?_; clear HE; rintro e W3 ⟨rfl, hC⟩; have HC := keepH hC; clear hC))
        go_ret
        rw [HX.out.eq, rdM_short (by omega) (List.getElem?_eq_none_iff.2 (by have := HQ.out; omega))]
        exact ⟨rfl, HX.out.rd.on HC.out (fun x => x) (fun _ _ _ x => x), HX.out.ch.trans HC.out (fun _ _ x => x) (fun _ _ x => x.elim)⟩
      · rw [decide_eq_false he] at HE
        have hi := HX.out.rd.hi
        have hlt : 3 < bs.length := by omega
        obtain ⟨q, hq⟩ : ∃ q, bs[3]? = some q := ⟨bs[3]'hlt, List.getElem?_eq_getElem _⟩
        obtain ⟨bk, off, rfl, hbk, hcs⟩ := HX.out.rd.hb.resolve_left (by intro e; subst e; simp at hq)
        obtain ⟨hq8, d0⟩ := hcs _ _ hq
        have HQ := keepH hq
        have HD0 := keepH d0
        have hix : ((3 : Nat) : Int) < (bs.length : Int) := by omega
        clear hq hcs he d0
        by_cases hm : q = 49
        · have t1 : ((q : Int) != ((((⟨#[83, 72, 85, 49]⟩ : ByteArray)[3]'(by decide)).toNat : Nat) : Int)) = false := by
            show ((q : Int) != 49) = false
            simp [hm]
          go_wp2_with (first | (go_at_call 48; refine (HE.out _ (by repeat' (first | refine Chg.alloc ?_ _ | refine chg_drewL ?_ _ | refine Chg.drew ?_ | exact Chg.refl _ _))).mono ?_; clear HE; rintro e W3 ⟨rfl, hC⟩; have HC := keepH hC; clear hC; have c0 := cell_chg HC.out c0 (fun x => x); have c1 := HC1.out _ HC.out; have f1 := HF1.out _ HC.out; have d0 := cell_chg HC.out HD0.out (fun x => x)))
          go_quiet (fail)
          go_wp2_with fail
          have HY : Hid (∀ n, MI W ((W3.drewN n).setCell ⟨R, 1, none⟩ (.int .i64 4)) R (some ⟨bk, off, none⟩) bs c 4) := keepH (fun n => HX.out.more (by omega) (by rw [HQ.out, hm]; rfl) hlt (chg_drewL HC.out n))
          go_roundw
          case rel => exact ⟨4, by omega, keepH (HY.out _)⟩
          case measure =>
            rw [(HY.out _).rd.at, HX.out.rd.at]
            omega
        · have t1 : ((q : Int) != ((((⟨#[83, 72, 85, 49]⟩ : ByteArray)[3]'(by decide)).toNat : Nat) : Int)) = true := by
            show ((q : Int) != 49) = true
            simp; omega
          go_wp2_with (first | (go_at_call 48; refine (HE.out _ (by repeat' (first | refine Chg.alloc ?_ _ | refine chg_drewL ?_ _ | refine Chg.drew ?_ | exact Chg.refl _ _))).mono ?_; clear HE; rintro e W3 ⟨rfl, hC⟩; have HC := keepH hC; clear hC; have c0 := cell_chg HC.out c0 (fun x => x); have c1 := HC1.out _ HC.out; have f1 := HF1.out _ HC.out; have d0 := cell_chg HC.out HD0.out (fun x => x)))
          go_quiet (fail)
          go_wp2_with fail
          go_ret
          rw [HX.out.eq, rdM_bad (by omega) HQ.out (by simp [markB]; exact hm)]
          exact ⟨rfl, HX.out.rd.on (chg_drewL HC.out _) (fun x => x) (fun _ _ _ x => x), HX.out.ch.trans (chg_drewL HC.out _) (fun _ _ x => x) (fun _ _ x => x.elim)⟩
    · go_wp2_with fail
      go_ret
      rw [HX.out.eq]
      exact ⟨rfl, HX.out.rd, HX.out.ch⟩
end Go.Proofs.Ytbmfjcdafjknaab
