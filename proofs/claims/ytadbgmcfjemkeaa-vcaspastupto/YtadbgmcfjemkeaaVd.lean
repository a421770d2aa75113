/- Vcas's procs: find, read, and the steps over them, whatever the view is. -/
import Derived.Test.YtadbgmcfjemkeaaVc
namespace Go.Proofs.Ytadbgmcfjemkeaa
open Go.RowKit Go.Shelf

def fndL (cam ver pos : Nat) (clk : Value) (obj fpos head : Nat) (rest : List Value) : List Value := stpL cam ver pos clk (.int .u64 (obj : Int) :: .int .u8 (fpos : Int) :: .int .u64 (head : Int) :: rest)

def fpN (c : Nat) : Nat := if c = 0 then 2 else 1
set_option maxRecDepth 100000 in
set_option maxHeartbeats 1000000 in
theorem find_load {W : World} {p : Nat} {t : TypeId} {cam ver pos obj head c : Nat} {clk : Value} {rest : List Value} (hp : Blk W p t (fndL cam ver pos clk obj 0 head rest)) (V : Value) (R : World → Prop) (hL : Calls Try.prog 75 #[V, .int .u64 (obj : Int)] W fun e w => e = .returned (.int .u64 (c : Int)) ∧ R w) (hK : ∀ w, R w → Blk w p t (fndL cam ver pos clk obj 0 head rest)) :
    Calls Try.prog 74 #[.pointer (some ⟨p, 0, none⟩), V] W fun e W' => e = .returned (.bool (decide (c = 0))) ∧ ∃ w, R w ∧ Blk W' p t (fndL cam c 0 clk obj (fpN c) c rest) ∧ Chg (fun k => k = p) w W' := by
  have c4 : W.cell? ⟨p, 4, none⟩ = some (.int .u64 (obj : Int)) := hp.cell 4
  have c5 : W.cell? ⟨p, 5, none⟩ = some (.int .u8 0) := hp.cell 5
  have HL := keepH hL
  have HK := keepH hK
  clear hp hL hK
  go_enter Try.func74, Try.ntmps74
  go_wp2_with fail
  refine HL.out.mono ?_
  rintro e w ⟨rfl, hr⟩
  have HR := keepH hr
  have P1 := keepH (HK.out w hr)
  have d6 : w.cell? ⟨p, 6, none⟩ = some (.int .u64 (head : Int)) := P1.out.cell 6
  have f6 := P1.out.free 6
  obtain ⟨w1, hw1⟩ : ∃ w1, w1 = w.setCell ⟨p, 6, none⟩ (.int .u64 (c : Int)) := ⟨_, rfl⟩
  have P2 : Hid (Blk w1 p t (fndL cam ver pos clk obj 0 c rest)) := by rw [hw1]; exact P1.out.set 6 _
  have HC1 : Hid (Chg (fun k => k = p) w w1) := by rw [hw1]; exact setP _
  clear hr c4 c5 P1
  go_upto_region 4 with fail
  rw [← hw1]
  clear hw1 d6 f6
  have d6 : w1.cell? ⟨p, 6, none⟩ = some (.int .u64 (c : Int)) := P2.out.cell 6
  go_cut [] from 20 to 27 (fun wz => Hid (Blk wz p t (fndL cam c 0 clk obj 0 c rest) ∧ Chg (fun k => k = p) w wz))
  case first =>
    go_region_with (go_at_call 50; refine (aim_any (W := w1.drew) P2.out c).mono ?_; rintro e w2 ⟨rfl, P3, C3⟩)
    all_goals (try go_wp2_with fail)
    all_goals go_meet
    all_goals (exact keepH ⟨P3, HC1.out.drew.trans C3 (fun _ _ x => x) (fun _ _ x => x)⟩)
  case rest =>
    obtain ⟨wz, hwz⟩ : ∃ wz, wz = wc := ⟨_, rfl⟩
    rw [← hwz] at hcut ⊢
    clear hwz
    obtain ⟨P3, C3⟩ := hcut.out
    have HP3 := keepH P3
    have HC3 := keepH C3
    clear hcut P3 C3 d6 P2
    have e5 : wz.cell? ⟨p, 5, none⟩ = some (.int .u8 0) := HP3.out.cell 5
    have f5 := HP3.out.free 5
    have P4 := keepH (HP3.out.set 5 (.int .u8 1))
    have e6 : (wz.setCell ⟨p, 5, none⟩ (.int .u8 1)).cell? ⟨p, 6, none⟩ = some (.int .u64 (c : Int)) := P4.out.cell 6
    have e6' : wz.cell? ⟨p, 6, none⟩ = some (.int .u64 (c : Int)) := HP3.out.cell 6
    have e5b : (wz.setCell ⟨p, 5, none⟩ (.int .u8 1)).cell? ⟨p, 5, none⟩ = some (.int .u8 1) := P4.out.cell 5
    have f5b := P4.out.free 5
    by_cases h0 : c = 0
    · subst h0
      have P5 := keepH (P4.out.set 5 (.int .u8 2))
      have e5c : ((wz.setCell ⟨p, 5, none⟩ (.int .u8 1)).setCell ⟨p, 5, none⟩ (.int .u8 2)).cell? ⟨p, 5, none⟩ = some (.int .u8 2) := P5.out.cell 5
      have dd : decide ((0 : Nat) = 0) = true := by decide
      go_wp2_with fail
      go_ret
      exact ⟨by simp, w, HR.out, P5.out, (HC3.out.trans (setP _) (fun _ _ x => x) (fun _ _ x => x)).trans (setP _) (fun _ _ x => x) (fun _ _ x => x)⟩
    · have n1 : ((c : Int) == 0) = false := beq_eq_false_iff_ne.2 (by omega)
      have dd : decide (c = 0) = false := decide_eq_false h0
      have P4' : Hid (Blk (wz.setCell ⟨p, 5, none⟩ (.int .u8 1)) p t (fndL cam c 0 clk obj (fpN c) c rest)) := by
        have e := P4.out
        have e' : fpN c = 1 := if_neg h0
        rw [e']
        exact e
      go_wp2_with fail
      go_ret
      exact ⟨by simp [h0], w, HR.out, P4'.out, HC3.out.trans (setP _) (fun _ _ x => x) (fun _ _ x => x)⟩

set_option maxRecDepth 100000 in
theorem find_tellT {W : World} {p : Nat} {t : TypeId} {l : List Value} (hp : Blk W p t l) (h5 : l[5]? = some (.int .u8 1)) (V : Value) (R : World → Prop) (hT : Calls Try.prog 76 #[.pointer (some ⟨p, 0, none⟩), V] W fun e w => e = .returned (.bool true) ∧ R w) (hK : ∀ w, R w → ∃ l2, Blk w p t l2 ∧ l2[5]? = some (.int .u8 1)) :
    Calls Try.prog 74 #[.pointer (some ⟨p, 0, none⟩), V] W fun e W' => e = .returned (.bool true) ∧ ∃ w, R w ∧ W' = w.setCell ⟨p, 5, none⟩ (.int .u8 2) := by
  have c5 : W.cell? ⟨p, 5, none⟩ = some (.int .u8 1) := (hp.cell 5).trans h5
  have HT := keepH hT
  have HK := keepH hK
  clear hp hT hK h5
  go_enter Try.func74, Try.ntmps74
  go_wp2_with fail
  refine HT.out.mono ?_
  rintro e w ⟨rfl, hr⟩
  obtain ⟨l2, P2, h5⟩ := HK.out w hr
  have HR := keepH hr
  have d5 : w.cell? ⟨p, 5, none⟩ = some (.int .u8 1) := (P2.cell 5).trans h5
  have f5 := P2.free 5
  have hl : 5 < l2.length := by
    have := List.getElem?_eq_some_iff.1 h5
    exact this.1
  have e5 : (w.setCell ⟨p, 5, none⟩ (.int .u8 2)).cell? ⟨p, 5, none⟩ = some (.int .u8 2) := by rw [(P2.set 5 _).cell 5]; simp [hl]
  clear hr P2 h5 hl c5
  go_wp2_with fail
  go_ret
  exact ⟨by simp, w, HR.out, rfl⟩
set_option maxRecDepth 100000 in
theorem find_tellF {W : World} {p : Nat} {t : TypeId} {l : List Value} (hp : Blk W p t l) (h5 : l[5]? = some (.int .u8 1)) (V : Value) (R : World → Prop) (hT : Calls Try.prog 76 #[.pointer (some ⟨p, 0, none⟩), V] W fun e w => e = .returned (.bool false) ∧ R w) (hK : ∀ w, R w → ∃ l2, Blk w p t l2 ∧ l2[5]? = some (.int .u8 1)) :
    Calls Try.prog 74 #[.pointer (some ⟨p, 0, none⟩), V] W fun e W' => e = .returned (.bool false) ∧ R W' := by
  have c5 : W.cell? ⟨p, 5, none⟩ = some (.int .u8 1) := (hp.cell 5).trans h5
  have HT := keepH hT
  have HK := keepH hK
  clear hp hT hK h5
  go_enter Try.func74, Try.ntmps74
  go_wp2_with fail
  refine HT.out.mono ?_
  rintro e w ⟨rfl, hr⟩
  obtain ⟨l2, P2, h5⟩ := HK.out w hr
  have HR := keepH hr
  have d5 : w.cell? ⟨p, 5, none⟩ = some (.int .u8 1) := (P2.cell 5).trans h5
  clear hr P2 h5 c5
  go_wp2_with fail
  go_ret
  exact ⟨by simp, HR.out⟩

theorem set_same {w : World} {p : Nat} {t : TypeId} {l : List Value} (P : Blk w p t l) (i : Nat) (u v : Value) (h : l[i]? = some u) : (w.setCell ⟨p, i, none⟩ v).cell? ⟨p, i, none⟩ = some v := by
  have hl : i < l.length := (List.getElem?_eq_some_iff.1 h).1
  rw [(P.set i v).cell i]
  simp [hl]

set_option maxRecDepth 100000 in
theorem read_findF {W : World} {p : Nat} {t : TypeId} {l : List Value} (hp : Blk W p t l) (h7 : l[7]? = some (.int .u8 0)) (V : Value) (R : World → Prop) (hT : Calls Try.prog 74 #[.pointer (some ⟨p, 0, none⟩), V] W fun e w => e = .returned (.bool false) ∧ R w) (hK : ∀ w, R w → ∃ l2, Blk w p t l2 ∧ l2[7]? = some (.int .u8 0)) :
    Calls Try.prog 73 #[.pointer (some ⟨p, 0, none⟩), V] W fun e W' => e = .returned (.bool false) ∧ R W' := by
  have c7 : W.cell? ⟨p, 7, none⟩ = some (.int .u8 0) := (hp.cell 7).trans h7
  have HT := keepH hT
  have HK := keepH hK
  clear hp hT hK h7
  go_enter Try.func73, Try.ntmps73
  go_wp2_with fail
  refine HT.out.mono ?_
  rintro e w ⟨rfl, hr⟩
  obtain ⟨l2, P2, h7⟩ := HK.out w hr
  have HR := keepH hr
  have d7 : w.cell? ⟨p, 7, none⟩ = some (.int .u8 0) := (P2.cell 7).trans h7
  clear hr P2 h7 c7
  go_wp2_with fail
  go_ret
  exact ⟨by simp, HR.out⟩
set_option maxRecDepth 100000 in
theorem read_findT {W : World} {p : Nat} {t : TypeId} {l : List Value} {head : Nat} (hp : Blk W p t l) (h7 : l[7]? = some (.int .u8 0)) (V : Value) (R : World → Prop) (hh : head ≠ 0) (hT : Calls Try.prog 74 #[.pointer (some ⟨p, 0, none⟩), V] W fun e w => e = .returned (.bool true) ∧ R w) (hK : ∀ w, R w → ∃ l2, Blk w p t l2 ∧ l2[7]? = some (.int .u8 0) ∧ l2[6]? = some (.int .u64 (head : Int))) :
    Calls Try.prog 73 #[.pointer (some ⟨p, 0, none⟩), V] W fun e W' => e = .returned (.bool false) ∧ ∃ w, R w ∧ W' = w.setCell ⟨p, 7, none⟩ (.int .u8 1) := by
  have c7 : W.cell? ⟨p, 7, none⟩ = some (.int .u8 0) := (hp.cell 7).trans h7
  have n1 : ((head : Int) == 0) = false := beq_eq_false_iff_ne.2 (by omega)
  have HT := keepH hT
  have HK := keepH hK
  clear hp hT hK h7 hh
  go_enter Try.func73, Try.ntmps73
  go_wp2_with fail
  refine HT.out.mono ?_
  rintro e w ⟨rfl, hr⟩
  obtain ⟨l2, P2, h7, h6⟩ := HK.out w hr
  have HR := keepH hr
  have d7 : w.cell? ⟨p, 7, none⟩ = some (.int .u8 0) := (P2.cell 7).trans h7
  have d6 : w.cell? ⟨p, 6, none⟩ = some (.int .u64 (head : Int)) := (P2.cell 6).trans h6
  have f7 := P2.free 7
  have e7 := set_same P2 7 _ (.int .u8 1) h7
  clear hr P2 h7 h6 c7
  go_wp2_with fail
  go_ret
  exact ⟨by simp, w, HR.out, rfl⟩
set_option maxRecDepth 100000 in
theorem read_find0 {W : World} {p : Nat} {t : TypeId} {l : List Value} (hp : Blk W p t l) (h7 : l[7]? = some (.int .u8 0)) (V : Value) (R : World → Prop) (hT : Calls Try.prog 74 #[.pointer (some ⟨p, 0, none⟩), V] W fun e w => e = .returned (.bool true) ∧ R w) (hK : ∀ w, R w → ∃ l2, Blk w p t l2 ∧ l2[7]? = some (.int .u8 0) ∧ l2[6]? = some (.int .u64 0)) :
    Calls Try.prog 73 #[.pointer (some ⟨p, 0, none⟩), V] W fun e W' => e = .returned (.bool true) ∧ ∃ w, R w ∧ W' = (w.setCell ⟨p, 7, none⟩ (.int .u8 1)).setCell ⟨p, 7, none⟩ (.int .u8 2) := by
  have c7 : W.cell? ⟨p, 7, none⟩ = some (.int .u8 0) := (hp.cell 7).trans h7
  have HT := keepH hT
  have HK := keepH hK
  clear hp hT hK h7
  go_enter Try.func73, Try.ntmps73
  go_wp2_with fail
  refine HT.out.mono ?_
  rintro e w ⟨rfl, hr⟩
  obtain ⟨l2, P2, h7, h6⟩ := HK.out w hr
  have HR := keepH hr
  have d7 : w.cell? ⟨p, 7, none⟩ = some (.int .u8 0) := (P2.cell 7).trans h7
  have d6 : w.cell? ⟨p, 6, none⟩ = some (.int .u64 0) := (P2.cell 6).trans h6
  have f7 := P2.free 7
  have f7' := (P2.set 7 (.int .u8 1)).free 7
  have e7 := set_same P2 7 _ (.int .u8 1) h7
  have e7' := set_same (P2.set 7 (.int .u8 1)) 7 (.int .u8 1) (.int .u8 2) (by rw [← (P2.set 7 (.int .u8 1)).cell 7]; exact e7)
  clear hr P2 h7 h6 c7
  go_wp2_with fail
  go_ret
  exact ⟨by simp, w, HR.out, rfl⟩
set_option maxRecDepth 100000 in
theorem read_load {W : World} {p : Nat} {t : TypeId} {l : List Value} {head c : Nat} (hp : Blk W p t l) (h7 : l[7]? = some (.int .u8 1)) (h6 : l[6]? = some (.int .u64 (head : Int))) (V : Value) (R : World → Prop) (hL : Calls Try.prog 75 #[V, .int .u64 (head : Int)] W fun e w => e = .returned (.int .u64 (c : Int)) ∧ R w) (hK : ∀ w, R w → ∃ l2, Blk w p t l2 ∧ l2[7]? = some (.int .u8 1) ∧ ∃ u, l2[8]? = some (.int .u64 u)) :
    Calls Try.prog 73 #[.pointer (some ⟨p, 0, none⟩), V] W fun e W' => e = .returned (.bool true) ∧ ∃ w, R w ∧ W' = (w.setCell ⟨p, 8, none⟩ (.int .u64 (c : Int))).setCell ⟨p, 7, none⟩ (.int .u8 2) := by
  have c7 : W.cell? ⟨p, 7, none⟩ = some (.int .u8 1) := (hp.cell 7).trans h7
  have c6 : W.cell? ⟨p, 6, none⟩ = some (.int .u64 (head : Int)) := (hp.cell 6).trans h6
  have HL := keepH hL
  have HK := keepH hK
  clear hp hL hK h7 h6
  go_enter Try.func73, Try.ntmps73
  go_wp2_with fail
  refine HL.out.mono ?_
  rintro e w ⟨rfl, hr⟩
  obtain ⟨l2, P2, h7, u, h8⟩ := HK.out w hr
  have HR := keepH hr
  have d7 : w.cell? ⟨p, 7, none⟩ = some (.int .u8 1) := (P2.cell 7).trans h7
  have d8 : w.cell? ⟨p, 8, none⟩ = some (.int .u64 u) := (P2.cell 8).trans h8
  have f8 := P2.free 8
  have f7 := P2.free 7
  have P3 := P2.set 8 (.int .u64 (c : Int))
  have f7' := P3.free 7
  have h7' : (l2.set 8 (.int .u64 (c : Int)))[7]? = some (.int .u8 1) := by rw [List.getElem?_set_ne (by decide)]; exact h7
  have d7' : (w.setCell ⟨p, 8, none⟩ (.int .u64 (c : Int))).cell? ⟨p, 7, none⟩ = some (.int .u8 1) := (P3.cell 7).trans h7'
  have e7 := set_same P3 7 _ (.int .u8 2) h7'
  clear hr P2 P3 h7 h8 c7 c6 h7'
  go_wp2_with fail
  go_ret
  exact ⟨by simp, w, HR.out, rfl⟩
set_option maxRecDepth 100000 in
theorem readstep_any {W : World} {p : Nat} (V : Value) (d : Bool) (R : World → Prop) (hT : Calls Try.prog 73 #[.pointer (some ⟨p, 0, none⟩), V] W fun e w => e = .returned (.bool d) ∧ R w) :
    Calls Try.prog 72 #[.pointer (some ⟨p, 0, none⟩), V] W fun e W' => e = .returned (.bool d) ∧ R W' := by
  have HT := keepH hT
  clear hT
  go_enter Try.func72, Try.ntmps72
  go_wp2_with fail
  refine HT.out.mono ?_
  rintro e w ⟨rfl, hr⟩
  have HR := keepH hr
  clear hr
  go_wp2_with fail
  go_ret
  exact ⟨by simp, HR.out⟩
set_option maxRecDepth 100000 in
theorem initstep_any {W : World} {p : Nat} (V : Value) (d : Bool) (R : World → Prop) (hT : Calls Try.prog 76 #[.pointer (some ⟨p, 0, none⟩), V] W fun e w => e = .returned (.bool d) ∧ R w) :
    Calls Try.prog 89 #[.pointer (some ⟨p, 0, none⟩), V] W fun e W' => e = .returned (.bool d) ∧ R W' := by
  have HT := keepH hT
  clear hT
  go_enter Try.func89, Try.ntmps89
  go_wp2_with fail
  refine HT.out.mono ?_
  rintro e w ⟨rfl, hr⟩
  have HR := keepH hr
  clear hr
  go_wp2_with fail
  go_ret
  exact ⟨by simp, HR.out⟩
end Go.Proofs.Ytadbgmcfjemkeaa
