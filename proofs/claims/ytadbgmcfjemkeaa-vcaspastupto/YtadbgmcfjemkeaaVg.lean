/- Vcas's steps: Cas, At, and what they tell. -/
import Derived.Test.YtadbgmcfjemkeaaVf
namespace Go.Proofs.Ytadbgmcfjemkeaa
open Go.RowKit Go.Shelf

set_option maxRecDepth 100000 in
theorem cas_readF {W : World} {p : Nat} {t : TypeId} {l : List Value} (hp : Blk W p t l) (h11 : l[11]? = some (.int .u8 0)) (V : Value) (R : World → Prop) (hT : Calls Try.prog 73 #[.pointer (some ⟨p, 0, none⟩), V] W fun e w => e = .returned (.bool false) ∧ R w) (hK : ∀ w, R w → ∃ l2, Blk w p t l2 ∧ l2[11]? = some (.int .u8 0)) :
    Calls Try.prog 81 #[.pointer (some ⟨p, 0, none⟩), V] W fun e W' => e = .returned (.bool false) ∧ R W' := by
  have c11 : W.cell? ⟨p, 11, none⟩ = some (.int .u8 0) := (hp.cell 11).trans h11
  have HT := keepH hT
  have HK := keepH hK
  clear hp hT hK h11
  go_enter Try.func81, Try.ntmps81
  go_wp2_with fail
  refine HT.out.mono ?_
  rintro e w ⟨rfl, hr⟩
  obtain ⟨l2, P2, h11⟩ := HK.out w hr
  have HR := keepH hr
  have d11 : w.cell? ⟨p, 11, none⟩ = some (.int .u8 0) := (P2.cell 11).trans h11
  clear hr P2 h11 c11
  go_wp2_with fail
  go_ret
  exact ⟨by simp, HR.out⟩
set_option maxRecDepth 100000 in
theorem cas_readT {W : World} {p : Nat} {t : TypeId} {l l2 : List Value} {x now : Nat} (hp : Blk W p t l) (h11 : l[11]? = some (.int .u8 0)) (V : Value) (R : World → Prop) (hn : x ≠ now) (hT : Calls Try.prog 73 #[.pointer (some ⟨p, 0, none⟩), V] W fun e w => e = .returned (.bool true) ∧ R w)
    (hK : ∀ w, R w → Blk w p t l2) (h8 : l2[8]? = some (.int .u64 (x : Int))) (h9 : l2[9]? = some (.int .u64 (x : Int))) (h10 : l2[10]? = some (.int .u64 (now : Int))) (h211 : l2[11]? = some (.int .u8 0)) :
    Calls Try.prog 81 #[.pointer (some ⟨p, 0, none⟩), V] W fun e W' => e = .returned (.bool false) ∧ ∃ w, R w ∧ Chg (fun k => k = p) w W' ∧ Blk W' p t (l2.set 11 (.int .u8 1)) := by
  have c11 : W.cell? ⟨p, 11, none⟩ = some (.int .u8 0) := (hp.cell 11).trans h11
  have HT := keepH hT
  have HK := keepH hK
  have H8 := keepH (And.intro h8 (And.intro h9 (And.intro h10 h211)))
  clear hp hT hK h11 h8 h9 h10 h211
  go_enter Try.func81, Try.ntmps81
  go_wp2_with fail
  refine HT.out.mono ?_
  rintro e w ⟨rfl, hr⟩
  have P2 := HK.out w hr
  have HR := keepH hr
  have HCM := keepH (compare_go P2 H8.out.1 H8.out.2.1 H8.out.2.2.1 H8.out.2.2.2 hn)
  have hl : 11 < l2.length := (List.getElem?_eq_some_iff.1 H8.out.2.2.2).1
  clear hr P2 c11
  go_wp2_with fail
  refine HCM.out.mono ?_
  rintro e w2 ⟨rfl, P3, C3⟩
  have HP3 := keepH P3
  have HC3 := keepH C3
  have d11 : w2.cell? ⟨p, 11, none⟩ = some (.int .u8 1) := by rw [P3.cell 11, List.getElem?_set_self hl]
  clear P3 C3 hl
  go_wp2_with fail
  go_ret
  exact ⟨by simp, w, HR.out, HC3.out, HP3.out⟩
set_option maxRecDepth 100000 in
theorem cas_growT {W : World} {p : Nat} {t : TypeId} {l : List Value} (hp : Blk W p t l) (h11 : l[11]? = some (.int .u8 1)) (V : Value) (R : World → Prop) (x : Nat) (hx : x ≠ 6) (hT : Calls Try.prog 83 #[.pointer (some ⟨p, 0, none⟩), V] W fun e w => e = .returned (.tuple #[]) ∧ R w) (hK : ∀ w, R w → ∃ l2, Blk w p t l2 ∧ l2[11]? = some (.int .u8 (x : Int))) :
    Calls Try.prog 81 #[.pointer (some ⟨p, 0, none⟩), V] W fun e W' => e = .returned (.bool false) ∧ R W' := by
  have c11 : W.cell? ⟨p, 11, none⟩ = some (.int .u8 1) := (hp.cell 11).trans h11
  have n1 : ((x : Int) == 6) = false := beq_eq_false_iff_ne.2 (by omega)
  have HT := keepH hT
  have HK := keepH hK
  clear hp hT hK h11 hx
  go_enter Try.func81, Try.ntmps81
  go_wp2_with fail
  refine HT.out.mono ?_
  rintro e w ⟨rfl, hr⟩
  obtain ⟨l2, P2, h11⟩ := HK.out w hr
  have HR := keepH hr
  have d11 : w.cell? ⟨p, 11, none⟩ = some (.int .u8 (x : Int)) := (P2.cell 11).trans h11
  clear hr P2 h11 c11
  go_wp2_with fail
  go_ret
  exact ⟨by simp, HR.out⟩
set_option maxRecDepth 100000 in
theorem cas_grow0 {W : World} {p : Nat} {t : TypeId} {l : List Value} (hp : Blk W p t l) (h11 : l[11]? = some (.int .u8 1)) (V : Value) (R : World → Prop) (hT : Calls Try.prog 83 #[.pointer (some ⟨p, 0, none⟩), V] W fun e w => e = .returned (.tuple #[]) ∧ R w) (hK : ∀ w, R w → ∃ l2, Blk w p t l2 ∧ l2[11]? = some (.int .u8 6)) :
    Calls Try.prog 81 #[.pointer (some ⟨p, 0, none⟩), V] W fun e W' => e = .returned (.bool true) ∧ R W' := by
  have c11 : W.cell? ⟨p, 11, none⟩ = some (.int .u8 1) := (hp.cell 11).trans h11
  have HT := keepH hT
  have HK := keepH hK
  clear hp hT hK h11
  go_enter Try.func81, Try.ntmps81
  go_wp2_with fail
  refine HT.out.mono ?_
  rintro e w ⟨rfl, hr⟩
  obtain ⟨l2, P2, h11⟩ := HK.out w hr
  have HR := keepH hr
  have d11 : w.cell? ⟨p, 11, none⟩ = some (.int .u8 6) := (P2.cell 11).trans h11
  clear hr P2 h11 c11
  go_wp2_with fail
  go_ret
  exact ⟨by simp, HR.out⟩
set_option maxRecDepth 100000 in
theorem cas_swapT {W : World} {p : Nat} {t : TypeId} {l : List Value} (hp : Blk W p t l) (h11 : l[11]? = some (.int .u8 2)) (V : Value) (R : World → Prop) (x : Nat) (hx : x ≠ 6) (hT : Calls Try.prog 84 #[.pointer (some ⟨p, 0, none⟩), V] W fun e w => e = .returned (.tuple #[]) ∧ R w) (hK : ∀ w, R w → ∃ l2, Blk w p t l2 ∧ l2[11]? = some (.int .u8 (x : Int))) :
    Calls Try.prog 81 #[.pointer (some ⟨p, 0, none⟩), V] W fun e W' => e = .returned (.bool false) ∧ R W' := by
  have c11 : W.cell? ⟨p, 11, none⟩ = some (.int .u8 2) := (hp.cell 11).trans h11
  have n1 : ((x : Int) == 6) = false := beq_eq_false_iff_ne.2 (by omega)
  have HT := keepH hT
  have HK := keepH hK
  clear hp hT hK h11 hx
  go_enter Try.func81, Try.ntmps81
  go_wp2_with fail
  refine HT.out.mono ?_
  rintro e w ⟨rfl, hr⟩
  obtain ⟨l2, P2, h11⟩ := HK.out w hr
  have HR := keepH hr
  have d11 : w.cell? ⟨p, 11, none⟩ = some (.int .u8 (x : Int)) := (P2.cell 11).trans h11
  clear hr P2 h11 c11
  go_wp2_with fail
  go_ret
  exact ⟨by simp, HR.out⟩
set_option maxRecDepth 100000 in
theorem cas_ownF {W : World} {p : Nat} {t : TypeId} {l : List Value} (hp : Blk W p t l) (h11 : l[11]? = some (.int .u8 4)) (h13 : ∃ z, l[13]? = some (.bool z)) (V : Value) (R : World → Prop) (hT : ∀ W1, W1 = W.setCell ⟨p, 13, none⟩ (.bool true) → Calls Try.prog 76 #[.pointer (some ⟨p, 0, none⟩), V] W1 fun e w => e = .returned (.bool false) ∧ R w) (hK : ∀ w, R w → ∃ l2, Blk w p t l2 ∧ l2[11]? = some (.int .u8 4)) :
    Calls Try.prog 81 #[.pointer (some ⟨p, 0, none⟩), V] W fun e W' => e = .returned (.bool false) ∧ R W' := by
  obtain ⟨z, h13⟩ := h13
  have c11 : W.cell? ⟨p, 11, none⟩ = some (.int .u8 4) := (hp.cell 11).trans h11
  have c13 : W.cell? ⟨p, 13, none⟩ = some (.bool z) := (hp.cell 13).trans h13
  have f13 := hp.free 13
  have HT := keepH (hT _ rfl)
  have HK := keepH hK
  clear hp hT hK h11 h13
  go_enter Try.func81, Try.ntmps81
  go_wp2_with fail
  refine HT.out.mono ?_
  rintro e w ⟨rfl, hr⟩
  obtain ⟨l2, P2, h11⟩ := HK.out w hr
  have HR := keepH hr
  have d11 : w.cell? ⟨p, 11, none⟩ = some (.int .u8 4) := (P2.cell 11).trans h11
  clear hr P2 h11 c11 c13 f13
  go_wp2_with fail
  go_ret
  exact ⟨by simp, HR.out⟩
set_option maxRecDepth 100000 in
theorem cas_ownT {W : World} {p : Nat} {t : TypeId} {l : List Value} (hp : Blk W p t l) (h11 : l[11]? = some (.int .u8 4)) (h13 : ∃ z, l[13]? = some (.bool z)) (V : Value) (R : World → Prop) (hT : ∀ W1, W1 = W.setCell ⟨p, 13, none⟩ (.bool true) → Calls Try.prog 76 #[.pointer (some ⟨p, 0, none⟩), V] W1 fun e w => e = .returned (.bool true) ∧ R w) (hK : ∀ w, R w → ∃ l2, Blk w p t l2 ∧ l2[11]? = some (.int .u8 4)) :
    Calls Try.prog 81 #[.pointer (some ⟨p, 0, none⟩), V] W fun e W' => e = .returned (.bool true) ∧ ∃ w, R w ∧ W' = w.setCell ⟨p, 11, none⟩ (.int .u8 6) := by
  obtain ⟨z, h13⟩ := h13
  have c11 : W.cell? ⟨p, 11, none⟩ = some (.int .u8 4) := (hp.cell 11).trans h11
  have c13 : W.cell? ⟨p, 13, none⟩ = some (.bool z) := (hp.cell 13).trans h13
  have f13 := hp.free 13
  have HT := keepH (hT _ rfl)
  have HK := keepH hK
  clear hp hT hK h11 h13
  go_enter Try.func81, Try.ntmps81
  go_wp2_with fail
  refine HT.out.mono ?_
  rintro e w ⟨rfl, hr⟩
  obtain ⟨l2, P2, h11⟩ := HK.out w hr
  have HR := keepH hr
  have d11 : w.cell? ⟨p, 11, none⟩ = some (.int .u8 4) := (P2.cell 11).trans h11
  have f11 := P2.free 11
  have e11 := set_same P2 11 _ (.int .u8 6) h11
  clear hr P2 h11 c11 c13 f13
  go_wp2_with fail
  go_ret
  exact ⟨by simp, w, HR.out, rfl⟩
set_option maxRecDepth 100000 in
theorem at_head0 {W : World} {p : Nat} {t : TypeId} {l : List Value} (hp : Blk W p t l) (h8 : l[8]? = some (.int .u8 0)) (V : Value) (R : World → Prop) (hT : Calls Try.prog 74 #[.pointer (some ⟨p, 0, none⟩), V] W fun e w => e = .returned (.bool true) ∧ R w) (hK : ∀ w, R w → ∃ l2, Blk w p t l2 ∧ l2[8]? = some (.int .u8 0) ∧ l2[6]? = some (.int .u64 0)) :
    Calls Try.prog 85 #[.pointer (some ⟨p, 0, none⟩), V] W fun e W' => e = .returned (.bool true) ∧ ∃ w, R w ∧ W' = (w.setCell ⟨p, 8, none⟩ (.int .u8 1)).setCell ⟨p, 8, none⟩ (.int .u8 4) := by
  have c8 : W.cell? ⟨p, 8, none⟩ = some (.int .u8 0) := (hp.cell 8).trans h8
  have HT := keepH hT
  have HK := keepH hK
  clear hp hT hK h8
  go_enter Try.func85, Try.ntmps85
  go_wp2_with fail
  refine HT.out.mono ?_
  rintro e w ⟨rfl, hr⟩
  obtain ⟨l2, P2, h8, h6⟩ := HK.out w hr
  have HR := keepH hr
  have d8 : w.cell? ⟨p, 8, none⟩ = some (.int .u8 0) := (P2.cell 8).trans h8
  have d6 : w.cell? ⟨p, 6, none⟩ = some (.int .u64 0) := (P2.cell 6).trans h6
  have f8 := P2.free 8
  have f8' := (P2.set 8 (.int .u8 1)).free 8
  have e8 := set_same P2 8 _ (.int .u8 1) h8
  have e8' := set_same (P2.set 8 (.int .u8 1)) 8 (.int .u8 1) (.int .u8 4) (by rw [← (P2.set 8 (.int .u8 1)).cell 8]; exact e8)
  clear hr P2 h8 h6 c8
  go_wp2_with fail
  have HA : Hid (Calls Try.prog 86 #[.pointer (some ⟨p, 0, none⟩)] w fun e W' => e = .returned (.tuple #[]) ∧ W' = (w.setCell ⟨p, 8, none⟩ (.int .u8 1)).setCell ⟨p, 8, none⟩ (.int .u8 4)) := by
    show Calls _ _ _ _ _
    go_enter Try.func86, Try.ntmps86
    go_wp2_with fail
    go_end0
    exact ⟨rfl, rfl⟩
  refine HA.out.mono ?_
  rintro e w2 ⟨rfl, rfl⟩
  go_wp2_with fail
  go_ret
  exact ⟨by simp, w, HR.out, rfl⟩
set_option maxRecDepth 100000 in
theorem rd_value {W : World} {p : Nat} {t : TypeId} {l : List Value} {x : Nat} (hp : Blk W p t l) (h8 : l[8]? = some (.int .u64 (x : Int))) : Calls Try.prog 21 #[.pointer (some ⟨p, 0, none⟩)] W fun e W' => e = .returned (.int .u64 (x : Int)) ∧ W' = W := by
  have c8 : W.cell? ⟨p, 8, none⟩ = some (.int .u64 (x : Int)) := (hp.cell 8).trans h8
  clear hp h8
  go_enter Try.func21, Try.ntmps21
  go_wp2_with fail
  go_ret
  exact ⟨by simp, rfl⟩
set_option maxRecDepth 100000 in
theorem at_value {W : World} {p : Nat} {t : TypeId} {l : List Value} {x : Nat} (hp : Blk W p t l) (h9 : l[9]? = some (.int .u64 (x : Int))) : Calls Try.prog 20 #[.pointer (some ⟨p, 0, none⟩)] W fun e W' => e = .returned (.int .u64 (x : Int)) ∧ W' = W := by
  have c9 : W.cell? ⟨p, 9, none⟩ = some (.int .u64 (x : Int)) := (hp.cell 9).trans h9
  clear hp h9
  go_enter Try.func20, Try.ntmps20
  go_wp2_with fail
  go_ret
  exact ⟨by simp, rfl⟩
set_option maxRecDepth 100000 in
theorem cs_done {W : World} {p : Nat} {t : TypeId} {l : List Value} {b : Bool} (hp : Blk W p t l) (h11 : l[11]? = some (.int .u8 6)) (h13 : l[13]? = some (.bool b)) : Calls Try.prog 15 #[.pointer (some ⟨p, 0, none⟩)] W fun e W' => e = .returned (.bool b) ∧ W' = W := by
  have c11 : W.cell? ⟨p, 11, none⟩ = some (.int .u8 6) := (hp.cell 11).trans h11
  have c13 : W.cell? ⟨p, 13, none⟩ = some (.bool b) := (hp.cell 13).trans h13
  clear hp h11 h13
  go_enter Try.func15, Try.ntmps15
  go_wp2_with fail
  go_ret
  exact ⟨by simp, rfl⟩
end Go.Proofs.Ytadbgmcfjemkeaa
