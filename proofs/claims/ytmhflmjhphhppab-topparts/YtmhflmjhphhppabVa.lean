/- Vcas's At: its steps, whatever the view is; and on a memory, of an object with one version. -/
import Derived.Test.YtmhflmjhphhppabVv
namespace Go.Proofs.Ytmhflmjhphhppab
open Go.RowKit Go.Shelf
set_option linter.unusedVariables false

set_option maxRecDepth 100000 in
theorem ask_go {W : World} {p : Nat} {t : TypeId} {l : List Value} {head : Nat} {z : Int} (hp : Blk W p t l) (h8 : l[8]? = some (.int .u8 z)) (h6 : l[6]? = some (.int .u64 (head : Int))) (hh : head ≠ 0) : Calls Try.prog 60 #[.pointer (some ⟨p, 0, none⟩)] W fun e W' => e = .returned (.tuple #[]) ∧ W' = W.setCell ⟨p, 8, none⟩ (.int .u8 1) := by
  have d8 : W.cell? ⟨p, 8, none⟩ = some (.int .u8 z) := (hp.cell 8).trans h8
  have d6 : W.cell? ⟨p, 6, none⟩ = some (.int .u64 (head : Int)) := (hp.cell 6).trans h6
  have f8 := hp.free 8
  have n1 : ((head : Int) == 0) = false := beq_eq_false_iff_ne.2 (by omega)
  clear hp h8 h6 hh
  go_enter Try.func60, Try.ntmps60
  go_wp2_with fail
  go_end0
  exact ⟨rfl, rfl⟩
set_option maxRecDepth 100000 in
theorem ask_0 {W : World} {p : Nat} {t : TypeId} {l : List Value} {z : Int} (hp : Blk W p t l) (h8 : l[8]? = some (.int .u8 z)) (h6 : l[6]? = some (.int .u64 0)) : Calls Try.prog 60 #[.pointer (some ⟨p, 0, none⟩)] W fun e W' => e = .returned (.tuple #[]) ∧ W' = (W.setCell ⟨p, 8, none⟩ (.int .u8 1)).setCell ⟨p, 8, none⟩ (.int .u8 4) := by
  have d8 : W.cell? ⟨p, 8, none⟩ = some (.int .u8 z) := (hp.cell 8).trans h8
  have d6 : W.cell? ⟨p, 6, none⟩ = some (.int .u64 0) := (hp.cell 6).trans h6
  have f8 := hp.free 8
  have f8' := (hp.set 8 (.int .u8 1)).free 8
  have e8 := set_same hp 8 _ (.int .u8 1) h8
  clear hp h8 h6
  go_enter Try.func60, Try.ntmps60
  go_wp2_with fail
  go_end0
  exact ⟨rfl, rfl⟩
set_option maxRecDepth 100000 in
theorem at_findF {W : World} {p : Nat} {t : TypeId} {l : List Value} (hp : Blk W p t l) (h8 : l[8]? = some (.int .u8 0)) (V : Value) (R : World → Prop) (hT : Calls Try.prog 59 #[.pointer (some ⟨p, 0, none⟩), V] W fun e w => e = .returned (.bool false) ∧ R w) (hK : ∀ w, R w → ∃ l2, Blk w p t l2 ∧ l2[8]? = some (.int .u8 0)) :
    Calls Try.prog 12 #[.pointer (some ⟨p, 0, none⟩), V] W fun e W' => e = .returned (.bool false) ∧ R W' := by
  have c8 : W.cell? ⟨p, 8, none⟩ = some (.int .u8 0) := (hp.cell 8).trans h8
  have HT := keepH hT
  have HK := keepH hK
  clear hp hT hK h8
  go_enter Try.func12, Try.ntmps12
  go_wp2_with fail
  refine HT.out.mono ?_
  rintro e w ⟨rfl, hr⟩
  obtain ⟨l2, P2, h8⟩ := HK.out w hr
  have HR := keepH hr
  have d8 : w.cell? ⟨p, 8, none⟩ = some (.int .u8 0) := (P2.cell 8).trans h8
  clear hr P2 h8 c8
  go_wp2_with fail
  go_ret
  exact ⟨by simp, HR.out⟩
set_option maxRecDepth 100000 in
theorem at_findT {W : World} {p : Nat} {t : TypeId} {l : List Value} {head : Nat} (hp : Blk W p t l) (h8 : l[8]? = some (.int .u8 0)) (V : Value) (R : World → Prop) (hh : head ≠ 0) (hT : Calls Try.prog 59 #[.pointer (some ⟨p, 0, none⟩), V] W fun e w => e = .returned (.bool true) ∧ R w) (hK : ∀ w, R w → ∃ l2, Blk w p t l2 ∧ l2[8]? = some (.int .u8 0) ∧ l2[6]? = some (.int .u64 (head : Int))) :
    Calls Try.prog 12 #[.pointer (some ⟨p, 0, none⟩), V] W fun e W' => e = .returned (.bool false) ∧ ∃ w, R w ∧ W' = w.setCell ⟨p, 8, none⟩ (.int .u8 1) := by
  have c8 : W.cell? ⟨p, 8, none⟩ = some (.int .u8 0) := (hp.cell 8).trans h8
  have HT := keepH hT
  have HK := keepH hK
  clear hp hT hK h8
  go_enter Try.func12, Try.ntmps12
  go_wp2_with fail
  refine HT.out.mono ?_
  rintro e w ⟨rfl, hr⟩
  obtain ⟨l2, P2, h8, h6⟩ := HK.out w hr
  have HR := keepH hr
  have HA := keepH (ask_go P2 h8 h6 hh)
  have e8 := set_same P2 8 _ (.int .u8 1) h8
  clear hr P2 h8 h6 c8
  go_wp2_with fail
  refine HA.out.mono ?_
  rintro e w2 ⟨rfl, rfl⟩
  go_wp2_with fail
  go_ret
  exact ⟨by simp, w, HR.out, rfl⟩
set_option maxRecDepth 100000 in
set_option maxHeartbeats 1000000 in
theorem at_stamp {W : World} {p : Nat} {t : TypeId} {l : List Value} {head st c : Nat} (hp : Blk W p t l) (h8 : l[8]? = some (.int .u8 1)) (h6 : l[6]? = some (.int .u64 (head : Int))) (h7 : l[7]? = some (.int .u64 (st : Int))) (V : Value) (R : World → Prop) (a : Nat) (ha : a = (head + 1) % 18446744073709551616) (hL : ∀ W1, W1 = (W.setCell ⟨p, 8, none⟩ (.int .u8 2)).drew → Calls Try.prog 58 #[V, .int .u64 (a : Int)] W1 fun e w => e = .returned (.int .u64 (c : Int)) ∧ R w) (hK : ∀ w, R w → Blk w p t (l.set 8 (.int .u8 2))) :
    Calls Try.prog 12 #[.pointer (some ⟨p, 0, none⟩), V] W fun e W' => e = .returned (.bool false) ∧ ∃ w, R w ∧ Chg (fun k => k = p) w W' ∧ Blk W' p t (l.set 8 (.int .u8 (if c ≤ st then 3 else 2))) := by
  have c8 : W.cell? ⟨p, 8, none⟩ = some (.int .u8 1) := (hp.cell 8).trans h8
  have f8 := hp.free 8
  obtain ⟨w1, hw1⟩ : ∃ w1, w1 = W.setCell ⟨p, 8, none⟩ (.int .u8 2) := ⟨_, rfl⟩
  have P1 : Hid (Blk w1 p t (l.set 8 (.int .u8 2))) := by rw [hw1]; exact hp.set 8 _
  have d6 : w1.cell? ⟨p, 6, none⟩ = some (.int .u64 (head : Int)) := by rw [P1.out.cell 6, List.getElem?_set_ne (by decide)]; exact h6
  have d7 : w1.cell? ⟨p, 7, none⟩ = some (.int .u64 (st : Int)) := by rw [P1.out.cell 7, List.getElem?_set_ne (by decide)]; exact h7
  have k1 : IntKind.u64.wrap ((head : Int) + 1) = (a : Int) := by rw [IntKind.wrap_u64]; omega
  have hl : 8 < l.length := (List.getElem?_eq_some_iff.1 h8).1
  have h7' : (l.set 8 (.int .u8 2))[7]? = some (.int .u64 (st : Int)) := by rw [List.getElem?_set_ne (by decide)]; exact h7
  have HL := keepH (hL _ (by rw [hw1]) : Calls Try.prog 58 #[V, .int .u64 (a : Int)] w1.drew fun e w => e = .returned (.int .u64 (c : Int)) ∧ R w)
  have HK := keepH hK
  have H7 := keepH h7'
  have HLN := keepH hl
  clear hp hL hK h8 h6 h7 ha h7' hl
  go_enter Try.func12, Try.ntmps12
  go_upto_region 9 with fail
  rw [← hw1]
  clear hw1 c8 f8
  go_cut [37] from 25 to 37 (fun s37 wz => s37 = .bool (decide (c ≤ st)) ∧ Hid (R wz))
  case first =>
    go_region_with (go_at_call 58; refine HL.out.mono ?_; rintro e w ⟨rfl, hr⟩; have q7 : w.cell? ⟨p, 7, none⟩ = some (.int .u64 (st : Int)) := ((HK.out w hr).cell 7).trans H7.out; have HR := keepH hr; clear hr)
    all_goals (try go_wp2_with fail)
    all_goals go_meet
    all_goals (exact ⟨by first | rfl | (congr 1; simp) | simp, HR⟩)
  case rest =>
    obtain ⟨w, hwz⟩ : ∃ wz, wz = wc := ⟨_, rfl⟩
    rw [← hwz] at hcut ⊢
    clear hwz
    obtain ⟨rfl, HR⟩ := hcut
    have P2 := keepH (HK.out w HR.out)
    have e8 : w.cell? ⟨p, 8, none⟩ = some (.int .u8 2) := by rw [P2.out.cell 8, List.getElem?_set_self HLN.out]
    have g8 := P2.out.free 8
    clear d6 d7
    by_cases hc : c ≤ st
    · have dd : decide (c ≤ st) = true := decide_eq_true hc
      have e8' := set_same P2.out 8 _ (.int .u8 3) ((P2.out.cell 8).symm.trans e8)
      rw [dd]
      go_wp2_with fail
      go_ret
      refine ⟨by simp, w, HR.out, setP _, ?_⟩
      have z := P2.out.set 8 (.int .u8 3)
      rw [List.set_set] at z
      first
        | exact z
        | (rw [if_pos hc]; exact z)
    · have dd : decide (c ≤ st) = false := decide_eq_false hc
      rw [dd]
      go_wp2_with fail
      go_ret
      refine ⟨by simp, w, HR.out, Chg.refl _ _, ?_⟩
      first
        | exact P2.out
        | (rw [if_neg hc]; exact P2.out)
set_option maxRecDepth 100000 in
theorem at_older0 {W : World} {p : Nat} {t : TypeId} {l : List Value} {head : Nat} (hp : Blk W p t l) (h8 : l[8]? = some (.int .u8 2)) (h6 : l[6]? = some (.int .u64 (head : Int))) (V : Value) (R : World → Prop) (a : Nat) (ha : a = (head + 2) % 18446744073709551616) (hL : Calls Try.prog 58 #[V, .int .u64 (a : Int)] W fun e w => e = .returned (.int .u64 0) ∧ R w) (hK : ∀ w, R w → Blk w p t l) :
    Calls Try.prog 12 #[.pointer (some ⟨p, 0, none⟩), V] W fun e W' => e = .returned (.bool true) ∧ ∃ w, R w ∧ W' = ((w.setCell ⟨p, 6, none⟩ (.int .u64 0)).setCell ⟨p, 8, none⟩ (.int .u8 1)).setCell ⟨p, 8, none⟩ (.int .u8 4) := by
  have c8 : W.cell? ⟨p, 8, none⟩ = some (.int .u8 2) := (hp.cell 8).trans h8
  have c6 : W.cell? ⟨p, 6, none⟩ = some (.int .u64 (head : Int)) := (hp.cell 6).trans h6
  have k1 : IntKind.u64.wrap ((head : Int) + 2) = (a : Int) := by rw [IntKind.wrap_u64]; omega
  have HL := keepH hL
  have HK := keepH hK
  have H8 := keepH h8
  have H6 := keepH h6
  clear hp hL hK h8 h6 ha
  go_enter Try.func12, Try.ntmps12
  go_wp2_with fail
  refine HL.out.mono ?_
  rintro e w ⟨rfl, hr⟩
  have P2 := HK.out w hr
  have HR := keepH hr
  have d6 : w.cell? ⟨p, 6, none⟩ = some (.int .u64 (head : Int)) := (P2.cell 6).trans H6.out
  have f6 := P2.free 6
  have P3 := P2.set 6 (.int .u64 0)
  have h8' : (l.set 6 (.int .u64 0))[8]? = some (.int .u8 2) := by rw [List.getElem?_set_ne (by decide)]; exact H8.out
  have h6' : (l.set 6 (.int .u64 0))[6]? = some (.int .u64 0) := by rw [List.getElem?_set_self (List.getElem?_eq_some_iff.1 H6.out).1]
  have HA := keepH (ask_0 P3 h8' h6')
  have P4 := P3.set 8 (.int .u8 1)
  have e4 := set_same P3 8 _ (.int .u8 1) h8'
  have e8 := set_same P4 8 (.int .u8 1) (.int .u8 4) ((P4.cell 8).symm.trans e4)
  clear hr P2 P3 P4 c8 c6 h8' h6' e4
  go_wp2_with fail
  refine HA.out.mono ?_
  rintro e w2 ⟨rfl, rfl⟩
  go_wp2_with fail
  go_ret
  exact ⟨by simp, w, HR.out, rfl⟩
set_option maxRecDepth 100000 in
theorem at_valueT {W : World} {p : Nat} {t : TypeId} {l : List Value} {head x : Nat} (hp : Blk W p t l) (h8 : l[8]? = some (.int .u8 3)) (h6 : l[6]? = some (.int .u64 (head : Int))) (h9 : ∃ z, l[9]? = some (.int .u64 z)) (V : Value) (R : World → Prop) (hL : Calls Try.prog 58 #[V, .int .u64 (head : Int)] W fun e w => e = .returned (.int .u64 (x : Int)) ∧ R w) (hK : ∀ w, R w → Blk w p t l) :
    Calls Try.prog 12 #[.pointer (some ⟨p, 0, none⟩), V] W fun e W' => e = .returned (.bool true) ∧ ∃ w, R w ∧ W' = (w.setCell ⟨p, 9, none⟩ (.int .u64 (x : Int))).setCell ⟨p, 8, none⟩ (.int .u8 4) := by
  obtain ⟨z, h9⟩ := h9
  have c8 : W.cell? ⟨p, 8, none⟩ = some (.int .u8 3) := (hp.cell 8).trans h8
  have c6 : W.cell? ⟨p, 6, none⟩ = some (.int .u64 (head : Int)) := (hp.cell 6).trans h6
  have HL := keepH hL
  have HK := keepH hK
  have H8 := keepH h8
  have H9 := keepH h9
  clear hp hL hK h8 h6 h9
  go_enter Try.func12, Try.ntmps12
  go_wp2_with fail
  refine HL.out.mono ?_
  rintro e w ⟨rfl, hr⟩
  have P2 := HK.out w hr
  have HR := keepH hr
  have d9 : w.cell? ⟨p, 9, none⟩ = some (.int .u64 z) := (P2.cell 9).trans H9.out
  have d8 : w.cell? ⟨p, 8, none⟩ = some (.int .u8 3) := (P2.cell 8).trans H8.out
  have f9 := P2.free 9
  have f8 := P2.free 8
  have P3 := P2.set 9 (.int .u64 (x : Int))
  have h8' : (l.set 9 (.int .u64 (x : Int)))[8]? = some (.int .u8 3) := by rw [List.getElem?_set_ne (by decide)]; exact H8.out
  have f8' := P3.free 8
  have d8' : (w.setCell ⟨p, 9, none⟩ (.int .u64 (x : Int))).cell? ⟨p, 8, none⟩ = some (.int .u8 3) := (P3.cell 8).trans h8'
  have e8 := set_same P3 8 _ (.int .u8 4) h8'
  clear hr P2 P3 c8 c6 h8'
  go_wp2_with fail
  go_ret
  exact ⟨by simp, w, HR.out, rfl⟩

def atL (cam ver pos obj fpos head st nx val : Nat) : List Value := fndL cam ver pos (.pointer none) obj fpos head [.int .u64 (st : Int), .int .u8 (nx : Int), .int .u64 (val : Int)]
set_option maxHeartbeats 1000000 in
theorem at_s1 {W : World} {m b v most : Nat} {w : World} {next made : Nat} {cs : List Nat} {n : Nat} {D : Nat → Prop} {p : Nat} {cam obj st c : Nat} (h : CS W m b v most w next made cs n D p 115 (atL cam 0 0 obj 0 0 st 0 0) none cam 0 0) (hc : cellN cs obj = c) (hc0 : c ≠ 0) (ho : obj < 18446744073709551616) (h1 : made < 1099511627776) (h2 : n < 1099511627776) :
    Calls Try.prog 12 #[.pointer (some ⟨p, 0, none⟩), .pointer (some ⟨v, 0, none⟩)] w fun e w' => e = .returned (.bool false) ∧ CS W m b v most w' next (made + 1) cs (n + 1) D p 115 (atL cam c 0 obj 1 c st 0 0) none cam 0 0 ∧ ∀ k, D k → w'.heap[k]? = w.heap[k]? := by
  have hL := h.sr.load obj ho h1 h2
  rw [hc] at hL
  have hF := find_load (c := c) h.blk (.pointer (some ⟨v, 0, none⟩)) _ hL (fun x hx => (hx.2 p CS.dp).trans h.blk)
  rw [show decide (c = 0) = false from decide_eq_false hc0, show fpN c = 1 from if_neg hc0] at hF
  refine (at_findF h.blk rfl (.pointer (some ⟨v, 0, none⟩)) _ hF (fun y hy => by
    obtain ⟨x, hx, B, C⟩ := hy
    exact ⟨_, B, rfl⟩)).mono ?_
  rintro e w' ⟨rfl, x, hx, B, C⟩
  exact ⟨rfl, h.fin hx.1 (fun k e _ => hx.2 k e) C B⟩
set_option maxHeartbeats 1000000 in
theorem at_s2 {W : World} {m b v most : Nat} {w : World} {next made : Nat} {cs : List Nat} {n : Nat} {D : Nat → Prop} {p : Nat} {cam obj st c a s : Nat} (h : CS W m b v most w next made cs n D p 115 (atL cam c 0 obj 1 c st 0 0) none cam 0 0) (ha : a = (c + 1) % 18446744073709551616) (hs : cellN cs a = s) (hs0 : s ≠ 0) (hc0 : c ≠ 0) (h1 : made < 1099511627776) (h2 : n < 1099511627776) :
    Calls Try.prog 12 #[.pointer (some ⟨p, 0, none⟩), .pointer (some ⟨v, 0, none⟩)] w fun e w' => e = .returned (.bool false) ∧ CS W m b v most w' next (made + 1) cs (n + 1) D p 115 (atL cam c 3 obj 2 c st 1 0) none cam 0 0 ∧ ∀ k, D k → w'.heap[k]? = w.heap[k]? := by
  have S2 := h.sr.put (setP (p := p) (i := 2) (.int .u8 3)) (fun k e => .inr (.inl e))
  have kk : ∀ k, k ≠ p → (w.setCell ⟨p, 2, none⟩ (.int .u8 3)).heap[k]? = w.heap[k]? := fun k ne => Below.heap_setCell _ _ _ _ ne
  have B2 := h.blk.set 2 (.int .u8 3)
  have hL := S2.load a (by omega) h1 h2
  rw [hs] at hL
  have hT := tell_load1 (cam := cam) (ver := c) (c := s) (clk := .pointer none) (rest := _) h.blk (.pointer (some ⟨v, 0, none⟩)) a ha hs0 (fun x => SR W m b v 0 most x next (made + 1) cs (n + 1) (own2 D p none) ∧ ∀ k, own2 D p none k → x.heap[k]? = (w.setCell ⟨p, 2, none⟩ (.int .u8 3)).heap[k]?) (fun W1 hW1 => by subst hW1; exact hL) (fun x hx => (hx.2 p CS.dp).trans B2)
  have hF := find_tellT h.blk rfl (.pointer (some ⟨v, 0, none⟩)) _ hT (fun x hx => ⟨_, (hx.2 p CS.dp).trans B2, rfl⟩)
  refine (at_findT (head := c) h.blk rfl (.pointer (some ⟨v, 0, none⟩)) _ hc0 hF (fun y hy => by
    obtain ⟨x, hx, rfl⟩ := hy
    have B3 : Blk x p 115 _ := (hx.2 p CS.dp).trans B2
    exact ⟨_, B3.set 5 _, rfl, rfl⟩)).mono ?_
  rintro e w' ⟨rfl, z, ⟨x, hx, rfl⟩, rfl⟩
  have B3 : Blk x p 115 _ := (hx.2 p CS.dp).trans B2
  exact ⟨rfl, h.fin hx.1 (fun k e ne => (hx.2 k e).trans (kk k ne)) ((setP _).trans (setP _) (fun _ _ x => x) (fun _ _ x => x)) ((B3.set 5 _).set 8 _)⟩
set_option maxHeartbeats 1000000 in
theorem at_s3 {W : World} {m b v most : Nat} {w : World} {next made : Nat} {cs : List Nat} {n : Nat} {D : Nat → Prop} {p : Nat} {cam obj st c a s : Nat} (h : CS W m b v most w next made cs n D p 115 (atL cam c 3 obj 2 c st 1 0) none cam 0 0) (ha : a = (c + 1) % 18446744073709551616) (hs : cellN cs a = s) (h1 : made < 1099511627776) (h2 : n < 1099511627776) :
    Calls Try.prog 12 #[.pointer (some ⟨p, 0, none⟩), .pointer (some ⟨v, 0, none⟩)] w fun e w' => e = .returned (.bool false) ∧ CS W m b v most w' next (made + 1) cs (n + 1) D p 115 (atL cam c 3 obj 2 c st (if s ≤ st then 3 else 2) 0) none cam 0 0 ∧ ∀ k, D k → w'.heap[k]? = w.heap[k]? := by
  have S1 := (h.sr.put (setP (p := p) (i := 8) (.int .u8 2)) (fun k e => .inr (.inl e))).put (drewE _) (fun k e => e.elim)
  have kk : ∀ k, k ≠ p → (w.setCell ⟨p, 8, none⟩ (.int .u8 2)).drew.heap[k]? = w.heap[k]? := fun k ne => Below.heap_setCell _ _ _ _ ne
  have B2 := h.blk.set 8 (.int .u8 2)
  have hL := S1.load a (by omega) h1 h2
  rw [hs] at hL
  refine (at_stamp (head := c) (st := st) (c := s) h.blk rfl rfl rfl (.pointer (some ⟨v, 0, none⟩)) (fun x => SR W m b v 0 most x next (made + 1) cs (n + 1) (own2 D p none) ∧ ∀ k, own2 D p none k → x.heap[k]? = (w.setCell ⟨p, 8, none⟩ (.int .u8 2)).drew.heap[k]?) a ha (fun W1 hW1 => by subst hW1; exact hL) (fun x hx => (hx.2 p CS.dp).trans B2)).mono ?_
  rintro e w' ⟨rfl, x, hx, C, B⟩
  refine ⟨rfl, h.fin hx.1 (fun k e ne => (hx.2 k e).trans (kk k ne)) C ?_⟩
  by_cases c1 : s ≤ st
  · rw [if_pos c1] at B ⊢
    exact B
  · rw [if_neg c1] at B ⊢
    exact B
set_option maxHeartbeats 1000000 in
theorem at_s4 {W : World} {m b v most : Nat} {w : World} {next made : Nat} {cs : List Nat} {n : Nat} {D : Nat → Prop} {p : Nat} {cam obj st c x : Nat} (h : CS W m b v most w next made cs n D p 115 (atL cam c 3 obj 2 c st 3 0) none cam 0 0) (hx0 : cellN cs c = x) (hc : c < 18446744073709551616) (h1 : made < 1099511627776) (h2 : n < 1099511627776) :
    Calls Try.prog 12 #[.pointer (some ⟨p, 0, none⟩), .pointer (some ⟨v, 0, none⟩)] w fun e w' => e = .returned (.bool true) ∧ CS W m b v most w' next (made + 1) cs (n + 1) D p 115 (atL cam c 3 obj 2 c st 4 x) none cam 0 0 ∧ ∀ k, D k → w'.heap[k]? = w.heap[k]? := by
  have hL := h.sr.load c hc h1 h2
  rw [hx0] at hL
  refine (at_valueT (head := c) (x := x) h.blk rfl rfl ⟨_, rfl⟩ (.pointer (some ⟨v, 0, none⟩)) _ hL (fun y hy => (hy.2 p CS.dp).trans h.blk)).mono ?_
  rintro e w' ⟨rfl, y, hy, rfl⟩
  have B3 : Blk y p 115 _ := (hy.2 p CS.dp).trans h.blk
  exact ⟨rfl, h.fin hy.1 (fun k e _ => hy.2 k e) ((setP _).trans (setP _) (fun _ _ x => x) (fun _ _ x => x)) ((B3.set 9 _).set 8 _)⟩
set_option maxHeartbeats 1000000 in
theorem at_s5 {W : World} {m b v most : Nat} {w : World} {next made : Nat} {cs : List Nat} {n : Nat} {D : Nat → Prop} {p : Nat} {cam obj st c a : Nat} (h : CS W m b v most w next made cs n D p 115 (atL cam c 3 obj 2 c st 2 0) none cam 0 0) (ha : a = (c + 2) % 18446744073709551616) (hx0 : cellN cs a = 0) (h1 : made < 1099511627776) (h2 : n < 1099511627776) :
    Calls Try.prog 12 #[.pointer (some ⟨p, 0, none⟩), .pointer (some ⟨v, 0, none⟩)] w fun e w' => e = .returned (.bool true) ∧ CS W m b v most w' next (made + 1) cs (n + 1) D p 115 (atL cam c 3 obj 2 0 st 4 0) none cam 0 0 ∧ ∀ k, D k → w'.heap[k]? = w.heap[k]? := by
  have hL := h.sr.load a (by omega) h1 h2
  rw [hx0] at hL
  refine (at_older0 (head := c) h.blk rfl rfl (.pointer (some ⟨v, 0, none⟩)) _ a ha hL (fun y hy => (hy.2 p CS.dp).trans h.blk)).mono ?_
  rintro e w' ⟨rfl, y, hy, rfl⟩
  have B3 : Blk y p 115 _ := (hy.2 p CS.dp).trans h.blk
  exact ⟨rfl, h.fin hy.1 (fun k e _ => hy.2 k e) (((setP _).trans (setP _) (fun _ _ x => x) (fun _ _ x => x)).trans (setP _) (fun _ _ x => x) (fun _ _ x => x)) (((B3.set 6 _).set 8 _).set 8 _)⟩
end Go.Proofs.Ytmhflmjhphhppab
