/- The document's Pick: a thread that has nothing to do. -/
import Derived.Test.YtkfmpebhibnniaaYF
namespace Go.Proofs.Ytkfmpebhibnniaa
open Go.RowKit Go.Shelf
set_option linter.unusedVariables false

set_option maxRecDepth 100000 in
theorem d4_pick_no {X : World} {B r nm T st : Nat} {p : Option Addr} {c8 : Nat} {call at_ : Nat → Nat} {K : Nat → Prop} (h : D4 X B r nm T st p c8 call at_ K) {ll : List (List PlP)} {ap : Nat → Option Addr} {ac : Nat → Nat} {lp : Nat → Nat → Option Addr} {lc : Nat → Nat → Nat} (hP : ThsAt X B p ll ap ac lp lc) (hT : ll.length = T) (cl : Nat → Nat) (hcl : ∀ i l, ll[i]? = some l → l.length = cl i) (th : Int) (hst : st ≤ 16777216) (hc : ¬ (0 ≤ th ∧ th < (T : Int) ∧ call th.toNat < cl th.toNat)) :
    Calls Try.prog 25 #[.pointer (some ⟨r, 0, none⟩), .int .i64 th] X fun e Y => e = .returned (.bool false) ∧ D4 Y B r nm T (st + 1) p c8 call at_ K ∧ Chg K X Y := by
  obtain ⟨tg, gc, ga, gg, ev, wv, es, ws, gv, gl, R, m, t, h, hK⟩ := h
  have c4 : X.cell? ⟨r, 4, none⟩ = some (.int .i64 (st : Int)) := cell_of h.blk 4
  have f4 := free_of h.blk 4
  obtain ⟨s1, hs1⟩ : ∃ s1, s1 = st + 1 := ⟨_, rfl⟩
  have e1 : IntKind.i64.wrap ((st : Int) + 1) = (s1 : Int) := by rw [IntKind.wrap_i64]; omega
  have e2 : (st : Int) + 1 = (s1 : Int) := by omega
  have hr : B ≤ r := (h.lo r (by rw [h.tr]; decide)).1
  have HD : Hid (D4 (X.setCell ⟨r, 4, none⟩ (.int .i64 (s1 : Int))) B r nm T s1 p c8 call at_ K) := ⟨tg, gc, ga, gg, ev, wv, es, ws, gv, gl, R, m, t, h.setSt s1 (by omega), hK⟩
  have HCH : Hid (Chg K X (X.setCell ⟨r, 4, none⟩ (.int .i64 (s1 : Int)))) := (Chg.refl K X).setCell (p := ⟨r, 4, none⟩) (fun _ => hK r (by rw [h.tr]; decide)) _
  have HPP : Hid (ThsAt (X.setCell ⟨r, 4, none⟩ (.int .i64 (s1 : Int))) B p ll ap ac lp lc) := hP.low (fun k hk => Below.heap_setCell _ _ _ k (fun q => by have q2 : k = r := q; omega))
  have HLF := keepH (d4_left HD.out HPP.out hT cl hcl th)
  rw [decide_eq_false hc] at HLF
  have HS1 := keepH hs1
  clear h hK hP hcl hc hs1
  go_enter Try.func25, Try.ntmps25
  go_wp2_with fail
  refine HLF.out.mono ?_
  rintro e w1 ⟨rfl, q, hw1⟩
  have HW1 := keepH hw1
  clear hw1
  go_wp2_with fail
  go_ret
  refine ⟨by simp, ?_, ?_⟩
  · rw [HW1.out, ← HS1.out]
    exact HD.out.keep (Nat.le_refl _) (fun k _ => rfl)
  · rw [HW1.out]
    exact HCH.out.trans (drewN_chgY _ _) (fun _ _ x => x) (fun _ _ x => x.elim)
end Go.Proofs.Ytkfmpebhibnniaa
