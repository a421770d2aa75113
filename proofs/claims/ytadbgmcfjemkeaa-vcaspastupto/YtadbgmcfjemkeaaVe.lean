/- Vcas's Cas: its steps, whatever the view is. -/
import Derived.Test.YtadbgmcfjemkeaaVd
namespace Go.Proofs.Ytadbgmcfjemkeaa
open Go.RowKit Go.Shelf

set_option maxRecDepth 100000 in
set_option maxHeartbeats 1000000 in
theorem compare_go {W : World} {p : Nat} {t : TypeId} {l : List Value} {x now : Nat} (hp : Blk W p t l) (h8 : l[8]? = some (.int .u64 (x : Int))) (h9 : l[9]? = some (.int .u64 (x : Int))) (h10 : l[10]? = some (.int .u64 (now : Int))) (h11 : l[11]? = some (.int .u8 0)) (hn : x ≠ now) :
    Calls Try.prog 82 #[.pointer (some ⟨p, 0, none⟩)] W fun e W' => e = .returned (.tuple #[]) ∧ Blk W' p t (l.set 11 (.int .u8 1)) ∧ Chg (fun k => k = p) W W' := by
  have c11 : W.cell? ⟨p, 11, none⟩ = some (.int .u8 0) := (hp.cell 11).trans h11
  have f11 := hp.free 11
  obtain ⟨w1, hw1⟩ : ∃ w1, w1 = W.setCell ⟨p, 11, none⟩ (.int .u8 1) := ⟨_, rfl⟩
  have P1 : Hid (Blk w1 p t (l.set 11 (.int .u8 1))) := by rw [hw1]; exact hp.set 11 _
  have HC1 : Hid (Chg (fun k => k = p) W w1) := by rw [hw1]; exact setP _
  have d8 : w1.cell? ⟨p, 8, none⟩ = some (.int .u64 (x : Int)) := by rw [P1.out.cell 8, List.getElem?_set_ne (by decide)]; exact h8
  have d9 : w1.cell? ⟨p, 9, none⟩ = some (.int .u64 (x : Int)) := by rw [P1.out.cell 9, List.getElem?_set_ne (by decide)]; exact h9
  have d10 : w1.cell? ⟨p, 10, none⟩ = some (.int .u64 (now : Int)) := by rw [P1.out.cell 10, List.getElem?_set_ne (by decide)]; exact h10
  have n1 : ((x : Int) == (now : Int)) = false := beq_eq_false_iff_ne.2 (by omega)
  have n2 : ((x : Int) != (x : Int)) = false := by simp
  clear hp h8 h9 h10 h11 hn
  go_enter Try.func82, Try.ntmps82
  go_upto_region 1 with fail
  rw [← hw1]
  clear hw1 c11 f11
  go_quiet (fail)
  go_wp2_with fail
  go_end0
  exact ⟨rfl, P1.out, HC1.out.trans (Goes.drewN w1 (fun _ => False) _).chg (fun _ _ x => x) (fun _ _ x => x.elim)⟩

set_option maxRecDepth 100000 in
set_option maxHeartbeats 2000000 in
theorem grow_any {W : World} {p : Nat} {t : TypeId} {l : List Value} {now head c : Nat} (hp : Blk W p t l) (h6 : l[6]? = some (.int .u64 (head : Int))) (h10 : l[10]? = some (.int .u64 (now : Int))) (h11 : ∃ z, l[11]? = some (.int .u8 z)) (h12 : ∃ z, l[12]? = some (.int .u64 z)) (h14 : ∃ z, l[14]? = some (.int .i64 z)) (V : Value) (R : World → Prop)
    (hA : ∀ W1, W1 = (W.setCell ⟨p, 11, none⟩ (.int .u8 2)).drew.alloc (.cells ([now, 0, head].map u64V).toArray 27) → Calls Try.prog 23 #[V, .slice (some ⟨W.heap.size, 0, none⟩) 3 3] W1 fun e w => e = .returned (.int .u64 (c : Int)) ∧ R w) (hK : ∀ w, R w → Blk w p t (l.set 11 (.int .u8 2))) :
    Calls Try.prog 83 #[.pointer (some ⟨p, 0, none⟩), V] W fun e W' => e = .returned (.tuple #[]) ∧ ∃ w, R w ∧ Chg (fun k => k = p) w W' ∧ Blk W' p t (if c = 0 then (((l.set 11 (.int .u8 2)).set 12 (.int .u64 (c : Int))).set 14 (.int .i64 30)).set 11 (.int .u8 6) else (l.set 11 (.int .u8 2)).set 12 (.int .u64 (c : Int))) := by
  obtain ⟨z11, h11⟩ := h11
  obtain ⟨z12, h12⟩ := h12
  obtain ⟨z14, h14⟩ := h14
  have c11 : W.cell? ⟨p, 11, none⟩ = some (.int .u8 z11) := (hp.cell 11).trans h11
  have f11 := hp.free 11
  obtain ⟨w1, hw1⟩ : ∃ w1, w1 = W.setCell ⟨p, 11, none⟩ (.int .u8 2) := ⟨_, rfl⟩
  have P1 : Hid (Blk w1 p t (l.set 11 (.int .u8 2))) := by rw [hw1]; exact hp.set 11 _
  have hs1 : w1.heap.size = W.heap.size := by rw [hw1]; simp [World.setCell]
  have d6 : w1.cell? ⟨p, 6, none⟩ = some (.int .u64 (head : Int)) := by rw [P1.out.cell 6, List.getElem?_set_ne (by decide)]; exact h6
  have d10 : w1.cell? ⟨p, 10, none⟩ = some (.int .u64 (now : Int)) := by rw [P1.out.cell 10, List.getElem?_set_ne (by decide)]; exact h10
  have HA := keepH (hA _ (by rw [hw1]) : Calls Try.prog 23 #[V, .slice (some ⟨W.heap.size, 0, none⟩) 3 3] (w1.drew.alloc (.cells ([now, 0, head].map u64V).toArray 27)) fun e w => e = .returned (.int .u64 (c : Int)) ∧ R w)
  rw [← hs1] at HA
  have HK := keepH hK
  have hl : 14 < l.length := (List.getElem?_eq_some_iff.1 h14).1
  have g12 : (l.set 11 (.int .u8 2))[12]? = some (.int .u64 z12) := by rw [List.getElem?_set_ne (by decide)]; exact h12
  have g14 : ((l.set 11 (.int .u8 2)).set 12 (.int .u64 (c : Int)))[14]? = some (.int .i64 z14) := by rw [List.getElem?_set_ne (by decide), List.getElem?_set_ne (by decide)]; exact h14
  have g11 : (((l.set 11 (.int .u8 2)).set 12 (.int .u64 (c : Int))).set 14 (.int .i64 30))[11]? = some (.int .u8 2) := by rw [List.getElem?_set_ne (by decide), List.getElem?_set_ne (by decide), List.getElem?_set_self (by omega)]
  have HG := keepH (And.intro g12 (And.intro g14 g11))
  clear hp h6 h10 h11 h12 h14 hA hK hs1 hl g12 g14 g11
  go_enter Try.func83, Try.ntmps83
  go_upto_region 1 with fail
  rw [← hw1]
  clear hw1 c11 f11
  go_cut [] from 7 to 22 (fun wz => Hid (∃ w, R w ∧ Chg (fun k => k = p) w wz ∧ Blk wz p t ((l.set 11 (.int .u8 2)).set 12 (.int .u64 (c : Int)))))
  case first =>
    go_region_with (go_at_call 23; refine HA.out.mono ?_; rintro e w ⟨rfl, hr⟩; have P2 := HK.out w hr; have q12 : w.cell? ⟨p, 12, none⟩ = some (.int .u64 z12) := (P2.cell 12).trans HG.out.1; have k12 := P2.free 12; have HR := keepH hr; have HP2 := keepH P2; clear hr P2)
    all_goals (try go_wp2_with fail)
    all_goals go_meet
    all_goals (exact keepH ⟨w, HR.out, setP _, HP2.out.set 12 _⟩)
  case rest =>
    obtain ⟨wz, hwz⟩ : ∃ wz, wz = wc := ⟨_, rfl⟩
    rw [← hwz] at hcut ⊢
    clear hwz
    obtain ⟨w, hr, C2, P2⟩ := hcut.out
    have HR := keepH hr
    have HC2 := keepH C2
    have HP2 := keepH P2
    have hlen : 12 < (l.set 11 (.int .u8 2)).length := (List.getElem?_eq_some_iff.1 HG.out.1).1
    have e12 : wz.cell? ⟨p, 12, none⟩ = some (.int .u64 (c : Int)) := by rw [P2.cell 12, List.getElem?_set_self hlen]
    have e14 : wz.cell? ⟨p, 14, none⟩ = some (.int .i64 z14) := (P2.cell 14).trans HG.out.2.1
    have f14 := P2.free 14
    clear hcut hr C2 P2 hlen
    by_cases h0 : c = 0
    · subst h0
      have P3 := keepH (HP2.out.set 14 (.int .i64 30))
      have e11 : (wz.setCell ⟨p, 14, none⟩ (.int .i64 30)).cell? ⟨p, 11, none⟩ = some (.int .u8 2) := (P3.out.cell 11).trans HG.out.2.2
      have e11' : wz.cell? ⟨p, 11, none⟩ = some (.int .u8 2) := by
        rw [HP2.out.cell 11]
        have := HG.out.2.2
        rwa [List.getElem?_set_ne (by decide)] at this
      have f11 := P3.out.free 11
      have f11' := HP2.out.free 11
      go_wp2_with fail
      go_end0
      exact ⟨rfl, w, HR.out, (HC2.out.trans (setP _) (fun _ _ x => x) (fun _ _ x => x)).trans (setP _) (fun _ _ x => x) (fun _ _ x => x), P3.out.set 11 _⟩
    · have n1 : ((c : Int) == 0) = false := beq_eq_false_iff_ne.2 (by omega)
      go_wp2_with fail
      go_end0
      refine ⟨rfl, w, HR.out, HC2.out, ?_⟩
      first
        | exact HP2.out
        | (rw [if_neg h0]; exact HP2.out)

set_option maxRecDepth 100000 in
set_option maxHeartbeats 2000000 in
theorem swap_ok {W : World} {p : Nat} {t : TypeId} {cam ver pos obj fpos head made : Nat} {clk : Value} {rest : List Value} (hp : Blk W p t (fndL cam ver pos clk obj fpos head rest)) (h12 : (fndL cam ver pos clk obj fpos head rest)[12]? = some (.int .u64 (made : Int))) (h11 : ∃ z, (fndL cam ver pos clk obj fpos head rest)[11]? = some (.int .u8 z)) (V : Value) (R : World → Prop)
    (hC : Calls Try.prog 79 #[V, .int .u64 (obj : Int), .int .u64 (head : Int), .int .u64 (made : Int)] W.drew fun e w => e = .returned (.bool true) ∧ R w) (hK : ∀ w, R w → Blk w p t (fndL cam ver pos clk obj fpos head rest)) :
    Calls Try.prog 84 #[.pointer (some ⟨p, 0, none⟩), V] W fun e W' => e = .returned (.tuple #[]) ∧ ∃ w, R w ∧ Chg (fun k => k = p) w W' ∧ Blk W' p t ((fndL cam made 0 clk obj fpos head rest).set 11 (.int .u8 4)) := by
  obtain ⟨z11, h11⟩ := h11
  have c4 : W.cell? ⟨p, 4, none⟩ = some (.int .u64 (obj : Int)) := hp.cell 4
  have c6 : W.cell? ⟨p, 6, none⟩ = some (.int .u64 (head : Int)) := hp.cell 6
  have c12 : W.cell? ⟨p, 12, none⟩ = some (.int .u64 (made : Int)) := (hp.cell 12).trans h12
  have HC := keepH hC
  have HK := keepH hK
  have H12 := keepH h12
  have H11 : Hid ((fndL cam made 0 clk obj fpos head rest)[11]? = some (.int .u8 z11)) := h11
  clear hp hC hK h12 h11
  go_enter Try.func84, Try.ntmps84
  go_upto_region 0 with fail
  go_cut [21] from 4 to 21 (fun s21 wz => s21 = .bool true ∧ Hid (R wz))
  case first =>
    go_region_with (go_at_call 79; refine HC.out.mono ?_; rintro e w ⟨rfl, hr⟩)
    all_goals (try go_wp2_with fail)
    all_goals go_meet
    all_goals (exact ⟨by first | rfl | trivial, keepH hr⟩)
  case rest =>
    obtain ⟨w, hwz⟩ : ∃ wz, wz = wc := ⟨_, rfl⟩
    rw [← hwz] at hcut ⊢
    clear hwz
    obtain ⟨rfl, HR⟩ := hcut
    have P2 := keepH (HK.out w HR.out)
    have d12 : w.cell? ⟨p, 12, none⟩ = some (.int .u64 (made : Int)) := (P2.out.cell 12).trans H12.out
    clear c4 c6 c12
    go_upto_region 1 with fail
    go_cut [] from 22 to 31 (fun wz => Hid (Blk wz p t (fndL cam made 0 clk obj fpos head rest) ∧ Chg (fun k => k = p) w wz))
    case first =>
      go_region_with (go_at_call 50; refine (aim_any (W := w.drew) P2.out made).mono ?_; rintro e w2 ⟨rfl, P3, C3⟩)
      all_goals (try go_wp2_with fail)
      all_goals go_meet
      all_goals (exact keepH ⟨P3, (Chg.refl (fun k => k = p) w).drew.trans C3 (fun _ _ x => x) (fun _ _ x => x)⟩)
    case rest =>
      obtain ⟨wz, hwz⟩ : ∃ wz, wz = wc := ⟨_, rfl⟩
      rw [← hwz] at hcut ⊢
      clear hwz
      obtain ⟨P3, C3⟩ := hcut.out
      have HP3 := keepH P3
      have HC3 := keepH C3
      have e11 : wz.cell? ⟨p, 11, none⟩ = some (.int .u8 z11) := (P3.cell 11).trans H11.out
      have f11 := P3.free 11
      clear hcut P3 C3 d12
      go_wp2_with fail
      go_end0
      exact ⟨rfl, w, HR.out, HC3.out.trans (setP _) (fun _ _ x => x) (fun _ _ x => x), HP3.out.set 11 _⟩
end Go.Proofs.Ytadbgmcfjemkeaa
