/- The law's own look at a history. -/
import Derived.Test.YtkfmpebhibnniaaY6
import Derived.Test.YtkfmpebhibnniaaYm
import Derived.BigQuiet
namespace Go.Proofs.Ytkfmpebhibnniaa
open Go.RowKit Go.Shelf
set_option linter.unusedVariables false

theorem evRow_at : ∀ (l : List Ev) (j f : Nat), f < 4 → (evRow l)[j * 4 + f]? = (match l[j]? with | some e => e.cells[f]? | none => none)
  | [], j, f, hf => by simp [evRow]
  | e :: l, 0, f, hf => by
    have h4 : e.cells.length = 4 := rfl
    show (e.cells ++ evRow l)[0 * 4 + f]? = e.cells[f]?
    rw [List.getElem?_append_left (by omega)]
    simp
  | e :: l, j + 1, f, hf => by
    have h4 : e.cells.length = 4 := rfl
    show (e.cells ++ evRow l)[(j + 1) * 4 + f]? = _
    rw [List.getElem?_append_right (by omega), show (j + 1) * 4 + f - e.cells.length = j * 4 + f by omega, evRow_at l j f hf]
    simp
theorem ev_cellY {W : World} {g n c : Nat} {l : List Ev} (h : W.ownsRow 0 112 4 (.slice (some ⟨g, 0, none⟩) n c) n (evRow l)) (j f : Nat) (x : Ev) (hj : l[j]? = some x) (hn : j < n) (hf : f < 4) (v : Value) (hv : x.cells[f]? = some v) : W.cell? ⟨g, j * 4 + f, none⟩ = some v := by
  rw [World.ownsRow.cellAt h (j * 4 + f) (by omega), evRow_at l j f hf, hj]
  exact hv
set_option maxRecDepth 100000 in
set_option maxHeartbeats 8000000 in
theorem l_history {W : World} {p : Option Addr} {c n : Nat} {l : List Ev} (h : W.ownsRow 0 112 4 (.slice p n c) n (evRow l)) (hl : l.length = n) (hn : n ≤ 1099511627776) (hH : HistOk l) :
    Calls Try.prog 24 #[.slice p n c] W fun e W' => e = .returned (.bool true) ∧ Chg (fun _ => False) W W' := by
  have HR := keepH h
  have HL := keepH hl
  have HH := keepH hH
  clear h hl hH
  go_enter Try.func24, Try.ntmps24
  go_wp2_with fail
  go_loopw [3] (fun s wr => ∃ i : Nat, i ≤ n ∧ s = .int .i64 (i : Int) ∧ Hid (Chg (fun _ => False) W wr)) (fun s _ => n - (intOf s).toNat)
  case atStart => exact ⟨0, Nat.zero_le _, rfl, Chg.refl _ _⟩
  case round =>
    obtain ⟨i, hin, rfl, HC⟩ := hrel
    obtain ⟨w1, hw1⟩ : ∃ w1, w1 = wr := ⟨_, rfl⟩
    subst hw1
    by_cases hi : i < n
    · have z1 : (i : Int) < (n : Int) := by omega
      obtain ⟨x, hx⟩ : ∃ x, l[i]? = some x := ⟨l[i]'(by have := HL.out; omega), List.getElem?_eq_getElem _⟩
      have HRi : Hid (w1.ownsRow 0 112 4 (.slice p n c) n (evRow l)) := row_kept HR.out (fun k e => HC.out.block k (row_lt HR.out k e) (fun x => x))
      obtain ⟨g, c', hg⟩ := slice_pos HRi.out (by omega)
      simp only [Value.slice.injEq, true_and] at hg
      obtain ⟨rfl, rfl⟩ := hg
      have a0 : w1.cell? ⟨g, i * 4, none⟩ = some (.int .i64 x.st) := ev_cellY HRi.out i 0 x hx hi (by decide) _ rfl
      have a1 : w1.cell? ⟨g, i * 4 + 1, none⟩ = some (.int .i64 x.th) := ev_cellY HRi.out i 1 x hx hi (by decide) _ rfl
      have a2 : w1.cell? ⟨g, i * 4 + 2, none⟩ = some (.int .i64 x.ix) := ev_cellY HRi.out i 2 x hx hi (by decide) _ rfl
      have a3 : w1.cell? ⟨g, i * 4 + 3, none⟩ = some (.bool x.ret) := ev_cellY HRi.out i 3 x hx hi (by decide) _ rfl
      have HE := keepH (HH.out i x hx)
      have HX := keepH hx
      clear hx
      obtain ⟨st, th, ix, ret⟩ := x
      simp only at a0 a1 a2 a3
      go_wp2_with fail
      obtain ⟨w2, hw2⟩ : ∃ w2, w2 = w1.alloc (.cells #[.int .i64 st, .int .i64 th, .int .i64 ix, .bool ret] 112) := ⟨_, rfl⟩
      rw [← hw2]
      obtain ⟨eb, heb⟩ : ∃ eb, w1.heap.size = eb := ⟨_, rfl⟩
      rw [heb]
      have HC2 : Hid (Chg (fun _ => False) w1 w2) := by rw [hw2]; exact (Chg.refl _ _).alloc _
      have HEB : Hid (w2.heap[eb]? = some (.cells #[.int .i64 st, .int .i64 th, .int .i64 ix, .bool ret] 112 (0, 0))) := by rw [hw2, ← heb]; exact heap_alloc_new _ _
      have HR2 : Hid (w2.ownsRow 0 112 4 (.slice (some ⟨g, 0, none⟩) n c) n (evRow l)) := row_kept HRi.out (fun k e => HC2.out.block k (row_lt HRi.out k e) (fun x => x))
      clear hw2 heb a0 a1 a2 a3
      go_loopw [5, 6, 7] (fun s5 s6 s7 wr => ∃ k : Nat, k ≤ i ∧ s5 = .int .i64 (evC (l.take k) th : Int) ∧ s6 = .bool (evO (l.take k) th) ∧ s7 = .int .i64 (k : Int) ∧ Hid (∃ q, wr = w2.drewN q)) (fun _ _ s _ => i - (intOf s).toNat)
      case atStart => exact ⟨0, Nat.zero_le _, rfl, rfl, rfl, ⟨0, rfl⟩⟩
      case round =>
        obtain ⟨k, hki, rfl, rfl, rfl, HQ⟩ := hrel
        obtain ⟨w3, hw3⟩ : ∃ w3, w3 = wr := ⟨_, rfl⟩
        subst hw3
        have HR3 : Hid (w3.ownsRow 0 112 4 (.slice (some ⟨g, 0, none⟩) n c) n (evRow l)) := by obtain ⟨q, e⟩ := HQ.out; rw [e]; exact row_kept HR2.out (fun k _ => rfl)
        have HE3 : Hid (w3.heap[eb]? = some (.cells #[.int .i64 st, .int .i64 th, .int .i64 ix, .bool ret] 112 (0, 0))) := by obtain ⟨q, e⟩ := HQ.out; rw [e]; exact HEB.out
        have e0 : w3.cell? ⟨eb, 0, none⟩ = some (.int .i64 st) := cell_of HE3.out 0
        have e1 : w3.cell? ⟨eb, 1, none⟩ = some (.int .i64 th) := cell_of HE3.out 1
        have e2 : w3.cell? ⟨eb, 2, none⟩ = some (.int .i64 ix) := cell_of HE3.out 2
        have e3 : w3.cell? ⟨eb, 3, none⟩ = some (.bool ret) := cell_of HE3.out 3
        by_cases hk : k < i
        · have z2 : (k : Int) < (i : Int) := by omega
          obtain ⟨y, hy⟩ : ∃ y, l[k]? = some y := ⟨l[k]'(by have := HL.out; omega), List.getElem?_eq_getElem _⟩
          have b1 : w3.cell? ⟨g, k * 4 + 1, none⟩ = some (.int .i64 y.th) := ev_cellY HR3.out k 1 y hy (by omega) (by decide) _ rfl
          have b3 : w3.cell? ⟨g, k * 4 + 3, none⟩ = some (.bool y.ret) := ev_cellY HR3.out k 3 y hy (by omega) (by decide) _ rfl
          have hC : evC (l.take (k + 1)) th = evC (l.take k) th + (if y.th = th ∧ y.ret = false then 1 else 0) := by rw [List.take_add_one, hy]; exact evC_snoc _ _ _
          have hO : evO (l.take (k + 1)) th = if y.th = th then !y.ret else evO (l.take k) th := by rw [List.take_add_one, hy]; exact evO_snoc _ _ _
          have hle : evC (l.take k) th ≤ k := by
            unfold evC
            exact Nat.le_trans (List.length_filter_le _ _) (by rw [List.length_take]; omega)
          have z4 : k < n := by omega
          have z5 : (k : Int) < (n : Int) := by omega
          obtain ⟨yst, yth, yix, yret⟩ := y
          simp only at b1 b3 hC hO
          obtain ⟨kc, hkc⟩ : ∃ kc, kc = evC (l.take k) th := ⟨_, rfl⟩
          obtain ⟨ko, hko⟩ : ∃ ko, ko = evO (l.take k) th := ⟨_, rfl⟩
          rw [← hkc] at hC hle ⊢
          rw [← hko] at hO ⊢
          have HCC := keepH hC
          have HOO := keepH hO
          clear hC hO hkc hko hy
          by_cases ht : yth = th
          · have t1 : (yth != th) = false := by simp [ht]
            have HT := keepH ht
            clear ht
            cases yret with
            | true =>
              go_upto_region 10 with fail
              go_quiet (fail)
              go_wp2_with fail
              go_roundw
              case rel => exact ⟨k + 1, by omega, by rw [HCC.out]; simp, by rw [HOO.out, if_pos HT.out]; rfl, by first | rfl | go_num, by obtain ⟨q, e⟩ := HQ.out; exact ⟨q + nq, by rw [e, drewN_addY]⟩⟩
              case measure => simp [intOf]; omega
            | false =>
              go_upto_region 10 with fail
              go_quiet (fail)
              go_wp2_with fail
              go_roundw
              case rel => exact ⟨k + 1, by omega, by rw [HCC.out, if_pos ⟨HT.out, rfl⟩]; first | rfl | go_num, by rw [HOO.out, if_pos HT.out]; rfl, by first | rfl | go_num, by obtain ⟨q, e⟩ := HQ.out; exact ⟨q + nq, by rw [e, drewN_addY]⟩⟩
              case measure => simp [intOf]; omega
          · have t1 : (yth != th) = true := by simp [ht]
            have HT := keepH ht
            clear ht
            go_upto_region 10 with fail
            go_quiet (fail)
            go_wp2_with fail
            go_roundw
            case rel => exact ⟨k + 1, by omega, by rw [HCC.out, if_neg (fun z => HT.out z.1)]; rfl, by rw [HOO.out, if_neg HT.out], by first | rfl | go_num, by obtain ⟨q, e⟩ := HQ.out; exact ⟨q + nq, by rw [e, drewN_addY]⟩⟩
            case measure => simp [intOf]; omega
        · have z2 : ¬ (k : Int) < (i : Int) := by omega
          obtain rfl : k = i := by omega
          have ho : evO (l.take k) th = ret := HE.out.ret.symm
          rw [ho]
          obtain ⟨kc, hkc⟩ : ∃ kc, kc = evC (l.take k) th := ⟨_, rfl⟩
          have hle : kc ≤ k := by
            rw [hkc]
            unfold evC
            exact Nat.le_trans (List.length_filter_le _ _) (by rw [List.length_take]; omega)
          have hix : ix = if ret = true then (kc : Int) - 1 else (kc : Int) := by have := HE.out.ix; simp only at this; rw [ho, ← hkc] at this; exact this
          have hst : 0 ≤ st := HE.out.st
          rw [← hkc]
          have HIX := keepH hix
          clear hix hkc ho
          go_upto_region 14 with fail
          go_cut [87] (fun s87 wz => s87 = .bool false ∧ Hid (∃ q, wz = w3.drewN q))
          case first =>
            by_cases hk0 : k = 0
            · have z0 : ¬ (0 : Int) < (k : Int) := by omega
              have zd : decide (0 < k) = false := decide_eq_false (by omega)
              clear hk0
              go_quiet (fail)
              go_wp2_with fail
              go_meet
              exact ⟨by first | rfl | simp, ⟨nq, rfl⟩⟩
            · obtain ⟨k1, hk1⟩ : ∃ k1, k = k1 + 1 := ⟨k - 1, by omega⟩
              obtain ⟨y, hy⟩ : ∃ y, l[k1]? = some y := ⟨l[k1]'(by have := HL.out; omega), List.getElem?_eq_getElem _⟩
              have hlast : (l.take k).getLast? = some y := by rw [hk1, List.take_add_one, hy]; simp
              obtain ⟨p1, p2⟩ := HE.out.prev y hlast
              have b0 : w3.cell? ⟨g, k1 * 4, none⟩ = some (.int .i64 y.st) := ev_cellY HR3.out k1 0 y hy (by omega) (by decide) _ rfl
              have b1 : w3.cell? ⟨g, k1 * 4 + 1, none⟩ = some (.int .i64 y.th) := ev_cellY HR3.out k1 1 y hy (by omega) (by decide) _ rfl
              have b3 : w3.cell? ⟨g, k1 * 4 + 3, none⟩ = some (.bool y.ret) := ev_cellY HR3.out k1 3 y hy (by omega) (by decide) _ rfl
              obtain ⟨yst, yth, yix, yret⟩ := y
              simp only at b0 b1 b3 p1 p2
              have z0 : (0 : Int) < (k : Int) := by omega
              have zd : decide (0 < k) = true := decide_eq_true (by omega)
              have z1k : IntKind.i64.wrap ((k : Int) - 1) = (k1 : Int) := by rw [IntKind.wrap_i64]; omega
              have z1l : (k1 : Int) < (n : Int) := by omega
              have z1m : k1 < n := by omega
              have t1 : ¬ st < yst := by omega
              have t1d : decide (st < yst) = false := decide_eq_false t1
              have HK1 := keepH hk1
              clear hk1 hk0 hy hlast
              by_cases hs : yst = st
              · obtain ⟨r1, r2, r3⟩ := p2 hs
                subst hs
                subst r1 r2 r3
                clear p2
                go_quiet (fail)
                go_wp2_with fail
                go_meet
                exact ⟨by first | rfl | simp, ⟨nq, rfl⟩⟩
              · have t2 : (yst == st) = false := by simp [hs]
                clear p2
                go_quiet (fail)
                go_wp2_with fail
                go_meet
                exact ⟨by first | rfl | simp, ⟨nq, rfl⟩⟩
          case rest =>
            obtain ⟨rfl, HQ4⟩ := hcut
            obtain ⟨w4, hw4⟩ : ∃ w4, w4 = wc := ⟨_, rfl⟩
            subst hw4
            have HE4 : Hid (w4.heap[eb]? = some (.cells #[.int .i64 st, .int .i64 th, .int .i64 ix, .bool ret] 112 (0, 0))) := by obtain ⟨q, e⟩ := HQ4.out; rw [e]; exact HE3.out
            have e0 : w4.cell? ⟨eb, 0, none⟩ = some (.int .i64 st) := cell_of HE4.out 0
            have e2 : w4.cell? ⟨eb, 2, none⟩ = some (.int .i64 ix) := cell_of HE4.out 2
            have e3 : w4.cell? ⟨eb, 3, none⟩ = some (.bool ret) := cell_of HE4.out 3
            have HCF : Hid (Chg (fun _ => False) W w4) := by
              obtain ⟨q, e⟩ := HQ4.out
              obtain ⟨q', e'⟩ := HQ.out
              rw [e, e']
              exact ((HC.out.trans HC2.out (H := fun _ => False) (fun _ _ x => x) (fun _ _ x => x)).trans (drewN_chgY _ _) (H := fun _ => False) (fun _ _ x => x) (fun _ _ x => x)).trans (drewN_chgY _ _) (fun _ _ x => x) (fun _ _ x => x)
            have s0 : ¬ st < 0 := by omega
            cases ret with
            | true =>
              have hx' : ix = (kc : Int) - 1 := by have := HIX.out; simpa using this
              have s1 : (ix != (kc : Int) - 1) = false := by rw [hx']; simp
              have HX' := keepH hx'
              clear hx'
              go_wp2_with fail
              go_roundw
              case rel => exact ⟨k + 1, by omega, by first | rfl | go_num, HCF.out⟩
              case measure => simp [intOf]; omega
            | false =>
              have hx' : ix = (kc : Int) := by have := HIX.out; simpa using this
              have s1 : (ix != (kc : Int)) = false := by rw [hx']; simp
              have HX' := keepH hx'
              clear hx'
              go_wp2_with fail
              go_roundw
              case rel => exact ⟨k + 1, by omega, by first | rfl | go_num, HCF.out⟩
              case measure => simp [intOf]; omega
    · have z1 : ¬ (i : Int) < (n : Int) := by omega
      go_wp2_with fail
      go_ret
      exact ⟨by simp, HC.out⟩
end Go.Proofs.Ytkfmpebhibnniaa
