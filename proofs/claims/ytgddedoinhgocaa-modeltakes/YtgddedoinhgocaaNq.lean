/- ModelKeys: the whole walk. -/
import Derived.Test.YtgddedoinhgocaaNp
import Derived.Test.YtgddedoinhgocaaNo
namespace Go.Proofs.Ytgddedoinhgocaa
open Go.RowKit Go.Maps
set_option linter.unusedVariables false

theorem meas {i n : Nat} (h : i < n) : n - natOf (.int .i64 ((i : Int) + 1)) < n - natOf (.int .i64 (i : Int)) := by
  have e1 : natOf (.int .i64 ((i : Int) + 1)) = i + 1 := by show ((i : Int) + 1).toNat = i + 1; omega
  have e2 : natOf (.int .i64 (i : Int)) = i := by show ((i : Int)).toNat = i; omega
  rw [e1, e2]
  omega
theorem measU {i n : Nat} (h : i < n) : n - natOf (.int .u64 ((i : Int) + 1)) < n - natOf (.int .u64 (i : Int)) := meas h
theorem meas2 {i n : Nat} (h : i < n) : n + 1 - natOf (.int .i64 ((i : Int) + 1 + 1)) < n + 1 - natOf (.int .i64 ((i : Int) + 1)) := by
  have e1 : natOf (.int .i64 ((i : Int) + 1 + 1)) = i + 2 := by show ((i : Int) + 1 + 1).toNat = i + 2; omega
  have e2 : natOf (.int .i64 ((i : Int) + 1)) = i + 1 := by show ((i : Int) + 1).toNat = i + 1; omega
  rw [e1, e2]
  omega
structure AB (W wr : World) (ma na ha mb nb hb : Nat) (fa fb : Nat → Option Nat) (n : Nat) : Prop where
  a : ∃ g, MoAt wr ma na ha 1 fa noH g n
  b : ∃ g, MoAt wr mb nb hb 1 fb noH g n
  ga : W.heap.size ≤ ma ∧ W.heap.size ≤ na ∧ W.heap.size ≤ ha
  gb : W.heap.size ≤ mb ∧ W.heap.size ≤ nb ∧ W.heap.size ≤ hb
  d1 : ma ≠ nb ∧ ma ≠ hb ∧ na ≠ nb ∧ na ≠ hb ∧ ha ≠ nb ∧ ha ≠ hb
  d2 : mb ≠ na ∧ mb ≠ ha
  chg : Chg (fun _ => False) W wr
theorem noH_any {F : Nat → Prop} : ∀ k b, noH k = some b → ¬ F b := fun k b h => by cases h
theorem AB.quiet {W wr wx : World} {ma na ha mb nb hb : Nat} {fa fb : Nat → Option Nat} {n : Nat} (h : AB W wr ma na ha mb nb hb fa fb n) (c : Chg (fun _ => False) wr wx) : AB W wx ma na ha mb nb hb fa fb n := by
  obtain ⟨g, hg⟩ := h.a
  obtain ⟨g', hg'⟩ := h.b
  exact ⟨⟨g, hg.quiet c⟩, ⟨g', hg'.quiet c⟩, h.ga, h.gb, h.d1, h.d2, h.chg.trans c (fun _ _ x => x) (fun _ _ x => x)⟩
theorem AB.mono {W wr : World} {ma na ha mb nb hb : Nat} {fa fb : Nat → Option Nat} {n n' : Nat} (h : AB W wr ma na ha mb nb hb fa fb n) (hn : n ≤ n') : AB W wr ma na ha mb nb hb fa fb n' := by
  obtain ⟨g, hg⟩ := h.a
  obtain ⟨g', hg'⟩ := h.b
  exact ⟨⟨g, hg.mono hn⟩, ⟨g', hg'.mono hn⟩, h.ga, h.gb, h.d1, h.d2, h.chg⟩
theorem AB.stepA {W wr wx : World} {ma na ha mb nb hb : Nat} {fa fb fa' : Nat → Option Nat} {n : Nat} (h : AB W wr ma na ha mb nb hb fa fb n) (ha' : ∃ g', MoAt wx ma na ha 1 fa' noH g' (n + 1)) (c : Chg (fun i => i = na ∨ i = ha) wr wx) : AB W wx ma na ha mb nb hb fa' fb (n + 1) := by
  obtain ⟨g', hg'⟩ := h.b
  have d1 := h.d1
  have d2 := h.d2
  refine ⟨ha', ⟨g', (hg'.chg c (by omega) (by omega) (by omega) noH_any).mono (Nat.le_succ n)⟩, h.ga, h.gb, h.d1, h.d2, h.chg.trans c (fun _ _ x => x) (fun i hi e => by have := h.ga; omega)⟩
theorem AB.stepB {W wr wx : World} {ma na ha mb nb hb : Nat} {fa fb fb' : Nat → Option Nat} {n : Nat} (h : AB W wr ma na ha mb nb hb fa fb n) (hb' : ∃ g', MoAt wx mb nb hb 1 fb' noH g' (n + 1)) (c : Chg (fun i => i = nb ∨ i = hb) wr wx) : AB W wx ma na ha mb nb hb fa fb' (n + 1) := by
  obtain ⟨g', hg'⟩ := h.a
  have d1 := h.d1
  refine ⟨⟨g', (hg'.chg c (by omega) (by omega) (by omega) noH_any).mono (Nat.le_succ n)⟩, hb', h.ga, h.gb, h.d1, h.d2, h.chg.trans c (fun _ _ x => x) (fun i hi e => by have := h.gb; omega)⟩
def kOf (l : List OpI) : List OpP := l.map OpI.o
def kind2 (d : Nat) (l : List OpI) : List OpP := (kOf l).filter (fun o => o.k % 2 == d)
theorem kOf_add (l : List OpI) (i : Nat) (x : OpI) (h : l[i]? = some x) : kOf (l.take (i + 1)) = kOf (l.take i) ++ [x.o] := by
  rw [List.take_add_one, h]
  simp [kOf]
theorem kind2_add (d : Nat) (l : List OpI) (i : Nat) (x : OpI) (h : l[i]? = some x) : kind2 d (l.take (i + 1)) = kind2 d (l.take i) ++ (if x.o.k % 2 = d then [x.o] else []) := by
  unfold kind2
  rw [kOf_add l i x h, List.filter_append]
  congr 1
  by_cases q : x.o.k % 2 = d
  · simp [q]
  · simp [q]
def fbOf (l : List OpI) (d : Nat) : Nat → Option Nat := if d = 0 then noH else if d = 1 then (kind2 0 l).foldl kst noH else (kind2 1 l).foldl kst ((kind2 0 l).foldl kst noH)
theorem fbOf_add (l : List OpI) (d : Nat) (hd : d < 2) : fbOf l (d + 1) = (kind2 d l).foldl kst (fbOf l d) := by
  rcases (show d = 0 ∨ d = 1 by omega) with rfl | rfl
  · simp [fbOf]
  · simp [fbOf]
theorem fbOf_end (l : List OpI) : fbOf l 2 = (kOf l).foldl kst noH := kst_parts (kOf l) noH
theorem OpsAt.get {W wr : World} {p : Option Addr} {l : List OpI} (h : OpsAt W p l) (c : Chg (fun _ => False) W wr) {i : Nat} {x : OpI} (hx : l[i]? = some x) : ∃ bk off, p = some ⟨bk, off, none⟩ ∧ x.Ok W ∧ ∀ j v, x.cs[j]? = some v → wr.cell? ⟨bk, off + i * 11 + j, none⟩ = some v := by
  rcases h with rfl | ⟨bk, off, rfl, _, h⟩
  · simp at hx
  · obtain ⟨h1, h2⟩ := h i x hx
    exact ⟨bk, off, rfl, h1, fun j v hj => cell_chg c (h2 j v hj) (fun x => x)⟩
set_option maxRecDepth 100000 in
set_option maxHeartbeats 8000000 in
theorem keys_walk (p : Option Addr) (c : Nat) (l : List OpI) (W : World) (hO : OpsAt W p l) (hl : l.length ≤ 2000000000000) :
    Calls Try.prog 5 #[.slice p l.length c] W fun e W' => e = .returned (.bool true) ∧ Chg (fun _ => False) W W' := by
  have HO := keepH hO
  clear hO
  go_enter Try.func5, Try.ntmps5
  go_wp2_with fail
  refine (live_06 W).mono ?_
  rintro e w1 ⟨rfl, C1⟩
  have HC1 := keepH C1
  clear C1
  go_wp2_with fail
  refine (new_g 1 (by omega) (by omega) w1).mono ?_
  rintro e w2 ⟨rfl, M2, C2⟩
  have HM2 := keepH M2
  have HC2 := keepH C2
  clear M2 C2
  go_wp2_with fail
  refine (new_g 1 (by omega) (by omega) w2).mono ?_
  rintro e w3 ⟨rfl, M3, C3⟩
  obtain ⟨ma, hma⟩ : ∃ ma, ma = w1.heap.size + 2 := ⟨_, rfl⟩
  obtain ⟨mb, hmb⟩ : ∃ mb, mb = w2.heap.size + 2 := ⟨_, rfl⟩
  obtain ⟨na, hna⟩ : ∃ na, na = w1.heap.size := ⟨_, rfl⟩
  obtain ⟨nb, hnb⟩ : ∃ nb, nb = w2.heap.size := ⟨_, rfl⟩
  obtain ⟨ha, hha⟩ : ∃ ha, ha = w1.heap.size + 1 := ⟨_, rfl⟩
  obtain ⟨hb, hhb⟩ : ∃ hb, hb = w2.heap.size + 1 := ⟨_, rfl⟩
  have HAB : Hid (AB W w3 ma na ha mb nb hb noH noH 0) := by
    have z1 := HC1.out.size
    have z2 := HM2.out.blk
    have z3 := HC2.out.size
    rw [← hma, ← hha, ← hna] at HM2
    rw [← hmb, ← hhb, ← hnb] at M3
    exact ⟨⟨_, HM2.out.quiet C3⟩, ⟨_, M3⟩, by omega, by omega, by omega, by omega, (HC1.out.trans HC2.out (H := fun _ => False) (fun _ _ x => x) (fun _ _ x => x)).trans C3 (fun _ _ x => x) (fun _ _ x => x)⟩
  rw [← hma, ← hmb]
  clear M3 C3 HM2 HC2 HC1 hma hmb hna hnb hha hhb
  go_wp2_with fail
  go_loopw [7] (fun s wr => ∃ i : Nat, i ≤ l.length ∧ s = .int .i64 (i : Int) ∧ Hid (AB W wr ma na ha mb nb hb ((kOf (l.take i)).foldl kst noH) noH i)) (fun s _ => l.length - natOf s)
  case atStart => exact ⟨0, Nat.zero_le _, rfl, HAB.out⟩
  case round =>
    obtain ⟨i, hil, rfl, HX⟩ := hrel
    by_cases hlt : i < l.length
    · have q1 : (i : Int) < (l.length : Int) := by omega
      obtain ⟨x, hx⟩ : ∃ x, l[i]? = some x := ⟨l[i], List.getElem?_eq_getElem hlt⟩
      obtain ⟨bk, off, rfl, hok, hcs⟩ := HO.out.get HX.out.chg hx
      have HT := keepH (kOf_add l i x hx)
      have HK := keepH hok
      have c0 := hcs 0 _ rfl
      have c1 := hcs 1 _ rfl
      have c2 := hcs 2 _ rfl
      have c3 := hcs 3 _ rfl
      have c4 := hcs 4 _ rfl
      have c5 := hcs 5 _ rfl
      have c6 := hcs 6 _ rfl
      have c7 := hcs 7 _ rfl
      have c8 := hcs 8 _ rfl
      have c9 := hcs 9 _ rfl
      have c10 := hcs 10 _ rfl
      rw [Nat.add_zero] at c0
      clear hx hcs hok
      by_cases t1 : (2 : Int) ≤ x.o.kd
      · by_cases t2 : x.o.kd ≤ 4
        · have HQ : Hid (2 ≤ x.o.kd ∧ x.o.kd ≤ 4) := ⟨t1, t2⟩
          go_wp2_with fail
          obtain ⟨gg, hMA⟩ := HX.out.a
          refine (Do_k HK.out HX.out.chg hMA (by omega) (by omega) HQ.out).mono ?_
          rintro e w4 ⟨⟨u, rfl⟩, hM4, hC4⟩
          have HX4 := keepH (HX.out.stepA hM4 hC4)
          clear hMA hM4 hC4
          go_wp2_with fail
          go_roundw
          case rel => exact ⟨i + 1, by omega, by first | rfl | go_num, by rw [HT.out, List.foldl_append]; exact HX4.out⟩
          case measure => exact meas hlt
        · have HQ : Hid (¬ (2 ≤ x.o.kd ∧ x.o.kd ≤ 4)) := fun z => t2 z.2
          go_wp2_with fail
          go_roundw
          case rel => exact ⟨i + 1, by omega, by first | rfl | go_num, by rw [HT.out, List.foldl_append, List.foldl_cons, List.foldl_nil, kst_else _ _ HQ.out]; exact HX.out.mono (Nat.le_succ i)⟩
          case measure => exact meas hlt
      · have HQ : Hid (¬ (2 ≤ x.o.kd ∧ x.o.kd ≤ 4)) := fun z => t1 z.1
        go_wp2_with fail
        go_roundw
        case rel => exact ⟨i + 1, by omega, by first | rfl | go_num, by rw [HT.out, List.foldl_append, List.foldl_cons, List.foldl_nil, kst_else _ _ HQ.out]; exact HX.out.mono (Nat.le_succ i)⟩
        case measure => exact meas hlt
    · have q1 : ¬ (i : Int) < (l.length : Int) := by omega
      obtain rfl : i = l.length := by omega
      rw [List.take_length] at HX
      clear hlt
      go_wp2_with fail
      go_loopw [8] (fun s wr => ∃ d : Nat, d ≤ 2 ∧ s = .int .u64 (d : Int) ∧ Hid (AB W wr ma na ha mb nb hb ((kOf l).foldl kst noH) (fbOf l d) (l.length + d * l.length))) (fun s _ => 2 - natOf s)
      case atStart => exact ⟨0, by omega, rfl, by have := HX.out; simp [fbOf]; exact this⟩
      case round =>
        obtain ⟨d, hd, rfl, HY⟩ := hrel
        by_cases hd2 : d < 2
        · have q2 : (d : Int) < 2 := by omega
          go_wp2_with fail
          go_loopw [9] (fun s wr => ∃ i : Nat, i ≤ l.length ∧ s = .int .i64 (i : Int) ∧ Hid (AB W wr ma na ha mb nb hb ((kOf l).foldl kst noH) ((kind2 d (l.take i)).foldl kst (fbOf l d)) (l.length + d * l.length + i))) (fun s _ => l.length - natOf s)
          case atStart => exact ⟨0, Nat.zero_le _, rfl, HY.out⟩
          case round =>
            obtain ⟨i, hil, rfl, HX⟩ := hrel
            by_cases hlt : i < l.length
            · have q1 : (i : Int) < (l.length : Int) := by omega
              obtain ⟨x, hx⟩ : ∃ x, l[i]? = some x := ⟨l[i], List.getElem?_eq_getElem hlt⟩
              obtain ⟨bk, off, rfl, hok, hcs⟩ := HO.out.get HX.out.chg hx
              have HT := keepH (kind2_add d l i x hx)
              have HK := keepH hok
              have c0 := hcs 0 _ rfl
              have c1 := hcs 1 _ rfl
              have c2 := hcs 2 _ rfl
              have c3 := hcs 3 _ rfl
              have c4 := hcs 4 _ rfl
              have c5 := hcs 5 _ rfl
              have c6 := hcs 6 _ rfl
              have c7 := hcs 7 _ rfl
              have c8 := hcs 8 _ rfl
              have c9 := hcs 9 _ rfl
              have c10 := hcs 10 _ rfl
              rw [Nat.add_zero] at c0
              have hk64 := hok.ok.k
              clear hx hcs hok
              by_cases t1 : (2 : Int) ≤ x.o.kd
              · by_cases t2 : x.o.kd ≤ 4
                · by_cases t3 : x.o.k % 2 = d
                  · have HQ : Hid (2 ≤ x.o.kd ∧ x.o.kd ≤ 4) := ⟨t1, t2⟩
                    have q3 : ((x.o.k : Int).tmod 2 == (d : Int)) = true := by rw [show (x.o.k : Int).tmod 2 = ((x.o.k % 2 : Nat) : Int) from (Int.ofNat_tmod _ _).symm, t3]; simp
                    have HN : Hid (l.length + d * l.length + i ≤ 8796093022000) := by
                      show _ ≤ _
                      have : d * l.length ≤ 1 * l.length := Nat.mul_le_mul_right _ (by omega)
                      omega
                    go_wp2_with fail
                    obtain ⟨gg, hMB⟩ := HX.out.b
                    refine (Do_k HK.out HX.out.chg hMB (by omega) HN.out HQ.out).mono ?_
                    rintro e w4 ⟨⟨u, rfl⟩, hM4, hC4⟩
                    have HX4 := keepH (HX.out.stepB hM4 hC4)
                    clear hMB hM4 hC4
                    go_wp2_with fail
                    go_roundw
                    case rel => exact ⟨i + 1, by omega, by first | rfl | go_num, by rw [HT.out, if_pos t3, List.foldl_append]; exact HX4.out⟩
                    case measure => exact meas hlt
                  · have q3 : ((x.o.k : Int).tmod 2 == (d : Int)) = false := by rw [show (x.o.k : Int).tmod 2 = ((x.o.k % 2 : Nat) : Int) from (Int.ofNat_tmod _ _).symm]; simp; omega
                    have q4 : ¬ ((x.o.k : Int).tmod 2 = (d : Int)) := by simpa using q3
                    have HT3 := keepH t3
                    go_wp2_with fail
                    go_roundw
                    case rel => exact ⟨i + 1, by omega, by first | rfl | go_num, by rw [HT.out, if_neg HT3.out, List.append_nil]; exact HX.out.mono (Nat.le_succ _)⟩
                    case measure => exact meas hlt
                · have HQ : Hid (¬ (2 ≤ x.o.kd ∧ x.o.kd ≤ 4)) := fun z => t2 z.2
                  go_wp2_with fail
                  go_roundw
                  case rel => exact ⟨i + 1, by omega, by first | rfl | go_num, by rw [HT.out, List.foldl_append]; split <;> simp only [List.foldl_cons, List.foldl_nil, kst_else _ _ HQ.out] <;> exact HX.out.mono (Nat.le_succ _)⟩
                  case measure => exact meas hlt
              · have HQ : Hid (¬ (2 ≤ x.o.kd ∧ x.o.kd ≤ 4)) := fun z => t1 z.1
                go_wp2_with fail
                go_roundw
                case rel => exact ⟨i + 1, by omega, by first | rfl | go_num, by rw [HT.out, List.foldl_append]; split <;> simp only [List.foldl_cons, List.foldl_nil, kst_else _ _ HQ.out] <;> exact HX.out.mono (Nat.le_succ _)⟩
                case measure => exact meas hlt
            · have q1 : ¬ (i : Int) < (l.length : Int) := by omega
              obtain rfl : i = l.length := by omega
              rw [List.take_length] at HX
              clear hlt
              go_wp2_with fail
              go_roundw
              case rel => exact ⟨d + 1, by omega, by first | rfl | go_num, by rw [fbOf_add l d hd2, Nat.add_mul, Nat.one_mul, ← Nat.add_assoc]; exact HX.out⟩
              case measure => exact measU hd2
        · have q2 : ¬ (d : Int) < 2 := by omega
          obtain rfl : d = 2 := by omega
          rw [fbOf_end] at HY
          obtain ⟨fz, hfz⟩ : ∃ fz, fz = (kOf l).foldl kst noH := ⟨_, rfl⟩
          rw [← hfz] at HY
          have HN : Hid (l.length + 2 * l.length ≤ 8796093022000) := by show _ ≤ _; omega
          clear hfz
          go_wp2_with fail
          obtain ⟨g1, hMA⟩ := HY.out.a
          refine (m_content hMA HN.out).mono ?_
          rintro e w5 ⟨⟨pa, ca, la, rfl, hL, hP, hPB, hLn⟩, hC5⟩
          have HY5 := keepH (HY.out.quiet hC5)
          have HL : Hid (Lists fz 0 18446744073709551615 la ∧ PairsAt w5 pa la ∧ la.length ≤ 8796093022000) := ⟨hL, hP, Nat.le_trans hLn HN.out⟩
          clear hMA hL hP hPB hLn hC5
          go_wp2_with fail
          go_loopw [11] (fun s wr => ∃ j : Nat, j ≤ la.length ∧ s = .int .i64 ((j : Int) + 1) ∧ Hid (Chg (fun _ => False) w5 wr)) (fun s _ => la.length + 1 - natOf s)
          case atStart => exact ⟨0, Nat.zero_le _, rfl, Chg.refl _ _⟩
          case round =>
            obtain ⟨j, hjl, rfl, HX⟩ := hrel
            have hll := HL.out.2.2
            by_cases hlt : j + 1 < la.length
            · have q3 : (j : Int) + 1 < (la.length : Int) := by omega
              obtain ⟨⟨a, b⟩, hx⟩ : ∃ x, la[j]? = some x := ⟨la[j]'(by omega), List.getElem?_eq_getElem _⟩
              obtain ⟨⟨c', d'⟩, hy⟩ : ∃ x, la[j + 1]? = some x := ⟨la[j + 1], List.getElem?_eq_getElem hlt⟩
              obtain ⟨bk, off, rfl, ba, bb, d0, d1⟩ := HL.out.2.1.get HX.out j a b hx
              obtain ⟨bk', off', e', bc, bd, d2, d3⟩ := HL.out.2.1.get HX.out (j + 1) c' d' hy
              obtain ⟨rfl, rfl⟩ : bk' = bk ∧ off' = off := by simpa using e'.symm
              have hac : a < c' := by
                obtain ⟨h1, e1⟩ := List.getElem?_eq_some_iff.1 hx
                obtain ⟨h2, e2⟩ := List.getElem?_eq_some_iff.1 hy
                have := List.pairwise_iff_getElem.1 HL.out.1.1 j (j + 1) h1 h2 (by omega)
                rw [e1, e2] at this
                exact this
              have q4 : ¬ (c' : Int) ≤ (a : Int) := by omega
              clear hx hy e' hac
              go_wp2_with fail
              go_quiet (fail)
              go_wp2_with fail
              go_roundw
              case rel => exact ⟨j + 1, by omega, by first | rfl | go_num, HX.out.trans (H := fun _ => False) ⟨rfl, rfl, rfl, Nat.le_refl _, fun _ _ _ => rfl⟩ (fun _ _ x => x) (fun _ _ x => x)⟩
              case measure => exact meas2 (by omega)
            · have q3 : ¬ (j : Int) + 1 < (la.length : Int) := by omega
              have HY6 := keepH (HY5.out.quiet HX.out)
              have HP6 := keepH (HL.out.2.1.chg HX.out)
              go_wp2_with fail
              obtain ⟨g1, hMA⟩ := HY6.out.a
              obtain ⟨g2, hMB⟩ := HY6.out.b
              refine (same_true hMA hMB (pcs_no _ _)).mono ?_
              rintro e w7 ⟨rfl, C7⟩
              have HMB := keepH (hMB.quiet C7)
              have HP7 := keepH (HP6.out.chg C7)
              have HC7 : Hid (Chg (fun _ => False) W w7) := HY6.out.chg.trans C7 (fun _ _ x => x) (fun _ _ x => x)
              clear hMA hMB C7
              go_wp2_with fail
              refine (m_content HMB.out HN.out).mono ?_
              rintro e w8 ⟨⟨pb, cb, lb, rfl, hL, hP, hPB, hLn⟩, hC8⟩
              obtain rfl := hL.unique HL.out.1
              have HR := keepH (r_pairs pa pb ca cb lb lb w8 (HP7.out.chg hC8) hP (Nat.le_trans HL.out.2.2 (by omega)) (Nat.le_trans HL.out.2.2 (by omega)))
              have HC8 : Hid (Chg (fun _ => False) W w8) := HC7.out.trans hC8 (fun _ _ x => x) (fun _ _ x => x)
              clear hL hP hPB hLn hC8
              go_wp2_with fail
              refine HR.out.mono ?_
              rintro e w9 ⟨rfl, C9⟩
              have HC9 : Hid (Chg (fun _ => False) W w9) := HC8.out.trans C9 (fun _ _ x => x) (fun _ _ x => x)
              clear C9
              go_wp2_with fail
              go_ret
              exact ⟨by simp, HC9.out⟩
end Go.Proofs.Ytgddedoinhgocaa
