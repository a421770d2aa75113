/- The document's Parse. -/
import Derived.Test.YtfohpbpekdcneaaDoorHtp
namespace Go.Proofs.YtfohpbpekdcneaaDoor
open Go.RowKit Go.Shelf
set_option linter.unusedVariables false

theorem row_on {e : TypeId} {s n : Nat} {v : Value} {xs : List Value} {w w' : World} (h : w.ownsRow 0 e s v n xs) (c : Chg (fun _ => False) w w') : w'.ownsRow 0 e s v n xs :=
  row_kept h (fun k hk => c.block k (h.lt k hk).2 (fun x => x))
theorem chg2 {a b c : World} (h : Chg (fun _ => False) a b) (k : Chg (fun _ => False) b c) : Chg (fun _ => False) a c := h.trans k (fun _ _ x => x) (fun _ _ x => x)
structure FB (w1 : World) (b : Nat) (a0 a1 a2 a3 : Int) (w : World) : Prop where
  box : w.heap[b]? = some (.cells #[.int .i64 a0, .int .i64 a1, .int .i64 a2, .int .i64 a3] 38 (0, 0))
  chg : Chg (fun _ => False) w1 w
  lb : w1.heap.size ≤ b
theorem FB.on {w1 w w' : World} {b : Nat} {a0 a1 a2 a3 : Int} (h : FB w1 b a0 a1 a2 a3 w) (hb : Below w.heap.size w w') : FB w1 b a0 a1 a2 a3 w' := ⟨heap_below h.box hb, chg2 h.chg (belowC hb), h.lb⟩
theorem FB.set0 {w1 w : World} {b : Nat} {a0 a1 a2 a3 : Int} (h : FB w1 b a0 a1 a2 a3 w) (v : Int) : FB w1 b v a1 a2 a3 (w.setCell ⟨b, 0, none⟩ (.int .i64 v)) := ⟨set_of h.box 0 _, h.chg.setCell (fun hlt => by have := h.lb; simp only at hlt; omega) _, h.lb⟩
theorem FB.set1 {w1 w : World} {b : Nat} {a0 a1 a2 a3 : Int} (h : FB w1 b a0 a1 a2 a3 w) (v : Int) : FB w1 b a0 v a2 a3 (w.setCell ⟨b, 1, none⟩ (.int .i64 v)) := ⟨set_of h.box 1 _, h.chg.setCell (fun hlt => by have := h.lb; simp only at hlt; omega) _, h.lb⟩
theorem FB.set2 {w1 w : World} {b : Nat} {a0 a1 a2 a3 : Int} (h : FB w1 b a0 a1 a2 a3 w) (v : Int) : FB w1 b a0 a1 v a3 (w.setCell ⟨b, 2, none⟩ (.int .i64 v)) := ⟨set_of h.box 2 _, h.chg.setCell (fun hlt => by have := h.lb; simp only at hlt; omega) _, h.lb⟩
theorem FB.set3 {w1 w : World} {b : Nat} {a0 a1 a2 a3 : Int} (h : FB w1 b a0 a1 a2 a3 w) (v : Int) : FB w1 b a0 a1 a2 v (w.setCell ⟨b, 3, none⟩ (.int .i64 v)) := ⟨set_of h.box 3 _, h.chg.setCell (fun hlt => by have := h.lb; simp only at hlt; omega) _, h.lb⟩
structure PJ (wl wr : World) (v : Value) (m : List Sp) : Prop where
  row : wr.ownsRow 0 38 4 v m.length (spRow m)
  chg : Chg (fun _ => False) wl wr
  new : ∀ b, v.ownBlock = some b → wl.heap.size ≤ b
theorem PJ.more {wl wr w1 w2 : World} {v v' : Value} {m : List Sp} {s : Sp} {o : Obj} (h : PJ wl wr v m) (hc : Chg (fun _ => False) wr w1)
    (hr : w2.ownsRow 0 38 4 v' (m.length + 1) (spRow m ++ [.int .i64 s.th, .int .i64 s.ix, .int .i64 s.fr, .int .i64 s.to])) (hg : (w1.alloc o).grownBy w2 v.ownBlock) (hw : v'.ownBlock = v.ownBlock ∨ v'.ownBlock = some (w1.alloc o).heap.size) : PJ wl w2 v' (m ++ [s]) := by
  have c0 := chg2 h.chg hc
  have c2 : Chg (fun b => v.ownBlock = some b) w1 w2 := ((Chg.refl (fun b => v.ownBlock = some b) w1).alloc o).grown hg (fun k e _ => e)
  have hz := c0.size
  refine ⟨?_, c0.trans c2 (fun _ _ x => x) (fun i hi x => by have := h.new _ x; omega), ?_⟩
  · rw [List.length_append]
    unfold spRow at *
    rw [List.flatMap_append]
    exact hr
  · intro b hb
    rcases hw with e1 | e1
    · rw [e1] at hb
      exact h.new b hb
    · rw [e1] at hb
      simp at hb
      omega
theorem strs_cell {w : World} {p : Option Addr} {c n k : Nat} {ls : List (List UInt8)} {x : List UInt8} (h : w.ownsRow 0 9 1 (.slice p n c) n (strsRow ls)) (hk : k < n) (hx : ls[k]? = some x) : ∃ g, p = some ⟨g, 0, none⟩ ∧ w.cell? ⟨g, k, none⟩ = some (.string (mkS x)) := by
  rcases h.2 with ⟨_, e⟩ | ⟨g, cap, cur, e, _⟩
  · omega
  · injection e with e1 e2 e3
    subst e1
    refine ⟨g, rfl, ?_⟩
    rw [World.ownsRow.cellAt h k (by omega)]
    simp [strsRow, hx]
theorem cell_on {w w' : World} {g j : Nat} (c : Chg (fun _ => False) w w') (hg : g < w.heap.size) : w'.cell? ⟨g, j, none⟩ = w.cell? ⟨g, j, none⟩ := by
  simp [World.cell?, c.block g hg (fun x => x)]

set_option maxRecDepth 100000 in
set_option maxHeartbeats 8000000 in
theorem r_parse (t : List UInt8) (ht : t.length ≤ 200000000) (W : World) (T : Tb W) :
    Calls Tryd.prog 8 #[.string (mkS t)] W fun e W' => (∃ v er l, e = .returned (.tuple #[v, .int .i64 er]) ∧ PH t l er ∧ W'.ownsRow 0 38 4 v l.length (spRow l)) ∧ Below W.heap.size W W' := by
  obtain ⟨i0, hi, hz0, hz1, hz2⟩ := info_parts infoSpan
  have HI := keepH hi
  have HT := keepH T
  have hln := r_lines t ht W
  obtain ⟨s, hs⟩ : ∃ s, s = mkS t := ⟨_, rfl⟩
  have HS := keepH hs
  rw [← hs] at hln ⊢
  clear hi T hs
  go_enter Tryd.func8, Tryd.ntmps8
  go_wp2_with fail
  refine hln.mono ?_
  rintro e wl ⟨v5, rfl, ls, hR, hL⟩
  obtain ⟨p5, c5, rfl⟩ := slice_row hR.row
  have hll := ln_len hL
  have HL := keepH hL
  have HR := keepH hR
  have HLL := keepH hll.2
  obtain ⟨nl, hnl⟩ : ∃ nl, nl = ls.length := ⟨_, rfl⟩
  rw [← hnl] at HR hll ⊢
  have hn2 : nl ≤ 200000000 := by omega
  have HN := keepH hnl
  have HRW : Hid (wl.ownsRow 0 9 1 (.slice p5 nl c5) nl (strsRow ls)) := keepH (by have := HR.out.row; rw [← hnl] at this; exact this)
  have HB : Hid (Below W.heap.size W wl) := keepH (chgB HR.out.chg)
  clear hR hL hll hnl hln
  go_wp2_with fail
  go_loopw [4, 6] (fun v i wr => ∃ (k : Nat) (m : List Sp), k ≤ nl ∧ i = .int .i64 (k : Int) ∧ Hid (PrA ls m k ∧ PJ wl wr v m)) (fun _ i _ => nl - (intOf i).toNat)
  case atStart => exact ⟨0, [], by omega, rfl, keepH ⟨⟨rfl, Nat.zero_le _, fun j x s _ h => by simp at h⟩, World.ownsRow_nil _ _ _ _, Chg.refl _ _, fun b hb => by simp [Value.ownBlock] at hb⟩⟩
  case round =>
    obtain ⟨k, m, hk, rfl, HK⟩ := hrel
    by_cases hlt : k < nl
    · have t1 : (k : Int) < (nl : Int) := by omega
      have t0 : (0 : Int) ≤ (k : Int) := by omega
      have qw : IntKind.i64.wrap ((k : Int) + 1) = ((k + 1 : Nat) : Int) := by rw [IntKind.wrap_i64]; omega
      obtain ⟨x, hx⟩ : ∃ x, ls[k]? = some x := ⟨ls[k]'(by rw [← HN.out]; exact hlt), List.getElem?_eq_getElem _⟩
      have hxl := HLL.out x (List.mem_of_getElem? hx)
      obtain ⟨g5, rfl, cx⟩ := strs_cell (row_on HRW.out HK.out.2.chg) hlt hx
      have hwd := r_words x (by omega) wr
      obtain ⟨sx, hsx⟩ : ∃ s, s = mkS x := ⟨_, rfl⟩
      rw [← hsx] at cx hwd
      have HX := keepH hx
      clear hsx hx
      go_wp2_with fail
      refine hwd.mono ?_
      rintro e w1 ⟨v7, rfl, fs, f3, hR7, hW7⟩
      clear hwd cx
      obtain ⟨g7, c7, rfl⟩ := hR7.form
      have B1 : Below W.heap.size W w1 := below_chain (below_chain HB.out (chgB HK.out.2.chg)) (chgB hR7.chg)
      by_cases h4 : fs.length + 1 = 4
      · rw [h4] at hR7 ⊢
        obtain ⟨f0, f1, f2, rfl⟩ : ∃ f0 f1 f2, fs = [f0, f1, f2] := by
          match fs, h4 with
          | [a, b, c], _ => exact ⟨a, b, c, rfl⟩
        have row7 : w1.ownsRow 0 9 1 (.slice (some ⟨g7, 0, none⟩) 4 c7) 4 [.string (mkS f0), .string (mkS f1), .string (mkS f2), .string (mkS f3)] := hR7.row
        have hg7 : g7 < w1.heap.size := (row7.lt g7 rfl).2
        have hxe := hW7.1
        rw [List.take_length] at hxe
        have hxe2 := congrArg List.length hxe
        simp [frontL] at hxe2
        have at0 := atoi_each f0 (by omega)
        have at1 := atoi_each f1 (by omega)
        have at2 := atoi_each f2 (by omega)
        have at3 := atoi_each f3 (by omega)
        have c0 : w1.cell? ⟨g7, 0, none⟩ = some (.string (mkS f0)) := by rw [World.ownsRow.cellAt row7 0 (by omega)]; rfl
        have c1 : w1.cell? ⟨g7, 1, none⟩ = some (.string (mkS f1)) := by rw [World.ownsRow.cellAt row7 1 (by omega)]; rfl
        have c2 : w1.cell? ⟨g7, 2, none⟩ = some (.string (mkS f2)) := by rw [World.ownsRow.cellAt row7 2 (by omega)]; rfl
        have c3 : w1.cell? ⟨g7, 3, none⟩ = some (.string (mkS f3)) := by rw [World.ownsRow.cellAt row7 3 (by omega)]; rfl
        obtain ⟨s0, hs0⟩ : ∃ s, s = mkS f0 := ⟨_, rfl⟩
        obtain ⟨s1, hs1⟩ : ∃ s, s = mkS f1 := ⟨_, rfl⟩
        obtain ⟨s2, hs2⟩ : ∃ s, s = mkS f2 := ⟨_, rfl⟩
        obtain ⟨s3, hs3⟩ : ∃ s, s = mkS f3 := ⟨_, rfl⟩
        have HS3 := keepH hs3
        rw [← hs0] at c0 at0
        rw [← hs1] at c1 at1
        rw [← hs2] at c2 at2
        rw [← hs3] at c3 at3
        have HA0 := keepH at0
        have HA1 := keepH at1
        have HA2 := keepH at2
        have HA3 := keepH at3
        have H7 : Hid (WdR x x.length [f0, f1, f2] f3) := keepH hW7
        have HJ : Hid (Chg (fun _ => False) wr w1) := keepH hR7.chg
        have D1 := keepH c1
        have D2 := keepH c2
        have D3 := keepH c3
        clear hs0 hs1 hs2 hs3 hxe hxe2 row7 hR7 hW7 at0 at1 at2 at3 c1 c2 c3
        obtain ⟨b, hb⟩ : ∃ b, b = w1.heap.size := ⟨_, rfl⟩
        obtain ⟨w2, hw2⟩ : ∃ w2, w2 = w1.alloc (.cells #[.int .i64 0, .int .i64 0, .int .i64 0, .int .i64 0] 38) := ⟨_, rfl⟩
        have F2 : FB w1 b 0 0 0 0 w2 := by rw [hw2, hb]; exact ⟨heap_alloc_new _ _, (Chg.refl _ _).alloc _, Nat.le_refl _⟩
        go_upto_region 10 with fail
        rw [← hb]
        first | rw [← hw2] | rw [← show w2 = w1.alloc (.cells zero4 38) from hw2]
        clear hw2 hb
        have hT : Hid (∀ w, Chg (fun _ => False) w1 w → Tb w) := keepH (fun w c => HT.out.on (below_chain B1 (chgB c)))
        -- FIELDS
        replace c0 : w2.cell? ⟨g7, 0, none⟩ = some (.string s0) := by rw [cell_on F2.chg hg7]; exact c0
        go_wp2_with fail
        refine (HA0.out w2 (hT.out _ F2.chg)).mono ?_
        rintro e w3 ⟨⟨a0, p0, rfl, ia0, ha0⟩, C3⟩
        have F3 := F2.on C3
        have n0 : w3.cell? ⟨b, 0, none⟩ = some (.int .i64 0) := cell_of F3.box 0
        have n1 := free_of F3.box 0
        have F4 := F3.set0 a0
        obtain ⟨w4, hw4⟩ : ∃ w4, w4 = w3.setCell ⟨b, 0, none⟩ (.int .i64 a0) := ⟨_, rfl⟩
        rw [← hw4] at F4
        clear F2 F3 C3 c0
        go_upto_region 11 with fail
        rw [← hw4]
        clear hw4 n0 n1
        have c1 : w4.cell? ⟨g7, 1, none⟩ = some (.string s1) := by rw [cell_on F4.chg hg7]; exact D1.out
        go_wp2_with fail
        refine (HA1.out w4 (hT.out _ F4.chg)).mono ?_
        rintro e w5 ⟨⟨a1, p1, rfl, ia1, ha1⟩, C5⟩
        have F5 := F4.on C5
        have n0 : w5.cell? ⟨b, 1, none⟩ = some (.int .i64 0) := cell_of F5.box 1
        have n1 := free_of F5.box 1
        have F6 := F5.set1 a1
        obtain ⟨w6, hw6⟩ : ∃ w6, w6 = w5.setCell ⟨b, 1, none⟩ (.int .i64 a1) := ⟨_, rfl⟩
        rw [← hw6] at F6
        clear F4 F5 C5 c1
        go_upto_region 12 with fail
        rw [← hw6]
        clear hw6 n0 n1
        have c2 : w6.cell? ⟨g7, 2, none⟩ = some (.string s2) := by rw [cell_on F6.chg hg7]; exact D2.out
        go_wp2_with fail
        refine (HA2.out w6 (hT.out _ F6.chg)).mono ?_
        rintro e w7 ⟨⟨a2, p2, rfl, ia2, ha2⟩, C7⟩
        have F7 := F6.on C7
        have n0 : w7.cell? ⟨b, 2, none⟩ = some (.int .i64 0) := cell_of F7.box 2
        have n1 := free_of F7.box 2
        have F8 := F7.set2 a2
        obtain ⟨w8, hw8⟩ : ∃ w8, w8 = w7.setCell ⟨b, 2, none⟩ (.int .i64 a2) := ⟨_, rfl⟩
        rw [← hw8] at F8
        clear F6 F7 C7 c2
        go_upto_region 13 with fail
        rw [← hw8]
        clear hw8 n0 n1
        have n0 : w8.cell? ⟨b, 3, none⟩ = some (.int .i64 0) := cell_of F8.box 3
        have n1 := free_of F8.box 3
        have F9 := F8.set3 (-1)
        obtain ⟨w9, hw9⟩ : ∃ w9, w9 = w8.setCell ⟨b, 3, none⟩ (.int .i64 (-1)) := ⟨_, rfl⟩
        rw [← hw9] at F9
        clear F8
        go_upto_region 14 with fail
        rw [← hw9]
        clear hw9 n0 n1
        have c3 : w9.cell? ⟨g7, 3, none⟩ = some (.string s3) := by rw [cell_on F9.chg hg7]; exact D3.out
        have hi := HI.out
        obtain ⟨ml, hml⟩ : ∃ ml, ml = m.length := ⟨_, rfl⟩
        have hml2 : ml ≤ 200000000 := by have := HK.out.1.len; omega
        have HML := keepH hml
        have HR4 : Hid (wr.ownsRow 0 38 4 u4 ml (spRow m)) := keepH (by rw [hml]; exact HK.out.2.row)
        clear hml
        by_cases hd : f3 = [45]
        · have cmp : (s3.toList == [45]) = true := by rw [HS3.out, mkS_toList, hd]; rfl
          have HP : Hid (PrR x ⟨a0, a1, a2, -1⟩) := keepH (PrR.of H7.out ia0 ia1 ia2 (by unfold isI; decide) ha0 ha1 ha2 (fun _ => rfl) (fun q => absurd hd q))
          have d0 := cell_of F9.box 0
          have d1 := cell_of F9.box 1
          have d2 := cell_of F9.box 2
          have d3 := cell_of F9.box 3
          have HC9 : Hid (Chg (fun _ => False) wr w9) := keepH (chg2 HJ.out F9.chg)
          clear ia0 ia1 ia2 ha0 ha1 ha2 hd F9
          go_wp2_with (first | (at_builtin; refine wpList_append_own_at _ rfl (.tmp 64) (.tmp 66) 22 rfl 0 38 i0 (.agg #[.int .i64 0, .int .i64 0, .int .i64 0, .int .i64 0]) 4 32 Tryd.underlying22 hi hz0 hz1 hz2 rfl (by decide) u4 ml (spRow m) rfl ((row_on HR4.out HC9.out).alloc _) ⟨w9.heap.size, 0, none⟩ 1 1 [.int .i64 a0, .int .i64 a1, .int .i64 a2, .int .i64 (-1)] rfl rfl (cells_new _ _ (by simp) _ _) (by intro u hu; simp at hu; rcases hu with rfl | rfl | rfl | rfl <;> rfl) (by unfold maxLen; omega) (by omega) (Nat.zero_le _) ?_; intro v2 w2 r1 r2 r3 r4; have R1 := keepH r1; have R2 := keepH r2; have R4 := keepH r4; clear r1 r2 r3 r4) | go_in)
          go_roundw
          case rel => exact ⟨k + 1, m ++ [⟨a0, a1, a2, -1⟩], by omega, by first | rfl | go_num, keepH ⟨HK.out.1.snoc HX.out HP.out, HK.out.2.more HC9.out (by rw [← HML.out]; exact R1.out) R2.out R4.out⟩⟩
          case measure => simp [intOf]; omega
        · have cmp : (s3.toList == [45]) = false := by rw [HS3.out, mkS_toList]; simpa using hd
          have HD := keepH hd
          go_wp2_with fail
          refine (HA3.out w9 (hT.out _ F9.chg)).mono ?_
          rintro e w10 ⟨⟨a3, p3, rfl, ia3, ha3⟩, C10⟩
          have HP : Hid (PrR x ⟨a0, a1, a2, a3⟩) := keepH (PrR.of H7.out ia0 ia1 ia2 ia3 ha0 ha1 ha2 (fun q => absurd q HD.out) (fun _ => ha3))
          have F10 := F9.on C10
          have n0 : w10.cell? ⟨b, 3, none⟩ = some (.int .i64 (-1)) := cell_of F10.box 3
          have n1 := free_of F10.box 3
          have F11 := F10.set3 a3
          obtain ⟨w11, hw11⟩ : ∃ w11, w11 = w10.setCell ⟨b, 3, none⟩ (.int .i64 a3) := ⟨_, rfl⟩
          rw [← hw11] at F11
          clear F9 F10 C10 c3 cmp ia0 ia1 ia2 ia3 ha0 ha1 ha2 ha3 hd
          go_upto_region 16 with fail
          rw [← hw11]
          clear hw11 n0 n1
          have d0 := cell_of F11.box 0
          have d1 := cell_of F11.box 1
          have d2 := cell_of F11.box 2
          have d3 := cell_of F11.box 3
          have HC9 : Hid (Chg (fun _ => False) wr w11) := keepH (chg2 HJ.out F11.chg)
          clear F11
          go_wp2_with (first | (at_builtin; refine wpList_append_own_at _ rfl (.tmp 64) (.tmp 66) 22 rfl 0 38 i0 (.agg #[.int .i64 0, .int .i64 0, .int .i64 0, .int .i64 0]) 4 32 Tryd.underlying22 hi hz0 hz1 hz2 rfl (by decide) u4 ml (spRow m) rfl ((row_on HR4.out HC9.out).alloc _) ⟨w11.heap.size, 0, none⟩ 1 1 [.int .i64 a0, .int .i64 a1, .int .i64 a2, .int .i64 a3] rfl rfl (cells_new _ _ (by simp) _ _) (by intro u hu; simp at hu; rcases hu with rfl | rfl | rfl | rfl <;> rfl) (by unfold maxLen; omega) (by omega) (Nat.zero_le _) ?_; intro v2 w2 r1 r2 r3 r4; have R1 := keepH r1; have R2 := keepH r2; have R4 := keepH r4; clear r1 r2 r3 r4) | go_in)
          go_roundw
          case rel => exact ⟨k + 1, m ++ [⟨a0, a1, a2, a3⟩], by omega, by first | rfl | go_num, keepH ⟨HK.out.1.snoc HX.out HP.out, HK.out.2.more HC9.out (by rw [← HML.out]; exact R1.out) R2.out R4.out⟩⟩
          case measure => simp [intOf]; omega
      · have HP := keepH (ph_few HL.out HX.out hW7 h4)
        obtain ⟨n7, hn7⟩ : ∃ n, n = fs.length + 1 := ⟨_, rfl⟩
        rw [← hn7] at h4 ⊢
        have q4 : ¬ ((n7 : Nat) : Int) = 4 := by omega
        clear hR7 hW7 hn7
        go_wp2_with fail
        go_ret2
        exact ⟨⟨_, 52, [], rfl, HP.out, World.ownsRow_nil _ _ _ _⟩, B1⟩
    · obtain rfl : k = nl := by omega
      have t1 : ¬ (k : Int) < (k : Int) := by omega
      -- END
      obtain ⟨p4, c4, rfl⟩ := slice_row HK.out.2.row
      have hA : PrA ls m ls.length := by have := HK.out.1; rw [HN.out] at this; exact this
      have hml : m.length ≤ 200000000 := by rw [hA.len, ← HN.out]; omega
      have Br := below_chain HB.out (chgB HK.out.2.chg)
      have HONE : Hid (∀ l', RightP l' → (∀ s ∈ l', s.Ok) → t = printL l' → l' = m) := keepH (fun l' hr ho e => hA.one HL.out (gd_of hr ho) e)
      have HROW := keepH HK.out.2.row
      have HOK := keepH hA.ok
      by_cases hr : RightP m
      · have hpr := rprint_yes p4 c4 m wr (reads_row HROW.out) HOK.out hml (HT.out.on Br) hr
        have HRT := keepH hr
        obtain ⟨sm, hsm⟩ : ∃ x, x = mkS (printL m) := ⟨_, rfl⟩
        rw [← hsm] at hpr
        have hcm : (sm.toList == s.toList) = decide (printL m = t) := by rw [hsm, HS.out]; exact beq_mkS _ _
        obtain ⟨ml, hml2⟩ : ∃ ml, ml = m.length := ⟨_, rfl⟩
        have HML := keepH hml2
        rw [← hml2] at hpr ⊢
        clear hr hsm hA hml hml2
        go_wp2_with fail
        refine hpr.mono ?_
        rintro e w9 ⟨rfl, C9⟩
        by_cases q : printL m = t
        · have HQ := keepH q
          replace hcm : (sm.toList == s.toList) = true := by rw [hcm]; exact decide_eq_true q
          clear q hpr
          go_wp2_with fail
          go_ret2
          exact ⟨⟨_, 0, m, by first | rfl | simp, Or.inl ⟨rfl, HRT.out, HOK.out, HQ.out.symm, HONE.out⟩, by rw [← HML.out]; exact row_on (by have := HROW.out; rw [← HML.out] at this; exact this) (belowC C9)⟩, below_chain Br C9⟩
        · have HQ := keepH q
          replace hcm : (sm.toList == s.toList) = false := by rw [hcm]; exact decide_eq_false q
          clear q hpr
          go_wp2_with fail
          go_ret2
          exact ⟨⟨_, 52, [], by first | rfl | simp, Or.inr ⟨rfl, rfl, fun l' h1 h2 e => HQ.out (by rw [← HONE.out l' h1 h2 e]; exact e.symm)⟩, World.ownsRow_nil _ _ _ _⟩, below_chain Br C9⟩
      · have hpr := rprint_no p4 c4 m wr (reads_row HROW.out) hml hr
        have HRT := keepH hr
        obtain ⟨ml, hml2⟩ : ∃ ml, ml = m.length := ⟨_, rfl⟩
        rw [← hml2] at hpr ⊢
        clear hr hA hml hml2
        go_wp2_with fail
        refine hpr.mono ?_
        rintro e w9 ⟨rfl, C9⟩
        clear hpr
        go_wp2_with fail
        go_ret2
        exact ⟨⟨_, 52, [], by first | rfl | simp, Or.inr ⟨rfl, rfl, fun l' h1 h2 e => HRT.out (by rw [← HONE.out l' h1 h2 e]; exact h1)⟩, World.ownsRow_nil _ _ _ _⟩, below_chain Br C9⟩
end Go.Proofs.YtfohpbpekdcneaaDoor
