/- An operation that is read, by the document: the walk. (mkSdj.py) -/
import Derived.Test.YtmmaniolaljjlaaGreatDoorP19Sdi
import Derived.Deep.CutRange
import Derived.Deep.CutBlock
import Derived.Deep.RegionHeld
namespace Go.Proofs.YtmmaniolaljjlaaGreatDoor
open Go.RowKit Go.Shelf
set_option linter.unusedVariables false

theorem chgBel {w w' : World} (h : Chg (fun _ => False) w w') : Below w.heap.size w w' := ⟨h.os, h.tape, h.output, h.size, fun i hi => h.block i hi (fun x => x)⟩
theorem step_store_row {P : Program} {ops : Array Oper} {o : Oper} {a : Act} {w : World} {K : Act → World → Prop} {Q : Exit → Act → World → Prop} {E : Prop} (hgd : o.guard = none) (ty : TypeId) (x y : Operand) (ho : o.op = .store ty x y)
    (g : Nat) (cells : Array Value) (hx : a.eval x = .pointer (some ⟨g, 0, none⟩)) (hy : a.eval y = .agg cells)
    (t : TypeId) (old : Array Value) (hg : w.heap[g]? = some (.cells old t (0, 0))) (hi : (P.info? ty).map (·.size) = some cells.size)
    (hold : old.size = cells.size) (h1 : cells.all (·.oneCell') = true) (h : K (a.put o.dst undef) (w.setRow g cells)) :
    if Region.wanted o (yielded ops a.tmps) = true then Oper.wp P o a w K Q else E := by
  have hw : Region.wanted o (yielded ops a.tmps) = true := by simp [Region.wanted, hgd]
  rw [if_pos hw]
  exact wp_store_row ty x y ho g cells hx hy t old hg hi hold h1 h
def slN : Value → Nat
  | .slice _ n _ => n
  | _ => 0
theorem row_cap {W : World} {g n cap : Nat} {xs : List Value} (h : W.ownsRow 0 9 1 (.slice (some ⟨g, 0, none⟩) n cap) n xs) : n ≤ cap ∧ g < W.heap.size := by
  have h1 := row_lt h g rfl
  refine ⟨?_, h1⟩
  rcases h.2 with ⟨h', _⟩ | ⟨g', cap', cur, h', x0, x1, x2, x3, x4, x5⟩
  · simp at h'
  · simp only [Value.slice.injEq, Option.some.injEq, Addr.mk.injEq, and_true, true_and] at h'
    obtain ⟨rfl, rfl⟩ := h'
    first | exact x2 | exact x3 | exact x4 | omega
theorem row_str {wr : World} {fb n cap : Nat} {ws : List (List UInt8)} (h : wr.ownsRow 0 9 1 (.slice (some ⟨fb, 0, none⟩) n cap) n (strsRow ws)) {j : Nat} {f : List UInt8} (hn : n = ws.length) (hj : ws[j]? = some f) : wr.cell? ⟨fb, j, none⟩ = some (.string (mkS f)) := by
  have hlt := (List.getElem?_eq_some_iff.1 hj).1
  rw [World.ownsRow.cellAt h j (by omega)]
  simp [strsRow, hj]
set_option maxRecDepth 100000 in
set_option maxHeartbeats 8000000 in
theorem dParseOp_any (t : List UInt8) (ht : t.length ≤ 5000000) (W : World) (T : Tb W) :
    Calls Tryz.prog 10 #[.string (mkS t)] W (PoQ W t) := by
  obtain ⟨i0, hi0, hz0, hz1, hz2⟩ := info_parts infoUk
  have HI := keepH hi0
  clear hi0
  obtain ⟨w1, hw1⟩ : ∃ w1, w1 = W.alloc (.cells (opR 0 0 0 0 0 false 0 0 (.slice none 0 0) 0 0) 28) := ⟨_, rfl⟩
  obtain ⟨R, hR⟩ : ∃ R, R = W.heap.size := ⟨_, rfl⟩
  have B1 : Below W.heap.size W w1 := by rw [hw1]; exact below_alloc _ _
  have X1 : w1.heap[R]? = some (.cells (opR 0 0 0 0 0 false 0 0 (.slice none 0 0) 0 0) 28 (0, 0)) := by rw [hw1, hR]; exact heap_alloc_new _ _
  have hwd := r_words t (by omega) w1
  obtain ⟨s, hs⟩ : ∃ s, s = mkS t := ⟨_, rfl⟩
  rw [← hs] at hwd ⊢
  have HS := keepH hs
  have HT := keepH T
  have HTL := keepH ht
  have HW1 := keepH hw1
  have HR := keepH hR
  have HB1 := keepH B1
  have HX1 := keepH X1
  clear hs T ht hw1 hR B1 X1
  go_enter Tryz.func10, Tryz.ntmps10
  go_upto_region 1 with fail
  rw [show W.alloc (.cells #[.int .u8 0, .int .u64 0, .int .u64 0, .int .u64 0, .int .u64 0, .bool false, .int .i64 0, .int .i64 0, .slice none 0 0, .int .u64 0, .int .u64 0] 28) = w1 from HW1.out.symm, ← HR.out]
  go_wp2_with fail
  refine hwd.mono ?_
  rintro e w2 ⟨wv, rfl, fs, r, hRW, hWD⟩
  obtain ⟨sb, cap, rfl⟩ := hRW.form
  have hsp := wd_split hWD
  obtain ⟨f0, r0, h00⟩ : ∃ f0 r0, fs ++ [r] = f0 :: r0 := by cases fs <;> exact ⟨_, _, rfl⟩
  obtain ⟨m, hm⟩ : ∃ m, m = r0.length := ⟨_, rfl⟩
  have hn1 : fs.length = m := by
    have := congrArg List.length h00
    simp at this
    omega
  have hrow := hRW.row
  rw [h00] at hsp hrow
  rw [show (f0 :: r0).length = m + 1 by rw [hm]; rfl] at hrow
  rw [hn1] at hrow ⊢
  obtain ⟨hcap, hsb⟩ := row_cap hrow
  have C2 := chgBel hRW.chg
  have HSP := keepH hsp
  have HM := keepH hm
  have hlen := split_len t
  rw [hsp] at hlen
  have HFE : Hid (∀ f ∈ f0 :: r0, f.length ≤ 5000000) := keepH (fun f hf => Nat.le_trans (hlen.2 f hf) HTL.out)
  have hm5 : m ≤ 5000000 := by have h1 := hlen.1; have h2 := HTL.out; rw [hm]; simp at h1; omega
  obtain ⟨P, hP⟩ : ∃ P, P = w2.heap.size := ⟨_, rfl⟩
  obtain ⟨w3, hw3⟩ : ∃ w3, w3 = w2.alloc (.cells (opR 0 0 0 0 0 false 0 0 (.slice none 0 0) 0 0) 28) := ⟨_, rfl⟩
  have HD3 : Hid (DP W P R (opR 0 0 0 0 0 false 0 0 (.slice none 0 0) 0 0) sb 0 (f0 :: r0) w3) := keepH (by
    have C3 : Below w2.heap.size w2 w3 := by rw [hw3]; exact below_alloc _ _
    have X2 := heap_below HX1.out C2
    have hRl := (Array.getElem?_eq_some_iff.1 X2).1
    refine ⟨⟨by rw [hw3, hP]; exact heap_alloc_new _ _, heap_below X2 C3, below_chain (below_chain HB1.out C2) C3, ?_, by rw [HR.out]; exact Nat.le_refl _, by omega⟩, Nat.lt_of_lt_of_le hsb C3.size, fun i f hf => ?_, by omega⟩
    · rw [hP]; exact (below_chain HB1.out C2).size
    · rw [Nat.zero_add]
      exact cell_below (row_str hrow (by rw [hm]; rfl) hf) C3)
  have HW3 := keepH hw3
  have HP := keepH hP
  have HCAP := keepH hcap
  have HM5 := keepH hm5
  clear hwd hWD hsp h00 hm hn1 hrow hRW C2 hlen hP hw3 hsb hcap HX1 HB1
  go_upto_region 3 with fail
  rw [show w2.alloc (.cells #[.int .u8 0, .int .u64 0, .int .u64 0, .int .u64 0, .int .u64 0, .bool false, .int .i64 0, .int .i64 0, .slice none 0 0, .int .u64 0, .int .u64 0] 28) = w3 from HW3.out.symm, ← HP.out]
  clear HW3 HP HR HW1
  go_wp2_with fail
  go_loopw [6] (fun s6 wr => ∃ (i kk : Nat), 1 ≤ i ∧ i ≤ 11 ∧ kk ≤ 10 ∧ s6 = .int .u8 (i : Int) ∧ Hid (DP W P R (opR kk 0 0 0 0 false 0 0 (.slice none 0 0) 0 0) sb 0 (f0 :: r0) wr ∧ KI f0 i kk)) (fun s6 _ => 11 - (intOf s6).toNat)
  case atStart => exact ⟨1, 0, by omega, by omega, by omega, rfl, keepH ⟨HD3.out, fun j h1 h2 => by omega⟩⟩
  case round =>
    clear HD3
    obtain ⟨i, kk, hi1, hi11, hkk, rfl, HK⟩ := hrel
    by_cases hlt : i < 11
    · have q2 : (i : Int) ≤ 10 := by omega
      have q3 : (i : Int) < 11 := by omega
      have c0 : wr.cell? ⟨sb, 0, none⟩ = some (.string (mkS f0)) := HK.out.1.st 0 f0 rfl
      have HWD : Hid (∀ n, Calls Tryz.prog 27 #[.int .u8 (i : Int)] (wr.drewN n) fun e w' => e = .returned (.string (mkS (opW i))) ∧ DP W P R (opR kk 0 0 0 0 false 0 0 (.slice none 0 0) 0 0) sb 0 (f0 :: r0) w') := keepH (fun n => (dWord_any i (by omega) (wr.drewN n)).mono (by
        rintro e w' ⟨rfl, hb⟩
        exact ⟨rfl, (HK.out.1.dn n).on hb⟩))
      have hq : ((mkS (opW i)).toList == (mkS f0).toList) = decide (opW i = f0) := beq_mkS _ _
      have HC1 : Hid (∀ w', DP W P R (opR kk 0 0 0 0 false 0 0 (.slice none 0 0) 0 0) sb 0 (f0 :: r0) w' → w'.cell? ⟨sb, 0, none⟩ = some (.string (mkS f0))) := keepH (fun w' h' => h'.st 0 f0 rfl)
      obtain ⟨s0, hs0⟩ : ∃ s, s = mkS f0 := ⟨_, rfl⟩
      obtain ⟨sw, hsw⟩ : ∃ s, s = mkS (opW i) := ⟨_, rfl⟩
      rw [← hs0] at c0 hq HC1
      rw [← hsw] at HWD hq
      have HS0 := keepH c0
      have qw : IntKind.u8.wrap ((i : Int) + 1) = ((i + 1 : Nat) : Int) := by rw [IntKind.wrap_u8]; omega
      have qm : (0 : Int) < (m : Int) + 1 := by omega
      clear hs0 hsw c0
      by_cases hw : opW i = f0
      · rw [decide_eq_true hw] at hq
        have HKN : Hid (KI f0 (i + 1) i) := keepH (HK.out.2.yes ⟨hi1, by omega⟩ hw)
        clear hw
        go_upto_region 6 with fail
        refine wp_region_held_drew (S := fun w' => w'.cell? ⟨sb, 0, none⟩ = some (.string s0)) (by kernel_rfl) (HS0.out) ?_
        intro hHeld
        refine wpAnyH_take (i := 0) (v := ?_) rfl (by kernel_rfl) (by kernel_rfl) (by kernel_rfl) (fun _ _ _ h => h) (Or.inl ⟨by rfl, ?_⟩) hHeld ?_
        rotate_left
        · intro w hSw
          (try dsimp only at hSw)
          go_simp
          try with_reducible rfl
        (try simp only [Act.put]); (try simp only [List.setIfInBounds_toArray]); (try simp only [List.getElem_toArray]); (repeat (first | simp only [List.getElem_cons_succ] | simp only [List.getElem_cons_zero])); (repeat (first | simp only [List.set_cons_succ] | simp only [List.set_cons_zero]))
        refine wpAnyH_take (i := 2) (v := ?_) rfl (by kernel_rfl) (by kernel_rfl) (by kernel_rfl) (fun _ _ _ h => h) (Or.inl ⟨by rfl, ?_⟩) hHeld ?_
        rotate_left
        · intro w hSw
          (try dsimp only at hSw)
          go_simp
          try with_reducible rfl
        (try simp only [Act.put]); (try simp only [List.setIfInBounds_toArray]); (try simp only [List.getElem_toArray]); (repeat (first | simp only [List.getElem_cons_succ] | simp only [List.getElem_cons_zero])); (repeat (first | simp only [List.set_cons_succ] | simp only [List.set_cons_zero]))
        refine wpAnyH_take (i := 3) (v := ?_) rfl (by kernel_rfl) (by kernel_rfl) (by kernel_rfl) (fun _ _ _ h => h) (Or.inl ⟨by rfl, ?_⟩) hHeld ?_
        rotate_left
        · intro w hSw
          (try dsimp only at hSw)
          go_simp
          try with_reducible rfl
        (try simp only [Act.put]); (try simp only [List.setIfInBounds_toArray]); (try simp only [List.getElem_toArray]); (repeat (first | simp only [List.getElem_cons_succ] | simp only [List.getElem_cons_zero])); (repeat (first | simp only [List.set_cons_succ] | simp only [List.set_cons_zero]))
        refine wpAnyH_take (i := 4) (v := ?_) rfl (by kernel_rfl) (by kernel_rfl) (by kernel_rfl) (fun _ _ _ h => h) (Or.inl ⟨by rfl, ?_⟩) hHeld ?_
        rotate_left
        · intro w hSw
          (try dsimp only at hSw)
          go_simp
          try with_reducible rfl
        (try simp only [Act.put]); (try simp only [List.setIfInBounds_toArray]); (try simp only [List.getElem_toArray]); (repeat (first | simp only [List.getElem_cons_succ] | simp only [List.getElem_cons_zero])); (repeat (first | simp only [List.set_cons_succ] | simp only [List.set_cons_zero]))
        refine wpAnyH_ready (rs := [1]) (by kernel_rfl) (by simp) ?_
        refine AllReadyH.cons rfl (fun KK hKK => ?_) AllReadyH.nil
        go_simp
        refine (HWD.out _).mono ?_
        rintro e w5 ⟨rfl, h5⟩
        have H5 := keepH h5
        clear h5
        refine hKK.out _ _ ?_ (fun hHeld => ?_)
        · exact HC1.out _ H5.out
        clear hKK KK
        (try simp only [Act.put]); (try simp only [List.setIfInBounds_toArray]); (try simp only [List.getElem_toArray]); (repeat (first | simp only [List.getElem_cons_succ] | simp only [List.getElem_cons_zero])); (repeat (first | simp only [List.set_cons_succ] | simp only [List.set_cons_zero]))
        refine wpAnyH_take (i := 5) (v := ?_) rfl (by kernel_rfl) (by kernel_rfl) (by kernel_rfl) (fun _ _ _ h => h) (Or.inl ⟨by rfl, ?_⟩) hHeld ?_
        rotate_left
        · intro w hSw
          (try dsimp only at hSw)
          go_simp
          try with_reducible rfl
        (try simp only [Act.put]); (try simp only [List.setIfInBounds_toArray]); (try simp only [List.getElem_toArray]); (repeat (first | simp only [List.getElem_cons_succ] | simp only [List.getElem_cons_zero])); (repeat (first | simp only [List.set_cons_succ] | simp only [List.set_cons_zero]))
        refine wpAnyH_done (by kernel_rfl) ?_ _
        go_simp
        clear hHeld
        have x1 : w5.cell? ⟨P, 0, none⟩ = some (.int .u8 (kk : Int)) := cell_of H5.out.rf.bx 0
        have z1 := free_of H5.out.rf.bx 0
        go_wp2_with fail
        have HR6 : Hid (DP W P R (opR i 0 0 0 0 false 0 0 (.slice none 0 0) 0 0) sb 0 (f0 :: r0) (w5.setCell ⟨P, 0, none⟩ (.int .u8 (i : Int)))) := keepH (H5.out.set 0 (.int .u8 (i : Int)))
        go_roundw
        case rel => exact ⟨i + 1, i, by omega, by omega, by omega, by first | rfl | go_num, keepH ⟨HR6.out, HKN.out⟩⟩
        case measure => simp [intOf]; omega
      · rw [decide_eq_false hw] at hq
        have HKN : Hid (KI f0 (i + 1) kk) := keepH (HK.out.2.no hw)
        clear hw
        go_upto_region 6 with fail
        refine wp_region_held_drew (S := fun w' => w'.cell? ⟨sb, 0, none⟩ = some (.string s0)) (by kernel_rfl) (HS0.out) ?_
        intro hHeld
        refine wpAnyH_take (i := 0) (v := ?_) rfl (by kernel_rfl) (by kernel_rfl) (by kernel_rfl) (fun _ _ _ h => h) (Or.inl ⟨by rfl, ?_⟩) hHeld ?_
        rotate_left
        · intro w hSw
          (try dsimp only at hSw)
          go_simp
          try with_reducible rfl
        (try simp only [Act.put]); (try simp only [List.setIfInBounds_toArray]); (try simp only [List.getElem_toArray]); (repeat (first | simp only [List.getElem_cons_succ] | simp only [List.getElem_cons_zero])); (repeat (first | simp only [List.set_cons_succ] | simp only [List.set_cons_zero]))
        refine wpAnyH_take (i := 2) (v := ?_) rfl (by kernel_rfl) (by kernel_rfl) (by kernel_rfl) (fun _ _ _ h => h) (Or.inl ⟨by rfl, ?_⟩) hHeld ?_
        rotate_left
        · intro w hSw
          (try dsimp only at hSw)
          go_simp
          try with_reducible rfl
        (try simp only [Act.put]); (try simp only [List.setIfInBounds_toArray]); (try simp only [List.getElem_toArray]); (repeat (first | simp only [List.getElem_cons_succ] | simp only [List.getElem_cons_zero])); (repeat (first | simp only [List.set_cons_succ] | simp only [List.set_cons_zero]))
        refine wpAnyH_take (i := 3) (v := ?_) rfl (by kernel_rfl) (by kernel_rfl) (by kernel_rfl) (fun _ _ _ h => h) (Or.inl ⟨by rfl, ?_⟩) hHeld ?_
        rotate_left
        · intro w hSw
          (try dsimp only at hSw)
          go_simp
          try with_reducible rfl
        (try simp only [Act.put]); (try simp only [List.setIfInBounds_toArray]); (try simp only [List.getElem_toArray]); (repeat (first | simp only [List.getElem_cons_succ] | simp only [List.getElem_cons_zero])); (repeat (first | simp only [List.set_cons_succ] | simp only [List.set_cons_zero]))
        refine wpAnyH_take (i := 4) (v := ?_) rfl (by kernel_rfl) (by kernel_rfl) (by kernel_rfl) (fun _ _ _ h => h) (Or.inl ⟨by rfl, ?_⟩) hHeld ?_
        rotate_left
        · intro w hSw
          (try dsimp only at hSw)
          go_simp
          try with_reducible rfl
        (try simp only [Act.put]); (try simp only [List.setIfInBounds_toArray]); (try simp only [List.getElem_toArray]); (repeat (first | simp only [List.getElem_cons_succ] | simp only [List.getElem_cons_zero])); (repeat (first | simp only [List.set_cons_succ] | simp only [List.set_cons_zero]))
        refine wpAnyH_ready (rs := [1]) (by kernel_rfl) (by simp) ?_
        refine AllReadyH.cons rfl (fun KK hKK => ?_) AllReadyH.nil
        go_simp
        refine (HWD.out _).mono ?_
        rintro e w5 ⟨rfl, h5⟩
        have H5 := keepH h5
        clear h5
        refine hKK.out _ _ ?_ (fun hHeld => ?_)
        · exact HC1.out _ H5.out
        clear hKK KK
        (try simp only [Act.put]); (try simp only [List.setIfInBounds_toArray]); (try simp only [List.getElem_toArray]); (repeat (first | simp only [List.getElem_cons_succ] | simp only [List.getElem_cons_zero])); (repeat (first | simp only [List.set_cons_succ] | simp only [List.set_cons_zero]))
        refine wpAnyH_take (i := 5) (v := ?_) rfl (by kernel_rfl) (by kernel_rfl) (by kernel_rfl) (fun _ _ _ h => h) (Or.inl ⟨by rfl, ?_⟩) hHeld ?_
        rotate_left
        · intro w hSw
          (try dsimp only at hSw)
          go_simp
          try with_reducible rfl
        (try simp only [Act.put]); (try simp only [List.setIfInBounds_toArray]); (try simp only [List.getElem_toArray]); (repeat (first | simp only [List.getElem_cons_succ] | simp only [List.getElem_cons_zero])); (repeat (first | simp only [List.set_cons_succ] | simp only [List.set_cons_zero]))
        refine wpAnyH_done (by kernel_rfl) ?_ _
        go_simp
        clear hHeld
        go_wp2_with fail
        go_roundw
        case rel => exact ⟨i + 1, kk, by omega, by omega, by omega, by first | rfl | go_num, keepH ⟨H5.out, HKN.out⟩⟩
        case measure => simp [intOf]; omega
    · obtain rfl : i = 11 := by omega
      rw [show ((11 : Nat) : Int) = 11 from rfl]
      obtain ⟨so1, hsl, hso1⟩ := sl_any sb 0 (m + 1) cap 1 (by omega) HCAP.out
      obtain ⟨cap1, hcap1⟩ : ∃ c, c = cap - 1 := ⟨_, rfl⟩
      have hsl2 : ∀ w, (Instr.slice 67 (.slice (some ⟨sb, 0, none⟩) (m + 1) cap) (some (.int .i64 1)) none none).run Tryz.prog w = .ok (.slice (some ⟨sb, so1, none⟩) m cap1) w := fun w => by rw [hcap1]; exact hsl w
      have HD4 : Hid (DP W P R (opR kk 0 0 0 0 false 0 0 (.slice none 0 0) 0 0) sb so1 r0 wr) := keepH (HK.out.1.cut (fun h => by have h1 := hso1 (by have := HCAP.out; have := HM.out; omega); omega))
      have HKI : Hid (KI f0 11 kk) := keepH HK.out.2
      have HC1 : Hid (m ≤ cap1) := keepH (by have := HCAP.out; omega)
      have HDH := keepH (dHandled_any kk wr)
      have p0 : wr.cell? ⟨P, 0, none⟩ = some (.int .u8 (kk : Int)) := cell_of HD4.out.rf.bx 0
      obtain ⟨hb, hhb⟩ : ∃ hb, hb = (hndK kk && decide (0 < m)) := ⟨_, rfl⟩
      have HHB := keepH hhb
      clear hsl hso1 hcap1 HK hhb
      go_upto_region 9 with fail
      go_cut [33] from 26 to 33 (fun s wx => s = .bool hb ∧ wr = wx)
      case first =>
        cases hh : hndK kk with
        | true =>
          rw [hh] at HDH HHB
          have HE : Hid (hb = decide (0 < m)) := keepH (by rw [HHB.out]; simp)
          clear hh HHB
          go_wp2_with (first | (go_at_call 28; refine HDH.out.mono ?_; rintro e w5 ⟨rfl, rfl⟩) | go_in)
          go_meet
          exact ⟨by rw [HE.out], rfl⟩
        | false =>
          rw [hh] at HDH HHB
          have HE2 : Hid (hb = false) := keepH (by rw [HHB.out]; simp)
          clear hh HHB
          go_wp2_with (first | (go_at_call 28; refine HDH.out.mono ?_; rintro e w5 ⟨rfl, rfl⟩) | go_in)
          go_meet
          exact ⟨by rw [HE2.out], rfl⟩
      case rest =>
        obtain ⟨rfl, rfl⟩ := hcut
        clear p0 HDH
        go_upto_if 33 with fail
        go_cut [4] from 34 to 40 (fun s4 wx => ∃ (hnd : Nat) (set : Bool) (rt ri : Int) (so : Nat) (r1 : List (List UInt8)) (m1 c1 : Nat), s4 = .slice (some ⟨sb, so, none⟩) m1 c1 ∧ m1 ≤ m ∧ Hid (m1 = r1.length ∧ (∀ f ∈ r1, f ∈ r0) ∧ DP W P R (opR kk 0 0 0 hnd set rt ri (.slice none 0 0) 0 0) sb so r1 wx ∧ HP2 kk r0 r1 hnd set rt ri))
        case first =>
          cases hb with
          | false =>
            have HMT : Hid (∃ (hnd : Nat) (set : Bool) (rt ri : Int) (so : Nat) (r1 : List (List UInt8)) (m1 c1 : Nat), Value.slice (some ⟨sb, so1, none⟩) m cap1 = .slice (some ⟨sb, so, none⟩) m1 c1 ∧ m1 ≤ m ∧ Hid (m1 = r1.length ∧ (∀ f ∈ r1, f ∈ r0) ∧ DP W P R (opR kk 0 0 0 hnd set rt ri (.slice none 0 0) 0 0) sb so r1 wr ∧ HP2 kk r0 r1 hnd set rt ri)) := keepH ⟨0, false, 0, 0, so1, r0, m, cap1, rfl, Nat.le_refl _, keepH ⟨HM.out, fun f hf => hf, HD4.out, hp2_none (fun h => by
              have := HHB.out
              rw [h] at this
              simp at this
              exact List.eq_nil_of_length_eq_zero (by rw [← HM.out]; exact this))⟩⟩
            go_wp2_with fail
            go_meet
            exact HMT.out
          | true =>
            have hbb := HHB.out
            simp at hbb
            obtain ⟨f1, r1, hr1⟩ : ∃ f1 r1, r0 = f1 :: r1 := by
              cases r0 with
              | nil => have := HM.out; simp at this; omega
              | cons a b => exact ⟨a, b, rfl⟩
            subst hr1
            obtain ⟨m1, hm1⟩ : ∃ m1, m1 = r1.length := ⟨_, rfl⟩
            have hmm : m = m1 + 1 := by rw [HM.out, hm1]; rfl
            have HHN : Hid (hndK kk = true) := keepH hbb.1
            have HM1 := keepH hm1
            have HMM := keepH hmm
            have q0 : (0 : Int) < (m : Int) := by omega
            have q0n : 0 < m := by omega
            have c0 : wr.cell? ⟨sb, so1, none⟩ = some (.string (mkS f1)) := HD4.out.st 0 f1 rfl
            have HRF : Hid (∀ n, Calls Tryz.prog 33 #[.agg (opR kk 0 0 0 0 false 0 0 (.slice none 0 0) 0 0), .string (mkS f1)] (wr.drewN n) (RefQ (wr.drewN n) kk f1)) := keepH (fun n => ref_any kk f1 (by have := HFE.out f1 (by simp); omega) (wr.drewN n) (HT.out.on (HD4.out.dn n).rf.bel))
            obtain ⟨s1, hs1⟩ : ∃ s, s = mkS f1 := ⟨_, rfl⟩
            rw [← hs1] at c0 HRF
            have HDD : Hid (DP W P R (opR kk 0 0 0 0 false 0 0 (.slice none 0 0) 0 0) sb so1 (f1 :: r1) wr.drew) := keepH (HD4.out.dn 1)
            have HS1 : Hid (wr.drew.cell? ⟨sb, so1, none⟩ = some (.string s1)) := keepH c0
            have HST : Hid (∀ w' row, DP W P R row sb so1 (f1 :: r1) w' → w'.cell? ⟨sb, so1, none⟩ = some (.string s1)) := keepH (fun w' row h' => by rw [hs1]; exact h'.st 0 f1 rfl)
            obtain ⟨so2, hsl3, hso2⟩ := sl_any sb so1 m cap1 1 (by omega) HC1.out
            obtain ⟨cap2, hcap2⟩ : ∃ c, c = cap1 - 1 := ⟨_, rfl⟩
            have hsl4 : ∀ w, (Instr.slice 67 (.slice (some ⟨sb, so1, none⟩) m cap1) (some (.int .i64 1)) none none).run Tryz.prog w = .ok (.slice (some ⟨sb, so2, none⟩) m1 cap2) w := fun w => by rw [hcap2, show m1 = m - 1 by omega]; exact hsl3 w
            have HSO : Hid (0 < r1.length → so2 = so1 + 1) := keepH (fun h => hso2 (by have := HC1.out; omega))
            clear hs1 hbb hm1 hmm c0 hsl3 hso2 hcap2
            go_upto_region 10 with fail
            refine wp_region_held_drew (S := fun w' => w'.cell? ⟨sb, so1, none⟩ = some (.string s1)) (by kernel_rfl) (HS1.out) ?_
            intro hHeld
            refine wpAnyH_take (i := 1) (v := ?_) rfl (by kernel_rfl) (by kernel_rfl) (by kernel_rfl) (fun _ _ _ h => h) (Or.inl ⟨by rfl, ?_⟩) hHeld ?_
            rotate_left
            · intro w hSw
              (try dsimp only at hSw)
              go_simp
              try with_reducible rfl
            (try simp only [Act.put]); (try simp only [List.setIfInBounds_toArray]); (try simp only [List.getElem_toArray]); (repeat (first | simp only [List.getElem_cons_succ] | simp only [List.getElem_cons_zero])); (repeat (first | simp only [List.set_cons_succ] | simp only [List.set_cons_zero]))
            refine wpAnyH_take (i := 2) (v := ?_) rfl (by kernel_rfl) (by kernel_rfl) (by kernel_rfl) (fun _ _ _ h => h) (Or.inl ⟨by rfl, ?_⟩) hHeld ?_
            rotate_left
            · intro w hSw
              (try dsimp only at hSw)
              go_simp
              try with_reducible rfl
            (try simp only [Act.put]); (try simp only [List.setIfInBounds_toArray]); (try simp only [List.getElem_toArray]); (repeat (first | simp only [List.getElem_cons_succ] | simp only [List.getElem_cons_zero])); (repeat (first | simp only [List.set_cons_succ] | simp only [List.set_cons_zero]))
            refine wpAnyH_take (i := 3) (v := ?_) rfl (by kernel_rfl) (by kernel_rfl) (by kernel_rfl) (fun _ _ _ h => h) (Or.inl ⟨by rfl, ?_⟩) hHeld ?_
            rotate_left
            · intro w hSw
              (try dsimp only at hSw)
              go_simp
              try with_reducible rfl
            (try simp only [Act.put]); (try simp only [List.setIfInBounds_toArray]); (try simp only [List.getElem_toArray]); (repeat (first | simp only [List.getElem_cons_succ] | simp only [List.getElem_cons_zero])); (repeat (first | simp only [List.set_cons_succ] | simp only [List.set_cons_zero]))
            refine wpAnyH_ready (rs := [0]) (by kernel_rfl) (by simp) ?_
            refine AllReadyH.cons rfl (fun KK hKK => ?_) AllReadyH.nil
            have d0 := cell_of HDD.out.rf.bx 0
            have d1 := cell_of HDD.out.rf.bx 1
            have d2 := cell_of HDD.out.rf.bx 2
            have d3 := cell_of HDD.out.rf.bx 3
            have d4 := cell_of HDD.out.rf.bx 4
            have d5 := cell_of HDD.out.rf.bx 5
            have d6 := cell_of HDD.out.rf.bx 6
            have d7 := cell_of HDD.out.rf.bx 7
            have d8 := cell_of HDD.out.rf.bx 8
            have d9 := cell_of HDD.out.rf.bx 9
            have d10 := cell_of HDD.out.rf.bx 10
            go_simp
            refine hKK.out _ _ ?_ (fun hHeld => ?_)
            · exact HS1.out
            clear hKK KK
            (try simp only [Act.put]); (try simp only [List.setIfInBounds_toArray]); (try simp only [List.getElem_toArray]); (repeat (first | simp only [List.getElem_cons_succ] | simp only [List.getElem_cons_zero])); (repeat (first | simp only [List.set_cons_succ] | simp only [List.set_cons_zero]))
            clear d0 d1 d2 d3 d4 d5 d6 d7 d8 d9 d10
            refine wpAnyH_ready (rs := [4]) (by kernel_rfl) (by simp) ?_
            refine AllReadyH.cons rfl (fun KK hKK => ?_) AllReadyH.nil
            go_simp
            refine (HRF.out 1).mono ?_
            rintro e w5 ⟨hnd, set, rt, ri, rfl, hrq, hb5⟩
            have HRQ := keepH hrq
            have H5 : Hid (DP W P R (opR kk 0 0 0 0 false 0 0 (.slice none 0 0) 0 0) sb so1 (f1 :: r1) w5) := keepH ((HD4.out.dn 1).on hb5)
            clear hrq hb5
            refine hKK.out _ _ ?_ (fun hHeld => ?_)
            · exact HST.out _ _ H5.out
            clear hKK KK
            (try simp only [Act.put]); (try simp only [List.setIfInBounds_toArray]); (try simp only [List.getElem_toArray]); (repeat (first | simp only [List.getElem_cons_succ] | simp only [List.getElem_cons_zero])); (repeat (first | simp only [List.set_cons_succ] | simp only [List.set_cons_zero]))
            refine wpAnyH_ready (rs := [5]) (by kernel_rfl) (by simp) ?_
            refine AllReadyH.cons rfl (fun KK hKK => ?_) AllReadyH.nil
            refine step_store_row rfl 28 (.tmp 5) (.tmp 38) rfl P (opR kk 0 0 0 hnd set rt ri (.slice none 0 0) 0 0) rfl rfl 28 (opR kk 0 0 0 0 false 0 0 (.slice none 0 0) 0 0) H5.out.rf.bx (by kernel_rfl) rfl (by simp [Value.oneCell']) ?_
            have HR6 : Hid (DP W P R (opR kk 0 0 0 hnd set rt ri (.slice none 0 0) 0 0) sb so1 (f1 :: r1) (w5.setRow P (opR kk 0 0 0 hnd set rt ri (.slice none 0 0) 0 0))) := keepH (H5.out.row _)
            refine hKK.out _ _ ?_ (fun hHeld => ?_)
            · exact HST.out _ _ HR6.out
            clear hKK KK
            (try simp only [Act.put]); (try simp only [List.setIfInBounds_toArray]); (try simp only [List.getElem_toArray]); (repeat (first | simp only [List.getElem_cons_succ] | simp only [List.getElem_cons_zero])); (repeat (first | simp only [List.set_cons_succ] | simp only [List.set_cons_zero]))
            refine wpAnyH_done (by kernel_rfl) ?_ _
            go_simp
            clear hHeld
            go_wp2_with fail
            go_meet
            exact ⟨hnd, set, rt, ri, so2, r1, m1, cap2, rfl, by have := HMM.out; omega, keepH ⟨HM1.out, fun f hf => by simp [hf], HR6.out.cut HSO.out, hp2_some HHN.out HRQ.out⟩⟩
        case rest =>
          clear HD4 HHB
          obtain ⟨hnd, set, rt, ri, so, r1, m1, c1, rfl, hm1, HC⟩ := hcut
          obtain ⟨wk, hwk⟩ : ∃ wk, wk = wc := ⟨_, rfl⟩
          subst hwk
          have HD5 : Hid (DP W P R (opR kk 0 0 0 hnd set rt ri (.slice none 0 0) 0 0) sb so r1 wk) := keepH HC.out.2.2.1
          have HP5 := keepH HC.out.2.2.2
          have HM1 := keepH HC.out.1
          have HM2 : Hid (m1 ≤ 5000000) := keepH (by have := HM5.out; omega)
          have HNU := keepH (dNumbers_any (some ⟨sb, so, none⟩) c1 r1 (by have := HC.out.1; have := HM2.out; omega) (fun f hf => by have := HFE.out f (List.mem_cons_of_mem _ (HC.out.2.1 f hf)); omega) wk (HT.out.on HD5.out.rf.bel) HD5.out.srd)
          rw [← HM1.out] at HNU
          have HRF : Hid (RF W P R (opR kk 0 0 0 hnd set rt ri (.slice none 0 0) 0 0) wk) := keepH HD5.out.rf
          clear HC hm1
          go_upto_block 2 with (first | (go_at_call 34; refine HNU.out.mono ?_; rintro e wN ⟨us, v, rfl, hnq, hst⟩; have HNQ := keepH hnq; have HST := keepH hst; clear hnq hst))
          have HCQ : Hid (CoreQ t kk hnd set rt ri us) := keepH (core2 HSP.out HKI.out HP5.out HNQ.out)
          have HUU : Hid (∀ u ∈ us, isU u) := keepH HNQ.out.2.1
          have HUL : Hid (us.length ≤ 5000000) := keepH (by have h1 := HNQ.out.1; have h2 := HM1.out; have h3 := HM2.out; omega)
          have HPP : Hid (isU hnd ∧ isI rt ∧ isI ri) := keepH HP5.out.1
          have HPK : Hid (P < wk.heap.size) := keepH (Array.getElem?_eq_some_iff.1 HRF.out.bx).1
          have HRK : Hid (R < wk.heap.size) := keepH (Array.getElem?_eq_some_iff.1 HRF.out.rr).1
          have HWK : Hid (Below W.heap.size W wk) := keepH HRF.out.bel
          obtain ⟨lp0, lc0, hv0, -⟩ := stu_form HST.out
          obtain ⟨N0, hN0⟩ : ∃ N0, N0 = us.length := ⟨_, rfl⟩
          rw [← hN0] at hv0
          subst hv0
          have HN0 := keepH hN0
          clear hN0 HNU HP5 HNQ HD5 HKI HM1
          go_cut [7] from 43 to 53 (fun s7 wx => ∃ (lp : Option Addr) (N lc pd : Nat), s7 = .slice lp N lc ∧ (kk ≠ 7 → 3 ≤ N) ∧ N ≤ 5000003 ∧ Hid (N = (us ++ List.replicate pd 0).length ∧ StU wk (us ++ List.replicate pd 0) (.slice lp N lc) wx ∧ (kk = 7 → pd = 0)))
          case first =>
            go_wp2_with fail
            go_loopw [7] (fun s7 wr => ∃ (lp : Option Addr) (N lc pd : Nat), s7 = .slice lp N lc ∧ N ≤ 5000003 ∧ Hid (N = (us ++ List.replicate pd 0).length ∧ StU wk (us ++ List.replicate pd 0) (.slice lp N lc) wr ∧ (kk = 7 → pd = 0))) (fun s7 _ => 3 - slN s7)
            case atStart => exact ⟨lp0, N0, lc0, 0, rfl, by have h1 := HN0.out; have h2 := HUL.out; omega, keepH ⟨by simpa using HN0.out, by simpa using HST.out, fun _ => rfl⟩⟩
            case round =>
              clear HST HN0
              obtain ⟨lp, N, lc, pd, rfl, hN5, HK⟩ := hrel
              have p0 : wr.cell? ⟨P, 0, none⟩ = some (.int .u8 (kk : Int)) := cell_of (HRF.out.on HK.out.2.1.bel).bx 0
              by_cases hp : N < 3 ∧ kk ≠ 7
              · have q3 : (N : Int) < 3 := by omega
                have q4 : (((kk : Nat) : Int) != 7) = true := by simp; omega
                have hi := HI.out
                have HRW : Hid (wr.ownsRow 0 23 1 (.slice lp N lc) N (uRow (us ++ List.replicate pd 0))) := keepH (by
                  have := HK.out.2.1.row
                  rw [← HK.out.1] at this
                  exact this)
                have HPX := keepH hp
                clear hp
                go_wp2_with (first | (at_builtin; refine wpList_append_own_at _ rfl (.tmp 51) (.tmp 52) 26 rfl 0 23 i0 (.int .u64 0) 1 8 Tryz.underlying26 hi hz0 hz1 hz2 rfl (by decide) (.slice lp N lc) N (uRow (us ++ List.replicate pd 0)) rfl (HRW.out.alloc _) ⟨wr.heap.size, 0, none⟩ 1 1 [.int .u64 0] rfl rfl (cells_newR _ _ (by simp) _ _) (by intro u hu; simp at hu; rcases hu with rfl; rfl) (by unfold maxLen; omega) (by omega) (Nat.zero_le _) ?_; intro v2 w2 rr1 rr2 rr3 rr4; have R1 := keepH rr1; have R2 := keepH rr2; have R4 := keepH rr4; clear rr1 rr2 rr3 rr4) | go_in)
                have HNX : Hid (StU wk (us ++ List.replicate (pd + 1) 0) v2 w2) := keepH (by
                  have e := HK.out.2.1.more (x := 0) (by rw [← HK.out.1]; exact R1.out) R2.out R4.out
                  rw [List.append_assoc, ← List.replicate_succ'] at e
                  exact e)
                obtain ⟨lp', lc', e', -⟩ := stu_form HNX.out
                have hl' : (us ++ List.replicate (pd + 1) 0).length = N + 1 := by rw [HK.out.1]; simp; omega
                rw [hl'] at e'
                subst e'
                have HL' := keepH hl'.symm
                clear hl'
                go_roundw
                case rel => exact ⟨lp', N + 1, lc', pd + 1, rfl, by omega, keepH ⟨HL'.out, HNX.out, fun e => absurd e HPX.out.2⟩⟩
                case measure => simp [slN]; omega
              · have HMT : Hid (∃ (lp' : Option Addr) (N' lc' pd : Nat), Value.slice lp N lc = .slice lp' N' lc' ∧ (kk ≠ 7 → 3 ≤ N') ∧ N' ≤ 5000003 ∧ Hid (N' = (us ++ List.replicate pd 0).length ∧ StU wk (us ++ List.replicate pd 0) (.slice lp' N' lc') wr ∧ (kk = 7 → pd = 0))) := keepH ⟨lp, N, lc, pd, rfl, by omega, hN5, HK⟩
                by_cases h3 : N < 3
                · have q3 : (N : Int) < 3 := by omega
                  have q4 : (((kk : Nat) : Int) != 7) = false := by simp; omega
                  clear hp h3
                  go_wp2_with fail
                  go_meet
                  exact HMT.out
                · have q3 : ¬ (N : Int) < 3 := by omega
                  clear hp h3
                  go_wp2_with fail
                  go_meet
                  exact HMT.out
          case rest =>
            clear HST HN0
            obtain ⟨lp, N, lc, pd, rfl, hN3, hN5, HK⟩ := hcut
            obtain ⟨wp, hwp⟩ : ∃ wp, wp = wc := ⟨_, rfl⟩
            subst hwp
            have HR7 : Hid (RF W P R (opR kk 0 0 0 hnd set rt ri (.slice none 0 0) 0 0) wp) := keepH (HRF.out.on HK.out.2.1.bel)
            have HKU : Hid (KU wk.heap.size lp (us ++ List.replicate pd 0) wp) := keepH (by
              obtain ⟨lp', lc', e, ku⟩ := stu_form HK.out.2.1
              injection e with e1 e2 e3
              rw [e1]
              exact ku)
            have HNL := keepH HK.out.1
            have HK7 := keepH HK.out.2.2
            have p0 : wp.cell? ⟨P, 0, none⟩ = some (.int .u8 (kk : Int)) := cell_of HR7.out.bx 0
            clear HK HRF
            go_upto_block 4 with fail
            clear p0
            go_cut [7] from 56 to 101 (fun s7 wx => ∃ (o : Opx) (kp : Option Addr) (kc : Nat), Hid (RF W P R (opV o kp kc) wx ∧ KU wk.heap.size kp o.keys wx ∧ FinO t o ∧ o.keys.length ≤ 10000000))
            case first =>
              obtain hk | hk | hk | hk | hk | hk | hk | hk : (kk = 0 ∨ kk = 5 ∨ kk = 6 ∨ kk = 10) ∨ kk = 1 ∨ kk = 3 ∨ kk = 2 ∨ kk = 4 ∨ kk = 7 ∨ kk = 8 ∨ kk = 9 := by omega
              · have t1 : ¬ ((kk : Nat) : Int) = 1 := by omega
                have b1 : (((kk : Nat) : Int) == 1) = false := by simp; omega
                have t3 : ¬ ((kk : Nat) : Int) = 3 := by omega
                have b3 : (((kk : Nat) : Int) == 3) = false := by simp; omega
                have t2 : ¬ ((kk : Nat) : Int) = 2 := by omega
                have b2 : (((kk : Nat) : Int) == 2) = false := by simp; omega
                have t4 : ¬ ((kk : Nat) : Int) = 4 := by omega
                have b4 : (((kk : Nat) : Int) == 4) = false := by simp; omega
                have t7 : ¬ ((kk : Nat) : Int) = 7 := by omega
                have b7 : (((kk : Nat) : Int) == 7) = false := by simp; omega
                have t8 : ¬ ((kk : Nat) : Int) = 8 := by omega
                have b8 : (((kk : Nat) : Int) == 8) = false := by simp; omega
                have t9 : ¬ ((kk : Nat) : Int) = 9 := by omega
                have b9 : (((kk : Nat) : Int) == 9) = false := by simp; omega
                have HMT : Hid (∃ (o : Opx) (kp : Option Addr) (kc : Nat), Hid (RF W P R (opV o kp kc) wp ∧ KU wk.heap.size kp o.keys wp ∧ FinO t o ∧ o.keys.length ≤ 10000000)) := keepH ⟨⟨kk, 0, 0, 0, hnd, set, rt, ri, [], 0, 0⟩, none, 0, keepH ⟨HR7.out, .inl rfl, fin_x (by omega) (by rcases hk with rfl | rfl | rfl | rfl <;> rfl) (by omega) HPP.out HCQ.out, by simp⟩⟩
                clear hk hkk hN3
                go_wp2_with fail
                go_meet
                exact HMT.out
              · have t1 : ((kk : Nat) : Int) = 1 := by omega
                have b1 : (((kk : Nat) : Int) == 1) = true := by simp; omega
                have t3 : ¬ ((kk : Nat) : Int) = 3 := by omega
                have b3 : (((kk : Nat) : Int) == 3) = false := by simp; omega
                have t2 : ¬ ((kk : Nat) : Int) = 2 := by omega
                have b2 : (((kk : Nat) : Int) == 2) = false := by simp; omega
                have t4 : ¬ ((kk : Nat) : Int) = 4 := by omega
                have b4 : (((kk : Nat) : Int) == 4) = false := by simp; omega
                have t7 : ¬ ((kk : Nat) : Int) = 7 := by omega
                have b7 : (((kk : Nat) : Int) == 7) = false := by simp; omega
                have t8 : ¬ ((kk : Nat) : Int) = 8 := by omega
                have b8 : (((kk : Nat) : Int) == 8) = false := by simp; omega
                have t9 : ¬ ((kk : Nat) : Int) = 9 := by omega
                have b9 : (((kk : Nat) : Int) == 9) = false := by simp; omega
                have h3N := hN3 (by omega)
                obtain ⟨u0, u1, u2, l, hl⟩ : ∃ u0 u1 u2 l, us ++ List.replicate pd 0 = u0 :: u1 :: u2 :: l := by
                  have := HNL.out
                  match e : us ++ List.replicate pd 0 with
                  | [] => rw [e] at this; simp at this; omega
                  | [x] => rw [e] at this; simp at this; omega
                  | [x, y] => rw [e] at this; simp at this; omega
                  | x :: y :: z :: l => exact ⟨x, y, z, l, rfl⟩
                have HL := keepH hl
                have hku := HKU.out
                rw [hl] at hku
                obtain h | ⟨g, rfl, hg1, hg2, hg3⟩ := hku
                · simp at h
                have y0 : wp.cell? ⟨g, 0, none⟩ = some (.int .u64 (u0 : Int)) := hg3 0 u0 rfl
                have k0 : (0 : Int) < (N : Int) := by omega
                have hgP : g ≠ P := by have := HPK.out; omega
                have x1 : wp.cell? ⟨P, 1, none⟩ = _ := cell_of HR7.out.bx 1
                have z1 : wp.frozen? ⟨P, 1, none⟩ = false := free_of HR7.out.bx 1
                have HFI : Hid (FinO t ⟨kk, u0, 0, 0, hnd, set, rt, ri, [], 0, 0⟩) := keepH (fin_1 (.inl hk) HUU.out hl HPP.out HCQ.out)
                clear hk hkk hN3 hl hg1 hg2 hg3 h3N HKU
                go_wp2_with fail
                go_meet
                exact ⟨⟨kk, u0, 0, 0, hnd, set, rt, ri, [], 0, 0⟩, none, 0, keepH ⟨(HR7.out.set 1 _), .inl rfl, HFI.out, by simp⟩⟩
              · have t1 : ¬ ((kk : Nat) : Int) = 1 := by omega
                have b1 : (((kk : Nat) : Int) == 1) = false := by simp; omega
                have t3 : ((kk : Nat) : Int) = 3 := by omega
                have b3 : (((kk : Nat) : Int) == 3) = true := by simp; omega
                have t2 : ¬ ((kk : Nat) : Int) = 2 := by omega
                have b2 : (((kk : Nat) : Int) == 2) = false := by simp; omega
                have t4 : ¬ ((kk : Nat) : Int) = 4 := by omega
                have b4 : (((kk : Nat) : Int) == 4) = false := by simp; omega
                have t7 : ¬ ((kk : Nat) : Int) = 7 := by omega
                have b7 : (((kk : Nat) : Int) == 7) = false := by simp; omega
                have t8 : ¬ ((kk : Nat) : Int) = 8 := by omega
                have b8 : (((kk : Nat) : Int) == 8) = false := by simp; omega
                have t9 : ¬ ((kk : Nat) : Int) = 9 := by omega
                have b9 : (((kk : Nat) : Int) == 9) = false := by simp; omega
                have h3N := hN3 (by omega)
                obtain ⟨u0, u1, u2, l, hl⟩ : ∃ u0 u1 u2 l, us ++ List.replicate pd 0 = u0 :: u1 :: u2 :: l := by
                  have := HNL.out
                  match e : us ++ List.replicate pd 0 with
                  | [] => rw [e] at this; simp at this; omega
                  | [x] => rw [e] at this; simp at this; omega
                  | [x, y] => rw [e] at this; simp at this; omega
                  | x :: y :: z :: l => exact ⟨x, y, z, l, rfl⟩
                have HL := keepH hl
                have hku := HKU.out
                rw [hl] at hku
                obtain h | ⟨g, rfl, hg1, hg2, hg3⟩ := hku
                · simp at h
                have y0 : wp.cell? ⟨g, 0, none⟩ = some (.int .u64 (u0 : Int)) := hg3 0 u0 rfl
                have k0 : (0 : Int) < (N : Int) := by omega
                have hgP : g ≠ P := by have := HPK.out; omega
                have x1 : wp.cell? ⟨P, 1, none⟩ = _ := cell_of HR7.out.bx 1
                have z1 : wp.frozen? ⟨P, 1, none⟩ = false := free_of HR7.out.bx 1
                have HFI : Hid (FinO t ⟨kk, u0, 0, 0, hnd, set, rt, ri, [], 0, 0⟩) := keepH (fin_1 (.inr hk) HUU.out hl HPP.out HCQ.out)
                clear hk hkk hN3 hl hg1 hg2 hg3 h3N HKU
                go_wp2_with fail
                go_meet
                exact ⟨⟨kk, u0, 0, 0, hnd, set, rt, ri, [], 0, 0⟩, none, 0, keepH ⟨(HR7.out.set 1 _), .inl rfl, HFI.out, by simp⟩⟩
              · have t1 : ¬ ((kk : Nat) : Int) = 1 := by omega
                have b1 : (((kk : Nat) : Int) == 1) = false := by simp; omega
                have t3 : ¬ ((kk : Nat) : Int) = 3 := by omega
                have b3 : (((kk : Nat) : Int) == 3) = false := by simp; omega
                have t2 : ((kk : Nat) : Int) = 2 := by omega
                have b2 : (((kk : Nat) : Int) == 2) = true := by simp; omega
                have t4 : ¬ ((kk : Nat) : Int) = 4 := by omega
                have b4 : (((kk : Nat) : Int) == 4) = false := by simp; omega
                have t7 : ¬ ((kk : Nat) : Int) = 7 := by omega
                have b7 : (((kk : Nat) : Int) == 7) = false := by simp; omega
                have t8 : ¬ ((kk : Nat) : Int) = 8 := by omega
                have b8 : (((kk : Nat) : Int) == 8) = false := by simp; omega
                have t9 : ¬ ((kk : Nat) : Int) = 9 := by omega
                have b9 : (((kk : Nat) : Int) == 9) = false := by simp; omega
                have h3N := hN3 (by omega)
                obtain ⟨u0, u1, u2, l, hl⟩ : ∃ u0 u1 u2 l, us ++ List.replicate pd 0 = u0 :: u1 :: u2 :: l := by
                  have := HNL.out
                  match e : us ++ List.replicate pd 0 with
                  | [] => rw [e] at this; simp at this; omega
                  | [x] => rw [e] at this; simp at this; omega
                  | [x, y] => rw [e] at this; simp at this; omega
                  | x :: y :: z :: l => exact ⟨x, y, z, l, rfl⟩
                have HL := keepH hl
                have hku := HKU.out
                rw [hl] at hku
                obtain h | ⟨g, rfl, hg1, hg2, hg3⟩ := hku
                · simp at h
                have y0 : wp.cell? ⟨g, 0, none⟩ = some (.int .u64 (u0 : Int)) := hg3 0 u0 rfl
                have k0 : (0 : Int) < (N : Int) := by omega
                have y1 : wp.cell? ⟨g, 1, none⟩ = some (.int .u64 (u1 : Int)) := hg3 1 u1 rfl
                have k1 : (1 : Int) < (N : Int) := by omega
                have hgP : g ≠ P := by have := HPK.out; omega
                have x1 : wp.cell? ⟨P, 1, none⟩ = _ := cell_of HR7.out.bx 1
                have z1 : wp.frozen? ⟨P, 1, none⟩ = false := free_of HR7.out.bx 1
                have x2 : wp.cell? ⟨P, 2, none⟩ = _ := cell_of HR7.out.bx 2
                have z2 : wp.frozen? ⟨P, 2, none⟩ = false := free_of HR7.out.bx 2
                have HFI : Hid (FinO t ⟨kk, u0, u1, 0, hnd, set, rt, ri, [], 0, 0⟩) := keepH (fin_2 hk HUU.out hl HPP.out HCQ.out)
                clear hk hkk hN3 hl hg1 hg2 hg3 h3N HKU
                go_upto_region 20 with fail
                go_region
                all_goals (try go_wp2_with fail)
                all_goals go_meet
                all_goals exact ⟨⟨kk, u0, u1, 0, hnd, set, rt, ri, [], 0, 0⟩, none, 0, keepH ⟨(((HR7.out.set 1 _).set 2 _).on (below_drewN (Below.refl _ _) 1)), .inl rfl, HFI.out, by simp⟩⟩
              · have t1 : ¬ ((kk : Nat) : Int) = 1 := by omega
                have b1 : (((kk : Nat) : Int) == 1) = false := by simp; omega
                have t3 : ¬ ((kk : Nat) : Int) = 3 := by omega
                have b3 : (((kk : Nat) : Int) == 3) = false := by simp; omega
                have t2 : ¬ ((kk : Nat) : Int) = 2 := by omega
                have b2 : (((kk : Nat) : Int) == 2) = false := by simp; omega
                have t4 : ((kk : Nat) : Int) = 4 := by omega
                have b4 : (((kk : Nat) : Int) == 4) = true := by simp; omega
                have t7 : ¬ ((kk : Nat) : Int) = 7 := by omega
                have b7 : (((kk : Nat) : Int) == 7) = false := by simp; omega
                have t8 : ¬ ((kk : Nat) : Int) = 8 := by omega
                have b8 : (((kk : Nat) : Int) == 8) = false := by simp; omega
                have t9 : ¬ ((kk : Nat) : Int) = 9 := by omega
                have b9 : (((kk : Nat) : Int) == 9) = false := by simp; omega
                have h3N := hN3 (by omega)
                obtain ⟨u0, u1, u2, l, hl⟩ : ∃ u0 u1 u2 l, us ++ List.replicate pd 0 = u0 :: u1 :: u2 :: l := by
                  have := HNL.out
                  match e : us ++ List.replicate pd 0 with
                  | [] => rw [e] at this; simp at this; omega
                  | [x] => rw [e] at this; simp at this; omega
                  | [x, y] => rw [e] at this; simp at this; omega
                  | x :: y :: z :: l => exact ⟨x, y, z, l, rfl⟩
                have HL := keepH hl
                have hku := HKU.out
                rw [hl] at hku
                obtain h | ⟨g, rfl, hg1, hg2, hg3⟩ := hku
                · simp at h
                have y0 : wp.cell? ⟨g, 0, none⟩ = some (.int .u64 (u0 : Int)) := hg3 0 u0 rfl
                have k0 : (0 : Int) < (N : Int) := by omega
                have y1 : wp.cell? ⟨g, 1, none⟩ = some (.int .u64 (u1 : Int)) := hg3 1 u1 rfl
                have k1 : (1 : Int) < (N : Int) := by omega
                have y2 : wp.cell? ⟨g, 2, none⟩ = some (.int .u64 (u2 : Int)) := hg3 2 u2 rfl
                have k2 : (2 : Int) < (N : Int) := by omega
                have hgP : g ≠ P := by have := HPK.out; omega
                have x1 : wp.cell? ⟨P, 1, none⟩ = _ := cell_of HR7.out.bx 1
                have z1 : wp.frozen? ⟨P, 1, none⟩ = false := free_of HR7.out.bx 1
                have x3 : wp.cell? ⟨P, 3, none⟩ = _ := cell_of HR7.out.bx 3
                have z3 : wp.frozen? ⟨P, 3, none⟩ = false := free_of HR7.out.bx 3
                have x2 : wp.cell? ⟨P, 2, none⟩ = _ := cell_of HR7.out.bx 2
                have z2 : wp.frozen? ⟨P, 2, none⟩ = false := free_of HR7.out.bx 2
                have HFI : Hid (FinO t ⟨kk, u0, u2, u1, hnd, set, rt, ri, [], 0, 0⟩) := keepH (fin_4 hk HUU.out hl HPP.out HCQ.out)
                clear hk hkk hN3 hl hg1 hg2 hg3 h3N HKU
                go_upto_region 22 with fail
                go_region
                all_goals (try go_wp2_with fail)
                all_goals go_meet
                all_goals exact ⟨⟨kk, u0, u2, u1, hnd, set, rt, ri, [], 0, 0⟩, none, 0, keepH ⟨((((HR7.out.set 1 _).set 3 _).set 2 _).on (below_drewN (Below.refl _ _) 1)), .inl rfl, HFI.out, by simp⟩⟩
              · have t1 : ¬ ((kk : Nat) : Int) = 1 := by omega
                have b1 : (((kk : Nat) : Int) == 1) = false := by simp; omega
                have t3 : ¬ ((kk : Nat) : Int) = 3 := by omega
                have b3 : (((kk : Nat) : Int) == 3) = false := by simp; omega
                have t2 : ¬ ((kk : Nat) : Int) = 2 := by omega
                have b2 : (((kk : Nat) : Int) == 2) = false := by simp; omega
                have t4 : ¬ ((kk : Nat) : Int) = 4 := by omega
                have b4 : (((kk : Nat) : Int) == 4) = false := by simp; omega
                have t7 : ((kk : Nat) : Int) = 7 := by omega
                have b7 : (((kk : Nat) : Int) == 7) = true := by simp; omega
                have t8 : ¬ ((kk : Nat) : Int) = 8 := by omega
                have b8 : (((kk : Nat) : Int) == 8) = false := by simp; omega
                have t9 : ¬ ((kk : Nat) : Int) = 9 := by omega
                have b9 : (((kk : Nat) : Int) == 9) = false := by simp; omega
                have x8 : wp.cell? ⟨P, 8, none⟩ = _ := cell_of HR7.out.bx 8
                have z8 : wp.frozen? ⟨P, 8, none⟩ = false := free_of HR7.out.bx 8
                have HE7 : Hid (pd = 0) := keepH (HK7.out hk)
                have HMT : Hid (FinO t ⟨kk, 0, 0, 0, hnd, set, rt, ri, us, 0, 0⟩) := keepH (fin_7 hk HUU.out HPP.out HCQ.out)
                have HK8 : Hid (KU wk.heap.size lp us wp ∧ N = us.length) := keepH (by
                  have h1 := HKU.out
                  have h2 := HNL.out
                  rw [HE7.out] at h1 h2
                  simp at h1 h2
                  exact ⟨h1, h2⟩)
                clear hk hkk hN3
                go_wp2_with fail
                go_meet
                exact ⟨⟨kk, 0, 0, 0, hnd, set, rt, ri, us, 0, 0⟩, lp, lc, keepH ⟨by have h := HR7.out.set 8 (.slice lp N lc); rw [HK8.out.2] at h ⊢; exact h, HK8.out.1.set HPK.out 8 _, HMT.out, by have := HUL.out; simp only; omega⟩⟩
              · have t1 : ¬ ((kk : Nat) : Int) = 1 := by omega
                have b1 : (((kk : Nat) : Int) == 1) = false := by simp; omega
                have t3 : ¬ ((kk : Nat) : Int) = 3 := by omega
                have b3 : (((kk : Nat) : Int) == 3) = false := by simp; omega
                have t2 : ¬ ((kk : Nat) : Int) = 2 := by omega
                have b2 : (((kk : Nat) : Int) == 2) = false := by simp; omega
                have t4 : ¬ ((kk : Nat) : Int) = 4 := by omega
                have b4 : (((kk : Nat) : Int) == 4) = false := by simp; omega
                have t7 : ¬ ((kk : Nat) : Int) = 7 := by omega
                have b7 : (((kk : Nat) : Int) == 7) = false := by simp; omega
                have t8 : ((kk : Nat) : Int) = 8 := by omega
                have b8 : (((kk : Nat) : Int) == 8) = true := by simp; omega
                have t9 : ¬ ((kk : Nat) : Int) = 9 := by omega
                have b9 : (((kk : Nat) : Int) == 9) = false := by simp; omega
                have h3N := hN3 (by omega)
                obtain ⟨u0, u1, u2, l, hl⟩ : ∃ u0 u1 u2 l, us ++ List.replicate pd 0 = u0 :: u1 :: u2 :: l := by
                  have := HNL.out
                  match e : us ++ List.replicate pd 0 with
                  | [] => rw [e] at this; simp at this; omega
                  | [x] => rw [e] at this; simp at this; omega
                  | [x, y] => rw [e] at this; simp at this; omega
                  | x :: y :: z :: l => exact ⟨x, y, z, l, rfl⟩
                have HL := keepH hl
                have hku := HKU.out
                rw [hl] at hku
                obtain h | ⟨g, rfl, hg1, hg2, hg3⟩ := hku
                · simp at h
                have y0 : wp.cell? ⟨g, 0, none⟩ = some (.int .u64 (u0 : Int)) := hg3 0 u0 rfl
                have k0 : (0 : Int) < (N : Int) := by omega
                have y1 : wp.cell? ⟨g, 1, none⟩ = some (.int .u64 (u1 : Int)) := hg3 1 u1 rfl
                have k1 : (1 : Int) < (N : Int) := by omega
                have hgP : g ≠ P := by have := HPK.out; omega
                have x9 : wp.cell? ⟨P, 9, none⟩ = _ := cell_of HR7.out.bx 9
                have z9 : wp.frozen? ⟨P, 9, none⟩ = false := free_of HR7.out.bx 9
                have x10 : wp.cell? ⟨P, 10, none⟩ = _ := cell_of HR7.out.bx 10
                have z10 : wp.frozen? ⟨P, 10, none⟩ = false := free_of HR7.out.bx 10
                have HFI : Hid (FinO t ⟨kk, 0, 0, 0, hnd, set, rt, ri, [], u0, u1⟩) := keepH (fin_8 (.inl hk) HUU.out hl HPP.out HCQ.out)
                clear hk hkk hN3 hl hg1 hg2 hg3 h3N HKU
                go_upto_region 27 with fail
                go_region
                all_goals (try go_wp2_with fail)
                all_goals go_meet
                all_goals exact ⟨⟨kk, 0, 0, 0, hnd, set, rt, ri, [], u0, u1⟩, none, 0, keepH ⟨(((HR7.out.set 9 _).set 10 _).on (below_drewN (Below.refl _ _) 1)), .inl rfl, HFI.out, by simp⟩⟩
              · have t1 : ¬ ((kk : Nat) : Int) = 1 := by omega
                have b1 : (((kk : Nat) : Int) == 1) = false := by simp; omega
                have t3 : ¬ ((kk : Nat) : Int) = 3 := by omega
                have b3 : (((kk : Nat) : Int) == 3) = false := by simp; omega
                have t2 : ¬ ((kk : Nat) : Int) = 2 := by omega
                have b2 : (((kk : Nat) : Int) == 2) = false := by simp; omega
                have t4 : ¬ ((kk : Nat) : Int) = 4 := by omega
                have b4 : (((kk : Nat) : Int) == 4) = false := by simp; omega
                have t7 : ¬ ((kk : Nat) : Int) = 7 := by omega
                have b7 : (((kk : Nat) : Int) == 7) = false := by simp; omega
                have t8 : ¬ ((kk : Nat) : Int) = 8 := by omega
                have b8 : (((kk : Nat) : Int) == 8) = false := by simp; omega
                have t9 : ((kk : Nat) : Int) = 9 := by omega
                have b9 : (((kk : Nat) : Int) == 9) = true := by simp; omega
                have h3N := hN3 (by omega)
                obtain ⟨u0, u1, u2, l, hl⟩ : ∃ u0 u1 u2 l, us ++ List.replicate pd 0 = u0 :: u1 :: u2 :: l := by
                  have := HNL.out
                  match e : us ++ List.replicate pd 0 with
                  | [] => rw [e] at this; simp at this; omega
                  | [x] => rw [e] at this; simp at this; omega
                  | [x, y] => rw [e] at this; simp at this; omega
                  | x :: y :: z :: l => exact ⟨x, y, z, l, rfl⟩
                have HL := keepH hl
                have hku := HKU.out
                rw [hl] at hku
                obtain h | ⟨g, rfl, hg1, hg2, hg3⟩ := hku
                · simp at h
                have y0 : wp.cell? ⟨g, 0, none⟩ = some (.int .u64 (u0 : Int)) := hg3 0 u0 rfl
                have k0 : (0 : Int) < (N : Int) := by omega
                have y1 : wp.cell? ⟨g, 1, none⟩ = some (.int .u64 (u1 : Int)) := hg3 1 u1 rfl
                have k1 : (1 : Int) < (N : Int) := by omega
                have hgP : g ≠ P := by have := HPK.out; omega
                have x9 : wp.cell? ⟨P, 9, none⟩ = _ := cell_of HR7.out.bx 9
                have z9 : wp.frozen? ⟨P, 9, none⟩ = false := free_of HR7.out.bx 9
                have x10 : wp.cell? ⟨P, 10, none⟩ = _ := cell_of HR7.out.bx 10
                have z10 : wp.frozen? ⟨P, 10, none⟩ = false := free_of HR7.out.bx 10
                have HFI : Hid (FinO t ⟨kk, 0, 0, 0, hnd, set, rt, ri, [], u0, u1⟩) := keepH (fin_8 (.inr hk) HUU.out hl HPP.out HCQ.out)
                clear hk hkk hN3 hl hg1 hg2 hg3 h3N HKU
                go_upto_region 27 with fail
                go_region
                all_goals (try go_wp2_with fail)
                all_goals go_meet
                all_goals exact ⟨⟨kk, 0, 0, 0, hnd, set, rt, ri, [], u0, u1⟩, none, 0, keepH ⟨(((HR7.out.set 9 _).set 10 _).on (below_drewN (Below.refl _ _) 1)), .inl rfl, HFI.out, by simp⟩⟩
            case rest =>
              obtain ⟨o, kp, kc, HE⟩ := hcut
              obtain ⟨wz, hwz⟩ : ∃ wz, wz = wc := ⟨_, rfl⟩
              subst hwz
              clear HR7 HKU HNL HK7 hN3 hN5 HCQ HPP HUU HUL HM2 hkk
              obtain ⟨k, key, val, old, hd, st, ra, rb, keys, lo, hi⟩ := o
              have HRZ : Hid (RF W P R (opR k key val old hd st ra rb (.slice kp keys.length kc) lo hi) wz) := keepH HE.out.1
              have HKZ : Hid (KU wk.heap.size kp keys wz) := keepH HE.out.2.1
              have HFZ : Hid (FinO t ⟨k, key, val, old, hd, st, ra, rb, keys, lo, hi⟩) := keepH HE.out.2.2.1
              have HPR := keepH (dPrintOp_any k key val old hd st ra rb kp kc lo hi keys HFZ.out.1.k HFZ.out.1.key HFZ.out.1.val HFZ.out.1.old HFZ.out.1.hnd HFZ.out.1.lo HFZ.out.1.hi HFZ.out.1.rt HFZ.out.1.ri HFZ.out.1.keys HE.out.2.2.2 wz (HT.out.on HRZ.out.bel) HKZ.out.krd)
              obtain ⟨n, hn⟩ : ∃ n, n = keys.length := ⟨_, rfl⟩
              rw [← hn] at HPR HRZ
              have HN := keepH hn
              clear HE hn
              have d0 : wz.cell? ⟨P, 0, none⟩ = _ := cell_of HRZ.out.bx 0
              have d1 : wz.cell? ⟨P, 1, none⟩ = _ := cell_of HRZ.out.bx 1
              have d2 : wz.cell? ⟨P, 2, none⟩ = _ := cell_of HRZ.out.bx 2
              have d3 : wz.cell? ⟨P, 3, none⟩ = _ := cell_of HRZ.out.bx 3
              have d4 : wz.cell? ⟨P, 4, none⟩ = _ := cell_of HRZ.out.bx 4
              have d5 : wz.cell? ⟨P, 5, none⟩ = _ := cell_of HRZ.out.bx 5
              have d6 : wz.cell? ⟨P, 6, none⟩ = _ := cell_of HRZ.out.bx 6
              have d7 : wz.cell? ⟨P, 7, none⟩ = _ := cell_of HRZ.out.bx 7
              have d8 : wz.cell? ⟨P, 8, none⟩ = _ := cell_of HRZ.out.bx 8
              have d9 : wz.cell? ⟨P, 9, none⟩ = _ := cell_of HRZ.out.bx 9
              have d10 : wz.cell? ⟨P, 10, none⟩ = _ := cell_of HRZ.out.bx 10
              go_upto_region 29 with (first | (go_at_call 8; refine HPR.out.mono ?_; rintro e wq ⟨E, hE, rfl, hbq⟩; have HEE := keepH hE; have HRQ := keepH (HRZ.out.on hbq); have HKQ := keepH (HKZ.out.on hbq); clear hE hbq))
              clear d0 d1 d2 d3 d4 d5 d6 d7 d8 d9 d10
              by_cases h0 : E = 0
              · subst h0
                have hfo : faultO ⟨k, key, val, old, hd, st, ra, rb, keys, lo, hi⟩ = 0 := by have := HEE.out; rw [HN.out] at this; exact this.symm
                have hq : ((mkS (opT k key val old hd st ra rb keys lo hi)).toList == s.toList) = decide (opT k key val old hd st ra rb keys lo hi = t) := by rw [HS.out]; exact beq_mkS _ _
                rw [if_pos rfl]
                obtain ⟨sx, hsx⟩ : ∃ s, s = mkS (opT k key val old hd st ra rb keys lo hi) := ⟨_, rfl⟩
                rw [← hsx] at hq ⊢
                by_cases hte : opT k key val old hd st ra rb keys lo hi = t
                · rw [decide_eq_true hte] at hq
                  have HOK : Hid (PQ t true ⟨k, key, val, old, hd, st, ra, rb, keys, lo, hi⟩) := keepH (end_ok HFZ.out hfo hte)
                  clear hsx hfo hte
                  have d0 : wq.cell? ⟨P, 0, none⟩ = _ := cell_of HRQ.out.bx 0
                  have d1 : wq.cell? ⟨P, 1, none⟩ = _ := cell_of HRQ.out.bx 1
                  have d2 : wq.cell? ⟨P, 2, none⟩ = _ := cell_of HRQ.out.bx 2
                  have d3 : wq.cell? ⟨P, 3, none⟩ = _ := cell_of HRQ.out.bx 3
                  have d4 : wq.cell? ⟨P, 4, none⟩ = _ := cell_of HRQ.out.bx 4
                  have d5 : wq.cell? ⟨P, 5, none⟩ = _ := cell_of HRQ.out.bx 5
                  have d6 : wq.cell? ⟨P, 6, none⟩ = _ := cell_of HRQ.out.bx 6
                  have d7 : wq.cell? ⟨P, 7, none⟩ = _ := cell_of HRQ.out.bx 7
                  have d8 : wq.cell? ⟨P, 8, none⟩ = _ := cell_of HRQ.out.bx 8
                  have d9 : wq.cell? ⟨P, 9, none⟩ = _ := cell_of HRQ.out.bx 9
                  have d10 : wq.cell? ⟨P, 10, none⟩ = _ := cell_of HRQ.out.bx 10
                  go_wp2_with (first | (refine wpList_store_row rfl 28 _ _ rfl R (opR k key val old hd st ra rb (.slice kp n kc) lo hi) rfl rfl 28 (opR 0 0 0 0 0 false 0 0 (.slice none 0 0) 0 0) HRQ.out.rr (by kernel_rfl) rfl (by simp [Value.oneCell']) ?_) | fail)
                  have hrow := setRow_heap _ R _ (opR k key val old hd st ra rb (.slice kp n kc) lo hi) 28 (0, 0) HRQ.out.rr
                  have e0 := cell_of hrow 0
                  have e1 := cell_of hrow 1
                  have e2 := cell_of hrow 2
                  have e3 := cell_of hrow 3
                  have e4 := cell_of hrow 4
                  have e5 := cell_of hrow 5
                  have e6 := cell_of hrow 6
                  have e7 := cell_of hrow 7
                  have e8 := cell_of hrow 8
                  have e9 := cell_of hrow 9
                  have e10 := cell_of hrow 10
                  simp at e0 e1 e2 e3 e4 e5 e6 e7 e8 e9 e10
                  refine bodyPost_ret (v := .tuple #[.agg (opR k key val old hd st ra rb (.slice kp n kc) lo hi), .int .i64 0]) (by simp [results, Tryz.results10, go_sem, e0, e1, e2, e3, e4, e5, e6, e7, e8, e9, e10]) rfl ?_
                  exact ⟨true, ⟨k, key, val, old, hd, st, ra, rb, keys, lo, hi⟩, kp, kc, by rw [HN.out]; rfl, HOK.out, (HKQ.out.row HRK.out _).mono HWK.out.size, fun e => by simp at e, below_setRow HRQ.out.bel HRQ.out.lr _⟩
                · rw [decide_eq_false hte] at hq
                  have HBAD : Hid (PQ t false zeroO) := keepH (end_bad HFZ.out (fun h => hte h.2))
                  clear hsx hfo hte
                  go_wp2_with (first | (refine wpList_store_row rfl 28 _ _ rfl R (opR 0 0 0 0 0 false 0 0 (.slice none 0 0) 0 0) rfl rfl 28 (opR 0 0 0 0 0 false 0 0 (.slice none 0 0) 0 0) HRQ.out.rr (by kernel_rfl) rfl (by simp [Value.oneCell']) ?_) | fail)
                  have hrow := setRow_heap _ R _ (opR 0 0 0 0 0 false 0 0 (.slice none 0 0) 0 0) 28 (0, 0) HRQ.out.rr
                  have e0 := cell_of hrow 0
                  have e1 := cell_of hrow 1
                  have e2 := cell_of hrow 2
                  have e3 := cell_of hrow 3
                  have e4 := cell_of hrow 4
                  have e5 := cell_of hrow 5
                  have e6 := cell_of hrow 6
                  have e7 := cell_of hrow 7
                  have e8 := cell_of hrow 8
                  have e9 := cell_of hrow 9
                  have e10 := cell_of hrow 10
                  simp at e0 e1 e2 e3 e4 e5 e6 e7 e8 e9 e10
                  refine bodyPost_ret (v := .tuple #[.agg (opR 0 0 0 0 0 false 0 0 (.slice none 0 0) 0 0), .int .i64 52]) (by simp [results, Tryz.results10, go_sem, e0, e1, e2, e3, e4, e5, e6, e7, e8, e9, e10]) rfl ?_
                  exact ⟨false, zeroO, none, 0, rfl, HBAD.out, .inl rfl, fun _ => rfl, below_setRow HRQ.out.bel HRQ.out.lr _⟩
              · have HBAD : Hid (PQ t false zeroO) := keepH (end_bad HFZ.out (fun h => h0 (by have := HEE.out; rw [HN.out] at this; exact this.trans h.1)))
                have q0 : ((E : Int) != 0) = true := by simp; omega
                have q1 : ¬ (E : Int) = 0 := by omega
                rw [if_neg h0]
                clear h0
                go_wp2_with (first | (refine wpList_store_row rfl 28 _ _ rfl R (opR 0 0 0 0 0 false 0 0 (.slice none 0 0) 0 0) rfl rfl 28 (opR 0 0 0 0 0 false 0 0 (.slice none 0 0) 0 0) HRQ.out.rr (by kernel_rfl) rfl (by simp [Value.oneCell']) ?_) | fail)
                have hrow := setRow_heap _ R _ (opR 0 0 0 0 0 false 0 0 (.slice none 0 0) 0 0) 28 (0, 0) HRQ.out.rr
                have e0 := cell_of hrow 0
                have e1 := cell_of hrow 1
                have e2 := cell_of hrow 2
                have e3 := cell_of hrow 3
                have e4 := cell_of hrow 4
                have e5 := cell_of hrow 5
                have e6 := cell_of hrow 6
                have e7 := cell_of hrow 7
                have e8 := cell_of hrow 8
                have e9 := cell_of hrow 9
                have e10 := cell_of hrow 10
                simp at e0 e1 e2 e3 e4 e5 e6 e7 e8 e9 e10
                refine bodyPost_ret (v := .tuple #[.agg (opR 0 0 0 0 0 false 0 0 (.slice none 0 0) 0 0), .int .i64 52]) (by simp [results, Tryz.results10, go_sem, e0, e1, e2, e3, e4, e5, e6, e7, e8, e9, e10]) rfl ?_
                exact ⟨false, zeroO, none, 0, rfl, HBAD.out, .inl rfl, fun _ => rfl, below_setRow HRQ.out.bel HRQ.out.lr _⟩
end Go.Proofs.YtmmaniolaljjlaaGreatDoor
