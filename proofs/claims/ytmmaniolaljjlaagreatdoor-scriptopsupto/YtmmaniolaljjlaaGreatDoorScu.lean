/- The document's Lines and Words. -/
import Derived.Test.YtmmaniolaljjlaaGreatDoorScg
namespace Go.Proofs.YtmmaniolaljjlaaGreatDoor
open Go.RowKit Go.Shelf
set_option linter.unusedVariables false

theorem infoStr : (Tryz.prog.info? 9).map (fun i => (i.zero, i.size, i.bytes)) = some (some (.string ⟨#[]⟩), 1, 16) := by kernel_rfl
def strsRow (ls : List (List UInt8)) : List Value := ls.map (fun x => Value.string (mkS x))
theorem strsRow_snoc (ls : List (List UInt8)) (r : List UInt8) : strsRow (ls ++ [r]) = strsRow ls ++ [.string (mkS r)] := by simp [strsRow]
def joinL (ls : List (List UInt8)) : List UInt8 := (ls.map (fun x => x ++ [10])).flatten
theorem joinL_snoc (ls : List (List UInt8)) (r : List UInt8) : joinL (ls ++ [r]) = joinL ls ++ (r ++ [10]) := by simp [joinL]
theorem joinL_cons (ls : List (List UInt8)) (r : List UInt8) : joinL (r :: ls) = r ++ 10 :: joinL ls := by simp [joinL]
def LnR (t : List UInt8) (i f : Nat) (ls : List (List UInt8)) : Prop := ∃ r, t.take i = joinL ls ++ r ∧ f = (joinL ls).length ∧ noB 10 r ∧ (∀ x ∈ ls, noB 10 x)
theorem LnR.no {t : List UInt8} {i f : Nat} {ls : List (List UInt8)} (h : LnR t i f ls) (hi : i < t.length) (hb : ¬ t[i]? = some 10) : LnR t (i + 1) f ls := by
  obtain ⟨r, e, hf, hr, hx⟩ := h
  refine ⟨r ++ [t[i]], ?_, hf, hr.append ?_, hx⟩
  · rw [List.take_add_one, List.getElem?_eq_getElem hi, e]; simp
  · intro x hx' q
    simp at hx'
    exact hb (by rw [List.getElem?_eq_getElem hi, ← hx', q])
theorem LnR.yes {t : List UInt8} {i f : Nat} {ls : List (List UInt8)} (h : LnR t i f ls) (hi : i < t.length) (hb : t[i]? = some 10) : f ≤ i ∧ LnR t (i + 1) (i + 1) (ls ++ [(t.drop f).take (i - f)]) := by
  obtain ⟨r, e, hf, hr, hx⟩ := h
  have hl : (t.take i).length = i := by simp; omega
  have hl2 : i = (joinL ls).length + r.length := by rw [e] at hl; simp at hl; omega
  have hq : (t.drop f).take (i - f) = r := by rw [← List.drop_take, e, hf, List.drop_left]
  rw [hq]
  refine ⟨by omega, [], ?_, ?_, noB_nil _, ?_⟩
  · rw [List.take_add_one, hb, e, joinL_snoc]; simp
  · rw [joinL_snoc]; simp; omega
  · intro x hx'
    rcases List.mem_append.1 hx' with q | q
    · exact hx x q
    · simp at q
      subst q
      exact hr
theorem idx_str (l : List UInt8) (n : Nat) (hn : n < l.length) (c : UInt8) : ∃ x : Nat, (∀ W, (Instr.index 9 (.string (mkS l)) (.int .i64 (n : Int))).run Tryz.prog W = .ok (.int .u8 (x : Int)) W) ∧ (x = c.toNat ↔ l[n]? = some c) := by
  have hs : n < (mkS l).size := by rw [mkS_size]; exact hn
  refine ⟨((mkS l)[n]'hs).toNat, fun W => ?_, ?_⟩
  · rw [run_index_string W 9 (mkS l) .i64 (n : Int) Tryz.underlying9, dif_pos ⟨by omega, by omega⟩]
    rfl
  · have e : (mkS l)[n]'hs = l[n]'hn := by rfl
    rw [e, List.getElem?_eq_getElem hn]
    constructor
    · intro h
      congr 1
      exact UInt8.toNat_inj.mp h
    · intro h
      injection h with h
      rw [h]
theorem cut_m (t : List UInt8) (f i : Nat) (h : f ≤ i) (hi : i ≤ t.length) (w : World) : (Instr.slice 9 (.string (mkS t)) (some (.int .i64 (f : Int))) (some (.int .i64 (i : Int))) none).run Tryz.prog w = .ok (.string (mkS ((t.drop f).take (i - f)))) w := by
  have hs := mkS_size t
  rw [run_slice_string w 9 (mkS t) .i64 .i64 (f : Int) (i : Int) Tryz.underlying9 (by omega) (by omega) (by omega), mkS_extract]
  rfl
structure RowI (W wr : World) (v : Value) (ls : List (List UInt8)) : Prop where
  row : wr.ownsRow 0 9 1 v ls.length (strsRow ls)
  chg : Chg (fun _ => False) W wr
  new : ∀ b, v.ownBlock = some b → W.heap.size ≤ b
theorem RowI.more {W wr w2 : World} {v v' : Value} {ls : List (List UInt8)} {r : List UInt8} {o : Obj} (h : RowI W wr v ls)
    (hr : w2.ownsRow 0 9 1 v' (ls.length + 1) (strsRow ls ++ [.string (mkS r)])) (hg : (wr.alloc o).grownBy w2 v.ownBlock) (hw : v'.ownBlock = v.ownBlock ∨ v'.ownBlock = some (wr.alloc o).heap.size) : RowI W w2 v' (ls ++ [r]) := by
  have c2 : Chg (fun b => v.ownBlock = some b) wr w2 := ((Chg.refl (fun b => v.ownBlock = some b) wr).alloc o).grown hg (fun k e _ => e)
  have hz := h.chg.size
  refine ⟨by rw [strsRow_snoc, List.length_append]; exact hr, h.chg.trans c2 (fun _ _ x => x) (fun i hi x => by have := h.new _ x; omega), ?_⟩
  intro b hb
  rcases hw with e1 | e1
  · rw [e1] at hb
    exact h.new b hb
  · rw [e1] at hb
    simp at hb
    omega

set_option maxRecDepth 100000 in
set_option maxHeartbeats 4000000 in
theorem r_lines (t : List UInt8) (ht : t.length ≤ 200000000) (W : World) :
    Calls Tryz.prog 55 #[.string (mkS t)] W fun e W' => ∃ v, e = .returned v ∧ ∃ ls, RowI W W' v ls ∧ ∃ f, LnR t t.length f ls := by
  obtain ⟨i0, hi, hz0, hz1, hz2⟩ := info_parts infoStr
  have HI := keepH hi
  have hix := fun n hn => idx_str t n hn 10
  have hcm := cut_m t
  obtain ⟨s, hs⟩ : ∃ s, s = mkS t := ⟨_, rfl⟩
  have hsz : s.size = t.length := by rw [hs, mkS_size]
  rw [← hs] at hix hcm ⊢
  have HX := keepH hix
  have HC := keepH hcm
  clear hi hix hcm hs
  go_enter Tryz.func55, Tryz.ntmps55
  go_wp2_with fail
  go_loopw [3, 4, 5] (fun v f i wr => ∃ (k fk : Nat) (ls : List (List UInt8)), k ≤ t.length ∧ ls.length ≤ k ∧ f = .int .i64 (fk : Int) ∧ i = .int .i64 (k : Int) ∧ Hid (LnR t k fk ls ∧ RowI W wr v ls)) (fun _ _ i _ => t.length - (intOf i).toNat)
  case atStart => exact ⟨0, 0, [], by omega, by simp, rfl, rfl, keepH ⟨⟨[], by simp [joinL], by simp [joinL], noB_nil _, by simp⟩, World.ownsRow_nil _ _ _ _, Chg.refl _ _, fun b hb => by simp [Value.ownBlock] at hb⟩⟩
  case round =>
    obtain ⟨k, fk, ls, hk, hlk, rfl, rfl, HK⟩ := hrel
    by_cases hlt : k < t.length
    · have t1 : (k : Int) < (s.size : Int) := by omega
      have t0 : (0 : Int) ≤ (k : Int) := by omega
      have qw : IntKind.i64.wrap ((k : Int) + 1) = ((k + 1 : Nat) : Int) := by rw [IntKind.wrap_i64]; omega
      obtain ⟨x, hx, hxi⟩ := HX.out k hlt
      by_cases h1 : t[k]? = some 10
      · have hx10 := hxi.2 h1
        obtain ⟨hf, hnx⟩ := HK.out.1.yes hlt h1
        have hcx := HC.out fk k hf (by omega)
        obtain ⟨r, hr⟩ : ∃ r, r = (t.drop fk).take (k - fk) := ⟨_, rfl⟩
        rw [← hr] at hcx hnx
        have hi := HI.out
        obtain ⟨sr, hsr⟩ : ∃ s, s = mkS r := ⟨_, rfl⟩
        rw [← hsr] at hcx
        have HSR := keepH hsr
        have HNX := keepH hnx
        obtain ⟨nl, hnl⟩ : ∃ nl, nl = ls.length := ⟨_, rfl⟩
        have HNL := keepH hnl
        have HRW : Hid (wr.ownsRow 0 9 1 u3 nl (strsRow ls)) := by rw [hnl]; exact HK.out.2.row
        have hnl2 : nl ≤ 200000000 := by omega
        have q10 : ((x : Nat) : Int) = 10 := by rw [hx10]; rfl
        rw [q10] at hx
        clear hsr hr hnx hxi h1 hf hx10 hnl q10
        go_wp2_with (first | (at_builtin; refine wpList_append_own_at _ rfl (.tmp 16) (.tmp 21) 67 rfl 0 9 i0 (.string ⟨#[]⟩) 1 16 Tryz.underlying67 hi hz0 hz1 hz2 rfl (by decide) u3 nl (strsRow ls) rfl (HRW.out.alloc _) ⟨wr.heap.size, 0, none⟩ 1 1 [.string sr] rfl rfl (cells_newR _ _ (by simp) _ _) (by intro u hu; simp at hu; rcases hu with rfl; rfl) (by unfold maxLen; omega) (by omega) (Nat.zero_le _) ?_; intro v2 w2 r1 r2 r3 r4; have R1 := keepH r1; have R2 := keepH r2; have R4 := keepH r4; clear r1 r2 r3 r4) | go_in)
        go_roundw
        case rel => exact ⟨k + 1, k + 1, ls ++ [r], by omega, by simp; omega, by first | rfl | go_num, by first | rfl | go_num, keepH ⟨HNX.out, HK.out.2.more (by rw [← HSR.out, ← HNL.out]; exact R1.out) R2.out R4.out⟩⟩
        case measure => simp [intOf]; omega
      · have HNX := keepH (HK.out.1.no hlt h1)
        have q10 : ¬ ((x : Nat) : Int) = 10 := fun q => h1 (hxi.1 (by rw [show (10 : UInt8).toNat = 10 from rfl]; omega))
        clear hxi h1
        go_wp2_with fail
        go_roundw
        case rel => exact ⟨k + 1, fk, ls, by omega, by omega, rfl, by first | rfl | go_num, keepH ⟨HNX.out, HK.out.2⟩⟩
        case measure => simp [intOf]; omega
    · obtain rfl : k = t.length := by omega
      have t1 : ¬ (t.length : Int) < (s.size : Int) := by omega
      go_wp2_with fail
      go_ret
      exact ⟨u3, by simp, ls, HK.out.2, fk, HK.out.1⟩

def frontL (ls : List (List UInt8)) : List UInt8 := (ls.map (fun x => x ++ [32])).flatten
theorem frontL_snoc (ls : List (List UInt8)) (r : List UInt8) : frontL (ls ++ [r]) = frontL ls ++ (r ++ [32]) := by simp [frontL]
theorem frontL_cons (ls : List (List UInt8)) (r : List UInt8) : frontL (r :: ls) = r ++ 32 :: frontL ls := by simp [frontL]
def WdR (t : List UInt8) (i : Nat) (fs : List (List UInt8)) (r : List UInt8) : Prop := t.take i = frontL fs ++ r ∧ noB 32 r ∧ (∀ x ∈ fs, noB 32 x)
theorem WdR.no {t : List UInt8} {i : Nat} {fs : List (List UInt8)} {r : List UInt8} (h : WdR t i fs r) (hi : i < t.length) (hb : ¬ t[i]? = some 32) : WdR t (i + 1) fs (r ++ [t[i]]) := by
  obtain ⟨e, hr, hx⟩ := h
  refine ⟨?_, hr.append ?_, hx⟩
  · rw [List.take_add_one, List.getElem?_eq_getElem hi, e]; simp
  · intro x hx' q
    simp at hx'
    exact hb (by rw [List.getElem?_eq_getElem hi, ← hx', q])
theorem WdR.yes {t : List UInt8} {i : Nat} {fs : List (List UInt8)} {r : List UInt8} (h : WdR t i fs r) (hb : t[i]? = some 32) : WdR t (i + 1) (fs ++ [r]) [] := by
  obtain ⟨e, hr, hx⟩ := h
  refine ⟨?_, noB_nil _, ?_⟩
  · rw [List.take_add_one, hb, e, frontL_snoc]; simp
  · intro x hx'
    rcases List.mem_append.1 hx' with q | q
    · exact hx x q
    · simp at q
      subst q
      exact hr
theorem WdR.len {t : List UInt8} {i : Nat} {fs : List (List UInt8)} {r : List UInt8} (h : WdR t i fs r) : r.length ≤ i := by
  have q := congrArg List.length h.1
  simp at q
  omega
theorem RowI.set {W wr : World} {g m cap : Nat} {fs : List (List UInt8)} {r r' : List UInt8} (hm : fs.length = m) (h : RowI W wr (.slice (some ⟨g, 0, none⟩) (m + 1) cap) (fs ++ [r])) : RowI W (wr.setCell ⟨g, m, none⟩ (.string (mkS r'))) (.slice (some ⟨g, 0, none⟩) (m + 1) cap) (fs ++ [r']) := by
  have hl : ∀ r, (fs ++ [r]).length = m + 1 := fun r => by simp [hm]
  have h0 := h.row
  rw [hl] at h0
  obtain ⟨k1, k2⟩ := World.ownsRow.stored h0 m (.string (mkS r'))
  refine ⟨?_, h.chg.grown k2 (fun k e hk => by injection e with e; subst e; have := h.new g rfl; omega), h.new⟩
  rw [hl, strsRow_snoc]
  rw [strsRow_snoc, List.set_append_right _ _ (by simp [strsRow, hm])] at k1
  have : m - (strsRow fs).length = 0 := by simp [strsRow, hm]
  rw [this] at k1
  exact k1
theorem RowI.cell {W wr : World} {g m cap : Nat} {fs : List (List UInt8)} {r : List UInt8} (hm : fs.length = m) (h : RowI W wr (.slice (some ⟨g, 0, none⟩) (m + 1) cap) (fs ++ [r])) : wr.cell? ⟨g, m, none⟩ = some (.string (mkS r)) ∧ wr.frozen? ⟨g, m, none⟩ = false := by
  have h0 := h.row
  rw [show (fs ++ [r]).length = m + 1 by simp [hm]] at h0
  refine ⟨?_, World.ownsRow.frozenAt h0 m⟩
  rw [World.ownsRow.cellAt h0 m (by omega), strsRow_snoc, List.getElem?_append_right (by simp [strsRow, hm])]
  simp [strsRow, hm]
theorem RowI.form {W wr : World} {v : Value} {fs : List (List UInt8)} {r : List UInt8} (h : RowI W wr v (fs ++ [r])) : ∃ g cap, v = .slice (some ⟨g, 0, none⟩) (fs.length + 1) cap := by
  have h0 := h.row
  rw [show (fs ++ [r]).length = fs.length + 1 by simp] at h0
  rcases h0.2 with ⟨_, e⟩ | ⟨g, cap, cur, e, _⟩
  · omega
  · exact ⟨g, cap, e⟩

set_option maxRecDepth 100000 in
set_option maxHeartbeats 4000000 in
theorem r_words (t : List UInt8) (ht : t.length ≤ 200000000) (W : World) :
    Calls Tryz.prog 32 #[.string (mkS t)] W fun e W' => ∃ v, e = .returned v ∧ ∃ fs r, RowI W W' v (fs ++ [r]) ∧ WdR t t.length fs r := by
  obtain ⟨i0, hi, hz0, hz1, hz2⟩ := info_parts infoStr
  have HI := keepH hi
  have hix := fun n hn => idx_str t n hn 32
  have hcm := cut_m t
  obtain ⟨s, hs⟩ : ∃ s, s = mkS t := ⟨_, rfl⟩
  have hsz : s.size = t.length := by rw [hs, mkS_size]
  rw [← hs] at hix hcm ⊢
  have HX := keepH hix
  have HC := keepH hcm
  clear hi hix hcm hs
  go_enter Tryz.func32, Tryz.ntmps32
  go_wp2_with fail
  go_loopw [3, 4] (fun v i wr => ∃ (k : Nat) (fs : List (List UInt8)) (r : List UInt8), k ≤ t.length ∧ fs.length ≤ k ∧ i = .int .i64 (k : Int) ∧ Hid (WdR t k fs r ∧ RowI W wr v (fs ++ [r]))) (fun _ i _ => t.length - (intOf i).toNat)
  case atStart => exact ⟨0, [], [], by omega, by simp, rfl, keepH ⟨⟨by simp [frontL], noB_nil _, by simp⟩, World.ownsRow_lit W #[.string ⟨#[]⟩] 1 (Nat.zero_le _) (by unfold maxLen; omega) rfl, (Chg.refl _ _).alloc _, fun b hb => by simp [Value.ownBlock] at hb; omega⟩⟩
  case round =>
    obtain ⟨k, fs, r, hk, hlk, rfl, HK⟩ := hrel
    obtain ⟨g, cap, rfl⟩ := HK.out.2.form
    obtain ⟨m, hm⟩ : ∃ m, m = fs.length := ⟨_, rfl⟩
    rw [← hm] at HK hlk ⊢
    have HM := keepH hm
    clear hm
    by_cases hlt : k < t.length
    · have t1 : (k : Int) < (s.size : Int) := by omega
      have t0 : (0 : Int) ≤ (k : Int) := by omega
      have qw : IntKind.i64.wrap ((k : Int) + 1) = ((k + 1 : Nat) : Int) := by rw [IntKind.wrap_i64]; omega
      obtain ⟨x, hx, hxi⟩ := HX.out k hlt
      by_cases h1 : t[k]? = some 32
      · have hx10 := hxi.2 h1
        have HNX := keepH (HK.out.1.yes h1)
        have hi := HI.out
        have HRW : Hid (wr.ownsRow 0 9 1 (.slice (some ⟨g, 0, none⟩) (m + 1) cap) (m + 1) (strsRow (fs ++ [r]))) := by
          have := HK.out.2.row
          rw [show (fs ++ [r]).length = m + 1 by rw [HM.out]; simp] at this
          exact keepH this
        have q10 : ((x : Nat) : Int) = 32 := by rw [hx10]; rfl
        rw [q10] at hx
        clear hxi h1 hx10 q10
        go_wp2_with (first | (at_builtin; refine wpList_append_own_at _ rfl (.tmp 16) (.tmp 17) 67 rfl 0 9 i0 (.string ⟨#[]⟩) 1 16 Tryz.underlying67 hi hz0 hz1 hz2 rfl (by decide) (.slice (some ⟨g, 0, none⟩) (m + 1) cap) (m + 1) (strsRow (fs ++ [r])) rfl (HRW.out.alloc _) ⟨wr.heap.size, 0, none⟩ 1 1 [.string ⟨#[]⟩] rfl rfl (cells_newR _ _ (by simp) _ _) (by intro u hu; simp at hu; rcases hu with rfl; rfl) (by unfold maxLen; omega) (by omega) (Nat.zero_le _) ?_; intro v2 w2 r1 r2 r3 r4; have R1 := keepH r1; have R2 := keepH r2; have R4 := keepH r4; clear r1 r2 r3 r4) | go_in)
        go_roundw
        case rel => exact ⟨k + 1, fs ++ [r], [], by omega, by have := HM.out; simp; omega, by first | rfl | go_num, keepH ⟨HNX.out, HK.out.2.more (r := []) (by rw [show (fs ++ [r]).length = m + 1 by rw [HM.out]; simp]; exact R1.out) R2.out R4.out⟩⟩
        case measure => simp [intOf]; omega
      · have HNX := keepH (HK.out.1.no hlt h1)
        have q10 : ¬ ((x : Nat) : Int) = 32 := fun q => h1 (hxi.1 (by rw [show (32 : UInt8).toNat = 32 from rfl]; omega))
        have hcx := HC.out k (k + 1) (by omega) (by omega)
        rw [show (t.drop k).take (k + 1 - k) = [t[k]] by rw [List.drop_eq_getElem_cons hlt, show k + 1 - k = 1 by omega]; rfl] at hcx
        have hrl := HK.out.1.len
        have had := add_str r [t[k]] (by simp; omega)
        obtain ⟨g1, g2⟩ := RowI.cell HM.out.symm HK.out.2
        have HNR := keepH (HK.out.2.set (r' := r ++ [t[k]]) HM.out.symm)
        obtain ⟨r', hr'⟩ : ∃ r', r' = r ++ [t[k]] := ⟨_, rfl⟩
        rw [← hr'] at had HNX HNR
        obtain ⟨sb, hsb⟩ : ∃ sb, sb = mkS [t[k]] := ⟨_, rfl⟩
        obtain ⟨sr, hsr⟩ : ∃ sb, sb = mkS r := ⟨_, rfl⟩
        obtain ⟨sn, hsn⟩ : ∃ sb, sb = mkS r' := ⟨_, rfl⟩
        rw [← hsb] at hcx
        rw [show ((k + 1 : Nat) : Int) = (k : Int) + 1 by omega] at hcx
        rw [← hsb, ← hsr, ← hsn] at had
        rw [← hsr] at g1
        have HSN := keepH hsn
        have qm : IntKind.i64.wrap (((m + 1 : Nat) : Int) - 1) = (m : Int) := by rw [IntKind.wrap_i64]; omega
        have m0 : (0 : Int) ≤ (m : Int) := by omega
        have m1 : (m : Int) < ((m + 1 : Nat) : Int) := by omega
        clear hsb hsr hsn hr' hxi h1
        go_upto_region 7 with fail
        go_region
        go_wp2_with fail
        go_roundw
        case rel => exact ⟨k + 1, fs, r', by omega, by have := HM.out; omega, by first | rfl | go_num, keepH ⟨HNX.out, by rw [HSN.out]; exact ⟨HNR.out.row, HNR.out.chg.drew, HNR.out.new⟩⟩⟩
        case measure => simp [intOf]; omega
    · obtain rfl : k = t.length := by omega
      have t1 : ¬ (t.length : Int) < (s.size : Int) := by omega
      go_wp2_with fail
      go_ret
      exact ⟨_, by simp, fs, r, HK.out.2, HK.out.1⟩
theorem noB_cutG {c : UInt8} {a b r r' : List UInt8} (ha : noB c a) (hb : noB c b) (e : a ++ c :: r = b ++ c :: r') : a = b ∧ r = r' := by
  have h1 := ix_at (r := r) ha
  rw [e, ix_at hb] at h1
  have hl : b.length = a.length := by omega
  have := List.append_inj e hl.symm
  exact ⟨this.1, by injection this.2⟩
theorem joinL_one : ∀ (ls ms : List (List UInt8)) (r : List UInt8), (∀ x ∈ ls, noB 10 x) → (∀ x ∈ ms, noB 10 x) → noB 10 r → joinL ls ++ r = joinL ms → ls = ms
  | [], [], _, _, _, _, _ => rfl
  | [], y :: ms, r, _, _, hr, e => by
    rw [joinL_cons] at e
    have e : r = y ++ 10 :: joinL ms := e
    rw [e] at hr
    exact absurd rfl (hr 10 (by simp))
  | x :: ls, [], r, _, _, _, e => by
    rw [joinL_cons] at e
    simp [joinL] at e
  | x :: ls, y :: ms, r, h1, h2, hr, e => by
    rw [joinL_cons, joinL_cons] at e
    have e' : x ++ 10 :: (joinL ls ++ r) = y ++ 10 :: joinL ms := by simpa using e
    obtain ⟨rfl, e2⟩ := noB_cutG (h1 x (by simp)) (h2 y (by simp)) e'
    rw [joinL_one ls ms r (fun z hz => h1 z (by simp [hz])) (fun z hz => h2 z (by simp [hz])) hr e2]
theorem front_one : ∀ (fs gs : List (List UInt8)) (r q : List UInt8), (∀ x ∈ fs, noB 32 x) → (∀ x ∈ gs, noB 32 x) → noB 32 r → noB 32 q → frontL fs ++ r = frontL gs ++ q → fs = gs ∧ r = q
  | [], [], _, _, _, _, _, _, e => ⟨rfl, e⟩
  | [], y :: gs, r, q, _, _, hr, _, e => by
    rw [frontL_cons] at e
    have e : r = (y ++ 32 :: frontL gs) ++ q := e
    rw [e] at hr
    exact absurd rfl (hr 32 (by simp))
  | x :: fs, [], r, q, _, _, _, hq, e => by
    rw [frontL_cons] at e
    have e : (x ++ 32 :: frontL fs) ++ r = q := e
    rw [← e] at hq
    exact absurd rfl (hq 32 (by simp))
  | x :: fs, y :: gs, r, q, h1, h2, hr, hq, e => by
    rw [frontL_cons, frontL_cons] at e
    have e' : x ++ 32 :: (frontL fs ++ r) = y ++ 32 :: (frontL gs ++ q) := by simpa using e
    obtain ⟨rfl, e2⟩ := noB_cutG (h1 x (by simp)) (h2 y (by simp)) e'
    obtain ⟨rfl, rfl⟩ := front_one fs gs r q (fun z hz => h1 z (by simp [hz])) (fun z hz => h2 z (by simp [hz])) hr hq e2
    exact ⟨rfl, rfl⟩
theorem ln_len {t : List UInt8} {ls : List (List UInt8)} (h : ∃ f, LnR t t.length f ls) : ls.length ≤ t.length ∧ ∀ x ∈ ls, x.length ≤ t.length := by
  obtain ⟨f, r, e1, _, _, _⟩ := h
  rw [List.take_length] at e1
  have q : ∀ ls : List (List UInt8), ls.length ≤ (joinL ls).length ∧ ∀ x ∈ ls, x.length ≤ (joinL ls).length := by
    intro ls
    induction ls with
    | nil => exact ⟨by simp, fun x hx => by simp at hx⟩
    | cons y ys ih =>
      rw [joinL_cons]
      refine ⟨by simp; omega, fun x hx => ?_⟩
      rcases List.mem_cons.1 hx with rfl | hx
      · simp
      · have := ih.2 x hx
        simp
        omega
  have h2 := q ls
  have h3 : t.length = (joinL ls).length + r.length := by rw [e1]; simp
  exact ⟨by omega, fun x hx => by have := h2.2 x hx; omega⟩
theorem wd_split {t : List UInt8} {fs : List (List UInt8)} {r : List UInt8} (h : WdR t t.length fs r) : Lib.split t [32] = fs ++ [r] := by
  obtain ⟨e, hr, hx⟩ := h
  rw [List.take_length] at e
  have key : ∀ (fs : List (List UInt8)) (r : List UInt8), Lib.join (fs ++ [r]) [32] = frontL fs ++ r := by
    intro fs
    induction fs with
    | nil => intro r; simp [Lib.join_one, frontL]
    | cons x l ih =>
      intro r
      cases l with
      | nil => simp [join_cc, Lib.join_one, frontL]
      | cons y l =>
        have := ih r
        rw [List.cons_append, List.cons_append, join_cc, ← List.cons_append, this]
        simp [frontL_cons]
  rw [e, ← key fs r]
  refine split_join _ (by simp) (fun f hf => ?_)
  rcases List.mem_append.mp hf with q | q
  · exact hx f q
  · simp at q; subst q; exact hr
end Go.Proofs.YtmmaniolaljjlaaGreatDoor
