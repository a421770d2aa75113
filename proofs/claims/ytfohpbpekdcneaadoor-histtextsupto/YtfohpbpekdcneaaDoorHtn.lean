/- The document's Lines. -/
import Derived.Test.YtfohpbpekdcneaaDoorHtm
namespace Go.Proofs.YtfohpbpekdcneaaDoor
open Go.RowKit Go.Shelf
set_option linter.unusedVariables false

def joinL (ls : List (List UInt8)) : List UInt8 := (ls.map (fun x => x ++ [10])).flatten
theorem joinL_snoc (ls : List (List UInt8)) (r : List UInt8) : joinL (ls ++ [r]) = joinL ls ++ (r ++ [10]) := by simp [joinL]
theorem joinL_cons (ls : List (List UInt8)) (r : List UInt8) : joinL (r :: ls) = r ++ 10 :: joinL ls := by simp [joinL]
def strsRow (ls : List (List UInt8)) : List Value := ls.map (fun x => Value.string (mkS x))
theorem strsRow_snoc (ls : List (List UInt8)) (r : List UInt8) : strsRow (ls ++ [r]) = strsRow ls ++ [.string (mkS r)] := by simp [strsRow]
def LnR (t : List UInt8) (i f : Nat) (ls : List (List UInt8)) : Prop := ∃ r, t.take i = joinL ls ++ r ∧ f = (joinL ls).length ∧ noB 10 r ∧ (∀ x ∈ ls, noB 10 x)
theorem LnR.no {t : List UInt8} {i f : Nat} {ls : List (List UInt8)} (h : LnR t i f ls) (hi : i < t.length) (hb : ¬ t[i]? = some 10) : LnR t (i + 1) f ls := by
  obtain ⟨r, e, hf, hr, hx⟩ := h
  refine ⟨r ++ [t[i]], ?_, hf, hr.append ?_, hx⟩
  · rw [List.take_add_one, List.getElem?_eq_getElem hi, e]; simp
  · intro x hx' q
    simp at hx'
    exact hb (by rw [List.getElem?_eq_getElem hi, ← hx', q])
theorem LnR.yes {t : List UInt8} {i f : Nat} {ls : List (List UInt8)} (h : LnR t i f ls) (hi : i < t.length) (hb : t[i]? = some 10) : f ≤ i ∧ LnR t (i + 1) (i + 1) (ls ++ [(t.drop f).take (i - f)]) := by
  obtain ⟨r, e, hf, hr, hx⟩ := h
  have hl : (t.take i).length = i := by simp; omega
  have hl2 : i = (joinL ls).length + r.length := by rw [e] at hl; simp at hl; omega
  have hq : (t.drop f).take (i - f) = r := by rw [← List.drop_take, e, hf, List.drop_left]
  rw [hq]
  refine ⟨by omega, [], ?_, ?_, noB_nil _, ?_⟩
  · rw [List.take_add_one, hb, e, joinL_snoc]; simp
  · rw [joinL_snoc]; simp; omega
  · intro x hx'
    rcases List.mem_append.1 hx' with q | q
    · exact hx x q
    · simp at q
      subst q
      exact hr
theorem infoStr : (Tryd.prog.info? 9).map (fun i => (i.zero, i.size, i.bytes)) = some (some (.string ⟨#[]⟩), 1, 16) := by kernel_rfl
theorem idx_str (l : List UInt8) (n : Nat) (hn : n < l.length) (c : UInt8) : ∃ x : Nat, (∀ W, (Instr.index 9 (.string (mkS l)) (.int .i64 (n : Int))).run Tryd.prog W = .ok (.int .u8 (x : Int)) W) ∧ (x = c.toNat ↔ l[n]? = some c) := by
  have hs : n < (mkS l).size := by rw [mkS_size]; exact hn
  refine ⟨((mkS l)[n]'hs).toNat, fun W => ?_, ?_⟩
  · rw [run_index_string W 9 (mkS l) .i64 (n : Int) Tryd.underlying9, dif_pos ⟨by omega, by omega⟩]
    rfl
  · have e : (mkS l)[n]'hs = l[n]'hn := by rfl
    rw [e, List.getElem?_eq_getElem hn]
    constructor
    · intro h
      congr 1
      exact UInt8.toNat_inj.mp h
    · intro h
      injection h with h
      rw [h]
theorem cut_m (t : List UInt8) (f i : Nat) (h : f ≤ i) (hi : i ≤ t.length) (w : World) : (Instr.slice 9 (.string (mkS t)) (some (.int .i64 (f : Int))) (some (.int .i64 (i : Int))) none).run Tryd.prog w = .ok (.string (mkS ((t.drop f).take (i - f)))) w := by
  have hs := mkS_size t
  rw [run_slice_string w 9 (mkS t) .i64 .i64 (f : Int) (i : Int) Tryd.underlying9 (by omega) (by omega) (by omega), mkS_extract]
  rfl
structure RowI (W wr : World) (v : Value) (ls : List (List UInt8)) : Prop where
  row : wr.ownsRow 0 9 1 v ls.length (strsRow ls)
  chg : Chg (fun _ => False) W wr
  new : ∀ b, v.ownBlock = some b → W.heap.size ≤ b
theorem RowI.more {W wr w2 : World} {v v' : Value} {ls : List (List UInt8)} {r : List UInt8} {o : Obj} (h : RowI W wr v ls)
    (hr : w2.ownsRow 0 9 1 v' (ls.length + 1) (strsRow ls ++ [.string (mkS r)])) (hg : (wr.alloc o).grownBy w2 v.ownBlock) (hw : v'.ownBlock = v.ownBlock ∨ v'.ownBlock = some (wr.alloc o).heap.size) : RowI W w2 v' (ls ++ [r]) := by
  have c2 : Chg (fun b => v.ownBlock = some b) wr w2 := ((Chg.refl (fun b => v.ownBlock = some b) wr).alloc o).grown hg (fun k e _ => e)
  have hz := h.chg.size
  refine ⟨by rw [strsRow_snoc, List.length_append]; exact hr, h.chg.trans c2 (fun _ _ x => x) (fun i hi x => by have := h.new _ x; omega), ?_⟩
  intro b hb
  rcases hw with e1 | e1
  · rw [e1] at hb
    exact h.new b hb
  · rw [e1] at hb
    simp at hb
    omega

set_option maxRecDepth 100000 in
set_option maxHeartbeats 4000000 in
theorem r_lines (t : List UInt8) (ht : t.length ≤ 200000000) (W : World) :
    Calls Tryd.prog 20 #[.string (mkS t)] W fun e W' => ∃ v, e = .returned v ∧ ∃ ls, RowI W W' v ls ∧ ∃ f, LnR t t.length f ls := by
  obtain ⟨i0, hi, hz0, hz1, hz2⟩ := info_parts infoStr
  have HI := keepH hi
  have hix := fun n hn => idx_str t n hn 10
  have hcm := cut_m t
  obtain ⟨s, hs⟩ : ∃ s, s = mkS t := ⟨_, rfl⟩
  have hsz : s.size = t.length := by rw [hs, mkS_size]
  rw [← hs] at hix hcm ⊢
  have HX := keepH hix
  have HC := keepH hcm
  clear hi hix hcm hs
  go_enter Tryd.func20, Tryd.ntmps20
  go_wp2_with fail
  go_loopw [3, 4, 5] (fun v f i wr => ∃ (k fk : Nat) (ls : List (List UInt8)), k ≤ t.length ∧ ls.length ≤ k ∧ f = .int .i64 (fk : Int) ∧ i = .int .i64 (k : Int) ∧ Hid (LnR t k fk ls ∧ RowI W wr v ls)) (fun _ _ i _ => t.length - (intOf i).toNat)
  case atStart => exact ⟨0, 0, [], by omega, by simp, rfl, rfl, keepH ⟨⟨[], by simp [joinL], by simp [joinL], noB_nil _, by simp⟩, World.ownsRow_nil _ _ _ _, Chg.refl _ _, fun b hb => by simp [Value.ownBlock] at hb⟩⟩
  case round =>
    obtain ⟨k, fk, ls, hk, hlk, rfl, rfl, HK⟩ := hrel
    by_cases hlt : k < t.length
    · have t1 : (k : Int) < (s.size : Int) := by omega
      have t0 : (0 : Int) ≤ (k : Int) := by omega
      have qw : IntKind.i64.wrap ((k : Int) + 1) = ((k + 1 : Nat) : Int) := by rw [IntKind.wrap_i64]; omega
      obtain ⟨x, hx, hxi⟩ := HX.out k hlt
      by_cases h1 : t[k]? = some 10
      · have hx10 := hxi.2 h1
        obtain ⟨hf, hnx⟩ := HK.out.1.yes hlt h1
        have hcx := HC.out fk k hf (by omega)
        obtain ⟨r, hr⟩ : ∃ r, r = (t.drop fk).take (k - fk) := ⟨_, rfl⟩
        rw [← hr] at hcx hnx
        have hi := HI.out
        obtain ⟨sr, hsr⟩ : ∃ s, s = mkS r := ⟨_, rfl⟩
        rw [← hsr] at hcx
        have HSR := keepH hsr
        have HNX := keepH hnx
        obtain ⟨nl, hnl⟩ : ∃ nl, nl = ls.length := ⟨_, rfl⟩
        have HNL := keepH hnl
        have HRW : Hid (wr.ownsRow 0 9 1 u3 nl (strsRow ls)) := by rw [hnl]; exact HK.out.2.row
        have hnl2 : nl ≤ 200000000 := by omega
        have q10 : ((x : Nat) : Int) = 10 := by rw [hx10]; rfl
        rw [q10] at hx
        clear hsr hr hnx hxi h1 hf hx10 hnl q10
        go_wp2_with (first | (at_builtin; refine wpList_append_own_at _ rfl (.tmp 16) (.tmp 21) 49 rfl 0 9 i0 (.string ⟨#[]⟩) 1 16 Tryd.underlying49 hi hz0 hz1 hz2 rfl (by decide) u3 nl (strsRow ls) rfl (HRW.out.alloc _) ⟨wr.heap.size, 0, none⟩ 1 1 [.string sr] rfl rfl (cells_new _ _ (by simp) _ _) (by intro u hu; simp at hu; rcases hu with rfl; rfl) (by unfold maxLen; omega) (by omega) (Nat.zero_le _) ?_; intro v2 w2 r1 r2 r3 r4; have R1 := keepH r1; have R2 := keepH r2; have R4 := keepH r4; clear r1 r2 r3 r4) | go_in)
        go_roundw
        case rel => exact ⟨k + 1, k + 1, ls ++ [r], by omega, by simp; omega, by first | rfl | go_num, by first | rfl | go_num, keepH ⟨HNX.out, HK.out.2.more (by rw [← HSR.out, ← HNL.out]; exact R1.out) R2.out R4.out⟩⟩
        case measure => simp [intOf]; omega
      · have HNX := keepH (HK.out.1.no hlt h1)
        have q10 : ¬ ((x : Nat) : Int) = 10 := fun q => h1 (hxi.1 (by rw [show (10 : UInt8).toNat = 10 from rfl]; omega))
        clear hxi h1
        go_wp2_with fail
        go_roundw
        case rel => exact ⟨k + 1, fk, ls, by omega, by omega, rfl, by first | rfl | go_num, keepH ⟨HNX.out, HK.out.2⟩⟩
        case measure => simp [intOf]; omega
    · obtain rfl : k = t.length := by omega
      have t1 : ¬ (t.length : Int) < (s.size : Int) := by omega
      go_wp2_with fail
      go_ret
      exact ⟨u3, by simp, ls, HK.out.2, fk, HK.out.1⟩
end Go.Proofs.YtfohpbpekdcneaaDoor
