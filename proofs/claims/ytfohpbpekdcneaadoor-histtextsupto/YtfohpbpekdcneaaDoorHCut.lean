/- hist.Cut: a history up to a step, in memory of its own. -/
import Derived.Test.YtfohpbpekdcneaaDoorHSpans
namespace Go.Proofs.YtfohpbpekdcneaaDoor
open Go.RowKit Go.Maps

def cutS (s : Sp) (step : Int) : Sp := if step < s.to then ⟨s.th, s.ix, s.fr, -1⟩ else s
def cutN (l : List Sp) (step : Int) : Nat → List Sp
  | 0 => []
  | k + 1 => match l[k]? with
    | none => cutN l step k
    | some s => if step < s.fr then cutN l step k else cutN l step k ++ [cutS s step]
theorem cutN_le (l : List Sp) (step : Int) (k : Nat) : (cutN l step k).length ≤ k := by
  induction k with
  | zero => simp [cutN]
  | succ k ih =>
    rw [cutN]
    split
    · omega
    · split
      · omega
      · simp; omega
theorem cutN_no {l : List Sp} {step : Int} {k : Nat} {s : Sp} (hs : l[k]? = some s) (h : step < s.fr) : cutN l step (k + 1) = cutN l step k := by rw [cutN, hs]; simp only; rw [if_pos h]
theorem cutN_yes {l : List Sp} {step : Int} {k : Nat} {s : Sp} (hs : l[k]? = some s) (h : ¬ step < s.fr) : cutN l step (k + 1) = cutN l step k ++ [cutS s step] := by rw [cutN, hs]; simp only; rw [if_neg h]
structure CI (l : List Sp) (step : Int) (W wr : World) (k : Nat) (v : Value) : Prop where
  row : wr.ownsRow 0 38 4 v (cutN l step k).length (spRow (cutN l step k))
  chg : Chg (fun _ => False) W wr
  new : ∀ b, v.ownBlock = some b → W.heap.size ≤ b
theorem CI.more {l : List Sp} {step : Int} {W wr w1 w2 : World} {k : Nat} {v v' : Value} {s : Sp} {o : Obj} (h : CI l step W wr k v) (hs : l[k]? = some s) (hf : ¬ step < s.fr) (hc : Chg (fun _ => False) wr w1)
    (hr : w2.ownsRow 0 38 4 v' ((cutN l step k).length + 1) (spRow (cutN l step k) ++ [.int .i64 (cutS s step).th, .int .i64 (cutS s step).ix, .int .i64 (cutS s step).fr, .int .i64 (cutS s step).to])) (hg : (w1.alloc o).grownBy w2 v.ownBlock) (hw : v'.ownBlock = v.ownBlock ∨ v'.ownBlock = some (w1.alloc o).heap.size) : CI l step W w2 (k + 1) v' := by
  have c0 := h.chg.trans hc (H := fun _ => False) (fun _ _ x => x) (fun _ _ x => x)
  have c2 : Chg (fun b => v.ownBlock = some b) w1 w2 := ((Chg.refl (fun b => v.ownBlock = some b) w1).alloc o).grown hg (fun k e _ => e)
  have hz := c0.size
  refine ⟨?_, c0.trans c2 (fun _ _ x => x) (fun i hi x => by have := h.new _ x; omega), ?_⟩
  · rw [cutN_yes hs hf, List.length_append]
    unfold spRow at *
    rw [List.flatMap_append]
    exact hr
  · intro b hb
    rcases hw with e1 | e1
    · rw [e1] at hb
      exact h.new b hb
    · rw [e1] at hb
      simp at hb
      omega
set_option maxRecDepth 100000 in
set_option maxHeartbeats 8000000 in
theorem h_cut (p : Option Addr) (c : Nat) (step : Int) (l : List Sp) (W : World) (h : SReads W p l) (hl : l.length ≤ 4398046511000) :
    Calls Tryd.prog 11 #[.slice p l.length c, .int .i64 step] W fun e W' => ∃ v, e = .returned v ∧ W'.ownsRow 0 38 4 v (cutN l step l.length).length (spRow (cutN l step l.length)) ∧ (∀ b, v.ownBlock = some b → W.heap.size ≤ b) ∧ Chg (fun _ => False) W W' := by
  obtain ⟨i0, hi, hz0, hz1, hz2⟩ := info_parts infoSpan
  have HP := keepH h
  have HI := keepH hi
  clear h hi
  go_enter Tryd.func11, Tryd.ntmps11
  go_wp2_with fail
  go_loopw [5, 10] (fun v s wr => ∃ k : Nat, k ≤ l.length ∧ s = .int .i64 (k : Int) ∧ Hid (CI l step W wr k v)) (fun _ s _ => l.length - (intOf s).toNat)
  case atStart => exact ⟨0, by omega, rfl, keepH ⟨World.ownsRow_nil _ _ _ _, Chg.refl _ _, fun b hb => by simp [Value.ownBlock] at hb⟩⟩
  case round =>
    obtain ⟨k, hk, rfl, HK⟩ := hrel
    by_cases hlt : k < l.length
    · have t1 : (k : Int) < (l.length : Int) := by omega
      obtain ⟨s, hs⟩ : ∃ s, l[k]? = some s := ⟨l[k], List.getElem?_eq_getElem hlt⟩
      obtain ⟨bk, off, rfl, _, c0, c1, c2, c3⟩ := (HP.out.chg HK.out.chg (fun _ _ x => x)).get k s hs
      have HX := keepH hs
      have hfl : (cutN l step k).length ≤ 4398046511000 := by have := cutN_le l step k; omega
      obtain ⟨fl, hfl2⟩ : ∃ fl, fl = (cutN l step k).length := ⟨_, rfl⟩
      rw [← hfl2] at hfl
      have HFL := keepH hfl2
      have HRW : Hid (wr.ownsRow 0 38 4 u5 fl (spRow (cutN l step k))) := by rw [HFL.out]; exact HK.out.row
      clear hs hfl2
      by_cases h1 : step < s.fr
      · go_wp2_with fail
        go_roundw
        case rel => exact ⟨k + 1, by omega, by first | rfl | go_num, keepH ⟨by rw [cutN_no HX.out h1]; exact HK.out.row.alloc _, HK.out.chg.alloc _, HK.out.new⟩⟩
        case measure => simp [intOf]; omega
      · have hi := HI.out
        by_cases h2 : step < s.to
        · have HCS : Hid (cutS s step = ⟨s.th, s.ix, s.fr, -1⟩) := by show _ = _; unfold cutS; rw [if_pos h2]
          go_wp2_with (first | (at_builtin; refine wpList_append_own_at _ rfl (.tmp 23) (.tmp 25) 22 rfl 0 38 i0 (.agg #[.int .i64 0, .int .i64 0, .int .i64 0, .int .i64 0]) 4 32 Tryd.underlying22 hi hz0 hz1 hz2 rfl (by decide) u5 fl (spRow (cutN l step k)) rfl ((HRW.out.alloc _).alloc _) ⟨wr.heap.size + 1, 0, none⟩ 1 1 [.int .i64 s.th, .int .i64 s.ix, .int .i64 s.fr, .int .i64 (-1)] rfl rfl (cells_new _ _ (by simp) _ _) (by intro u hu; simp at hu; rcases hu with rfl | rfl | rfl | rfl <;> rfl) (by unfold maxLen; omega) (by omega) (Nat.zero_le _) ?_; intro v2 w2 r1 r2 r3 r4; have R1 := keepH r1; have R2 := keepH r2; have R4 := keepH r4; clear r1 r2 r3 r4) | go_in)
          go_roundw
          case rel => exact ⟨k + 1, by omega, by first | rfl | go_num, keepH (HK.out.more HX.out h1 ((Chg.refl _ _).alloc _) (by rw [HCS.out, ← HFL.out]; exact R1.out) R2.out R4.out)⟩
          case measure => simp [intOf]; omega
        · have HCS : Hid (cutS s step = s) := by show _ = _; unfold cutS; rw [if_neg h2]
          go_wp2_with (first | (at_builtin; refine wpList_append_own_at _ rfl (.tmp 23) (.tmp 25) 22 rfl 0 38 i0 (.agg #[.int .i64 0, .int .i64 0, .int .i64 0, .int .i64 0]) 4 32 Tryd.underlying22 hi hz0 hz1 hz2 rfl (by decide) u5 fl (spRow (cutN l step k)) rfl ((HRW.out.alloc _).alloc _) ⟨wr.heap.size + 1, 0, none⟩ 1 1 [.int .i64 s.th, .int .i64 s.ix, .int .i64 s.fr, .int .i64 s.to] rfl rfl (cells_new _ _ (by simp) _ _) (by intro u hu; simp at hu; rcases hu with rfl | rfl | rfl | rfl <;> rfl) (by unfold maxLen; omega) (by omega) (Nat.zero_le _) ?_; intro v2 w2 r1 r2 r3 r4; have R1 := keepH r1; have R2 := keepH r2; have R4 := keepH r4; clear r1 r2 r3 r4) | go_in)
          go_roundw
          case rel => exact ⟨k + 1, by omega, by first | rfl | go_num, keepH (HK.out.more HX.out h1 ((Chg.refl _ _).alloc _) (by rw [HCS.out, ← HFL.out]; exact R1.out) R2.out R4.out)⟩
          case measure => simp [intOf]; omega
    · obtain rfl : k = l.length := by omega
      have t1 : ¬ (l.length : Int) < (l.length : Int) := by omega
      go_wp2_with fail
      go_ret
      exact ⟨u5, by simp, HK.out.row, HK.out.new, HK.out.chg⟩
end Go.Proofs.YtfohpbpekdcneaaDoor
