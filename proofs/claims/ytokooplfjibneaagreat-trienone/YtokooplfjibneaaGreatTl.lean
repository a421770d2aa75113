/- A Find of key 7, alone; what procs of the trie tell. -/
import Derived.Test.YtokooplfjibneaaGreatTk
namespace Go.Proofs.YtokooplfjibneaaGreat
open Go.RowKit Go.Shelf
set_option linter.unusedVariables false

def M0 (p q : Nat) : List Value := wayL 1 7 mx7 6 0 (.pointer (some ⟨q, 0, none⟩)) 0 0 0 false 0 (fnV 59 p) (fnV 20 p) (fnV 20 p) (fnV 20 p) false 0 []
def M3 (p q : Nat) : List Value := wayL 1 7 mx7 6 0 (.pointer (some ⟨q, 0, none⟩)) 133 66 0 false 0 (fnV 76 p) (fnV 20 p) (fnV 20 p) (fnV 20 p) false 0 []
def M4 (p q : Nat) : List Value := wayL 1 7 mx7 6 0 (.pointer (some ⟨q, 0, none⟩)) 133 66 7 false 0 (fnV 90 p) (fnV 20 p) (fnV 20 p) (fnV 20 p) false 0 []
def M5 (p q : Nat) : List Value := wayL 1 7 mx7 6 0 (.pointer (some ⟨q, 0, none⟩)) 133 66 7 true 1 .nilFunc (fnV 20 p) (fnV 20 p) (fnV 20 p) true 1 []
def D0 (p : Nat) : Nat → Prop := fun k => k = p
def FdInv (W : World) (m b v most p q made n : Nat) : Nat → World → Prop
  | 0, w => CS W m b v most w 71 made cs4 n (D0 p) q 150 (r0L 1 6) none 1 0 0 ∧ Blk w p 51 (M0 p q)
  | 1, w => CS W m b v most w 71 (made + 1) cs4 (n + 1) (D0 p) q 150 (r1L 1 6 68) none 1 0 0 ∧ Blk w p 51 (M0 p q)
  | 2, w => CS W m b v most w 71 (made + 2) cs4 (n + 2) (D0 p) q 150 (r2L 1 6 68) none 1 0 0 ∧ Blk w p 51 (M0 p q)
  | 3, w => SR W m b v 0 most w 71 (made + 3) cs4 (n + 3) (D0 p) ∧ Blk w p 51 (M3 p q)
  | 4, w => SR W m b v 0 most w 71 (made + 4) cs4 (n + 4) (D0 p) ∧ Blk w p 51 (M4 p q)
  | _, w => SR W m b v 0 most w 71 (made + 5) cs4 (n + 5) (D0 p) ∧ Blk w p 51 (M5 p q)
theorem frdF {W : World} {m b v most : Nat} {w : World} {next made : Nat} {cs : List Nat} {n : Nat} {l : List Value} {cam st p q : Nat} (h : CS W m b v most w next made cs n (D0 p) q 150 l none cam 0 st) (hp : Blk w p 51 (M0 p q)) {l' : List Value}
    (hs : ∀ w0 D', CS W m b v most w0 next made cs n D' q 150 l none cam 0 st → Calls Tryz.prog 74 #[.pointer (some ⟨q, 0, none⟩), .pointer (some ⟨v, 0, none⟩)] w0 fun e w1 => e = .returned (.bool false) ∧ CS W m b v most w1 next (made + 1) cs (n + 1) D' q 150 l' none cam 0 st ∧ ∀ k, D' k → w1.heap[k]? = w0.heap[k]?) :
    Calls Tryz.prog 39 #[.iface 25 (.pointer (some ⟨p, 0, none⟩)), .pointer (some ⟨v, 0, none⟩)] w fun e w' => e = .returned (.bool false) ∧ CS W m b v most w' next (made + 1) cs (n + 1) (D0 p) q 150 l' none cam 0 st ∧ Blk w' p 51 (M0 p q) := by
  have c0 := h.alloc (.cells #[.bool false] 4)
  have hp0 : Blk (w.alloc (.cells #[.bool false] 4)) p 51 (M0 p q) := alloc_of hp _
  have hpl := lt_of hp
  refine (sfind p _ false _ w (step_tDownF hp0 rfl _ _ (down_F hp0 rfl _ _ (hs _ _ c0)) (fun w1 hr => ?_)) (fun w1 hr => hr.2 _ (.inr rfl))).mono ?_
  · have hp1 : Blk w1 p 51 (M0 p q) := (hr.2 p (.inl rfl)).trans hp0
    exact ⟨_, _, hp1.cell 16⟩
  · rintro e w' ⟨rfl, w1, ⟨hq, hk⟩, rfl⟩
    exact ⟨rfl, hq.drop _, (Below.heap_setCell _ _ _ _ (by show p ≠ w.heap.size; omega)).trans ((hk p (.inl rfl)).trans hp0)⟩
set_option maxRecDepth 100000 in
set_option maxHeartbeats 2000000 in
theorem fdinv_step (W : World) (m b v most p q made n : Nat) (hm : made < 1000000) (hn : n < 1000000) (i : Nat) (w : World) (hi : i ≤ 4) (h : FdInv W m b v most p q made n i w) :
    Calls Tryz.prog 39 #[.iface 25 (.pointer (some ⟨p, 0, none⟩)), .pointer (some ⟨v, 0, none⟩)] w fun e w' => e = .returned (.bool (decide (i = 4))) ∧ FdInv W m b v most p q made n (i + 1) w' := by
  match i, hi, h with
  | 0, _, h => exact frdF h.1 h.2 (fun w0 D' h => rd_s1 h (by decide) (by decide) (by decide) (by omega) (by omega))
  | 1, _, h => exact frdF h.1 h.2 (fun w0 D' h => rd_s2 (a := 69) (s := 1) h (by decide) (by decide) (by decide) (by decide) (by omega) (by omega))
  | 2, _, h =>
    obtain ⟨hc, hp⟩ := h
    have c0 := hc.alloc (.cells #[.bool false] 4)
    have hp0 : Blk (w.alloc (.cells #[.bool false] 4)) p 51 (M0 p q) := alloc_of hp _
    have hpl := lt_of hp
    have hr := rd_s3 (x := 133) c0 (by decide) (by decide) (by omega) (by omega)
    have hd := down_leaf (wd := 0) (lf := 0) (ly := 0) hp0 ⟨_, _, rfl⟩ (.pointer (some ⟨v, 0, none⟩)) _ hr (fun y hy => (hy.2 p (.inl rfl)).trans hp0) 133 66 (fun y hy => ⟨_, _, hy.1.blk, rfl⟩) (by decide) (by decide)
    refine (sfind p _ false _ w (step_tDownF hp0 rfl _ _ hd (fun w1 hr => ?_)) (fun w1 hr => ?_)).mono ?_
    · obtain ⟨y, hy, C, P⟩ := hr
      exact ⟨_, _, P.cell 16⟩
    · obtain ⟨y, hy, C, P⟩ := hr
      have hyz := hy.1.sr.lt w.heap.size (.inl (.inr rfl))
      exact (C.block _ hyz (by show w.heap.size ≠ p; omega)).trans (hy.2 _ (.inr rfl))
    · rintro e w' ⟨rfl, w1, ⟨y, ⟨hC, hK⟩, C, P⟩, rfl⟩
      have S1 : SR W m b v 0 most w1 71 (made + 3) cs4 (n + 3) (fun k => D0 p k ∨ k = w.heap.size) := (hC.sr.mono (E := fun k => D0 p k ∨ k = w.heap.size) (fun k e => .inl e)).put C (fun k e => .inl e)
      exact ⟨rfl, S1.drp _, (Below.heap_setCell _ _ _ _ (by show p ≠ w.heap.size; omega)).trans P⟩
  | 3, _, h =>
    obtain ⟨hS, hp⟩ := h
    have c0 := hS.alloc (.cells #[.bool false] 4)
    have hp0 : Blk (w.alloc (.cells #[.bool false] 4)) p 51 (M3 p q) := alloc_of hp _
    have hpl := lt_of hp
    have hL := c0.load 66 (by decide) (by omega) (by omega)
    rw [show cellN cs4 66 = 7 by decide] at hL
    have hd := wlook_key (ly := 0) hp0 ⟨_, _, rfl⟩ (.pointer (some ⟨v, 0, none⟩)) _ hL (fun y hy => (hy.2 p (.inl rfl)).trans hp0)
    refine (sfind p _ false _ w (step_tLookKeyF hp0 rfl _ _ hd (fun w1 hr => ?_)) (fun w1 hr => ?_)).mono ?_
    · obtain ⟨y, hy, C, P⟩ := hr
      exact ⟨_, _, P.cell 16⟩
    · obtain ⟨y, hy, C, P⟩ := hr
      have hyz := hy.1.lt w.heap.size (.inr rfl)
      exact (C.block _ hyz (by show w.heap.size ≠ p; omega)).trans (hy.2 _ (.inr rfl))
    · rintro e w' ⟨rfl, w1, ⟨y, ⟨hC, hK⟩, C, P⟩, rfl⟩
      exact ⟨rfl, SR.drp (D := D0 p) (hC.put C (fun k e => .inl e)) _, (Below.heap_setCell _ _ _ _ (by show p ≠ w.heap.size; omega)).trans P⟩
  | 4, _, h =>
    obtain ⟨hS, hp⟩ := h
    have c0 := hS.alloc (.cells #[.bool false] 4)
    have hp0 : Blk (w.alloc (.cells #[.bool false] 4)) p 51 (M4 p q) := alloc_of hp _
    have hpl := lt_of hp
    have hL := c0.load 67 (by decide) (by omega) (by omega)
    rw [show cellN cs4 67 = 1 by decide] at hL
    have hd := look_value_tell (lf := 66) hp0 (.pointer (some ⟨v, 0, none⟩)) _ 67 1 (by decide) hL (fun y hy => (hy.2 p (.inl rfl)).trans hp0)
    refine (sfind p _ true _ w (step_tLookValueT hp0 rfl _ _ hd (fun w1 hr => ?_)) (fun w1 hr => ?_)).mono ?_
    · obtain ⟨y, hy, C, P⟩ := hr
      exact P.cell 16
    · obtain ⟨y, hy, C, P⟩ := hr
      have hyz := hy.1.lt w.heap.size (.inr rfl)
      exact (C.block _ hyz (by show w.heap.size ≠ p; omega)).trans (hy.2 _ (.inr rfl))
    · rintro e w' ⟨rfl, w1, ⟨y, ⟨hC, hK⟩, C, P⟩, rfl⟩
      exact ⟨rfl, SR.drp (D := D0 p) (hC.put C (fun k e => .inl e)) _, (Below.heap_setCell _ _ _ _ (by show p ≠ w.heap.size; omega)).trans P⟩
set_option maxRecDepth 100000 in
set_option maxHeartbeats 1000000 in
theorem find_answer {p : Nat} {t : TypeId} {cam key mixd obj lvl wd lf ly fx ax : Nat} {rd nx no ot sa : Value} {fd ad : Bool} {rest : List Value} (W : World) (hp : Blk W p t (wayL cam key mixd obj lvl rd wd lf ly fd fx nx no ot sa ad ax rest)) : Calls Tryz.prog 11 #[.pointer (some ⟨p, 0, none⟩)] W fun e W' => e = .returned (.agg #[.int .i64 0, .bool ad, .int .u64 (ax : Int), .bool false, .int .u64 0, .slice none 0 0, .int .u64 0]) ∧ Chg (fun _ => False) W W' := by
  obtain ⟨w0, hw0⟩ : ∃ w0, w0 = W.alloc (.cells #[.int .i64 0, .bool false, .int .u64 0, .bool false, .int .u64 0, .slice none 0 0, .int .u64 0] 37) := ⟨_, rfl⟩
  have C0 : Chg (fun _ => False) W w0 := by rw [hw0]; exact (Chg.refl _ _).alloc _
  have B0 : Blk w0 W.heap.size 37 (ansL false 0) := by rw [hw0]; exact heap_alloc_new _ _
  obtain ⟨w1, hw1⟩ : ∃ w1, w1 = w0.setCells W.heap.size 0 (#[.int .i64 0, .bool ad, .int .u64 (ax : Int), .bool false, .int .u64 0, .slice none 0 0, .int .u64 0] : Array Value).toList := ⟨_, rfl⟩
  have B1 : Blk w1 W.heap.size 37 (#[.int .i64 0, .bool ad, .int .u64 (ax : Int), .bool false, .int .u64 0, .slice none 0 0, .int .u64 0] : Array Value).toList := by
    rw [hw1]
    exact setCells_of 37 W.heap.size (#[.int .i64 0, .bool ad, .int .u64 (ax : Int), .bool false, .int .u64 0, .slice none 0 0, .int .u64 0] : Array Value).toList [] (ansL false 0) [] w0 B0 rfl
  have C1 : Chg (fun _ => False) W w1 := by rw [hw1]; exact C0.trans (setCells_chg W.heap.size _ 0 _) (fun _ _ x => x) (fun i hi e => by omega)
  have HTH : Hid (w0.there W.heap.size 0 7) := there_of B0 0 7 (by simp [ansL])
  have HW := keepH hw1
  have HC1 := keepH C1
  have q0 : w1.cell? ⟨W.heap.size, 0, none⟩ = some (.int .i64 0) := B1.cell 0
  have q1 : w1.cell? ⟨W.heap.size, 1, none⟩ = some (.bool ad) := B1.cell 1
  have q2 : w1.cell? ⟨W.heap.size, 2, none⟩ = some (.int .u64 (ax : Int)) := B1.cell 2
  have q3 : w1.cell? ⟨W.heap.size, 3, none⟩ = some (.bool false) := B1.cell 3
  have q4 : w1.cell? ⟨W.heap.size, 4, none⟩ = some (.int .u64 0) := B1.cell 4
  have q5 : w1.cell? ⟨W.heap.size, 5, none⟩ = some (.slice none 0 0) := B1.cell 5
  have q6 : w1.cell? ⟨W.heap.size, 6, none⟩ = some (.int .u64 0) := B1.cell 6
  have P0 : Blk w0 p t (wayL cam key mixd obj lvl rd wd lf ly fd fx nx no ot sa ad ax rest) := by rw [hw0]; exact alloc_of hp _
  have r0 : w0.cell? ⟨p, 20, none⟩ = some (.int .i64 0) := P0.cell 20
  have r1 : w0.cell? ⟨p, 21, none⟩ = some (.bool ad) := P0.cell 21
  have r2 : w0.cell? ⟨p, 22, none⟩ = some (.int .u64 (ax : Int)) := P0.cell 22
  have r3 : w0.cell? ⟨p, 23, none⟩ = some (.bool false) := P0.cell 23
  have r4 : w0.cell? ⟨p, 24, none⟩ = some (.int .u64 0) := P0.cell 24
  have r5 : w0.cell? ⟨p, 25, none⟩ = some (.slice none 0 0) := P0.cell 25
  have r6 : w0.cell? ⟨p, 26, none⟩ = some (.int .u64 0) := P0.cell 26
  clear hp P0
  clear hw1 C0 B0 B1 C1
  go_enter Tryz.func11, Tryz.ntmps11
  go_upto_region 1 with fail
  rw [← hw0]
  clear hw0
  go_wp2_with (refine wpList_store_mid rfl 37 (.tmp 2) (.tmp 10) rfl W.heap.size 0 #[.int .i64 0, .bool ad, .int .u64 (ax : Int), .bool false, .int .u64 0, .slice none 0 0, .int .u64 0] rfl rfl HTH.out (ans_size ad ax) (ans_one ad ax) ?_; rw [← HW.out]; clear HW HTH)
  (try go_wp2_with fail)
  refine bodyPost_ret (v := .agg #[.int .i64 0, .bool ad, .int .u64 (ax : Int), .bool false, .int .u64 0, .slice none 0 0, .int .u64 0]) (by simp [results, Tryz.results11, go_sem, q0, q1, q2, q3, q4, q5, q6]) rfl ⟨rfl, HC1.out⟩
set_option maxRecDepth 100000 in
set_option maxHeartbeats 1000000 in
theorem nil_FindAnswer  (W : World) : Calls Tryz.prog 11 #[.pointer none] W fun e W' => e = .returned (.agg #[.int .i64 1, .bool false, .int .u64 0, .bool false, .int .u64 0, .slice none 0 0, .int .u64 0]) ∧ Chg (fun _ => False) W W' := by
  obtain ⟨w0, hw0⟩ : ∃ w0, w0 = W.alloc (.cells #[.int .i64 0, .bool false, .int .u64 0, .bool false, .int .u64 0, .slice none 0 0, .int .u64 0] 37) := ⟨_, rfl⟩
  have C0 : Chg (fun _ => False) W w0 := by rw [hw0]; exact (Chg.refl _ _).alloc _
  have B0 : Blk w0 W.heap.size 37 (ansL false 0) := by rw [hw0]; exact heap_alloc_new _ _
  obtain ⟨w1, hw1⟩ : ∃ w1, w1 = w0.setCells W.heap.size 0 (#[.int .i64 1, .bool false, .int .u64 0, .bool false, .int .u64 0, .slice none 0 0, .int .u64 0] : Array Value).toList := ⟨_, rfl⟩
  have B1 : Blk w1 W.heap.size 37 (#[.int .i64 1, .bool false, .int .u64 0, .bool false, .int .u64 0, .slice none 0 0, .int .u64 0] : Array Value).toList := by
    rw [hw1]
    exact setCells_of 37 W.heap.size (#[.int .i64 1, .bool false, .int .u64 0, .bool false, .int .u64 0, .slice none 0 0, .int .u64 0] : Array Value).toList [] (ansL false 0) [] w0 B0 rfl
  have C1 : Chg (fun _ => False) W w1 := by rw [hw1]; exact C0.trans (setCells_chg W.heap.size _ 0 _) (fun _ _ x => x) (fun i hi e => by omega)
  have HTH : Hid (w0.there W.heap.size 0 7) := there_of B0 0 7 (by simp [ansL])
  have HW := keepH hw1
  have HC1 := keepH C1
  have q0 : w1.cell? ⟨W.heap.size, 0, none⟩ = some (.int .i64 1) := B1.cell 0
  have q1 : w1.cell? ⟨W.heap.size, 1, none⟩ = some (.bool false) := B1.cell 1
  have q2 : w1.cell? ⟨W.heap.size, 2, none⟩ = some (.int .u64 0) := B1.cell 2
  have q3 : w1.cell? ⟨W.heap.size, 3, none⟩ = some (.bool false) := B1.cell 3
  have q4 : w1.cell? ⟨W.heap.size, 4, none⟩ = some (.int .u64 0) := B1.cell 4
  have q5 : w1.cell? ⟨W.heap.size, 5, none⟩ = some (.slice none 0 0) := B1.cell 5
  have q6 : w1.cell? ⟨W.heap.size, 6, none⟩ = some (.int .u64 0) := B1.cell 6
  clear hw1 C0 B0 B1 C1
  go_enter Tryz.func11, Tryz.ntmps11
  go_upto_region 1 with fail
  rw [← hw0]
  clear hw0
  go_wp2_with (refine wpList_store_mid rfl 37 (.tmp 2) (.tmp 5) rfl W.heap.size 0 #[.int .i64 1, .bool false, .int .u64 0, .bool false, .int .u64 0, .slice none 0 0, .int .u64 0] rfl rfl HTH.out (by kernel_rfl) (by kernel_rfl) ?_; rw [← HW.out]; clear HW HTH)
  (try go_wp2_with fail)
  refine bodyPost_ret (v := .agg #[.int .i64 1, .bool false, .int .u64 0, .bool false, .int .u64 0, .slice none 0 0, .int .u64 0]) (by simp [results, Tryz.results11, go_sem, q0, q1, q2, q3, q4, q5, q6]) rfl ⟨rfl, HC1.out⟩
set_option maxRecDepth 100000 in
set_option maxHeartbeats 1000000 in
theorem nil_PutAnswer  (W : World) : Calls Tryz.prog 12 #[.pointer none] W fun e W' => e = .returned (.agg #[.int .i64 1, .bool false, .int .u64 0, .bool false, .int .u64 0, .slice none 0 0, .int .u64 0]) ∧ Chg (fun _ => False) W W' := by
  obtain ⟨w0, hw0⟩ : ∃ w0, w0 = W.alloc (.cells #[.int .i64 0, .bool false, .int .u64 0, .bool false, .int .u64 0, .slice none 0 0, .int .u64 0] 37) := ⟨_, rfl⟩
  have C0 : Chg (fun _ => False) W w0 := by rw [hw0]; exact (Chg.refl _ _).alloc _
  have B0 : Blk w0 W.heap.size 37 (ansL false 0) := by rw [hw0]; exact heap_alloc_new _ _
  obtain ⟨w1, hw1⟩ : ∃ w1, w1 = w0.setCells W.heap.size 0 (#[.int .i64 1, .bool false, .int .u64 0, .bool false, .int .u64 0, .slice none 0 0, .int .u64 0] : Array Value).toList := ⟨_, rfl⟩
  have B1 : Blk w1 W.heap.size 37 (#[.int .i64 1, .bool false, .int .u64 0, .bool false, .int .u64 0, .slice none 0 0, .int .u64 0] : Array Value).toList := by
    rw [hw1]
    exact setCells_of 37 W.heap.size (#[.int .i64 1, .bool false, .int .u64 0, .bool false, .int .u64 0, .slice none 0 0, .int .u64 0] : Array Value).toList [] (ansL false 0) [] w0 B0 rfl
  have C1 : Chg (fun _ => False) W w1 := by rw [hw1]; exact C0.trans (setCells_chg W.heap.size _ 0 _) (fun _ _ x => x) (fun i hi e => by omega)
  have HTH : Hid (w0.there W.heap.size 0 7) := there_of B0 0 7 (by simp [ansL])
  have HW := keepH hw1
  have HC1 := keepH C1
  have q0 : w1.cell? ⟨W.heap.size, 0, none⟩ = some (.int .i64 1) := B1.cell 0
  have q1 : w1.cell? ⟨W.heap.size, 1, none⟩ = some (.bool false) := B1.cell 1
  have q2 : w1.cell? ⟨W.heap.size, 2, none⟩ = some (.int .u64 0) := B1.cell 2
  have q3 : w1.cell? ⟨W.heap.size, 3, none⟩ = some (.bool false) := B1.cell 3
  have q4 : w1.cell? ⟨W.heap.size, 4, none⟩ = some (.int .u64 0) := B1.cell 4
  have q5 : w1.cell? ⟨W.heap.size, 5, none⟩ = some (.slice none 0 0) := B1.cell 5
  have q6 : w1.cell? ⟨W.heap.size, 6, none⟩ = some (.int .u64 0) := B1.cell 6
  clear hw1 C0 B0 B1 C1
  go_enter Tryz.func12, Tryz.ntmps12
  go_upto_region 1 with fail
  rw [← hw0]
  clear hw0
  go_wp2_with (refine wpList_store_mid rfl 37 (.tmp 2) (.tmp 5) rfl W.heap.size 0 #[.int .i64 1, .bool false, .int .u64 0, .bool false, .int .u64 0, .slice none 0 0, .int .u64 0] rfl rfl HTH.out (by kernel_rfl) (by kernel_rfl) ?_; rw [← HW.out]; clear HW HTH)
  (try go_wp2_with fail)
  refine bodyPost_ret (v := .agg #[.int .i64 1, .bool false, .int .u64 0, .bool false, .int .u64 0, .slice none 0 0, .int .u64 0]) (by simp [results, Tryz.results12, go_sem, q0, q1, q2, q3, q4, q5, q6]) rfl ⟨rfl, HC1.out⟩
set_option maxRecDepth 100000 in
set_option maxHeartbeats 1000000 in
theorem nil_RemoveAnswer  (W : World) : Calls Tryz.prog 13 #[.pointer none] W fun e W' => e = .returned (.agg #[.int .i64 1, .bool false, .int .u64 0, .bool false, .int .u64 0, .slice none 0 0, .int .u64 0]) ∧ Chg (fun _ => False) W W' := by
  obtain ⟨w0, hw0⟩ : ∃ w0, w0 = W.alloc (.cells #[.int .i64 0, .bool false, .int .u64 0, .bool false, .int .u64 0, .slice none 0 0, .int .u64 0] 37) := ⟨_, rfl⟩
  have C0 : Chg (fun _ => False) W w0 := by rw [hw0]; exact (Chg.refl _ _).alloc _
  have B0 : Blk w0 W.heap.size 37 (ansL false 0) := by rw [hw0]; exact heap_alloc_new _ _
  obtain ⟨w1, hw1⟩ : ∃ w1, w1 = w0.setCells W.heap.size 0 (#[.int .i64 1, .bool false, .int .u64 0, .bool false, .int .u64 0, .slice none 0 0, .int .u64 0] : Array Value).toList := ⟨_, rfl⟩
  have B1 : Blk w1 W.heap.size 37 (#[.int .i64 1, .bool false, .int .u64 0, .bool false, .int .u64 0, .slice none 0 0, .int .u64 0] : Array Value).toList := by
    rw [hw1]
    exact setCells_of 37 W.heap.size (#[.int .i64 1, .bool false, .int .u64 0, .bool false, .int .u64 0, .slice none 0 0, .int .u64 0] : Array Value).toList [] (ansL false 0) [] w0 B0 rfl
  have C1 : Chg (fun _ => False) W w1 := by rw [hw1]; exact C0.trans (setCells_chg W.heap.size _ 0 _) (fun _ _ x => x) (fun i hi e => by omega)
  have HTH : Hid (w0.there W.heap.size 0 7) := there_of B0 0 7 (by simp [ansL])
  have HW := keepH hw1
  have HC1 := keepH C1
  have q0 : w1.cell? ⟨W.heap.size, 0, none⟩ = some (.int .i64 1) := B1.cell 0
  have q1 : w1.cell? ⟨W.heap.size, 1, none⟩ = some (.bool false) := B1.cell 1
  have q2 : w1.cell? ⟨W.heap.size, 2, none⟩ = some (.int .u64 0) := B1.cell 2
  have q3 : w1.cell? ⟨W.heap.size, 3, none⟩ = some (.bool false) := B1.cell 3
  have q4 : w1.cell? ⟨W.heap.size, 4, none⟩ = some (.int .u64 0) := B1.cell 4
  have q5 : w1.cell? ⟨W.heap.size, 5, none⟩ = some (.slice none 0 0) := B1.cell 5
  have q6 : w1.cell? ⟨W.heap.size, 6, none⟩ = some (.int .u64 0) := B1.cell 6
  clear hw1 C0 B0 B1 C1
  go_enter Tryz.func13, Tryz.ntmps13
  go_upto_region 1 with fail
  rw [← hw0]
  clear hw0
  go_wp2_with (refine wpList_store_mid rfl 37 (.tmp 2) (.tmp 5) rfl W.heap.size 0 #[.int .i64 1, .bool false, .int .u64 0, .bool false, .int .u64 0, .slice none 0 0, .int .u64 0] rfl rfl HTH.out (by kernel_rfl) (by kernel_rfl) ?_; rw [← HW.out]; clear HW HTH)
  (try go_wp2_with fail)
  refine bodyPost_ret (v := .agg #[.int .i64 1, .bool false, .int .u64 0, .bool false, .int .u64 0, .slice none 0 0, .int .u64 0]) (by simp [results, Tryz.results13, go_sem, q0, q1, q2, q3, q4, q5, q6]) rfl ⟨rfl, HC1.out⟩
set_option maxRecDepth 100000 in
set_option maxHeartbeats 1000000 in
theorem nil_SwapAnswer  (W : World) : Calls Tryz.prog 14 #[.pointer none] W fun e W' => e = .returned (.agg #[.int .i64 1, .bool false, .int .u64 0, .bool false, .int .u64 0, .slice none 0 0, .int .u64 0]) ∧ Chg (fun _ => False) W W' := by
  obtain ⟨w0, hw0⟩ : ∃ w0, w0 = W.alloc (.cells #[.int .i64 0, .bool false, .int .u64 0, .bool false, .int .u64 0, .slice none 0 0, .int .u64 0] 37) := ⟨_, rfl⟩
  have C0 : Chg (fun _ => False) W w0 := by rw [hw0]; exact (Chg.refl _ _).alloc _
  have B0 : Blk w0 W.heap.size 37 (ansL false 0) := by rw [hw0]; exact heap_alloc_new _ _
  obtain ⟨w1, hw1⟩ : ∃ w1, w1 = w0.setCells W.heap.size 0 (#[.int .i64 1, .bool false, .int .u64 0, .bool false, .int .u64 0, .slice none 0 0, .int .u64 0] : Array Value).toList := ⟨_, rfl⟩
  have B1 : Blk w1 W.heap.size 37 (#[.int .i64 1, .bool false, .int .u64 0, .bool false, .int .u64 0, .slice none 0 0, .int .u64 0] : Array Value).toList := by
    rw [hw1]
    exact setCells_of 37 W.heap.size (#[.int .i64 1, .bool false, .int .u64 0, .bool false, .int .u64 0, .slice none 0 0, .int .u64 0] : Array Value).toList [] (ansL false 0) [] w0 B0 rfl
  have C1 : Chg (fun _ => False) W w1 := by rw [hw1]; exact C0.trans (setCells_chg W.heap.size _ 0 _) (fun _ _ x => x) (fun i hi e => by omega)
  have HTH : Hid (w0.there W.heap.size 0 7) := there_of B0 0 7 (by simp [ansL])
  have HW := keepH hw1
  have HC1 := keepH C1
  have q0 : w1.cell? ⟨W.heap.size, 0, none⟩ = some (.int .i64 1) := B1.cell 0
  have q1 : w1.cell? ⟨W.heap.size, 1, none⟩ = some (.bool false) := B1.cell 1
  have q2 : w1.cell? ⟨W.heap.size, 2, none⟩ = some (.int .u64 0) := B1.cell 2
  have q3 : w1.cell? ⟨W.heap.size, 3, none⟩ = some (.bool false) := B1.cell 3
  have q4 : w1.cell? ⟨W.heap.size, 4, none⟩ = some (.int .u64 0) := B1.cell 4
  have q5 : w1.cell? ⟨W.heap.size, 5, none⟩ = some (.slice none 0 0) := B1.cell 5
  have q6 : w1.cell? ⟨W.heap.size, 6, none⟩ = some (.int .u64 0) := B1.cell 6
  clear hw1 C0 B0 B1 C1
  go_enter Tryz.func14, Tryz.ntmps14
  go_upto_region 1 with fail
  rw [← hw0]
  clear hw0
  go_wp2_with (refine wpList_store_mid rfl 37 (.tmp 2) (.tmp 5) rfl W.heap.size 0 #[.int .i64 1, .bool false, .int .u64 0, .bool false, .int .u64 0, .slice none 0 0, .int .u64 0] rfl rfl HTH.out (by kernel_rfl) (by kernel_rfl) ?_; rw [← HW.out]; clear HW HTH)
  (try go_wp2_with fail)
  refine bodyPost_ret (v := .agg #[.int .i64 1, .bool false, .int .u64 0, .bool false, .int .u64 0, .slice none 0 0, .int .u64 0]) (by simp [results, Tryz.results14, go_sem, q0, q1, q2, q3, q4, q5, q6]) rfl ⟨rfl, HC1.out⟩
end Go.Proofs.YtokooplfjibneaaGreat
