/- What must be whatever is asked (package arena). -/
import Derived.Test.YtdhlgmbmpipppaaOps
namespace Go.Proofs.Ytdhlgmbmpipppaa
open Go.RowKit Go.Shelf

theorem reads_new (W : World) (vals : List Nat) (g : Nat) (hg : W.heap.size = g) : Reads (W.alloc (.cells (vals.map u64V).toArray 27)) (some ⟨g, 0, none⟩) vals :=
  .inr ⟨_, rfl, fun j u hj => cells_new W g hg (vals.map u64V).toArray 27 j u (by simpa using hj)⟩

/-- A memory with one view, made behind W. -/
structure St (W X : World) (m b v : Nat) (F : Nat → Prop) (th : Int) (most next made : Nat) (cs : List Nat) (l : List Acc) : Prop where
  bank : Bank X F b most next cs l
  view : IsView X v b th made
  mem : IsMem X m b
  nv : ¬ F v
  nm : ¬ F m
  mv : m ≠ v
  inF : ∀ k, F k → W.heap.size ≤ k
  hv : W.heap.size ≤ v
  chg : Chg (fun _ => False) W X
theorem St.step {W X Y : World} {m b v : Nat} {F F' : Nat → Prop} {th : Int} {most next made next' made' : Nat} {cs cs' : List Nat} {l l' : List Acc} (h : St W X m b v F th most next made cs l) (g : GoesV X Y F F' v) (hb : Bank Y F' b most next' cs' l') (hw : IsView Y v b th made') : St W Y m b v F' th most next' made' cs' l' :=
  ⟨hb, hw, h.mem.chg g.chg (fun e => e.elim h.nm h.mv), g.out h.view.lt h.nv, g.out h.mem.lt h.nm, h.mv, fun k e => (g.new k e).elim (h.inF k) (fun e => Nat.le_trans h.chg.size e), h.hv,
    h.chg.trans g.chg (fun _ _ x => x) (fun i hi x => x.elim (fun y => by have := h.inF i y; omega) (fun y => by have := h.hv; omega))⟩
theorem St.chg' {W X Y : World} {m b v : Nat} {F : Nat → Prop} {th : Int} {most next made : Nat} {cs : List Nat} {l : List Acc} (h : St W X m b v F th most next made cs l) (g : Chg (fun _ => False) X Y) : St W Y m b v F th most next made cs l :=
  ⟨h.bank.chg g (fun _ _ h => h), h.view.chg g (fun h => h), h.mem.chg g (fun h => h), h.nv, h.nm, h.mv, h.inF, h.hv, h.chg.trans g (fun _ _ x => x) (fun _ _ x => x)⟩
theorem St.new {W W1 Y : World} {most : Nat} {th : Int} (q : Nat) (M1 : IsMem W1 (W.heap.size + 1) W.heap.size) (B1 : Bank W1 (fun k => k = W.heap.size) W.heap.size most 1 [] []) (C1 : Chg (fun _ => False) W W1) (S1 : W1.heap.size = W.heap.size + 2)
    (hY : Y = (W1.drewN q).alloc (.cells #[.iface 50 (.pointer (some ⟨W.heap.size, 0, none⟩)), .int .i64 th, .int .i64 0] 53)) : St W Y (W.heap.size + 1) W.heap.size W1.heap.size (fun k => k = W.heap.size) th most 1 0 [] [] := by
  have c : Chg (fun _ => False) W1 Y := by subst hY; exact (Goes.drewN W1 (fun _ => False) q).chg.alloc _
  refine ⟨B1.chg c (fun _ _ h => h), ?_, M1.chg c (fun h => h), by omega, by omega, by omega, fun k e => by omega, by omega, C1.trans c (fun _ _ x => x) (fun _ _ x => x)⟩
  subst hY
  exact heap_alloc_new _ _

set_option maxRecDepth 100000 in
set_option maxHeartbeats 4000000 in
theorem a_live (W : World) : Calls Try.prog 15 #[] W fun e W' => e = .returned (.bool true) ∧ Chg (fun _ => False) W W' := by
  go_enter Try.func15, Try.ntmps15
  go_wp2_with fail
  refine (m_new 128 W (by omega)).mono ?_
  rintro e W1 ⟨rfl, M1, B1, C1, S1⟩
  have HM1 := keepH M1
  have HB1 := keepH B1
  have HS1 := keepH S1
  clear M1 B1 S1
  go_wp2_with fail
  refine (m_left _ _ 128 1 _ _ _ _ HM1.out HB1.out).mono ?_
  rintro e w ⟨rfl, q, rfl⟩
  have t1 : ((128 - 1 : Nat) : Int) = 127 := by decide
  go_wp2_with fail
  refine (m_view _ W.heap.size 3 _ (HM1.out.chg (Goes.drewN W1 (fun _ => False) q).chg (fun h => h))).mono ?_
  rintro e w ⟨rfl, rfl⟩
  have S2 := keepH ((St.new (th := 3) q HM1.out HB1.out C1 HS1.out rfl).chg' ((Chg.refl _ _).alloc (.cells ([7, 8].map u64V).toArray 27)))
  go_wp2_with fail
  refine (v_alloc W1.heap.size W.heap.size 128 1 0 3 (some ⟨W1.heap.size + 1, 0, none⟩) 2 [7, 8] _ _ _ _ S2.out.view S2.out.bank S2.out.nv (by omega) (by simp) (reads_new _ [7, 8] _ (by simp)) (fun ad e _ => by cases e; have := HS1.out; show ¬ W1.heap.size + 1 = W.heap.size; omega) (fun ad e _ => by cases e; show W1.heap.size + 1 ≠ W1.heap.size; omega) (by simp) (by simp)).mono ?_
  rintro e w3 ⟨rfl, F3, vs3, B3, V3, G3⟩
  have e3 : alAt 128 1 [7, 8].length = 1 := by decide
  have e3' : alN 128 1 [] [7, 8] = [0, 7, 8] := by decide
  rw [e3'] at B3
  have S3 := keepH (S2.out.step G3 B3 V3)
  clear B3 V3 G3 S2 e3'
  go_wp2_with fail
  refine (v_load _ _ _ _ _ 3 2 _ _ _ _ S3.out.view S3.out.bank S3.out.nv (by omega) (by simp) (by omega)).mono ?_
  rintro e w4 ⟨rfl, F4, vs4, B4, V4, G4⟩
  have e4 : cellN [0, 7, 8] 2 = 8 := by decide
  have S4 := keepH (S3.out.step G4 B4 V4)
  clear B4 V4 G4 S3
  go_wp2_with fail
  refine (v_cas _ _ _ _ _ 3 2 8 5 _ _ _ _ S4.out.view S4.out.bank S4.out.nv (by omega) (by simp) (by omega) (by omega)).mono ?_
  rintro e w5 ⟨rfl, F5, vs5, B5, V5, G5⟩
  have e5 : casOk 128 [0, 7, 8] 2 8 = true := by decide
  have e5' : casN 128 [0, 7, 8] 2 8 5 = [0, 7, 5] := by decide
  rw [e5'] at B5
  have S5 := keepH (S4.out.step G5 B5 V5)
  clear B5 V5 G5 S4 e5'
  go_wp2_with fail
  refine (v_add _ _ _ _ _ 3 2 10 _ _ _ _ S5.out.view S5.out.bank S5.out.nv (by omega) (by simp) (by omega)).mono ?_
  rintro e w6 ⟨rfl, F6, vs6, B6, V6, G6⟩
  have e6 : cellN [0, 7, 5] 2 = 5 := by decide
  have e6' : stN 128 [0, 7, 5] 2 (addN (cellN [0, 7, 5] 2) 10) = [0, 7, 15] := by decide
  rw [e6'] at B6
  have S6 := keepH (S5.out.step G6 B6 V6)
  clear B6 V6 G6 S5 e6'
  go_wp2_with fail
  refine (m_peek _ _ _ _ 2 _ _ _ _ S6.out.mem S6.out.bank (by omega)).mono ?_
  rintro e w ⟨rfl, rfl⟩
  have e7 : cellN [0, 7, 15] 2 = 15 := by decide
  go_wp2_with fail
  refine (m_trace _ _ _ _ _ _ _ _ S6.out.mem S6.out.bank (by simp) (by simp)).mono ?_
  rintro e w8 ⟨p8, c8, lk8, rfl, T8⟩
  have S8 := keepH (S6.out.chg' T8.chg)
  clear T8 S6
  go_wp2_with fail
  refine (v_accesses _ _ _ _ _ S8.out.view).mono ?_
  rintro e w ⟨rfl, rfl⟩
  go_wp2_with fail
  refine (v_thread _ _ _ _ _ S8.out.view).mono ?_
  rintro e w ⟨rfl, rfl⟩
  go_wp2_with fail
  go_ret
  exact ⟨by simp, S8.out.chg⟩
end Go.Proofs.Ytdhlgmbmpipppaa
