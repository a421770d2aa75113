/- A memory with one view, and procs made behind a world. -/
import Derived.Test.YtlmfdgdmegkfdaaNd
namespace Go.Proofs.Ytlmfdgdmegkfdaa
open Go.RowKit Go.Shelf

/-- A memory with one view, made behind W. -/
structure St (W X : World) (m b v : Nat) (F : Nat → Prop) (th : Int) (most next made : Nat) (cs : List Nat) (l : List Acc) : Prop where
  bank : Bank X F b most next cs l
  view : IsView X v b th made
  mem : IsMem X m b
  nv : ¬ F v
  nm : ¬ F m
  mv : m ≠ v
  inF : ∀ k, F k → W.heap.size ≤ k
  hv : W.heap.size ≤ v
  chg : Chg (fun _ => False) W X
theorem St.step {W X Y : World} {m b v : Nat} {F F' : Nat → Prop} {th : Int} {most next made next' made' : Nat} {cs cs' : List Nat} {l l' : List Acc} (h : St W X m b v F th most next made cs l) (g : GoesV X Y F F' v) (hb : Bank Y F' b most next' cs' l') (hw : IsView Y v b th made') : St W Y m b v F' th most next' made' cs' l' :=
  ⟨hb, hw, h.mem.chg g.chg (fun e => e.elim h.nm h.mv), g.out h.view.lt h.nv, g.out h.mem.lt h.nm, h.mv, fun k e => (g.new k e).elim (h.inF k) (fun e => Nat.le_trans h.chg.size e), h.hv,
    h.chg.trans g.chg (fun _ _ x => x) (fun i hi x => x.elim (fun y => by have := h.inF i y; omega) (fun y => by have := h.hv; omega))⟩
theorem St.chg' {W X Y : World} {m b v : Nat} {F : Nat → Prop} {th : Int} {most next made : Nat} {cs : List Nat} {l : List Acc} (h : St W X m b v F th most next made cs l) (g : Chg (fun _ => False) X Y) : St W Y m b v F th most next made cs l :=
  ⟨h.bank.chg g (fun _ _ h => h), h.view.chg g (fun h => h), h.mem.chg g (fun h => h), h.nv, h.nm, h.mv, h.inF, h.hv, h.chg.trans g (fun _ _ x => x) (fun _ _ x => x)⟩
theorem St.new {W W1 Y : World} {most : Nat} {th : Int} (q : Nat) (M1 : IsMem W1 (W.heap.size + 1) W.heap.size) (B1 : Bank W1 (fun k => k = W.heap.size) W.heap.size most 1 [] []) (C1 : Chg (fun _ => False) W W1) (S1 : W1.heap.size = W.heap.size + 2)
    (hY : Y = (W1.drewN q).alloc (.cells #[.iface 92 (.pointer (some ⟨W.heap.size, 0, none⟩)), .int .i64 th, .int .i64 0] 106)) : St W Y (W.heap.size + 1) W.heap.size W1.heap.size (fun k => k = W.heap.size) th most 1 0 [] [] := by
  have c : Chg (fun _ => False) W1 Y := by subst hY; exact (Goes.drewN W1 (fun _ => False) q).chg.alloc _
  refine ⟨B1.chg c (fun _ _ h => h), ?_, M1.chg c (fun h => h), by omega, by omega, by omega, fun k e => by omega, by omega, C1.trans c (fun _ _ x => x) (fun _ _ x => x)⟩
  subst hY
  exact heap_alloc_new _ _

theorem St.new0 {W W1 : World} {most : Nat} {th : Int} (M1 : IsMem W1 (W.heap.size + 1) W.heap.size) (B1 : Bank W1 (fun k => k = W.heap.size) W.heap.size most 1 [] []) (C1 : Chg (fun _ => False) W W1) (S1 : W1.heap.size = W.heap.size + 2) :
    St W (W1.alloc (.cells #[.iface 92 (.pointer (some ⟨W.heap.size, 0, none⟩)), .int .i64 th, .int .i64 0] 106)) (W.heap.size + 1) W.heap.size W1.heap.size (fun k => k = W.heap.size) th most 1 0 [] [] := by
  have c : Chg (fun _ => False) W1 (W1.alloc (.cells #[.iface 92 (.pointer (some ⟨W.heap.size, 0, none⟩)), .int .i64 th, .int .i64 0] 106)) := (Chg.refl _ _).alloc _
  exact ⟨B1.chg c (fun _ _ h => h), heap_alloc_new _ _, M1.chg c (fun h => h), by omega, by omega, by omega, fun k e => by omega, by omega, C1.trans c (fun _ _ x => x) (fun _ _ x => x)⟩
theorem St.stepP {W X Y : World} {m b v p : Nat} {F F' : Nat → Prop} {th : Int} {most next made next' made' : Nat} {cs cs' : List Nat} {l l' : List Acc} (h : St W X m b v F th most next made cs l) (g : GoesP X Y F F' v p) (hp : W.heap.size ≤ p) (hpm : m ≠ p) (hb : Bank Y F' b most next' cs' l') (hw : IsView Y v b th made') : St W Y m b v F' th most next' made' cs' l' :=
  ⟨hb, hw, h.mem.chg g.chg (fun e => e.elim (fun e => e.elim h.nm h.mv) hpm), fun x => (g.new v x).elim h.nv (fun y => by have := h.view.lt; omega), fun x => (g.new m x).elim h.nm (fun y => by have := h.mem.lt; omega), h.mv, fun k e => (g.new k e).elim (h.inF k) (fun e => Nat.le_trans h.chg.size e), h.hv,
    h.chg.trans g.chg (fun _ _ x => x) (fun i hi x => x.elim (fun x => x.elim (fun y => by have := h.inF i y; omega) (fun y => by have := h.hv; omega)) (fun y => by omega))⟩
theorem St.ltF {W X : World} {m b v : Nat} {F : Nat → Prop} {th : Int} {most next made : Nat} {cs : List Nat} {l : List Acc} (h : St W X m b v F th most next made cs l) : ¬ F X.heap.size := fun x => Nat.lt_irrefl _ (h.bank.lt' _ x)

set_option maxRecDepth 100000 in
set_option maxHeartbeats 4000000 in
theorem nd_live (W : World) : Calls Try.prog 7 #[] W fun e W' => e = .returned (.bool true) ∧ Chg (fun _ => False) W W' := by
  go_enter Try.func7, Try.ntmps7
  go_wp2_with fail
  refine (m_new 128 W (by omega)).mono ?_
  rintro e W1 ⟨rfl, M1, B1, C1, S1⟩
  have S2 := keepH (St.new0 (th := 0) M1 B1 C1 S1)
  have HM1 := keepH M1
  clear B1 S1 C1 M1
  go_wp2_with fail
  refine (m_view _ W.heap.size 0 _ HM1.out).mono ?_
  rintro e w ⟨rfl, rfl⟩
  obtain ⟨w2, hw2⟩ : ∃ w2, w2 = W1.alloc (.cells #[.iface 92 (.pointer (some ⟨W.heap.size, 0, none⟩)), .int .i64 0, .int .i64 0] 106) := ⟨_, rfl⟩
  rw [← hw2] at S2 ⊢
  clear hw2 HM1
  obtain ⟨v, hv⟩ : ∃ v, v = W1.heap.size := ⟨_, rfl⟩
  rw [← hv] at S2 ⊢
  clear hv
  go_wp2_with fail
  refine (leaf_new 7 1 _).mono ?_
  rintro e w ⟨rfl, rfl⟩
  obtain ⟨w3, hw3⟩ : ∃ w3, w3 = w2.alloc (.cells #[.bool false, .int .i64 0, .int .u64 ((7 : Nat) : Int), .int .u64 ((1 : Nat) : Int), .int .u64 0] 97) := ⟨_, rfl⟩
  have HL3 : Hid (IsLeaf w3 w2.heap.size false 0 7 1 0) := by rw [hw3]; exact heap_alloc_new _ _
  have S3 : Hid (St W w3 (W.heap.size + 1) W.heap.size v (fun k => k = W.heap.size) 0 128 1 0 [] []) := by rw [hw3]; exact S2.out.chg' ((Chg.refl _ _).alloc _)
  have HF : Hid (¬ (fun k => k = W.heap.size) w2.heap.size) := S2.out.ltF
  have HZ : Hid (W.heap.size ≤ w2.heap.size ∧ W.heap.size + 1 < w2.heap.size ∧ v < w2.heap.size) := ⟨S2.out.chg.size, S2.out.mem.lt, S2.out.view.lt⟩
  rw [← hw3]
  clear hw3 S2
  obtain ⟨p, hp⟩ : ∃ p, p = w2.heap.size := ⟨_, rfl⟩
  rw [← hp] at HL3 HF HZ ⊢
  clear hp
  go_wp2_with fail
  refine (leaf_step p v W.heap.size 128 1 0 7 1 0 _ _ _ _ HL3.out S3.out.view S3.out.bank S3.out.nv HF.out (by have := HZ.out; omega) (by omega) (by simp) (by omega) (by omega) 1 (by decide) (by omega) (by omega)).mono ?_
  rintro e w4 ⟨rfl, L4, F4, vs4, B4, V4, G4⟩
  have HL4 : Hid (IsLeaf w4 p true 0 7 1 3) := L4
  have e4 : alN 128 1 [] [7, 1] = [0, 7, 1] := by decide
  have e4' : alNext 128 1 2 = 3 := by decide
  rw [e4, e4'] at B4
  have S4 := keepH (S3.out.stepP G4 (by have := HZ.out; omega) (by have := HZ.out; omega) B4 V4)
  have HFp4 : Hid (¬ F4 p) := fun x => (G4.new p x).elim HF.out (fun y => by have := lt_of HL3.out; omega)
  clear L4 B4 V4 G4 HL3 S3 HF e4 e4'
  go_wp2_with fail
  refine (look_new 1 _).mono ?_
  rintro e w ⟨rfl, rfl⟩
  obtain ⟨w5, hw5⟩ : ∃ w5, w5 = w4.alloc (.cells #[.int .u64 ((1 : Nat) : Int), .int .i64 0, .int .u64 0, .int .u64 0] 104) := ⟨_, rfl⟩
  have HK5 : Hid (IsLook w5 w4.heap.size 1 0 0 0) := by rw [hw5]; exact heap_alloc_new _ _
  have S5 : Hid (St W w5 (W.heap.size + 1) W.heap.size v F4 0 128 3 (0 + 1) [0, 7, 1] ([] ++ [⟨0, 5, 1, 0, 0, vs4, [7, 1], 0, false⟩])) := by rw [hw5]; exact S4.out.chg' ((Chg.refl _ _).alloc _)
  have HL5 : Hid (IsLeaf w5 p true 0 7 1 3) := by rw [hw5]; exact alloc_of HL4.out _
  have HF : Hid (¬ F4 w4.heap.size) := S4.out.ltF
  have HZ2 : Hid (W.heap.size ≤ w4.heap.size ∧ W.heap.size + 1 < w4.heap.size ∧ v < w4.heap.size ∧ p < w4.heap.size) := ⟨S4.out.chg.size, S4.out.mem.lt, S4.out.view.lt, lt_of HL4.out⟩
  have HFp := HFp4
  rw [← hw5]
  clear hw5 S4 HL4
  obtain ⟨q, hq⟩ : ∃ q, q = w4.heap.size := ⟨_, rfl⟩
  rw [← hq] at HK5 HF HZ2 ⊢
  clear hq
  go_wp2_with fail
  refine (look_key q v W.heap.size 128 3 (0 + 1) 1 0 0 0 _ _ _ _ HK5.out S5.out.view S5.out.bank S5.out.nv HF.out (by have := HZ2.out; omega) (by omega) (by simp) (by omega)).mono ?_
  rintro e w6 ⟨rfl, K6, F6, vs6, B6, V6, G6⟩
  have HK6 : Hid (IsLook w6 q 1 1 7 0) := K6
  have HL6 : Hid (IsLeaf w6 p true 0 7 1 3) := HL5.out.chg G6.chg (fun e => e.elim (fun e => e.elim HFp.out (by have := HZ.out; omega)) (by have := HZ2.out; omega))
  have HFp6 : Hid (¬ F6 p) := fun x => (G6.new p x).elim HFp.out (fun y => by have := lt_of HL5.out; omega)
  have HF6 : Hid (¬ F6 q) := fun x => (G6.new q x).elim HF.out (fun y => by have := lt_of HK5.out; omega)
  have S6 := keepH (S5.out.stepP G6 (by have := HZ2.out; omega) (by have := HZ2.out; omega) B6 V6)
  clear K6 B6 V6 G6 HL5 HK5 S5 HF HFp
  go_wp2_with fail
  refine (look_value q v W.heap.size 128 3 (0 + 1 + 1) 1 7 0 0 _ _ _ _ HK6.out S6.out.view S6.out.bank S6.out.nv HF6.out (by have := HZ2.out; omega) (by omega) (by simp) (by omega) 2 (by decide)).mono ?_
  rintro e w7 ⟨rfl, K7, F7, vs7, B7, V7, G7⟩
  have HK7 : Hid (IsLook w7 q 1 2 7 1) := K7
  have HL7 : Hid (IsLeaf w7 p true 0 7 1 3) := HL6.out.chg G7.chg (fun e => e.elim (fun e => e.elim HFp6.out (by have := HZ.out; omega)) (by have := HZ2.out; omega))
  have S7 := keepH (S6.out.stepP G7 (by have := HZ2.out; omega) (by have := HZ2.out; omega) B7 V7)
  clear K7 B7 V7 G7 HL6 HK6 S6 HF6 HFp6
  go_wp2_with fail
  refine (leaf_word p true 0 7 1 3 _ HL7.out).mono ?_
  rintro e w ⟨rfl, rfl⟩
  go_wp2_with fail
  refine (leaf_errno p true 0 7 1 3 _ HL7.out).mono ?_
  rintro e w ⟨rfl, rfl⟩
  go_wp2_with fail
  refine (look_pair q 1 2 7 1 _ HK7.out).mono ?_
  rintro e w8 ⟨rfl, C8⟩
  have HC8 := keepH (S7.out.chg.trans C8 (H := fun _ => False) (fun _ _ x => x) (fun _ _ x => x))
  clear C8
  go_wp2_with fail
  go_ret
  exact ⟨by simp, HC8.out⟩
end Go.Proofs.Ytlmfdgdmegkfdaa
