/- The model's asks: what a query tells. -/
import Derived.Test.YtnhfpnhmdfgckaaNg
import Derived.Test.YtnhfpnhmdfgckaaNe
namespace Go.Proofs.Ytnhfpnhmdfgckaa
open Go.RowKit Go.Maps
set_option linter.unusedVariables false

set_option maxRecDepth 100000 in
set_option maxHeartbeats 4000000 in
theorem asks_no {k v od hk lo hi kn kc : Nat} {r5 : Bool} {r6 r7 : Int} {kp : Option Addr} {kd : Int} {W : World} {m nw hd mu : Nat} {f h : Nat → Option Nat} {g : Nat → Nat → Option Nat} {n : Nat} (H : MoAt W m nw hd mu f h g n) (hk64 : hk < 18446744073709551616) (hh : h hk = none) :
    Calls Try.prog 69 #[.pointer (some ⟨m, 0, none⟩), .agg #[.int .u8 kd, .int .u64 (k : Int), .int .u64 (v : Int), .int .u64 (od : Int), .int .u64 (hk : Int), .bool r5, .int .i64 r6, .int .i64 r7, .slice kp kn kc, .int .u64 (lo : Int), .int .u64 (hi : Int)]] W fun e W' => e = .returned (.agg #[.int .i64 33, .bool false, .int .u64 0, .bool false, .int .u64 0, .slice none 0 0, .int .u64 0]) ∧ Chg (fun _ => False) W W' := by
  obtain ⟨w0, hw0⟩ : ∃ w0, w0 = (W.alloc (.cells #[.int .u8 kd, .int .u64 (k : Int), .int .u64 (v : Int), .int .u64 (od : Int), .int .u64 (hk : Int), .bool r5, .int .i64 r6, .int .i64 r7, .slice kp kn kc, .int .u64 (lo : Int), .int .u64 (hi : Int)] 66)).alloc (.cells #[.int .i64 0, .bool false, .int .u64 0, .bool false, .int .u64 0, .slice none 0 0, .int .u64 0] 59) := ⟨_, rfl⟩
  have C0 : Chg (fun _ => False) W w0 := by rw [hw0]; exact ((Chg.refl _ _).alloc _).alloc _
  have o0 : w0.heap[W.heap.size]? = some (.cells #[.int .u8 kd, .int .u64 (k : Int), .int .u64 (v : Int), .int .u64 (od : Int), .int .u64 (hk : Int), .bool r5, .int .i64 r6, .int .i64 r7, .slice kp kn kc, .int .u64 (lo : Int), .int .u64 (hi : Int)] 66 (0, 0)) := by rw [hw0]; exact alloc_of (heap_alloc_new _ _) _
  have a0 : w0.heap[W.heap.size + 1]? = some (.cells #[.int .i64 0, .bool false, .int .u64 0, .bool false, .int .u64 0, .slice none 0 0, .int .u64 0] 59 (0, 0)) := by
    have e := heap_alloc_new (W.alloc (.cells #[.int .u8 kd, .int .u64 (k : Int), .int .u64 (v : Int), .int .u64 (od : Int), .int .u64 (hk : Int), .bool r5, .int .i64 r6, .int .i64 r7, .slice kp kn kc, .int .u64 (lo : Int), .int .u64 (hi : Int)] 66)) (.cells #[.int .i64 0, .bool false, .int .u64 0, .bool false, .int .u64 0, .slice none 0 0, .int .u64 0] 59)
    rw [World.size_alloc] at e
    rw [hw0]
    exact e
  have HS0 : Hid (w0.cell? ⟨m, 2, none⟩ = some (.map (some hd)) ∧ w0.cell? ⟨W.heap.size, 4, none⟩ = some (.int .u64 (hk : Int))) := ⟨cell_of (H.quiet C0).md 2, cell_of o0 4⟩
  obtain ⟨wd, hwd⟩ : ∃ wd, wd = w0.drew := ⟨_, rfl⟩
  have Cd : Chg (fun _ => False) W wd := by rw [hwd]; exact C0.drew
  have Md := H.quiet Cd
  have hl0 := HeldAt.look Md.held hk64
  rw [hh] at hl0
  rw [hwd] at hl0
  have od0 : wd.heap[W.heap.size]? = some (.cells #[.int .u8 kd, .int .u64 (k : Int), .int .u64 (v : Int), .int .u64 (od : Int), .int .u64 (hk : Int), .bool r5, .int .i64 r6, .int .i64 r7, .slice kp kn kc, .int .u64 (lo : Int), .int .u64 (hi : Int)] 66 (0, 0)) := by rw [hwd]; exact o0
  have ad : wd.heap[W.heap.size + 1]? = some (.cells #[.int .i64 0, .bool false, .int .u64 0, .bool false, .int .u64 0, .slice none 0 0, .int .u64 0] 59 (0, 0)) := by rw [hwd]; exact a0
  have k0 : wd.cell? ⟨W.heap.size, 0, none⟩ = some (.int .u8 kd) := cell_of od0 0
  have k8 : wd.cell? ⟨W.heap.size, 8, none⟩ = some (.slice kp kn kc) := cell_of od0 8
  have k9 : wd.cell? ⟨W.heap.size, 9, none⟩ = some (.int .u64 (lo : Int)) := cell_of od0 9
  have k10 : wd.cell? ⟨W.heap.size, 10, none⟩ = some (.int .u64 (hi : Int)) := cell_of od0 10
  have HSZ : Hid (wd.heap.size = W.heap.size + 2) := by rw [hwd, hw0]; show _ = _; simp
  obtain ⟨w9, hw9⟩ : ∃ w9, w9 = wd.setCells (W.heap.size + 1) 0 (#[.int .i64 33, .bool false, .int .u64 0, .bool false, .int .u64 0, .slice none 0 0, .int .u64 0] : Array Value).toList := ⟨_, rfl⟩
  have A9 : w9.heap[W.heap.size + 1]? = some (.cells #[.int .i64 33, .bool false, .int .u64 0, .bool false, .int .u64 0, .slice none 0 0, .int .u64 0] 59 (0, 0)) := by
    rw [hw9]
    exact setCells_of 59 (W.heap.size + 1) (#[.int .i64 33, .bool false, .int .u64 0, .bool false, .int .u64 0, .slice none 0 0, .int .u64 0] : Array Value).toList [] (#[.int .i64 0, .bool false, .int .u64 0, .bool false, .int .u64 0, .slice none 0 0, .int .u64 0] : Array Value).toList [] wd ad rfl
  have K9 : Chg (fun i => i = W.heap.size + 1) wd w9 := by rw [hw9]; exact setCells_chg (W.heap.size + 1) _ 0 _
  have HC9 : Hid (Chg (fun _ => False) W w9) := (Cd).trans K9 (fun _ _ x => x) (fun i hi e => by omega)
  have HTH : Hid (wd.there (W.heap.size + 1) 0 7) := fun j hj => ⟨by rw [cell_of ad]; match j, hj with | 0, _ => rfl | 1, _ => rfl | 2, _ => rfl | 3, _ => rfl | 4, _ => rfl | 5, _ => rfl | 6, _ => rfl, free_of ad _⟩
  have HW := keepH hw9
  have q0 : w9.cell? ⟨W.heap.size + 1, 0, none⟩ = some (.int .i64 33) := cell_of A9 0
  have q1 : w9.cell? ⟨W.heap.size + 1, 1, none⟩ = some (.bool false) := cell_of A9 1
  have q2 : w9.cell? ⟨W.heap.size + 1, 2, none⟩ = some (.int .u64 0) := cell_of A9 2
  have q3 : w9.cell? ⟨W.heap.size + 1, 3, none⟩ = some (.bool false) := cell_of A9 3
  have q4 : w9.cell? ⟨W.heap.size + 1, 4, none⟩ = some (.int .u64 0) := cell_of A9 4
  have q5 : w9.cell? ⟨W.heap.size + 1, 5, none⟩ = some (.slice none 0 0) := cell_of A9 5
  have q6 : w9.cell? ⟨W.heap.size + 1, 6, none⟩ = some (.int .u64 0) := cell_of A9 6
  clear hw9 A9
  clear H C0 Cd Md o0 od0 a0 ad K9
  go_enter Try.func69, Try.ntmps69
  go_upto_region 1 with fail
  rw [← hw0]
  clear hw0
  go_region_held3 (fun w' => w'.cell? ⟨m, 2, none⟩ = some (.map (some hd)) ∧ w'.cell? ⟨W.heap.size, 4, none⟩ = some (.int .u64 (hk : Int))) (first | exact HS0.out) (fail)
  all_goals (
    rw [← hwd]
    clear hwd
    go_wp2_with (refine wpList_store_mid rfl 59 (.tmp 4) (.tmp 19) rfl (W.heap.size + 1) 0 #[.int .i64 33, .bool false, .int .u64 0, .bool false, .int .u64 0, .slice none 0 0, .int .u64 0] rfl rfl HTH.out (by kernel_rfl) (by kernel_rfl) ?_; rw [← HW.out]; clear HW HTH)
    (try go_wp2_with fail)
    refine bodyPost_ret (v := .agg #[.int .i64 33, .bool false, .int .u64 0, .bool false, .int .u64 0, .slice none 0 0, .int .u64 0]) (by simp [results, Try.results69, go_sem, q0, q1, q2, q3, q4, q5, q6]) rfl ⟨rfl, HC9.out⟩)
set_option maxRecDepth 100000 in
set_option maxHeartbeats 4000000 in
theorem asks_8 {k v od hk lo hi kn kc : Nat} {r5 : Bool} {r6 r7 : Int} {kp : Option Addr}  {W : World} {m nw hd mu : Nat} {f h : Nat → Option Nat} {g : Nat → Nat → Option Nat} {n : Nat} (H : MoAt W m nw hd mu f h g n) (hk64 : hk < 18446744073709551616) {b : Nat} (hh : h hk = some b) (hn : n ≤ 8796093022000) (hlo : lo < 18446744073709551616) (hhi : hi < 18446744073709551616) :
    Calls Try.prog 69 #[.pointer (some ⟨m, 0, none⟩), .agg #[.int .u8 8, .int .u64 (k : Int), .int .u64 (v : Int), .int .u64 (od : Int), .int .u64 (hk : Int), .bool r5, .int .i64 r6, .int .i64 r7, .slice kp kn kc, .int .u64 (lo : Int), .int .u64 (hi : Int)]] W fun e W' => (∃ p c l, e = .returned (.agg #[.int .i64 0, .bool false, .int .u64 0, .bool false, .int .u64 0, .slice p l.length c, .int .u64 0]) ∧ (Lists (g b) lo hi l ∧ l.length ≤ n) ∧ PairsAt W' p l ∧ (∀ bk off, p = some ⟨bk, off, none⟩ → W.heap.size ≤ bk)) ∧ Chg (fun _ => False) W W' := by
  obtain ⟨w0, hw0⟩ : ∃ w0, w0 = (W.alloc (.cells #[.int .u8 8, .int .u64 (k : Int), .int .u64 (v : Int), .int .u64 (od : Int), .int .u64 (hk : Int), .bool r5, .int .i64 r6, .int .i64 r7, .slice kp kn kc, .int .u64 (lo : Int), .int .u64 (hi : Int)] 66)).alloc (.cells #[.int .i64 0, .bool false, .int .u64 0, .bool false, .int .u64 0, .slice none 0 0, .int .u64 0] 59) := ⟨_, rfl⟩
  have C0 : Chg (fun _ => False) W w0 := by rw [hw0]; exact ((Chg.refl _ _).alloc _).alloc _
  have o0 : w0.heap[W.heap.size]? = some (.cells #[.int .u8 8, .int .u64 (k : Int), .int .u64 (v : Int), .int .u64 (od : Int), .int .u64 (hk : Int), .bool r5, .int .i64 r6, .int .i64 r7, .slice kp kn kc, .int .u64 (lo : Int), .int .u64 (hi : Int)] 66 (0, 0)) := by rw [hw0]; exact alloc_of (heap_alloc_new _ _) _
  have a0 : w0.heap[W.heap.size + 1]? = some (.cells #[.int .i64 0, .bool false, .int .u64 0, .bool false, .int .u64 0, .slice none 0 0, .int .u64 0] 59 (0, 0)) := by
    have e := heap_alloc_new (W.alloc (.cells #[.int .u8 8, .int .u64 (k : Int), .int .u64 (v : Int), .int .u64 (od : Int), .int .u64 (hk : Int), .bool r5, .int .i64 r6, .int .i64 r7, .slice kp kn kc, .int .u64 (lo : Int), .int .u64 (hi : Int)] 66)) (.cells #[.int .i64 0, .bool false, .int .u64 0, .bool false, .int .u64 0, .slice none 0 0, .int .u64 0] 59)
    rw [World.size_alloc] at e
    rw [hw0]
    exact e
  have HS0 : Hid (w0.cell? ⟨m, 2, none⟩ = some (.map (some hd)) ∧ w0.cell? ⟨W.heap.size, 4, none⟩ = some (.int .u64 (hk : Int))) := ⟨cell_of (H.quiet C0).md 2, cell_of o0 4⟩
  obtain ⟨wd, hwd⟩ : ∃ wd, wd = w0.drew := ⟨_, rfl⟩
  have Cd : Chg (fun _ => False) W wd := by rw [hwd]; exact C0.drew
  have Md := H.quiet Cd
  have hl0 := HeldAt.look Md.held hk64
  rw [hh] at hl0
  rw [hwd] at hl0
  have od0 : wd.heap[W.heap.size]? = some (.cells #[.int .u8 8, .int .u64 (k : Int), .int .u64 (v : Int), .int .u64 (od : Int), .int .u64 (hk : Int), .bool r5, .int .i64 r6, .int .i64 r7, .slice kp kn kc, .int .u64 (lo : Int), .int .u64 (hi : Int)] 66 (0, 0)) := by rw [hwd]; exact o0
  have ad : wd.heap[W.heap.size + 1]? = some (.cells #[.int .i64 0, .bool false, .int .u64 0, .bool false, .int .u64 0, .slice none 0 0, .int .u64 0] 59 (0, 0)) := by rw [hwd]; exact a0
  have k0 : wd.cell? ⟨W.heap.size, 0, none⟩ = some (.int .u8 8) := cell_of od0 0
  have k8 : wd.cell? ⟨W.heap.size, 8, none⟩ = some (.slice kp kn kc) := cell_of od0 8
  have k9 : wd.cell? ⟨W.heap.size, 9, none⟩ = some (.int .u64 (lo : Int)) := cell_of od0 9
  have k10 : wd.cell? ⟨W.heap.size, 10, none⟩ = some (.int .u64 (hi : Int)) := cell_of od0 10
  have HSZ : Hid (wd.heap.size = W.heap.size + 2) := by rw [hwd, hw0]; show _ = _; simp
  have HF := keepH (c_between (Md.pic hk b hh) hn hlo hhi)
  have HAD := keepH ad
  have HCD := keepH Cd
  clear H C0 Cd Md o0 od0 a0 ad
  go_enter Try.func69, Try.ntmps69
  go_upto_region 1 with fail
  rw [← hw0]
  clear hw0
  go_region_held3 (fun w' => w'.cell? ⟨m, 2, none⟩ = some (.map (some hd)) ∧ w'.cell? ⟨W.heap.size, 4, none⟩ = some (.int .u64 (hk : Int))) (first | exact HS0.out) (fail)
  all_goals (
    rw [← hwd]
    clear hwd
    go_wp2_with fail
    refine HF.out.mono ?_
    rintro e w1 ⟨⟨v1, l, rfl, hL1, hrow, hL2⟩, C1⟩
    have hL := And.intro hL1 hL2
    obtain ⟨p, c, rfl, hP, hB⟩ := hrow.slice
    have ad1 := (C1.block _ (lt_of HAD.out) (fun x => x)).trans HAD.out
    obtain ⟨w9, hw9⟩ : ∃ w9, w9 = w1.setCells (W.heap.size + 1) 0 (#[.int .i64 0, .bool false, .int .u64 0, .bool false, .int .u64 0, .slice p l.length c, .int .u64 0] : Array Value).toList := ⟨_, rfl⟩
    have A9 : w9.heap[W.heap.size + 1]? = some (.cells #[.int .i64 0, .bool false, .int .u64 0, .bool false, .int .u64 0, .slice p l.length c, .int .u64 0] 59 (0, 0)) := by
      rw [hw9]
      exact setCells_of 59 (W.heap.size + 1) (#[.int .i64 0, .bool false, .int .u64 0, .bool false, .int .u64 0, .slice p l.length c, .int .u64 0] : Array Value).toList [] (#[.int .i64 0, .bool false, .int .u64 0, .bool false, .int .u64 0, .slice none 0 0, .int .u64 0] : Array Value).toList [] w1 ad1 rfl
    have K9 : Chg (fun i => i = W.heap.size + 1) w1 w9 := by rw [hw9]; exact setCells_chg (W.heap.size + 1) _ 0 _
    have HC9 : Hid (Chg (fun _ => False) W w9) := (HCD.out.trans C1 (H := fun _ => False) (fun _ _ x => x) (fun _ _ x => x)).trans K9 (fun _ _ x => x) (fun i hi e => by omega)
    have HTH : Hid (w1.there (W.heap.size + 1) 0 7) := fun j hj => ⟨by rw [cell_of ad1]; match j, hj with | 0, _ => rfl | 1, _ => rfl | 2, _ => rfl | 3, _ => rfl | 4, _ => rfl | 5, _ => rfl | 6, _ => rfl, free_of ad1 _⟩
    have HW := keepH hw9
    have q0 : w9.cell? ⟨W.heap.size + 1, 0, none⟩ = some (.int .i64 0) := cell_of A9 0
    have q1 : w9.cell? ⟨W.heap.size + 1, 1, none⟩ = some (.bool false) := cell_of A9 1
    have q2 : w9.cell? ⟨W.heap.size + 1, 2, none⟩ = some (.int .u64 0) := cell_of A9 2
    have q3 : w9.cell? ⟨W.heap.size + 1, 3, none⟩ = some (.bool false) := cell_of A9 3
    have q4 : w9.cell? ⟨W.heap.size + 1, 4, none⟩ = some (.int .u64 0) := cell_of A9 4
    have q5 : w9.cell? ⟨W.heap.size + 1, 5, none⟩ = some (.slice p l.length c) := cell_of A9 5
    have q6 : w9.cell? ⟨W.heap.size + 1, 6, none⟩ = some (.int .u64 0) := cell_of A9 6
    clear hw9 A9
    have HP9 : Hid ((Lists (g b) lo hi l ∧ l.length ≤ n) ∧ PairsAt w9 p l ∧ ∀ bk off, p = some ⟨bk, off, none⟩ → W.heap.size ≤ bk) := by
      refine ⟨hL, hP.chgF K9 (fun bk off e => ?_), fun bk off e => ?_⟩
      · have z := hB bk off e
        have y := HSZ.out
        omega
      · have z := hB bk off e
        have y := HSZ.out
        omega
    clear hP hB hL hrow C1 K9 ad1
    go_wp2_with (refine wpList_store_mid rfl 59 (.tmp 4) (.tmp 37) rfl (W.heap.size + 1) 0 #[.int .i64 0, .bool false, .int .u64 0, .bool false, .int .u64 0, .slice p l.length c, .int .u64 0] rfl rfl HTH.out (by kernel_rfl) (by kernel_rfl) ?_; rw [← HW.out]; clear HW HTH)
    (try go_wp2_with fail)
    refine bodyPost_ret (v := .agg #[.int .i64 0, .bool false, .int .u64 0, .bool false, .int .u64 0, .slice p l.length c, .int .u64 0]) (by simp [results, Try.results69, go_sem, q0, q1, q2, q3, q4, q5, q6]) rfl ⟨⟨p, c, l, rfl, HP9.out.1, HP9.out.2.1, HP9.out.2.2⟩, HC9.out⟩)
set_option maxRecDepth 100000 in
set_option maxHeartbeats 4000000 in
theorem asks_7 {k v od hk lo hi kn kc : Nat} {r5 : Bool} {r6 r7 : Int} {kp : Option Addr}  {W : World} {m nw hd mu : Nat} {f h : Nat → Option Nat} {g : Nat → Nat → Option Nat} {n : Nat} (H : MoAt W m nw hd mu f h g n) (hk64 : hk < 18446744073709551616) {b : Nat} (hh : h hk = some b) (hn : n ≤ 8796093022000) {ks : List Nat} (hks : KeysAt W kp ks) (hkn : kn = ks.length) (hkl : ks.length ≤ 8796093022000) :
    Calls Try.prog 69 #[.pointer (some ⟨m, 0, none⟩), .agg #[.int .u8 7, .int .u64 (k : Int), .int .u64 (v : Int), .int .u64 (od : Int), .int .u64 (hk : Int), .bool r5, .int .i64 r6, .int .i64 r7, .slice kp kn kc, .int .u64 (lo : Int), .int .u64 (hi : Int)]] W fun e W' => (∃ p c l, e = .returned (.agg #[.int .i64 0, .bool false, .int .u64 0, .bool false, .int .u64 0, .slice p l.length c, .int .u64 0]) ∧ (l = pairsOf (g b) ks) ∧ PairsAt W' p l ∧ (∀ bk off, p = some ⟨bk, off, none⟩ → W.heap.size ≤ bk)) ∧ Chg (fun _ => False) W W' := by
  subst hkn
  obtain ⟨w0, hw0⟩ : ∃ w0, w0 = (W.alloc (.cells #[.int .u8 7, .int .u64 (k : Int), .int .u64 (v : Int), .int .u64 (od : Int), .int .u64 (hk : Int), .bool r5, .int .i64 r6, .int .i64 r7, .slice kp ks.length kc, .int .u64 (lo : Int), .int .u64 (hi : Int)] 66)).alloc (.cells #[.int .i64 0, .bool false, .int .u64 0, .bool false, .int .u64 0, .slice none 0 0, .int .u64 0] 59) := ⟨_, rfl⟩
  have C0 : Chg (fun _ => False) W w0 := by rw [hw0]; exact ((Chg.refl _ _).alloc _).alloc _
  have o0 : w0.heap[W.heap.size]? = some (.cells #[.int .u8 7, .int .u64 (k : Int), .int .u64 (v : Int), .int .u64 (od : Int), .int .u64 (hk : Int), .bool r5, .int .i64 r6, .int .i64 r7, .slice kp ks.length kc, .int .u64 (lo : Int), .int .u64 (hi : Int)] 66 (0, 0)) := by rw [hw0]; exact alloc_of (heap_alloc_new _ _) _
  have a0 : w0.heap[W.heap.size + 1]? = some (.cells #[.int .i64 0, .bool false, .int .u64 0, .bool false, .int .u64 0, .slice none 0 0, .int .u64 0] 59 (0, 0)) := by
    have e := heap_alloc_new (W.alloc (.cells #[.int .u8 7, .int .u64 (k : Int), .int .u64 (v : Int), .int .u64 (od : Int), .int .u64 (hk : Int), .bool r5, .int .i64 r6, .int .i64 r7, .slice kp ks.length kc, .int .u64 (lo : Int), .int .u64 (hi : Int)] 66)) (.cells #[.int .i64 0, .bool false, .int .u64 0, .bool false, .int .u64 0, .slice none 0 0, .int .u64 0] 59)
    rw [World.size_alloc] at e
    rw [hw0]
    exact e
  have HS0 : Hid (w0.cell? ⟨m, 2, none⟩ = some (.map (some hd)) ∧ w0.cell? ⟨W.heap.size, 4, none⟩ = some (.int .u64 (hk : Int))) := ⟨cell_of (H.quiet C0).md 2, cell_of o0 4⟩
  obtain ⟨wd, hwd⟩ : ∃ wd, wd = w0.drew := ⟨_, rfl⟩
  have Cd : Chg (fun _ => False) W wd := by rw [hwd]; exact C0.drew
  have Md := H.quiet Cd
  have hl0 := HeldAt.look Md.held hk64
  rw [hh] at hl0
  rw [hwd] at hl0
  have od0 : wd.heap[W.heap.size]? = some (.cells #[.int .u8 7, .int .u64 (k : Int), .int .u64 (v : Int), .int .u64 (od : Int), .int .u64 (hk : Int), .bool r5, .int .i64 r6, .int .i64 r7, .slice kp ks.length kc, .int .u64 (lo : Int), .int .u64 (hi : Int)] 66 (0, 0)) := by rw [hwd]; exact o0
  have ad : wd.heap[W.heap.size + 1]? = some (.cells #[.int .i64 0, .bool false, .int .u64 0, .bool false, .int .u64 0, .slice none 0 0, .int .u64 0] 59 (0, 0)) := by rw [hwd]; exact a0
  have k0 : wd.cell? ⟨W.heap.size, 0, none⟩ = some (.int .u8 7) := cell_of od0 0
  have k8 : wd.cell? ⟨W.heap.size, 8, none⟩ = some (.slice kp ks.length kc) := cell_of od0 8
  have k9 : wd.cell? ⟨W.heap.size, 9, none⟩ = some (.int .u64 (lo : Int)) := cell_of od0 9
  have k10 : wd.cell? ⟨W.heap.size, 10, none⟩ = some (.int .u64 (hi : Int)) := cell_of od0 10
  have HSZ : Hid (wd.heap.size = W.heap.size + 2) := by rw [hwd, hw0]; show _ = _; simp
  have HF := keepH (c_of (Md.pic hk b hh) (hks.chg Cd (fun _ _ _ x => x)) hkl kc)
  have HAD := keepH ad
  have HCD := keepH Cd
  clear H C0 Cd Md o0 od0 a0 ad
  go_enter Try.func69, Try.ntmps69
  go_upto_region 1 with fail
  rw [← hw0]
  clear hw0
  go_region_held3 (fun w' => w'.cell? ⟨m, 2, none⟩ = some (.map (some hd)) ∧ w'.cell? ⟨W.heap.size, 4, none⟩ = some (.int .u64 (hk : Int))) (first | exact HS0.out) (fail)
  all_goals (
    rw [← hwd]
    clear hwd
    go_wp2_with fail
    refine HF.out.mono ?_
    rintro e w1 ⟨⟨v1, rfl, hrow⟩, C1⟩
    obtain ⟨l, hL⟩ : ∃ l, l = pairsOf (g b) ks := ⟨_, rfl⟩
    rw [← hL] at hrow
    obtain ⟨p, c, rfl, hP, hB⟩ := hrow.slice
    have ad1 := (C1.block _ (lt_of HAD.out) (fun x => x)).trans HAD.out
    obtain ⟨w9, hw9⟩ : ∃ w9, w9 = w1.setCells (W.heap.size + 1) 0 (#[.int .i64 0, .bool false, .int .u64 0, .bool false, .int .u64 0, .slice p l.length c, .int .u64 0] : Array Value).toList := ⟨_, rfl⟩
    have A9 : w9.heap[W.heap.size + 1]? = some (.cells #[.int .i64 0, .bool false, .int .u64 0, .bool false, .int .u64 0, .slice p l.length c, .int .u64 0] 59 (0, 0)) := by
      rw [hw9]
      exact setCells_of 59 (W.heap.size + 1) (#[.int .i64 0, .bool false, .int .u64 0, .bool false, .int .u64 0, .slice p l.length c, .int .u64 0] : Array Value).toList [] (#[.int .i64 0, .bool false, .int .u64 0, .bool false, .int .u64 0, .slice none 0 0, .int .u64 0] : Array Value).toList [] w1 ad1 rfl
    have K9 : Chg (fun i => i = W.heap.size + 1) w1 w9 := by rw [hw9]; exact setCells_chg (W.heap.size + 1) _ 0 _
    have HC9 : Hid (Chg (fun _ => False) W w9) := (HCD.out.trans C1 (H := fun _ => False) (fun _ _ x => x) (fun _ _ x => x)).trans K9 (fun _ _ x => x) (fun i hi e => by omega)
    have HTH : Hid (w1.there (W.heap.size + 1) 0 7) := fun j hj => ⟨by rw [cell_of ad1]; match j, hj with | 0, _ => rfl | 1, _ => rfl | 2, _ => rfl | 3, _ => rfl | 4, _ => rfl | 5, _ => rfl | 6, _ => rfl, free_of ad1 _⟩
    have HW := keepH hw9
    have q0 : w9.cell? ⟨W.heap.size + 1, 0, none⟩ = some (.int .i64 0) := cell_of A9 0
    have q1 : w9.cell? ⟨W.heap.size + 1, 1, none⟩ = some (.bool false) := cell_of A9 1
    have q2 : w9.cell? ⟨W.heap.size + 1, 2, none⟩ = some (.int .u64 0) := cell_of A9 2
    have q3 : w9.cell? ⟨W.heap.size + 1, 3, none⟩ = some (.bool false) := cell_of A9 3
    have q4 : w9.cell? ⟨W.heap.size + 1, 4, none⟩ = some (.int .u64 0) := cell_of A9 4
    have q5 : w9.cell? ⟨W.heap.size + 1, 5, none⟩ = some (.slice p l.length c) := cell_of A9 5
    have q6 : w9.cell? ⟨W.heap.size + 1, 6, none⟩ = some (.int .u64 0) := cell_of A9 6
    clear hw9 A9
    have HP9 : Hid ((l = pairsOf (g b) ks) ∧ PairsAt w9 p l ∧ ∀ bk off, p = some ⟨bk, off, none⟩ → W.heap.size ≤ bk) := by
      refine ⟨hL, hP.chgF K9 (fun bk off e => ?_), fun bk off e => ?_⟩
      · have z := hB bk off e
        have y := HSZ.out
        omega
      · have z := hB bk off e
        have y := HSZ.out
        omega
    clear hP hB hL hrow C1 K9 ad1
    go_wp2_with (refine wpList_store_mid rfl 59 (.tmp 4) (.tmp 28) rfl (W.heap.size + 1) 0 #[.int .i64 0, .bool false, .int .u64 0, .bool false, .int .u64 0, .slice p l.length c, .int .u64 0] rfl rfl HTH.out (by kernel_rfl) (by kernel_rfl) ?_; rw [← HW.out]; clear HW HTH)
    (try go_wp2_with fail)
    refine bodyPost_ret (v := .agg #[.int .i64 0, .bool false, .int .u64 0, .bool false, .int .u64 0, .slice p l.length c, .int .u64 0]) (by simp [results, Try.results69, go_sem, q0, q1, q2, q3, q4, q5, q6]) rfl ⟨⟨p, c, l, rfl, HP9.out.1, HP9.out.2.1, HP9.out.2.2⟩, HC9.out⟩)
set_option maxRecDepth 100000 in
set_option maxHeartbeats 4000000 in
theorem asks_9 {k v od hk lo hi kn kc : Nat} {r5 : Bool} {r6 r7 : Int} {kp : Option Addr} {kd : Int} {W : World} {m nw hd mu : Nat} {f h : Nat → Option Nat} {g : Nat → Nat → Option Nat} {n : Nat} (H : MoAt W m nw hd mu f h g n) (hk64 : hk < 18446744073709551616) {b : Nat} (hh : h hk = some b) (hn : n ≤ 8796093022000) (hlo : lo < 18446744073709551616) (hhi : hi < 18446744073709551616) (n7 : ¬ kd = 7) (n8 : ¬ kd = 8) :
    Calls Try.prog 69 #[.pointer (some ⟨m, 0, none⟩), .agg #[.int .u8 kd, .int .u64 (k : Int), .int .u64 (v : Int), .int .u64 (od : Int), .int .u64 (hk : Int), .bool r5, .int .i64 r6, .int .i64 r7, .slice kp kn kc, .int .u64 (lo : Int), .int .u64 (hi : Int)]] W fun e W' => (∃ l, e = .returned (.agg #[.int .i64 0, .bool false, .int .u64 0, .bool false, .int .u64 0, .slice none 0 0, .int .u64 (l.length : Int)]) ∧ Lists (g b) lo hi l ∧ l.length ≤ n) ∧ Chg (fun _ => False) W W' := by
  obtain ⟨w0, hw0⟩ : ∃ w0, w0 = (W.alloc (.cells #[.int .u8 kd, .int .u64 (k : Int), .int .u64 (v : Int), .int .u64 (od : Int), .int .u64 (hk : Int), .bool r5, .int .i64 r6, .int .i64 r7, .slice kp kn kc, .int .u64 (lo : Int), .int .u64 (hi : Int)] 66)).alloc (.cells #[.int .i64 0, .bool false, .int .u64 0, .bool false, .int .u64 0, .slice none 0 0, .int .u64 0] 59) := ⟨_, rfl⟩
  have C0 : Chg (fun _ => False) W w0 := by rw [hw0]; exact ((Chg.refl _ _).alloc _).alloc _
  have o0 : w0.heap[W.heap.size]? = some (.cells #[.int .u8 kd, .int .u64 (k : Int), .int .u64 (v : Int), .int .u64 (od : Int), .int .u64 (hk : Int), .bool r5, .int .i64 r6, .int .i64 r7, .slice kp kn kc, .int .u64 (lo : Int), .int .u64 (hi : Int)] 66 (0, 0)) := by rw [hw0]; exact alloc_of (heap_alloc_new _ _) _
  have a0 : w0.heap[W.heap.size + 1]? = some (.cells #[.int .i64 0, .bool false, .int .u64 0, .bool false, .int .u64 0, .slice none 0 0, .int .u64 0] 59 (0, 0)) := by
    have e := heap_alloc_new (W.alloc (.cells #[.int .u8 kd, .int .u64 (k : Int), .int .u64 (v : Int), .int .u64 (od : Int), .int .u64 (hk : Int), .bool r5, .int .i64 r6, .int .i64 r7, .slice kp kn kc, .int .u64 (lo : Int), .int .u64 (hi : Int)] 66)) (.cells #[.int .i64 0, .bool false, .int .u64 0, .bool false, .int .u64 0, .slice none 0 0, .int .u64 0] 59)
    rw [World.size_alloc] at e
    rw [hw0]
    exact e
  have HS0 : Hid (w0.cell? ⟨m, 2, none⟩ = some (.map (some hd)) ∧ w0.cell? ⟨W.heap.size, 4, none⟩ = some (.int .u64 (hk : Int))) := ⟨cell_of (H.quiet C0).md 2, cell_of o0 4⟩
  obtain ⟨wd, hwd⟩ : ∃ wd, wd = w0.drew := ⟨_, rfl⟩
  have Cd : Chg (fun _ => False) W wd := by rw [hwd]; exact C0.drew
  have Md := H.quiet Cd
  have hl0 := HeldAt.look Md.held hk64
  rw [hh] at hl0
  rw [hwd] at hl0
  have od0 : wd.heap[W.heap.size]? = some (.cells #[.int .u8 kd, .int .u64 (k : Int), .int .u64 (v : Int), .int .u64 (od : Int), .int .u64 (hk : Int), .bool r5, .int .i64 r6, .int .i64 r7, .slice kp kn kc, .int .u64 (lo : Int), .int .u64 (hi : Int)] 66 (0, 0)) := by rw [hwd]; exact o0
  have ad : wd.heap[W.heap.size + 1]? = some (.cells #[.int .i64 0, .bool false, .int .u64 0, .bool false, .int .u64 0, .slice none 0 0, .int .u64 0] 59 (0, 0)) := by rw [hwd]; exact a0
  have k0 : wd.cell? ⟨W.heap.size, 0, none⟩ = some (.int .u8 kd) := cell_of od0 0
  have k8 : wd.cell? ⟨W.heap.size, 8, none⟩ = some (.slice kp kn kc) := cell_of od0 8
  have k9 : wd.cell? ⟨W.heap.size, 9, none⟩ = some (.int .u64 (lo : Int)) := cell_of od0 9
  have k10 : wd.cell? ⟨W.heap.size, 10, none⟩ = some (.int .u64 (hi : Int)) := cell_of od0 10
  have HSZ : Hid (wd.heap.size = W.heap.size + 2) := by rw [hwd, hw0]; show _ = _; simp
  have z7 : (kd == 7) = false := by simpa using n7
  have z8 : (kd == 8) = false := by simpa using n8
  have HF := keepH (c_count (Md.pic hk b hh) hn hlo hhi)
  have HAD := keepH ad
  have HCD := keepH Cd
  clear H C0 Cd Md o0 od0 a0 ad
  go_enter Try.func69, Try.ntmps69
  go_upto_region 1 with fail
  rw [← hw0]
  clear hw0
  go_region_held3 (fun w' => w'.cell? ⟨m, 2, none⟩ = some (.map (some hd)) ∧ w'.cell? ⟨W.heap.size, 4, none⟩ = some (.int .u64 (hk : Int))) (first | exact HS0.out) (fail)
  all_goals (
    rw [← hwd]
    clear hwd
    go_wp2_with fail
    refine HF.out.mono ?_
    rintro e w1 ⟨⟨l, hL, rfl, hll⟩, C1⟩
    have ad1 := (C1.block _ (lt_of HAD.out) (fun x => x)).trans HAD.out
    obtain ⟨w9, hw9⟩ : ∃ w9, w9 = w1.setCells (W.heap.size + 1) 0 (#[.int .i64 0, .bool false, .int .u64 0, .bool false, .int .u64 0, .slice none 0 0, .int .u64 (l.length : Int)] : Array Value).toList := ⟨_, rfl⟩
    have A9 : w9.heap[W.heap.size + 1]? = some (.cells #[.int .i64 0, .bool false, .int .u64 0, .bool false, .int .u64 0, .slice none 0 0, .int .u64 (l.length : Int)] 59 (0, 0)) := by
      rw [hw9]
      exact setCells_of 59 (W.heap.size + 1) (#[.int .i64 0, .bool false, .int .u64 0, .bool false, .int .u64 0, .slice none 0 0, .int .u64 (l.length : Int)] : Array Value).toList [] (#[.int .i64 0, .bool false, .int .u64 0, .bool false, .int .u64 0, .slice none 0 0, .int .u64 0] : Array Value).toList [] w1 ad1 rfl
    have K9 : Chg (fun i => i = W.heap.size + 1) w1 w9 := by rw [hw9]; exact setCells_chg (W.heap.size + 1) _ 0 _
    have HC9 : Hid (Chg (fun _ => False) W w9) := (HCD.out.trans C1 (H := fun _ => False) (fun _ _ x => x) (fun _ _ x => x)).trans K9 (fun _ _ x => x) (fun i hi e => by omega)
    have HTH : Hid (w1.there (W.heap.size + 1) 0 7) := fun j hj => ⟨by rw [cell_of ad1]; match j, hj with | 0, _ => rfl | 1, _ => rfl | 2, _ => rfl | 3, _ => rfl | 4, _ => rfl | 5, _ => rfl | 6, _ => rfl, free_of ad1 _⟩
    have HW := keepH hw9
    have q0 : w9.cell? ⟨W.heap.size + 1, 0, none⟩ = some (.int .i64 0) := cell_of A9 0
    have q1 : w9.cell? ⟨W.heap.size + 1, 1, none⟩ = some (.bool false) := cell_of A9 1
    have q2 : w9.cell? ⟨W.heap.size + 1, 2, none⟩ = some (.int .u64 0) := cell_of A9 2
    have q3 : w9.cell? ⟨W.heap.size + 1, 3, none⟩ = some (.bool false) := cell_of A9 3
    have q4 : w9.cell? ⟨W.heap.size + 1, 4, none⟩ = some (.int .u64 0) := cell_of A9 4
    have q5 : w9.cell? ⟨W.heap.size + 1, 5, none⟩ = some (.slice none 0 0) := cell_of A9 5
    have q6 : w9.cell? ⟨W.heap.size + 1, 6, none⟩ = some (.int .u64 (l.length : Int)) := cell_of A9 6
    clear hw9 A9
    have HL := keepH (And.intro hL hll)
    clear hL hll C1 K9 ad1
    go_wp2_with (refine wpList_store_mid rfl 59 (.tmp 4) (.tmp 44) rfl (W.heap.size + 1) 0 #[.int .i64 0, .bool false, .int .u64 0, .bool false, .int .u64 0, .slice none 0 0, .int .u64 (l.length : Int)] rfl rfl HTH.out (by kernel_rfl) (by kernel_rfl) ?_; rw [← HW.out]; clear HW HTH)
    (try go_wp2_with fail)
    refine bodyPost_ret (v := .agg #[.int .i64 0, .bool false, .int .u64 0, .bool false, .int .u64 0, .slice none 0 0, .int .u64 (l.length : Int)]) (by simp [results, Try.results69, go_sem, q0, q1, q2, q3, q4, q5, q6]) rfl ⟨⟨l, rfl, HL.out.1, HL.out.2⟩, HC9.out⟩)
end Go.Proofs.Ytnhfpnhmdfgckaa
