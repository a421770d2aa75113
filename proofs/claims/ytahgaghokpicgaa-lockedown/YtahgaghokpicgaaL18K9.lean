/- A release told under the lock. -/
import Derived.Test.YtahgaghokpicgaaL17K8
namespace Go.Proofs.Ytahgaghokpicgaa
open Go.RowKit Go.Maps
set_option linter.unusedVariables false

/-- New blocks that are no maps. -/
def NM (W w1 : World) (i : Nat) : Prop := W.heap.size ≤ i ∧ ∀ es c, w1.heap[i]? ≠ some (.map es c)
set_option maxRecDepth 100000 in
set_option maxHeartbeats 8000000 in
theorem rel_go {o : OpP} {r5 : Bool} {r6 r7 : Int} {kp : Option Addr} {kc : Nat} {W : World} {s m lk sb N hc lf dn : Nat} (hs : W.heap[s]? = some (.cells (stC lk m sb N hc lf dn) 92 (0, 0))) (hsb : sb < W.heap.size) {G : Nat → Prop} (hG : ∀ k, G k → k < W.heap.size ∧ k ≠ s) {Q : World → World → Ans → Option Addr → Prop}
    (hD : ∀ w, Chg (fun _ => False) W w → Calls Try.prog 19 #[.pointer (some ⟨m, 0, none⟩), .agg #[.int .u8 o.kd, .int .u64 (o.k : Int), .int .u64 (o.v : Int), .int .u64 (o.od : Int), .int .u64 (o.hk : Int), .bool r5, .int .i64 r6, .int .i64 r7, .slice kp o.ks.length kc, .int .u64 (o.lo : Int), .int .u64 (o.hi : Int)], .int .u64 0] w fun e w' => ∃ A p c, e = .returned (.agg #[.int .i64 A.e, .bool A.f, .int .u64 (A.x : Int), .bool A.d, .int .u64 (A.h : Int), .slice p A.l.length c, .int .u64 (A.n : Int)]) ∧ Q w w' A p ∧ Chg G w w')
    {L : World → World → Prop} (hL : ∀ w w1 A p w2, Q w w1 A p → Chg (NM W w1) w1 w2 → A.e = 0 → Calls Try.prog 91 #[.pointer (some ⟨s, 3, none⟩), .int .u64 (o.hk : Int)] w2 fun e w' => e = .returned (.tuple #[]) ∧ L w2 w' ∧ Chg (fun k => k = s ∨ k = sb) w2 w') :
    Calls Try.prog 70 #[.pointer (some ⟨s, 0, none⟩), .agg #[.int .u8 o.kd, .int .u64 (o.k : Int), .int .u64 (o.v : Int), .int .u64 (o.od : Int), .int .u64 (o.hk : Int), .bool r5, .int .i64 r6, .int .i64 r7, .slice kp o.ks.length kc, .int .u64 (o.lo : Int), .int .u64 (o.hi : Int)]] W fun e W' => ∃ A p c w w1 w2 w3, e = .returned (.agg #[.int .i64 A.e, .bool A.f, .int .u64 (A.x : Int), .bool A.d, .int .u64 (A.h : Int), .slice p A.l.length c, .int .u64 (A.n : Int)]) ∧ Chg (fun _ => False) W w ∧ W.heap.size + 2 ≤ w.heap.size ∧ Q w w1 A p ∧ Chg G w w1 ∧ Chg (NM W w1) w1 w2 ∧ ((A.e = 0 ∧ L w2 w3 ∧ Chg (fun k => k = s ∨ k = sb) w2 w3) ∨ (A.e ≠ 0 ∧ w3 = w2)) ∧ Chg (NM W w3) w3 W' := by
  obtain ⟨w0, hw0⟩ : ∃ w0, w0 = (W.alloc (.cells #[.int .u8 o.kd, .int .u64 (o.k : Int), .int .u64 (o.v : Int), .int .u64 (o.od : Int), .int .u64 (o.hk : Int), .bool r5, .int .i64 r6, .int .i64 r7, .slice kp o.ks.length kc, .int .u64 (o.lo : Int), .int .u64 (o.hi : Int)] 34)).alloc (.cells #[.int .i64 0, .bool false, .int .u64 0, .bool false, .int .u64 0, .slice none 0 0, .int .u64 0] 38) := ⟨_, rfl⟩
  have C0 : Chg (fun _ => False) W w0 := by rw [hw0]; exact ((Chg.refl _ _).alloc _).alloc _
  have o0 : w0.heap[W.heap.size]? = some (.cells #[.int .u8 o.kd, .int .u64 (o.k : Int), .int .u64 (o.v : Int), .int .u64 (o.od : Int), .int .u64 (o.hk : Int), .bool r5, .int .i64 r6, .int .i64 r7, .slice kp o.ks.length kc, .int .u64 (o.lo : Int), .int .u64 (o.hi : Int)] 34 (0, 0)) := by rw [hw0]; exact alloc_of (heap_alloc_new _ _) _
  have a0 : w0.heap[W.heap.size + 1]? = some (.cells #[.int .i64 0, .bool false, .int .u64 0, .bool false, .int .u64 0, .slice none 0 0, .int .u64 0] 38 (0, 0)) := by
    have e := heap_alloc_new (W.alloc (.cells #[.int .u8 o.kd, .int .u64 (o.k : Int), .int .u64 (o.v : Int), .int .u64 (o.od : Int), .int .u64 (o.hk : Int), .bool r5, .int .i64 r6, .int .i64 r7, .slice kp o.ks.length kc, .int .u64 (o.lo : Int), .int .u64 (o.hi : Int)] 34)) (.cells #[.int .i64 0, .bool false, .int .u64 0, .bool false, .int .u64 0, .slice none 0 0, .int .u64 0] 38)
    rw [World.size_alloc] at e
    rw [hw0]
    exact e
  have HSZ : Hid (w0.heap.size = W.heap.size + 2) := by rw [hw0]; show _ = _; simp
  have s0 := (C0.block s (lt_of hs) (fun x => x)).trans hs
  have ls := lt_of hs
  have HS0 : Hid (w0.drew.heap[s]? = some (.cells (stC lk m sb N hc lf dn) 92 (0, 0)) ∧ w0.drew.heap[W.heap.size]? = some (.cells #[.int .u8 o.kd, .int .u64 (o.k : Int), .int .u64 (o.v : Int), .int .u64 (o.od : Int), .int .u64 (o.hk : Int), .bool r5, .int .i64 r6, .int .i64 r7, .slice kp o.ks.length kc, .int .u64 (o.lo : Int), .int .u64 (o.hi : Int)] 34 (0, 0))) := ⟨s0, o0⟩
  have HE1 : Hid (∀ (w1 : World) (A : Ans) (p : Option Addr) (c : Nat) (w : World) (tb : Nat), w = w0.drew → tb = w1.heap.size → Q w0.drew w1 A p → Chg G w0.drew w1 → ∃ w9, w9 = w1.alloc (.cells #[.int .i64 A.e, .bool A.f, .int .u64 (A.x : Int), .bool A.d, .int .u64 (A.h : Int), .slice p A.l.length c, .int .u64 (A.n : Int)] 38) ∧ (w9.heap[s]? = some (.cells (stC lk m sb N hc lf dn) 92 (0, 0)) ∧ w9.heap[W.heap.size]? = some (.cells #[.int .u8 o.kd, .int .u64 (o.k : Int), .int .u64 (o.v : Int), .int .u64 (o.od : Int), .int .u64 (o.hk : Int), .bool r5, .int .i64 r6, .int .i64 r7, .slice kp o.ks.length kc, .int .u64 (o.lo : Int), .int .u64 (o.hi : Int)] 34 (0, 0))) ∧ (w1.alloc (.cells #[.int .i64 0, .bool false, .int .u64 0, .bool false, .int .u64 0, .slice none 0 0, .int .u64 0] 38)).cell? ⟨tb, 0, none⟩ = some (.int .i64 0) ∧ (w1.alloc (.cells #[.int .i64 0, .bool false, .int .u64 0, .bool false, .int .u64 0, .slice none 0 0, .int .u64 0] 38)).cell? ⟨tb, 1, none⟩ = some (.bool false) ∧ (w1.alloc (.cells #[.int .i64 0, .bool false, .int .u64 0, .bool false, .int .u64 0, .slice none 0 0, .int .u64 0] 38)).cell? ⟨tb, 2, none⟩ = some (.int .u64 0) ∧ (w1.alloc (.cells #[.int .i64 0, .bool false, .int .u64 0, .bool false, .int .u64 0, .slice none 0 0, .int .u64 0] 38)).cell? ⟨tb, 3, none⟩ = some (.bool false) ∧ (w1.alloc (.cells #[.int .i64 0, .bool false, .int .u64 0, .bool false, .int .u64 0, .slice none 0 0, .int .u64 0] 38)).cell? ⟨tb, 4, none⟩ = some (.int .u64 0) ∧ (w1.alloc (.cells #[.int .i64 0, .bool false, .int .u64 0, .bool false, .int .u64 0, .slice none 0 0, .int .u64 0] 38)).cell? ⟨tb, 5, none⟩ = some (.slice none 0 0) ∧ (w1.alloc (.cells #[.int .i64 0, .bool false, .int .u64 0, .bool false, .int .u64 0, .slice none 0 0, .int .u64 0] 38)).cell? ⟨tb, 6, none⟩ = some (.int .u64 0) ∧ (w1.alloc (.cells #[.int .i64 0, .bool false, .int .u64 0, .bool false, .int .u64 0, .slice none 0 0, .int .u64 0] 38)).frozen? ⟨tb, 0, none⟩ = false ∧ (w1.alloc (.cells #[.int .i64 0, .bool false, .int .u64 0, .bool false, .int .u64 0, .slice none 0 0, .int .u64 0] 38)).frozen? ⟨tb, 1, none⟩ = false ∧ (w1.alloc (.cells #[.int .i64 0, .bool false, .int .u64 0, .bool false, .int .u64 0, .slice none 0 0, .int .u64 0] 38)).frozen? ⟨tb, 2, none⟩ = false ∧ (w1.alloc (.cells #[.int .i64 0, .bool false, .int .u64 0, .bool false, .int .u64 0, .slice none 0 0, .int .u64 0] 38)).frozen? ⟨tb, 3, none⟩ = false ∧ (w1.alloc (.cells #[.int .i64 0, .bool false, .int .u64 0, .bool false, .int .u64 0, .slice none 0 0, .int .u64 0] 38)).frozen? ⟨tb, 4, none⟩ = false ∧ (w1.alloc (.cells #[.int .i64 0, .bool false, .int .u64 0, .bool false, .int .u64 0, .slice none 0 0, .int .u64 0] 38)).frozen? ⟨tb, 5, none⟩ = false ∧ (w1.alloc (.cells #[.int .i64 0, .bool false, .int .u64 0, .bool false, .int .u64 0, .slice none 0 0, .int .u64 0] 38)).frozen? ⟨tb, 6, none⟩ = false ∧ Hid (Chg (fun _ => False) W w ∧ W.heap.size + 2 ≤ w.heap.size ∧ Q w w1 A p ∧ Chg G w w1 ∧ Chg (NM W w1) w1 w9 ∧ w9.heap[tb]? = some (.cells #[.int .i64 A.e, .bool A.f, .int .u64 (A.x : Int), .bool A.d, .int .u64 (A.h : Int), .slice p A.l.length c, .int .u64 (A.n : Int)] 38 (0, 0)) ∧ W.heap.size + 2 ≤ tb ∧ w9.heap[W.heap.size + 1]? = some (.cells #[.int .i64 0, .bool false, .int .u64 0, .bool false, .int .u64 0, .slice none 0 0, .int .u64 0] 38 (0, 0)) ∧ w9.heap[W.heap.size]? = some (.cells #[.int .u8 o.kd, .int .u64 (o.k : Int), .int .u64 (o.v : Int), .int .u64 (o.od : Int), .int .u64 (o.hk : Int), .bool r5, .int .i64 r6, .int .i64 r7, .slice kp o.ks.length kc, .int .u64 (o.lo : Int), .int .u64 (o.hi : Int)] 34 (0, 0)))) := by
    intro w1 A p c w tb hw htb hQ cz
    have nG : ∀ k, W.heap.size ≤ k → ¬ G k := fun k hk x => by have := (hG k x).1; omega
    have z0 := HSZ.out
    have bz : ∀ {k : Nat} {o : Obj}, w0.heap[k]? = some o → ¬ G k → w1.heap[k]? = some o := fun h hn => (cz.block _ (lt_of h) hn).trans h
    have zs : w0.heap.size ≤ w1.heap.size := cz.size
    have tz : (w1.alloc (.cells #[.int .i64 0, .bool false, .int .u64 0, .bool false, .int .u64 0, .slice none 0 0, .int .u64 0] 38)).heap[tb]? = some (.cells #[.int .i64 0, .bool false, .int .u64 0, .bool false, .int .u64 0, .slice none 0 0, .int .u64 0] 38 (0, 0)) := by rw [htb]; exact heap_alloc_new _ _
    have sz1 := bz s0 (fun x => (hG s x).2 rfl)
    have oz1 := bz o0 (nG _ (Nat.le_refl _))
    have az1 := bz a0 (nG _ (Nat.le_succ _))
    obtain ⟨w9, hw9⟩ : ∃ w9, w9 = w1.alloc (.cells #[.int .i64 A.e, .bool A.f, .int .u64 (A.x : Int), .bool A.d, .int .u64 (A.h : Int), .slice p A.l.length c, .int .u64 (A.n : Int)] 38) := ⟨_, rfl⟩
    have t9 : w9.heap[tb]? = some (.cells #[.int .i64 A.e, .bool A.f, .int .u64 (A.x : Int), .bool A.d, .int .u64 (A.h : Int), .slice p A.l.length c, .int .u64 (A.n : Int)] 38 (0, 0)) := by rw [hw9]; exact (by rw [htb]; exact heap_alloc_new _ _)
    have s9 : w9.heap[s]? = some (.cells (stC lk m sb N hc lf dn) 92 (0, 0)) := by rw [hw9]; exact alloc_of sz1 _
    have o9 : w9.heap[W.heap.size]? = some (.cells #[.int .u8 o.kd, .int .u64 (o.k : Int), .int .u64 (o.v : Int), .int .u64 (o.od : Int), .int .u64 (o.hk : Int), .bool r5, .int .i64 r6, .int .i64 r7, .slice kp o.ks.length kc, .int .u64 (o.lo : Int), .int .u64 (o.hi : Int)] 34 (0, 0)) := by rw [hw9]; exact alloc_of oz1 _
    have a9 : w9.heap[W.heap.size + 1]? = some (.cells #[.int .i64 0, .bool false, .int .u64 0, .bool false, .int .u64 0, .slice none 0 0, .int .u64 0] 38 (0, 0)) := by rw [hw9]; exact alloc_of az1 _
    have c9 : Chg (NM W w1) w1 w9 := by rw [hw9]; exact (Chg.refl _ _).alloc _
    subst hw
    exact ⟨w9, hw9, ⟨s9, o9⟩, cell_of tz 0, cell_of tz 1, cell_of tz 2, cell_of tz 3, cell_of tz 4, cell_of tz 5, cell_of tz 6, free_of tz 0, free_of tz 1, free_of tz 2, free_of tz 3, free_of tz 4, free_of tz 5, free_of tz 6, C0.drew, Nat.le_of_eq z0.symm, hQ, cz, c9, t9, by omega, a9, o9⟩
  have HE2 : Hid (∀ (w1 : World) (A : Ans) (p : Option Addr) (c : Nat) (w : World) (tb : Nat), w = (w0.drew.alloc (.cells #[.int .i64 0, .bool false, .int .u64 0, .bool false, .int .u64 0, .slice none 0 0, .int .u64 0] 38)) → tb = w0.heap.size → Q (w0.drew.alloc (.cells #[.int .i64 0, .bool false, .int .u64 0, .bool false, .int .u64 0, .slice none 0 0, .int .u64 0] 38)) w1 A p → Chg G (w0.drew.alloc (.cells #[.int .i64 0, .bool false, .int .u64 0, .bool false, .int .u64 0, .slice none 0 0, .int .u64 0] 38)) w1 → ∃ w9, w9 = (((((((w1.setCell ⟨tb, 0, none⟩ (.int .i64 A.e)).setCell ⟨tb, 1, none⟩ (.bool A.f)).setCell ⟨tb, 2, none⟩ (.int .u64 (A.x : Int))).setCell ⟨tb, 3, none⟩ (.bool A.d)).setCell ⟨tb, 4, none⟩ (.int .u64 (A.h : Int))).setCell ⟨tb, 5, none⟩ (.slice p A.l.length c)).setCell ⟨tb, 6, none⟩ (.int .u64 (A.n : Int))) ∧ (w9.heap[s]? = some (.cells (stC lk m sb N hc lf dn) 92 (0, 0)) ∧ w9.heap[W.heap.size]? = some (.cells #[.int .u8 o.kd, .int .u64 (o.k : Int), .int .u64 (o.v : Int), .int .u64 (o.od : Int), .int .u64 (o.hk : Int), .bool r5, .int .i64 r6, .int .i64 r7, .slice kp o.ks.length kc, .int .u64 (o.lo : Int), .int .u64 (o.hi : Int)] 34 (0, 0))) ∧ w1.cell? ⟨tb, 0, none⟩ = some (.int .i64 0) ∧ w1.cell? ⟨tb, 1, none⟩ = some (.bool false) ∧ w1.cell? ⟨tb, 2, none⟩ = some (.int .u64 0) ∧ w1.cell? ⟨tb, 3, none⟩ = some (.bool false) ∧ w1.cell? ⟨tb, 4, none⟩ = some (.int .u64 0) ∧ w1.cell? ⟨tb, 5, none⟩ = some (.slice none 0 0) ∧ w1.cell? ⟨tb, 6, none⟩ = some (.int .u64 0) ∧ w1.frozen? ⟨tb, 0, none⟩ = false ∧ w1.frozen? ⟨tb, 1, none⟩ = false ∧ w1.frozen? ⟨tb, 2, none⟩ = false ∧ w1.frozen? ⟨tb, 3, none⟩ = false ∧ w1.frozen? ⟨tb, 4, none⟩ = false ∧ w1.frozen? ⟨tb, 5, none⟩ = false ∧ w1.frozen? ⟨tb, 6, none⟩ = false ∧ Hid (Chg (fun _ => False) W w ∧ W.heap.size + 2 ≤ w.heap.size ∧ Q w w1 A p ∧ Chg G w w1 ∧ Chg (NM W w1) w1 w9 ∧ w9.heap[tb]? = some (.cells #[.int .i64 A.e, .bool A.f, .int .u64 (A.x : Int), .bool A.d, .int .u64 (A.h : Int), .slice p A.l.length c, .int .u64 (A.n : Int)] 38 (0, 0)) ∧ W.heap.size + 2 ≤ tb ∧ w9.heap[W.heap.size + 1]? = some (.cells #[.int .i64 0, .bool false, .int .u64 0, .bool false, .int .u64 0, .slice none 0 0, .int .u64 0] 38 (0, 0)) ∧ w9.heap[W.heap.size]? = some (.cells #[.int .u8 o.kd, .int .u64 (o.k : Int), .int .u64 (o.v : Int), .int .u64 (o.od : Int), .int .u64 (o.hk : Int), .bool r5, .int .i64 r6, .int .i64 r7, .slice kp o.ks.length kc, .int .u64 (o.lo : Int), .int .u64 (o.hi : Int)] 34 (0, 0)))) := by
    intro w1 A p c w tb hw htb hQ cz
    have nG : ∀ k, W.heap.size ≤ k → ¬ G k := fun k hk x => by have := (hG k x).1; omega
    have z0 := HSZ.out
    have cw0 : Chg (fun _ => False) w0 (w0.drew.alloc (.cells #[.int .i64 0, .bool false, .int .u64 0, .bool false, .int .u64 0, .slice none 0 0, .int .u64 0] 38)) := (Chg.refl (fun _ => False) w0).drew.alloc _
    have bz : ∀ {k : Nat} {o : Obj}, w0.heap[k]? = some o → ¬ G k → w1.heap[k]? = some o := fun h hn => (cz.block _ (Nat.lt_of_lt_of_le (lt_of h) cw0.size) hn).trans ((cw0.block _ (lt_of h) (fun x => x)).trans h)
    have tz0 : (w0.drew.alloc (.cells #[.int .i64 0, .bool false, .int .u64 0, .bool false, .int .u64 0, .slice none 0 0, .int .u64 0] 38)).heap[tb]? = some (.cells #[.int .i64 0, .bool false, .int .u64 0, .bool false, .int .u64 0, .slice none 0 0, .int .u64 0] 38 (0, 0)) := by rw [htb]; exact heap_alloc_new w0.drew _
    have tz : w1.heap[tb]? = some (.cells #[.int .i64 0, .bool false, .int .u64 0, .bool false, .int .u64 0, .slice none 0 0, .int .u64 0] 38 (0, 0)) := (cz.block _ (lt_of tz0) (nG _ (by omega))).trans tz0
    have sz := bz s0 (fun x => (hG s x).2 rfl)
    have oz := bz o0 (nG _ (Nat.le_refl _))
    have az := bz a0 (nG _ (Nat.le_succ _))
    have czz : Chg (NM W w1) w1 w1 := Chg.refl _ _
    have ntb : tb < w1.heap.size → NM W w1 tb := fun h => ⟨by omega, fun es c e => by rw [tz] at e; cases e⟩
    obtain ⟨w9, hw9⟩ : ∃ w9, w9 = (((((((w1.setCell ⟨tb, 0, none⟩ (.int .i64 A.e)).setCell ⟨tb, 1, none⟩ (.bool A.f)).setCell ⟨tb, 2, none⟩ (.int .u64 (A.x : Int))).setCell ⟨tb, 3, none⟩ (.bool A.d)).setCell ⟨tb, 4, none⟩ (.int .u64 (A.h : Int))).setCell ⟨tb, 5, none⟩ (.slice p A.l.length c)).setCell ⟨tb, 6, none⟩ (.int .u64 (A.n : Int))) := ⟨_, rfl⟩
    have t9 : w9.heap[tb]? = some (.cells #[.int .i64 A.e, .bool A.f, .int .u64 (A.x : Int), .bool A.d, .int .u64 (A.h : Int), .slice p A.l.length c, .int .u64 (A.n : Int)] 38 (0, 0)) := by rw [hw9]; exact (set_of (set_of (set_of (set_of (set_of (set_of (set_of (tz) 0 _) 1 _) 2 _) 3 _) 4 _) 5 _) 6 _)
    have s9 : w9.heap[s]? = some (.cells (stC lk m sb N hc lf dn) 92 (0, 0)) := by rw [hw9]; exact other_of (other_of (other_of (other_of (other_of (other_of (other_of (sz) (by omega) _) (by omega) _) (by omega) _) (by omega) _) (by omega) _) (by omega) _) (by omega) _
    have o9 : w9.heap[W.heap.size]? = some (.cells #[.int .u8 o.kd, .int .u64 (o.k : Int), .int .u64 (o.v : Int), .int .u64 (o.od : Int), .int .u64 (o.hk : Int), .bool r5, .int .i64 r6, .int .i64 r7, .slice kp o.ks.length kc, .int .u64 (o.lo : Int), .int .u64 (o.hi : Int)] 34 (0, 0)) := by rw [hw9]; exact other_of (other_of (other_of (other_of (other_of (other_of (other_of (oz) (by omega) _) (by omega) _) (by omega) _) (by omega) _) (by omega) _) (by omega) _) (by omega) _
    have a9 : w9.heap[W.heap.size + 1]? = some (.cells #[.int .i64 0, .bool false, .int .u64 0, .bool false, .int .u64 0, .slice none 0 0, .int .u64 0] 38 (0, 0)) := by rw [hw9]; exact other_of (other_of (other_of (other_of (other_of (other_of (other_of (az) (by omega) _) (by omega) _) (by omega) _) (by omega) _) (by omega) _) (by omega) _) (by omega) _
    have c9 : Chg (NM W w1) w1 w9 := by rw [hw9]; exact (((((((czz).setCell (fun hk => ntb hk) _).setCell (fun hk => ntb hk) _).setCell (fun hk => ntb hk) _).setCell (fun hk => ntb hk) _).setCell (fun hk => ntb hk) _).setCell (fun hk => ntb hk) _).setCell (fun hk => ntb hk) _
    subst hw
    exact ⟨w9, hw9, ⟨s9, o9⟩, cell_of tz 0, cell_of tz 1, cell_of tz 2, cell_of tz 3, cell_of tz 4, cell_of tz 5, cell_of tz 6, free_of tz 0, free_of tz 1, free_of tz 2, free_of tz 3, free_of tz 4, free_of tz 5, free_of tz 6, C0.drew.alloc _, by rw [World.size_alloc]; show W.heap.size + 2 ≤ w0.heap.size + 1; omega, hQ, cz, c9, t9, by omega, a9, o9⟩
  have HK1 : Hid (∀ w w1, Chg (fun _ => False) w0.drew w → Chg G w w1 → (w1.heap[s]? = some (.cells (stC lk m sb N hc lf dn) 92 (0, 0)) ∧ w1.heap[W.heap.size]? = some (.cells #[.int .u8 o.kd, .int .u64 (o.k : Int), .int .u64 (o.v : Int), .int .u64 (o.od : Int), .int .u64 (o.hk : Int), .bool r5, .int .i64 r6, .int .i64 r7, .slice kp o.ks.length kc, .int .u64 (o.lo : Int), .int .u64 (o.hi : Int)] 34 (0, 0)))) := by
    intro w w1 c0 cz
    exact ⟨(cz.block _ (Nat.lt_of_lt_of_le (lt_of s0) c0.size) (fun x => (hG s x).2 rfl)).trans ((c0.block _ (lt_of s0) (fun x => x)).trans s0), (cz.block _ (Nat.lt_of_lt_of_le (lt_of o0) c0.size) (fun x => by have := (hG _ x).1; omega)).trans ((c0.block _ (lt_of o0) (fun x => x)).trans o0)⟩
  have HD := keepH hD
  have HL := keepH hL
  have HC0 := keepH C0.drew
  have HB : Hid (s < W.heap.size ∧ sb < W.heap.size) := ⟨ls, hsb⟩
  clear hs s0 o0 a0 C0 hD hG ls hL hsb
  go_enter Try.func70, Try.ntmps70
  go_upto_region 1 with fail
  rw [← hw0]
  clear hw0
  go_cut [5] from 6 to 11 (fun s5 wz => ∃ (tb : Nat) (A : Ans) (p : Option Addr) (c : Nat) (w w1 : World), s5 = .pointer (some ⟨tb, 0, none⟩) ∧ Hid (Chg (fun _ => False) W w ∧ W.heap.size + 2 ≤ w.heap.size ∧ Q w w1 A p ∧ Chg G w w1 ∧ Chg (NM W w1) w1 wz ∧ wz.heap[tb]? = some (.cells #[.int .i64 A.e, .bool A.f, .int .u64 (A.x : Int), .bool A.d, .int .u64 (A.h : Int), .slice p A.l.length c, .int .u64 (A.n : Int)] 38 (0, 0)) ∧ W.heap.size + 2 ≤ tb ∧ wz.heap[W.heap.size + 1]? = some (.cells #[.int .i64 0, .bool false, .int .u64 0, .bool false, .int .u64 0, .slice none 0 0, .int .u64 0] 38 (0, 0)) ∧ wz.heap[W.heap.size]? = some (.cells #[.int .u8 o.kd, .int .u64 (o.k : Int), .int .u64 (o.v : Int), .int .u64 (o.od : Int), .int .u64 (o.hk : Int), .bool r5, .int .i64 r6, .int .i64 r7, .slice kp o.ks.length kc, .int .u64 (o.lo : Int), .int .u64 (o.hi : Int)] 34 (0, 0))))
  case first =>
    refine wp_region_held_drew (S := fun w' => w'.heap[s]? = some (.cells (stC lk m sb N hc lf dn) 92 (0, 0)) ∧ w'.heap[W.heap.size]? = some (.cells #[.int .u8 o.kd, .int .u64 (o.k : Int), .int .u64 (o.v : Int), .int .u64 (o.od : Int), .int .u64 (o.hk : Int), .bool r5, .int .i64 r6, .int .i64 r7, .slice kp o.ks.length kc, .int .u64 (o.lo : Int), .int .u64 (o.hi : Int)] 34 (0, 0))) (by kernel_rfl) (HS0.out) ?_
    intro hHeld
    refine wpAnyH_take (i := 0) (v := ?_) rfl (by kernel_rfl) (by kernel_rfl) (by kernel_rfl) (fun _ _ _ h => h) (Or.inl ⟨by rfl, ?_⟩) hHeld ?_
    rotate_left
    · intro w hSw
      (try dsimp only at hSw)
      go_simp
      try with_reducible rfl
    (try simp only [Act.put]); (try simp only [List.setIfInBounds_toArray]); (repeat (first | simp only [List.set_cons_succ] | simp only [List.set_cons_zero]))
    refine wpAnyH_take (i := 1) (v := ?_) rfl (by kernel_rfl) (by kernel_rfl) (by kernel_rfl) (fun _ _ _ h => h) (Or.inl ⟨by rfl, ?_⟩) hHeld ?_
    rotate_left
    · intro w hSw
      (try dsimp only at hSw)
      go_simp
      try with_reducible rfl
    (try simp only [Act.put]); (try simp only [List.setIfInBounds_toArray]); (repeat (first | simp only [List.set_cons_succ] | simp only [List.set_cons_zero]))
    refine wpAnyH_take (i := 2) (v := ?_) rfl (by kernel_rfl) (by kernel_rfl) (by kernel_rfl) (fun _ _ _ h => h) (Or.inl ⟨by rfl, ?_⟩) hHeld ?_
    rotate_left
    · intro w hSw
      (try dsimp only at hSw)
      go_simp
      try with_reducible rfl
    (try simp only [Act.put]); (try simp only [List.setIfInBounds_toArray]); (repeat (first | simp only [List.set_cons_succ] | simp only [List.set_cons_zero]))
    refine wpAnyH_take (i := 3) (v := ?_) rfl (by kernel_rfl) (by kernel_rfl) (by kernel_rfl) (fun _ _ _ h => h) (Or.inl ⟨by rfl, ?_⟩) hHeld ?_
    rotate_left
    · intro w hSw
      (try dsimp only at hSw)
      have y2 := cell_of hSw.1 2
      unfold stC at y2
      clear hSw
      go_simp
      try with_reducible rfl
    (try simp only [Act.put]); (try simp only [List.setIfInBounds_toArray]); (repeat (first | simp only [List.set_cons_succ] | simp only [List.set_cons_zero]))
    refine wpAnyH_take (i := 4) (v := ?_) rfl (by kernel_rfl) (by kernel_rfl) (by kernel_rfl) (fun _ _ _ h => h) (Or.inl ⟨by rfl, ?_⟩) hHeld ?_
    rotate_left
    · intro w hSw
      (try dsimp only at hSw)
      have y0 := cell_of hSw.2 0
      have y1 := cell_of hSw.2 1
      have y2 := cell_of hSw.2 2
      have y3 := cell_of hSw.2 3
      have y4 := cell_of hSw.2 4
      have y5 := cell_of hSw.2 5
      have y6 := cell_of hSw.2 6
      have y7 := cell_of hSw.2 7
      have y8 := cell_of hSw.2 8
      have y9 := cell_of hSw.2 9
      have y10 := cell_of hSw.2 10
      clear hSw
      go_simp
      try with_reducible rfl
    (try simp only [Act.put]); (try simp only [List.setIfInBounds_toArray]); (repeat (first | simp only [List.set_cons_succ] | simp only [List.set_cons_zero]))
    refine wpAnyH_ready (rs := [5, 6]) (by kernel_rfl) (by simp) ?_
    refine AllReadyH.cons rfl (fun KK hKK => ?_) (AllReadyH.cons rfl (fun KK hKK => ?_) AllReadyH.nil)
    · skip
      go_simp
      go_at_call 19
      refine (HD.out w0.drew HC0.out).mono ?_
      rintro e w1 ⟨A, p, c, rfl, hQ, cz⟩
      obtain ⟨w, hw⟩ : ∃ w, w = w0.drew := ⟨_, rfl⟩
      obtain ⟨w9, hw9, hS9, g0, g1, g2, g3, g4, g5, g6, f0, f1, f2, f3, f4, f5, f6, hZZ⟩ := HE1.out w1 A p c w w1.heap.size hw rfl hQ cz
      have HS1 := keepH (HK1.out w0.drew w1 (Chg.refl (fun _ => False) w0.drew) cz)
      have HW9 := keepH hw9
      have HS9 := keepH hS9
      have HZZ := keepH hZZ
      clear hw9 hS9 hZZ
      clear hQ cz
      try go_wp2_with fail
      refine hKK.out _ _ ?_ (fun hHeld => ?_)
      · exact HS1.out
      clear hKK KK
      (try simp only [Act.put]); (try simp only [List.setIfInBounds_toArray]); (repeat (first | simp only [List.set_cons_succ] | simp only [List.set_cons_zero]))
      refine wpAnyH_ready (rs := [6]) (by kernel_rfl) (by simp) ?_
      refine AllReadyH.cons rfl (fun KK hKK => ?_) AllReadyH.nil
      go_simp
      try go_wp2_with fail
      refine hKK.out _ _ ?_ (fun hHeld => ?_)
      · exact ⟨alloc_of HS1.out.1 _, alloc_of HS1.out.2 _⟩
      clear hKK KK
      (try simp only [Act.put]); (try simp only [List.setIfInBounds_toArray]); (repeat (first | simp only [List.set_cons_succ] | simp only [List.set_cons_zero]))
      refine wpAnyH_ready (rs := [7]) (by kernel_rfl) (by simp) ?_
      refine AllReadyH.cons rfl (fun KK hKK => ?_) AllReadyH.nil
      go_simp
      refine hKK.out _ _ ?_ (fun hHeld => ?_)
      · (rw [← HW9.out]; exact HS9.out)
      clear hKK KK
      (try simp only [Act.put]); (try simp only [List.setIfInBounds_toArray]); (repeat (first | simp only [List.set_cons_succ] | simp only [List.set_cons_zero]))
      refine wpAnyH_done (by kernel_rfl) ?_ _
      go_simp
      rw [← HW9.out]
      try go_wp2_with fail
      go_meet
      exact ⟨w1.heap.size, A, p, c, w, w1, rfl, HZZ.out⟩
    · skip
      go_simp
      try go_wp2_with fail
      refine hKK.out _ _ ?_ (fun hHeld => ?_)
      · exact ⟨alloc_of HS0.out.1 _, alloc_of HS0.out.2 _⟩
      clear hKK KK
      (try simp only [Act.put]); (try simp only [List.setIfInBounds_toArray]); (repeat (first | simp only [List.set_cons_succ] | simp only [List.set_cons_zero]))
      refine wpAnyH_ready (rs := [5]) (by kernel_rfl) (by simp) ?_
      refine AllReadyH.cons rfl (fun KK hKK => ?_) AllReadyH.nil
      go_simp
      go_at_call 19
      refine (HD.out (w0.drew.alloc (.cells #[.int .i64 0, .bool false, .int .u64 0, .bool false, .int .u64 0, .slice none 0 0, .int .u64 0] 38)) (HC0.out.alloc _)).mono ?_
      rintro e w1 ⟨A, p, c, rfl, hQ, cz⟩
      obtain ⟨w, hw⟩ : ∃ w, w = w0.drew.alloc (.cells #[.int .i64 0, .bool false, .int .u64 0, .bool false, .int .u64 0, .slice none 0 0, .int .u64 0] 38) := ⟨_, rfl⟩
      obtain ⟨w9, hw9, hS9, g0, g1, g2, g3, g4, g5, g6, f0, f1, f2, f3, f4, f5, f6, hZZ⟩ := HE2.out w1 A p c w w0.heap.size hw rfl hQ cz
      have HS1 := keepH (HK1.out (w0.drew.alloc (.cells #[.int .i64 0, .bool false, .int .u64 0, .bool false, .int .u64 0, .slice none 0 0, .int .u64 0] 38)) w1 ((Chg.refl (fun _ => False) w0.drew).alloc _) cz)
      have HW9 := keepH hw9
      have HS9 := keepH hS9
      have HZZ := keepH hZZ
      clear hw9 hS9 hZZ
      clear hQ cz
      try go_wp2_with fail
      refine hKK.out _ _ ?_ (fun hHeld => ?_)
      · exact HS1.out
      clear hKK KK
      (try simp only [Act.put]); (try simp only [List.setIfInBounds_toArray]); (repeat (first | simp only [List.set_cons_succ] | simp only [List.set_cons_zero]))
      refine wpAnyH_ready (rs := [7]) (by kernel_rfl) (by simp) ?_
      refine AllReadyH.cons rfl (fun KK hKK => ?_) AllReadyH.nil
      go_simp
      refine hKK.out _ _ ?_ (fun hHeld => ?_)
      · (rw [← HW9.out]; exact HS9.out)
      clear hKK KK
      (try simp only [Act.put]); (try simp only [List.setIfInBounds_toArray]); (repeat (first | simp only [List.set_cons_succ] | simp only [List.set_cons_zero]))
      refine wpAnyH_done (by kernel_rfl) ?_ _
      go_simp
      rw [← HW9.out]
      try go_wp2_with fail
      go_meet
      exact ⟨w0.heap.size, A, p, c, w, w1, rfl, HZZ.out⟩
  case rest =>
    obtain ⟨wz, hwz⟩ : ∃ wz, wz = wc := ⟨_, rfl⟩
    rw [← hwz] at hcut ⊢
    clear hwz
    obtain ⟨tb, A, p, c, w, w1, rfl, HZZ⟩ := hcut
    have HO := keepH HZZ.out.2.2.2.2.2.2.2.2
    have t0 := cell_of HZZ.out.2.2.2.2.2.1 0
    by_cases he : A.e = 0
    · have HE0 := keepH he
      have q : (A.e == 0) = true := by simpa using he
      clear he
      go_upto_region 3 with fail
      clear t0 q
      refine wp_region_held_drew (S := fun w' => w'.heap[W.heap.size]? = some (.cells #[.int .u8 o.kd, .int .u64 (o.k : Int), .int .u64 (o.v : Int), .int .u64 (o.od : Int), .int .u64 (o.hk : Int), .bool r5, .int .i64 r6, .int .i64 r7, .slice kp o.ks.length kc, .int .u64 (o.lo : Int), .int .u64 (o.hi : Int)] 34 (0, 0))) (by kernel_rfl) (HO.out) ?_
      intro hHeld
      refine wpAnyH_take (i := 0) (v := ?_) rfl (by kernel_rfl) (by kernel_rfl) (by kernel_rfl) (fun _ _ _ h => h) (Or.inl ⟨by rfl, ?_⟩) hHeld ?_
      rotate_left
      · intro w hSw
        (try dsimp only at hSw)
        go_simp
        try with_reducible rfl
      (try simp only [Act.put]); (try simp only [List.setIfInBounds_toArray]); (repeat (first | simp only [List.set_cons_succ] | simp only [List.set_cons_zero]))
      refine wpAnyH_take (i := 1) (v := ?_) rfl (by kernel_rfl) (by kernel_rfl) (by kernel_rfl) (fun _ _ _ h => h) (Or.inl ⟨by rfl, ?_⟩) hHeld ?_
      rotate_left
      · intro w hSw
        (try dsimp only at hSw)
        go_simp
        try with_reducible rfl
      (try simp only [Act.put]); (try simp only [List.setIfInBounds_toArray]); (repeat (first | simp only [List.set_cons_succ] | simp only [List.set_cons_zero]))
      refine wpAnyH_take (i := 2) (v := ?_) rfl (by kernel_rfl) (by kernel_rfl) (by kernel_rfl) (fun _ _ _ h => h) (Or.inl ⟨by rfl, ?_⟩) hHeld ?_
      rotate_left
      · intro w hSw
        (try dsimp only at hSw)
        go_simp
        try with_reducible rfl
      (try simp only [Act.put]); (try simp only [List.setIfInBounds_toArray]); (repeat (first | simp only [List.set_cons_succ] | simp only [List.set_cons_zero]))
      refine wpAnyH_take (i := 3) (v := ?_) rfl (by kernel_rfl) (by kernel_rfl) (by kernel_rfl) (fun _ _ _ h => h) (Or.inl ⟨by rfl, ?_⟩) hHeld ?_
      rotate_left
      · intro w hSw
        (try dsimp only at hSw)
        go_simp
        try with_reducible rfl
      (try simp only [Act.put]); (try simp only [List.setIfInBounds_toArray]); (repeat (first | simp only [List.set_cons_succ] | simp only [List.set_cons_zero]))
      refine wpAnyH_take (i := 4) (v := ?_) rfl (by kernel_rfl) (by kernel_rfl) (by kernel_rfl) (fun _ _ _ h => h) (Or.inl ⟨by rfl, ?_⟩) hHeld ?_
      rotate_left
      · intro w hSw
        (try dsimp only at hSw)
        have y4 := cell_of hSw 4
        clear hSw
        go_simp
        try with_reducible rfl
      (try simp only [Act.put]); (try simp only [List.setIfInBounds_toArray]); (repeat (first | simp only [List.set_cons_succ] | simp only [List.set_cons_zero]))
      refine wpAnyH_ready (rs := [5]) (by kernel_rfl) (by simp) ?_
      refine AllReadyH.cons rfl (fun KK hKK => ?_) AllReadyH.nil
      go_simp
      go_at_call 91
      refine (HL.out w w1 A p wz.drew HZZ.out.2.2.1 HZZ.out.2.2.2.2.1.drew HE0.out).mono ?_
      rintro e wy ⟨rfl, hl, cy⟩
      have HOY := keepH ((cy.block _ (lt_of HO.out) (by have := HB.out; omega)).trans HO.out)
      have HLL := keepH hl
      have HCY := keepH cy
      clear hl cy
      try go_wp2_with fail
      refine hKK.out _ _ ?_ (fun hHeld => ?_)
      · exact HOY.out
      clear hKK KK
      (try simp only [Act.put]); (try simp only [List.setIfInBounds_toArray]); (repeat (first | simp only [List.set_cons_succ] | simp only [List.set_cons_zero]))
      refine wpAnyH_done (by kernel_rfl) ?_ _
      go_simp
      have tz := (HCY.out.block _ (lt_of HZZ.out.2.2.2.2.2.1) (by have := HB.out; have := HZZ.out.2.2.2.2.2.2.1; omega)).trans HZZ.out.2.2.2.2.2.1
      have az := (HCY.out.block _ (lt_of HZZ.out.2.2.2.2.2.2.2.1) (by have := HB.out; omega)).trans HZZ.out.2.2.2.2.2.2.2.1
      obtain ⟨w9, hw9⟩ : ∃ w9, w9 = (((((((wy.setCell ⟨W.heap.size + 1, 0, none⟩ (.int .i64 A.e)).setCell ⟨W.heap.size + 1, 1, none⟩ (.bool A.f)).setCell ⟨W.heap.size + 1, 2, none⟩ (.int .u64 (A.x : Int))).setCell ⟨W.heap.size + 1, 3, none⟩ (.bool A.d)).setCell ⟨W.heap.size + 1, 4, none⟩ (.int .u64 (A.h : Int))).setCell ⟨W.heap.size + 1, 5, none⟩ (.slice p A.l.length c)).setCell ⟨W.heap.size + 1, 6, none⟩ (.int .u64 (A.n : Int))) := ⟨_, rfl⟩
      have a9 : w9.heap[W.heap.size + 1]? = some (.cells #[.int .i64 A.e, .bool A.f, .int .u64 (A.x : Int), .bool A.d, .int .u64 (A.h : Int), .slice p A.l.length c, .int .u64 (A.n : Int)] 38 (0, 0)) := by rw [hw9]; exact set_of (set_of (set_of (set_of (set_of (set_of (set_of (az) 0 _) 1 _) 2 _) 3 _) 4 _) 5 _) 6 _
      have HC9 : Hid (Chg (NM W wy) wy w9) := by rw [hw9]; exact (((((((Chg.refl (NM W wy) wy).setCell (fun _ => ⟨Nat.le_succ _, fun es c e => by rw [az] at e; cases e⟩) _).setCell (fun _ => ⟨Nat.le_succ _, fun es c e => by rw [az] at e; cases e⟩) _).setCell (fun _ => ⟨Nat.le_succ _, fun es c e => by rw [az] at e; cases e⟩) _).setCell (fun _ => ⟨Nat.le_succ _, fun es c e => by rw [az] at e; cases e⟩) _).setCell (fun _ => ⟨Nat.le_succ _, fun es c e => by rw [az] at e; cases e⟩) _).setCell (fun _ => ⟨Nat.le_succ _, fun es c e => by rw [az] at e; cases e⟩) _).setCell (fun _ => ⟨Nat.le_succ _, fun es c e => by rw [az] at e; cases e⟩) _
      have t0 := cell_of tz 0
      have t1 := cell_of tz 1
      have t2 := cell_of tz 2
      have t3 := cell_of tz 3
      have t4 := cell_of tz 4
      have t5 := cell_of tz 5
      have t6 := cell_of tz 6
      have g0 := cell_of az 0
      have g1 := cell_of az 1
      have g2 := cell_of az 2
      have g3 := cell_of az 3
      have g4 := cell_of az 4
      have g5 := cell_of az 5
      have g6 := cell_of az 6
      have f0 := free_of az 0
      have f1 := free_of az 1
      have f2 := free_of az 2
      have f3 := free_of az 3
      have f4 := free_of az 4
      have f5 := free_of az 5
      have f6 := free_of az 6
      have e0 := cell_of a9 0
      have e1 := cell_of a9 1
      have e2 := cell_of a9 2
      have e3 := cell_of a9 3
      have e4 := cell_of a9 4
      have e5 := cell_of a9 5
      have e6 := cell_of a9 6
      have HW9 := keepH hw9
      clear hw9 a9 az tz
      go_wp2_with fail
      rw [← HW9.out]
      refine bodyPost_ret (v := .agg #[.int .i64 A.e, .bool A.f, .int .u64 (A.x : Int), .bool A.d, .int .u64 (A.h : Int), .slice p A.l.length c, .int .u64 (A.n : Int)]) (by simp [results, Try.results70, go_sem, e0, e1, e2, e3, e4, e5, e6]) rfl ?_
      exact ⟨A, p, c, w, w1, wz.drew, wy, rfl, HZZ.out.1, HZZ.out.2.1, HZZ.out.2.2.1, HZZ.out.2.2.2.1, HZZ.out.2.2.2.2.1.drew, .inl ⟨HE0.out, HLL.out, HCY.out⟩, HC9.out⟩
    · have HE0 := keepH he
      have q : (A.e == 0) = false := by simpa using he
      clear he
      have tz := HZZ.out.2.2.2.2.2.1
      have az := HZZ.out.2.2.2.2.2.2.2.1
      obtain ⟨w9, hw9⟩ : ∃ w9, w9 = (((((((wz.setCell ⟨W.heap.size + 1, 0, none⟩ (.int .i64 A.e)).setCell ⟨W.heap.size + 1, 1, none⟩ (.bool A.f)).setCell ⟨W.heap.size + 1, 2, none⟩ (.int .u64 (A.x : Int))).setCell ⟨W.heap.size + 1, 3, none⟩ (.bool A.d)).setCell ⟨W.heap.size + 1, 4, none⟩ (.int .u64 (A.h : Int))).setCell ⟨W.heap.size + 1, 5, none⟩ (.slice p A.l.length c)).setCell ⟨W.heap.size + 1, 6, none⟩ (.int .u64 (A.n : Int))) := ⟨_, rfl⟩
      have a9 : w9.heap[W.heap.size + 1]? = some (.cells #[.int .i64 A.e, .bool A.f, .int .u64 (A.x : Int), .bool A.d, .int .u64 (A.h : Int), .slice p A.l.length c, .int .u64 (A.n : Int)] 38 (0, 0)) := by rw [hw9]; exact set_of (set_of (set_of (set_of (set_of (set_of (set_of (az) 0 _) 1 _) 2 _) 3 _) 4 _) 5 _) 6 _
      have HC9 : Hid (Chg (NM W wz) wz w9) := by rw [hw9]; exact (((((((Chg.refl (NM W wz) wz).setCell (fun _ => ⟨Nat.le_succ _, fun es c e => by rw [az] at e; cases e⟩) _).setCell (fun _ => ⟨Nat.le_succ _, fun es c e => by rw [az] at e; cases e⟩) _).setCell (fun _ => ⟨Nat.le_succ _, fun es c e => by rw [az] at e; cases e⟩) _).setCell (fun _ => ⟨Nat.le_succ _, fun es c e => by rw [az] at e; cases e⟩) _).setCell (fun _ => ⟨Nat.le_succ _, fun es c e => by rw [az] at e; cases e⟩) _).setCell (fun _ => ⟨Nat.le_succ _, fun es c e => by rw [az] at e; cases e⟩) _).setCell (fun _ => ⟨Nat.le_succ _, fun es c e => by rw [az] at e; cases e⟩) _
      skip
      have t1 := cell_of tz 1
      have t2 := cell_of tz 2
      have t3 := cell_of tz 3
      have t4 := cell_of tz 4
      have t5 := cell_of tz 5
      have t6 := cell_of tz 6
      have g0 := cell_of az 0
      have g1 := cell_of az 1
      have g2 := cell_of az 2
      have g3 := cell_of az 3
      have g4 := cell_of az 4
      have g5 := cell_of az 5
      have g6 := cell_of az 6
      have f0 := free_of az 0
      have f1 := free_of az 1
      have f2 := free_of az 2
      have f3 := free_of az 3
      have f4 := free_of az 4
      have f5 := free_of az 5
      have f6 := free_of az 6
      have e0 := cell_of a9 0
      have e1 := cell_of a9 1
      have e2 := cell_of a9 2
      have e3 := cell_of a9 3
      have e4 := cell_of a9 4
      have e5 := cell_of a9 5
      have e6 := cell_of a9 6
      have HW9 := keepH hw9
      clear hw9 a9 az tz
      go_wp2_with fail
      rw [← HW9.out]
      refine bodyPost_ret (v := .agg #[.int .i64 A.e, .bool A.f, .int .u64 (A.x : Int), .bool A.d, .int .u64 (A.h : Int), .slice p A.l.length c, .int .u64 (A.n : Int)]) (by simp [results, Try.results70, go_sem, e0, e1, e2, e3, e4, e5, e6]) rfl ?_
      exact ⟨A, p, c, w, w1, wz, wz, rfl, HZZ.out.1, HZZ.out.2.1, HZZ.out.2.2.1, HZZ.out.2.2.2.1, HZZ.out.2.2.2.2.1, .inr ⟨HE0.out, rfl⟩, HC9.out⟩
end Go.Proofs.Ytahgaghokpicgaa
