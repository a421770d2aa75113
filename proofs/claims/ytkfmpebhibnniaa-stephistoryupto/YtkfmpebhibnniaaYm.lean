/- SameUint64s, SameAccesses with values. -/
import Derived.Test.YtkfmpebhibnniaaLexA
import Derived.Test.YtkfmpebhibnniaaYk
import Derived.BigQuiet
namespace Go.Proofs.Ytkfmpebhibnniaa
open Go.RowKit Go.Shelf
set_option linter.unusedVariables false

theorem drewN_addY (W : World) (a b : Nat) : W.drewN (a + b) = (W.drewN a).drewN b := by simp [World.drewN, Nat.add_assoc]
def UReads (W : World) (p : Option Addr) (xs : List Nat) : Prop :=
  xs = [] ∨ ∃ bk off, p = some ⟨bk, off, none⟩ ∧ bk < W.heap.size ∧ ∀ (i x : Nat), xs[i]? = some x → W.cell? ⟨bk, off + i, none⟩ = some (.int .u64 (x : Int))
theorem UReads.get {W : World} {p : Option Addr} {xs : List Nat} (h : UReads W p xs) (i x : Nat) (hx : xs[i]? = some x) : ∃ bk off, p = some ⟨bk, off, none⟩ ∧ bk < W.heap.size ∧ W.cell? ⟨bk, off + i, none⟩ = some (.int .u64 (x : Int)) := by
  rcases h with rfl | ⟨bk, off, rfl, hb, h⟩
  · simp at hx
  · exact ⟨bk, off, rfl, hb, h i x hx⟩
theorem UReads.up {W X : World} {p : Option Addr} {xs : List Nat} {F : Nat → Prop} (h : UReads W p xs) (hc : Chg F W X) (hF : ∀ b, F b → W.heap.size ≤ b) : UReads X p xs := by
  rcases h with rfl | ⟨bk, off, rfl, hb, h⟩
  · exact .inl rfl
  · exact .inr ⟨bk, off, rfl, Nat.lt_of_lt_of_le hb hc.size, fun i x hx => cell_chg hc (h i x hx) (fun e => by
      have := hF _ e
      simp at this
      omega)⟩
theorem add_plain (bk off i : Nat) : (⟨bk, off, none⟩ : Addr).add i = ⟨bk, off + i, none⟩ := by
  unfold Addr.add
  split <;> simp
theorem UReads.of_reads {W : World} {p : Option Addr} {xs : List Nat} (h : Reads W p xs) (hl : ∀ q, p = some q → xs ≠ [] → q.block < W.heap.size) : UReads W p xs := by
  rcases Classical.em (xs = []) with e | e
  · exact .inl e
  · rcases h with h | ⟨ad, rfl, h⟩
    · exact absurd h e
    · obtain ⟨bk, off, spot⟩ := ad
      obtain ⟨x, r, rfl⟩ := List.exists_cons_of_ne_nil e
      have c0 := h 0 (u64V x) (by simp)
      have hspot : spot = none := by simpa [Addr.add] using World.cell?_spot c0
      subst hspot
      refine .inr ⟨bk, off, rfl, hl _ rfl e, fun i y hy => ?_⟩
      rw [← add_plain]
      exact h i (u64V y) (by rw [List.getElem?_map, hy]; rfl)
theorem UReads.of_row {W : World} {p : Option Addr} {c : Nat} {vals : List Nat} (h : W.ownsRow 0 51 1 (.slice p vals.length c) vals.length (vals.map u64V)) : UReads W p vals :=
  UReads.of_reads (Reads.of_row h) (fun q hq _ => by subst hq; exact row_lt h _ rfl)

set_option maxRecDepth 100000 in
set_option maxHeartbeats 2000000 in
theorem s_sameUq (p q : Option Addr) (c d : Nat) (la : List Nat) (W : World) (ha : UReads W p la) (hb : UReads W q la) (hla : la.length ≤ 17592186043904) :
    Calls Try.prog 16 #[.slice p la.length c, .slice q la.length d] W fun e W' => e = .returned (.bool true) ∧ ∃ n, W' = W.drewN n := by
  have HA := keepH ha
  have HB := keepH hb
  clear ha hb
  go_enter Try.func16, Try.ntmps16
  go_wp2_with fail
  go_loopw [5] (fun s wr => ∃ k : Nat, k ≤ la.length ∧ s = .int .i64 (k : Int) ∧ Hid (∃ n, wr = W.drewN n)) (fun s _ => la.length - (intOf s).toNat)
  case atStart => exact ⟨0, by omega, rfl, keepH ⟨0, rfl⟩⟩
  case round =>
    obtain ⟨k, hk, rfl, HK⟩ := hrel
    by_cases hlt : k < la.length
    · have t1 : (k : Int) < (la.length : Int) := by omega
      obtain ⟨x, hx⟩ : ∃ x, la[k]? = some x := ⟨la[k], List.getElem?_eq_getElem hlt⟩
      obtain ⟨bk, off, rfl, _, c0⟩ := (HA.out.up (X := wr) (F := fun _ => False) (by obtain ⟨n, e⟩ := HK.out; rw [e]; exact drewN_chgY W n) (fun _ x => x.elim)).get k x hx
      obtain ⟨bk', off', rfl, _, d0⟩ := (HB.out.up (X := wr) (F := fun _ => False) (by obtain ⟨n, e⟩ := HK.out; rw [e]; exact drewN_chgY W n) (fun _ x => x.elim)).get k x hx
      obtain ⟨z, hz⟩ : ∃ z : Int, z = (x : Int) := ⟨_, rfl⟩
      rw [← hz] at c0 d0
      clear hx hz
      go_wp2_with fail
      go_quiet (fail)
      go_wp2_with fail
      go_roundw
      case rel => exact ⟨k + 1, by omega, by first | rfl | go_num, keepH (by obtain ⟨n, e⟩ := HK.out; exact ⟨n + nq, by rw [e, drewN_addY]⟩)⟩
      case measure => simp [intOf]; omega
    · obtain rfl : k = la.length := by omega
      have t1 : ¬ (la.length : Int) < (la.length : Int) := by omega
      go_wp2_with fail
      go_ret
      exact ⟨by simp, HK.out⟩

theorem acc_cell {W : World} {g n c : Nat} {lk : List Acc} (h : W.ownsRow 0 107 8 (.slice (some ⟨g, 0, none⟩) n c) n (accRow lk)) (j f : Nat) (x : Acc) (hj : lk[j]? = some x) (hn : j < n) (hf : f < 8) (v : Value) (hv : x.cells[f]? = some v) : W.cell? ⟨g, j * 8 + f, none⟩ = some v := by
  rw [World.ownsRow.cellAt h (j * 8 + f) (by omega), accRow_get lk j f hf, hj]
  exact hv

/-- Two accesses tell the same, with their values. -/
def LikeV (W : World) (x y : Acc) : Prop := x.th = y.th ∧ x.kind = y.kind ∧ x.addr = y.addr ∧ x.a = y.a ∧ x.b = y.b ∧ x.got = y.got ∧ x.ok = y.ok ∧ ∃ vl : List Nat, vl.length ≤ 17592186043904 ∧ (∃ p c, x.vs = .slice p vl.length c ∧ UReads W p vl) ∧ ∃ p c, y.vs = .slice p vl.length c ∧ UReads W p vl

set_option maxRecDepth 100000 in
set_option maxHeartbeats 4000000 in
theorem s_sameAV (p q : Option Addr) (c d n : Nat) (la lb : List Acc) (W : World) (ha : W.ownsRow 0 107 8 (.slice p n c) n (accRow la)) (hb : W.ownsRow 0 107 8 (.slice q n d) n (accRow lb)) (hla : la.length = n) (hlb : lb.length = n) (hk : ∀ (i : Nat) (x y : Acc), la[i]? = some x → lb[i]? = some y → LikeV W x y) (hn : n ≤ 1099511627776) :
    Calls Try.prog 17 #[.slice p n c, .slice q n d] W fun e W' => e = .returned (.bool true) ∧ ∃ q, W' = W.drewN q := by
  have HA0 := keepH ha
  have HB0 := keepH hb
  have HLA := keepH hla
  have HLB := keepH hlb
  have HK := keepH hk
  clear ha hb hla hlb hk
  go_enter Try.func17, Try.ntmps17
  go_wp2_with fail
  go_loopw [5] (fun s wr => ∃ k : Nat, k ≤ n ∧ s = .int .i64 (k : Int) ∧ Hid (∃ q, wr = W.drewN q)) (fun s _ => n - (intOf s).toNat)
  case atStart => exact ⟨0, by omega, rfl, keepH ⟨0, rfl⟩⟩
  case round =>
    obtain ⟨k, hkn, rfl, HQ⟩ := hrel
    have HA : Hid (wr.ownsRow 0 107 8 (.slice p n c) n (accRow la)) := by obtain ⟨q, e⟩ := HQ.out; rw [e]; exact row_kept (W := W) HA0.out fun k _ => rfl
    have HB : Hid (wr.ownsRow 0 107 8 (.slice q n d) n (accRow lb)) := by obtain ⟨q, e⟩ := HQ.out; rw [e]; exact row_kept (W := W) HB0.out fun k _ => rfl
    by_cases hlt : k < n
    · have t1 : (k : Int) < (n : Int) := by omega
      obtain ⟨x, hx⟩ : ∃ x, la[k]? = some x := ⟨la[k]'(by have := HLA.out; omega), List.getElem?_eq_getElem _⟩
      obtain ⟨y, hy⟩ : ∃ y, lb[k]? = some y := ⟨lb[k]'(by have := HLB.out; omega), List.getElem?_eq_getElem _⟩
      obtain ⟨e0, e1, e2, e3, e4, e5, e6, vl, hvl, ⟨xp, xc, e7, hxr⟩, yp, yc, e8, hyr⟩ := HK.out k x y hx hy
      have HU : Hid (∀ m, Calls Try.prog 16 #[.slice xp vl.length xc, .slice yp vl.length yc] (wr.drewN m) fun e W' => e = .returned (.bool true) ∧ ∃ n, W' = (wr.drewN m).drewN n) := fun m => by
        obtain ⟨q, e⟩ := HQ.out
        have cq : Chg (fun _ => False) W (wr.drewN m) := by rw [e]; exact (drewN_chgY W q).trans (drewN_chgY _ m) (fun _ _ x => x) (fun _ _ x => x)
        exact s_sameUq xp yp xc yc vl _ (hxr.up cq (fun _ x => x.elim)) (hyr.up cq (fun _ x => x.elim)) hvl
      obtain ⟨g1, c1, hg1⟩ := slice_pos HA.out (by omega)
      obtain ⟨g2, c2, hg2⟩ := slice_pos HB.out (by omega)
      simp only [Value.slice.injEq, true_and] at hg1 hg2
      obtain ⟨rfl, rfl⟩ := hg1
      obtain ⟨rfl, rfl⟩ := hg2
      have a0 : wr.cell? ⟨g1, k * 8, none⟩ = some (.int .i64 x.th) := acc_cell HA.out k 0 x hx hlt (by decide) _ rfl
      have a1 : wr.cell? ⟨g1, k * 8 + 1, none⟩ = some (.int .u8 (x.kind : Int)) := acc_cell HA.out k 1 x hx hlt (by decide) _ rfl
      have a2 : wr.cell? ⟨g1, k * 8 + 2, none⟩ = some (.int .u64 (x.addr : Int)) := acc_cell HA.out k 2 x hx hlt (by decide) _ rfl
      have a3 : wr.cell? ⟨g1, k * 8 + 3, none⟩ = some (.int .u64 (x.a : Int)) := acc_cell HA.out k 3 x hx hlt (by decide) _ rfl
      have a4 : wr.cell? ⟨g1, k * 8 + 4, none⟩ = some (.int .u64 (x.b : Int)) := acc_cell HA.out k 4 x hx hlt (by decide) _ rfl
      have a5 : wr.cell? ⟨g1, k * 8 + 5, none⟩ = some (.slice xp vl.length xc) := acc_cell HA.out k 5 x hx hlt (by decide) _ (by rw [← e7]; rfl)
      have a6 : wr.cell? ⟨g1, k * 8 + 6, none⟩ = some (.int .u64 (x.got : Int)) := acc_cell HA.out k 6 x hx hlt (by decide) _ rfl
      have a7 : wr.cell? ⟨g1, k * 8 + 7, none⟩ = some (.bool x.ok) := acc_cell HA.out k 7 x hx hlt (by decide) _ rfl
      have b0 : wr.cell? ⟨g2, k * 8, none⟩ = some (.int .i64 x.th) := acc_cell HB.out k 0 y hy hlt (by decide) _ (by rw [e0]; rfl)
      have b1 : wr.cell? ⟨g2, k * 8 + 1, none⟩ = some (.int .u8 (x.kind : Int)) := acc_cell HB.out k 1 y hy hlt (by decide) _ (by rw [e1]; rfl)
      have b2 : wr.cell? ⟨g2, k * 8 + 2, none⟩ = some (.int .u64 (x.addr : Int)) := acc_cell HB.out k 2 y hy hlt (by decide) _ (by rw [e2]; rfl)
      have b3 : wr.cell? ⟨g2, k * 8 + 3, none⟩ = some (.int .u64 (x.a : Int)) := acc_cell HB.out k 3 y hy hlt (by decide) _ (by rw [e3]; rfl)
      have b4 : wr.cell? ⟨g2, k * 8 + 4, none⟩ = some (.int .u64 (x.b : Int)) := acc_cell HB.out k 4 y hy hlt (by decide) _ (by rw [e4]; rfl)
      have b5 : wr.cell? ⟨g2, k * 8 + 5, none⟩ = some (.slice yp vl.length yc) := acc_cell HB.out k 5 y hy hlt (by decide) _ (by rw [← e8]; rfl)
      have b6 : wr.cell? ⟨g2, k * 8 + 6, none⟩ = some (.int .u64 (x.got : Int)) := acc_cell HB.out k 6 y hy hlt (by decide) _ (by rw [e5]; rfl)
      have b7 : wr.cell? ⟨g2, k * 8 + 7, none⟩ = some (.bool x.ok) := acc_cell HB.out k 7 y hy hlt (by decide) _ (by rw [e6]; rfl)
      obtain ⟨th, kind, addr, xa, xb, vs, vals, got, ok⟩ := x
      simp only at a0 a1 a2 a3 a4 a6 a7 b0 b1 b2 b3 b4 b6 b7
      clear e0 e1 e2 e3 e4 e5 e6 e7 e8 hx hy hxr hyr
      go_wp2_with fail
      dsimp only [List.append]
      refine wp_region_quiet_lit (by kernel_rfl) ((congrArg (Region.lexB .any) (a₂ := (opsIn 6 (Try.f17.body.getD .skip)).toArray) (by kernel_rfl)).trans lexA) ?_
      repeat (go_big_quiet_step (first | (go_at_call 16; refine (HU.out _).mono ?_; rintro x y ⟨rfl, m, rfl⟩; exact ⟨rfl, _, (drewN_addY _ _ _).symm⟩)))
      refine wpQuiet_nil ?_
      intro _ hw'
      obtain ⟨nq, hw''⟩ := hw'
      subst hw''
      go_wp2_with fail
      go_roundw
      case rel => exact ⟨k + 1, by omega, by first | rfl | go_num, keepH (by obtain ⟨q, e⟩ := HQ.out; exact ⟨q + nq, by rw [e, drewN_addY]⟩)⟩
      case measure => simp [intOf]; omega
    · obtain rfl : k = n := by omega
      have t1 : ¬ (k : Int) < (k : Int) := by omega
      go_wp2_with fail
      go_ret
      exact ⟨by simp, HQ.out⟩
end Go.Proofs.Ytkfmpebhibnniaa
