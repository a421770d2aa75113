/- TopBehind: what holds from round to round. -/
import Derived.Test.YtnlkdibalhgipaaXc
import Derived.Test.YtnlkdibalhgipaaNpm
namespace Go.Proofs.Ytnlkdibalhgipaa
open Go.RowKit Go.Maps
set_option linter.unusedVariables false

set_option maxRecDepth 100000 in
theorem new_q (W : World) : Calls Try.prog 4 #[.int .i64 4] W fun e W' => e = .returned (.tuple #[.pointer (some ⟨W.heap.size + 2, 0, none⟩), .int .i64 0]) ∧ MoAt W' (W.heap.size + 2) W.heap.size (W.heap.size + 1) 4 (fun _ => none) (fun _ => none) (fun _ _ => none) 0 ∧ Chg (fun _ => False) W W' := by
  have hmm := @run_makeMap Try.prog
  go_enter Try.func4, Try.ntmps4
  go_wp2_with fail
  go_ret2
  refine ⟨by simp, ⟨?_, ?_, ?_, fun k b hb => by simp at hb, by omega, by omega, by omega, fun k b hb => by simp at hb⟩, (((Chg.refl _ _).alloc _).alloc _).alloc _⟩
  · have e := heap_alloc_new ((W.alloc (.map #[] 0)).alloc (.map #[] 0)) (.cells #[.int .i64 4, .map (some W.heap.size), .map (some (W.heap.size + 1))] 56)
    rw [World.size_alloc, World.size_alloc] at e
    simpa using e
  · exact MapR.chg (F := fun _ => False) (MapR.made _ _ _ W) (((Chg.refl _ _).alloc _).alloc _) (fun x => x)
  · have e := MapR.made heldM elH (fun _ => True) (W.alloc (.map #[] 0))
    rw [World.size_alloc] at e
    exact MapR.chg (F := fun _ => False) e ((Chg.refl _ _).alloc _) (fun x => x)
/-- The model, the law's map, the lists in it, the two rows. -/
structure TB (W wr : World) (m nw hd b : Nat) (f h : Nat → Option Nat) (g : Nat → Nat → Option Nat) (q : Nat → Bool) (sv : Nat → Value) (n nq i5 i6 : Nat) (v5 v6 : Value) : Prop where
  mo : MoAt wr m nw hd 4 f h g n
  hm : HM wr b nq q sv
  pr : ∀ k bk, h k = some bk → q k = true → ∃ l, PRow wr W.heap.size (sv k) l ∧ Lists (g bk) 0 18446744073709551615 l
  r5 : wr.ownsRow W.heap.size 43 4 v5 i5 (flS (spsB i5))
  r6 : wr.ownsRow W.heap.size 3 1 v6 i6 ((ordB i6).map (Value.int .i64))
  lo : W.heap.size ≤ m ∧ W.heap.size ≤ nw ∧ W.heap.size ≤ hd ∧ W.heap.size ≤ b
  nb : b ≠ m ∧ b ≠ nw ∧ b ≠ hd
  pb : ∀ k bk, h k = some bk → bk ≠ b
  chg : Chg (fun _ => False) W wr
theorem TB.quiet {W wr wx : World} {m nw hd b : Nat} {f h : Nat → Option Nat} {g : Nat → Nat → Option Nat} {q : Nat → Bool} {sv : Nat → Value} {n nq i5 i6 : Nat} {v5 v6 : Value} (H : TB W wr m nw hd b f h g q sv n nq i5 i6 v5 v6) (c : Chg (fun _ => False) wr wx) : TB W wx m nw hd b f h g q sv n nq i5 i6 v5 v6 :=
  ⟨H.mo.quiet c, MapR.chg H.hm c (fun x => x), fun k bk hk hq => by
    obtain ⟨l, h1, h2⟩ := H.pr k bk hk hq
    exact ⟨l, h1.chgF c (fun _ _ x => x), h2⟩, ownsRow_chg H.r5 c (fun _ _ x => x), ownsRow_chg H.r6 c (fun _ _ x => x), H.lo, H.nb, H.pb, H.chg.trans c (fun _ _ x => x) (fun _ _ x => x)⟩
/-- Behind a Do. -/
theorem TB.did {W wr wx : World} {m nw hd b : Nat} {f h f' h' : Nat → Option Nat} {g g' : Nat → Nat → Option Nat} {q : Nat → Bool} {sv : Nat → Value} {n n' nq i5 i6 : Nat} {v5 v6 : Value} (H : TB W wr m nw hd b f h g q sv n nq i5 i6 v5 v6) (hm : MoAt wx m nw hd 4 f' h' g' n') (c : Chg (fun i => i = nw ∨ i = hd) wr wx)
    (hh : ∀ k bk, h' k = some bk → q k = true → h k = some bk ∧ g' bk = g bk) (hb' : ∀ k bk, h' k = some bk → bk ≠ b) : TB W wx m nw hd b f' h' g' q sv n' nq i5 i6 v5 v6 := by
  have nl := H.lo
  have nn := H.nb
  have apart : ∀ {t : TypeId} {gx : Nat} {cur : Array Value}, wr.heap[gx]? = some (.cells cur t (0, 0)) → ¬ (gx = nw ∨ gx = hd) := fun hg e => by
    rcases e with e | e
    · exact row_not_map H.mo.now hg e
    · exact row_not_map H.mo.held hg e
  refine ⟨hm, MapR.chg H.hm c (by omega), fun k bk hk hq => ?_, ?_, ?_, H.lo, H.nb, hb', H.chg.trans c (fun _ _ x => x) (fun i hi e => by omega)⟩
  · obtain ⟨e1, e2⟩ := hh k bk hk hq
    obtain ⟨l, h1, h2⟩ := H.pr k bk e1 hq
    rw [e2]
    exact ⟨l, h1.chgF c (fun gx hg => by obtain ⟨_, cur, hc⟩ := ownsRow_is h1.1 hg; exact apart hc), h2⟩
  · exact ownsRow_chg H.r5 c (fun gx hg => by obtain ⟨_, cur, hc⟩ := ownsRow_is H.r5 hg; exact apart hc)
  · exact ownsRow_chg H.r6 c (fun gx hg => by obtain ⟨_, cur, hc⟩ := ownsRow_is H.r6 hg; exact apart hc)
/-- Behind a store in the law's map, or a delete. -/
theorem TB.mapped {W wr wx : World} {m nw hd b : Nat} {f h : Nat → Option Nat} {g : Nat → Nat → Option Nat} {q q' : Nat → Bool} {sv sv' : Nat → Value} {n nq nq' i5 i6 : Nat} {v5 v6 : Value} (H : TB W wr m nw hd b f h g q sv n nq i5 i6 v5 v6) (hm : HM wx b nq' q' sv') (c : Chg (fun i => i = b) wr wx)
    (hp : ∀ k bk, h k = some bk → q' k = true → ∃ l, PRow wr W.heap.size (sv' k) l ∧ Lists (g bk) 0 18446744073709551615 l) : TB W wx m nw hd b f h g q' sv' n nq' i5 i6 v5 v6 := by
  have nl := H.lo
  have nn := H.nb
  have apart : ∀ {t : TypeId} {gx : Nat} {cur : Array Value}, wr.heap[gx]? = some (.cells cur t (0, 0)) → ¬ (gx = b) := fun hg e => row_not_map H.hm hg e
  refine ⟨H.mo.chg c (by omega) (by omega) (by omega) (fun k bk hk e => H.pb k bk hk e), hm, fun k bk hk hq => ?_, ?_, ?_, H.lo, H.nb, H.pb, H.chg.trans c (fun _ _ x => x) (fun i hi e => by omega)⟩
  · obtain ⟨l, h1, h2⟩ := hp k bk hk hq
    exact ⟨l, h1.chgF c (fun gx hg => by obtain ⟨_, cur, hc⟩ := ownsRow_is h1.1 hg; exact apart hc), h2⟩
  · exact ownsRow_chg H.r5 c (fun gx hg => by obtain ⟨_, cur, hc⟩ := ownsRow_is H.r5 hg; exact apart hc)
  · exact ownsRow_chg H.r6 c (fun gx hg => by obtain ⟨_, cur, hc⟩ := ownsRow_is H.r6 hg; exact apart hc)
theorem TB.mono {W wr : World} {m nw hd b : Nat} {f h : Nat → Option Nat} {g : Nat → Nat → Option Nat} {q : Nat → Bool} {sv : Nat → Value} {n nq nq' i5 i6 : Nat} {v5 v6 : Value} (H : TB W wr m nw hd b f h g q sv n nq i5 i6 v5 v6) (hn : nq ≤ nq') : TB W wr m nw hd b f h g q sv n nq' i5 i6 v5 v6 :=
  { H with hm := MapR.mono H.hm hn }
/-- A row's block is none of the model's, nor the law's map. -/
theorem TB.apart {W wr : World} {m nw hd b : Nat} {f h : Nat → Option Nat} {g : Nat → Nat → Option Nat} {q : Nat → Bool} {sv : Nat → Value} {n nq i5 i6 : Nat} {v5 v6 : Value} (H : TB W wr m nw hd b f h g q sv n nq i5 i6 v5 v6) {t : TypeId} {gx : Nat} {cur : Array Value} (hg : wr.heap[gx]? = some (.cells cur t (0, 0))) (ht : t ≠ 56) : gx ≠ m ∧ gx ≠ nw ∧ gx ≠ hd ∧ gx ≠ b ∧ ∀ k bk, h k = some bk → gx ≠ bk :=
  ⟨row_not_row hg H.mo.md ht, row_not_map H.mo.now hg, row_not_map H.mo.held hg, row_not_map H.hm hg, fun k bk hk => row_not_map (H.mo.pic k bk hk) hg⟩
/-- Behind an append to the spans. -/
theorem TB.span {W wr wx : World} {m nw hd b : Nat} {f h : Nat → Option Nat} {g : Nat → Nat → Option Nat} {q : Nat → Bool} {sv : Nat → Value} {n nq i5 i6 : Nat} {v5 v5' v6 : Value} {o : Obj} (H : TB W wr m nw hd b f h g q sv n nq i5 i6 v5 v6) (hr : wx.ownsRow W.heap.size 43 4 v5' (i5 + 1) (flS (spsB i5) ++ (spB i5).cells)) (hg : (wr.alloc o).grownBy wx v5.ownBlock) : TB W wx m nw hd b f h g q sv n nq (i5 + 1) i6 v5' v6 := by
  have c : Chg (fun i => v5.ownBlock = some i) wr wx := ((Chg.refl (fun i => v5.ownBlock = some i) wr).alloc o).trans (grown_chg (F := fun i => v5.ownBlock = some i) hg (fun k e => e)) (fun _ _ x => x) (fun _ _ x => x)
  have ap : ∀ i, v5.ownBlock = some i → W.heap.size ≤ i ∧ i ≠ m ∧ i ≠ nw ∧ i ≠ hd ∧ i ≠ b ∧ ∀ k bk, h k = some bk → i ≠ bk := fun i e => by
    obtain ⟨hB, cur, hc⟩ := ownsRow_is H.r5 e
    exact ⟨hB, H.apart hc (by decide)⟩
  have ty : ∀ {t : TypeId} {gx : Nat} {cur : Array Value}, wr.heap[gx]? = some (.cells cur t (0, 0)) → t ≠ 43 → ¬ (v5.ownBlock = some gx) := fun hg ht e => by
    obtain ⟨_, cur, hc⟩ := ownsRow_is H.r5 e
    exact row_not_row hg hc ht rfl
  refine ⟨H.mo.chg c (fun e => (ap _ e).2.1 rfl) (fun e => (ap _ e).2.2.1 rfl) (fun e => (ap _ e).2.2.2.1 rfl) (fun k bk hk e => (ap _ e).2.2.2.2.2 k bk hk rfl), MapR.chg H.hm c (fun e => (ap _ e).2.2.2.2.1 rfl), fun k bk hk hq => ?_, ?_, ?_, H.lo, H.nb, H.pb, H.chg.trans c (fun _ _ x => x) (fun i hi e => by have := (ap _ e).1; omega)⟩
  · obtain ⟨l, h1, h2⟩ := H.pr k bk hk hq
    exact ⟨l, h1.chgF c (fun gx hg => by obtain ⟨_, cur, hc⟩ := ownsRow_is h1.1 hg; exact ty hc (by decide)), h2⟩
  · rw [spsB_succ]
    have e : flS (spsB i5 ++ [spB i5]) = flS (spsB i5) ++ (spB i5).cells := by simp [flS]
    rw [e]
    exact hr
  · exact ownsRow_chg H.r6 c (fun gx hg => by obtain ⟨_, cur, hc⟩ := ownsRow_is H.r6 hg; exact ty hc (by decide))
theorem TB.num {W wr wx : World} {m nw hd b : Nat} {f h : Nat → Option Nat} {g : Nat → Nat → Option Nat} {q : Nat → Bool} {sv : Nat → Value} {n nq i5 i6 : Nat} {v5 v6 v6' : Value} {o : Obj} (H : TB W wr m nw hd b f h g q sv n nq i5 i6 v5 v6) (hr : wx.ownsRow W.heap.size 3 1 v6' (i6 + 1) ((ordB i6).map (Value.int .i64) ++ [.int .i64 (i6 : Int)])) (hg : (wr.alloc o).grownBy wx v6.ownBlock) : TB W wx m nw hd b f h g q sv n nq i5 (i6 + 1) v5 v6' := by
  have c : Chg (fun i => v6.ownBlock = some i) wr wx := ((Chg.refl (fun i => v6.ownBlock = some i) wr).alloc o).trans (grown_chg (F := fun i => v6.ownBlock = some i) hg (fun k e => e)) (fun _ _ x => x) (fun _ _ x => x)
  have ap : ∀ i, v6.ownBlock = some i → W.heap.size ≤ i ∧ i ≠ m ∧ i ≠ nw ∧ i ≠ hd ∧ i ≠ b ∧ ∀ k bk, h k = some bk → i ≠ bk := fun i e => by
    obtain ⟨hB, cur, hc⟩ := ownsRow_is H.r6 e
    exact ⟨hB, H.apart hc (by decide)⟩
  have ty : ∀ {t : TypeId} {gx : Nat} {cur : Array Value}, wr.heap[gx]? = some (.cells cur t (0, 0)) → t ≠ 3 → ¬ (v6.ownBlock = some gx) := fun hg ht e => by
    obtain ⟨_, cur, hc⟩ := ownsRow_is H.r6 e
    exact row_not_row hg hc ht rfl
  refine ⟨H.mo.chg c (fun e => (ap _ e).2.1 rfl) (fun e => (ap _ e).2.2.1 rfl) (fun e => (ap _ e).2.2.2.1 rfl) (fun k bk hk e => (ap _ e).2.2.2.2.2 k bk hk rfl), MapR.chg H.hm c (fun e => (ap _ e).2.2.2.2.1 rfl), fun k bk hk hq => ?_, ?_, ?_, H.lo, H.nb, H.pb, H.chg.trans c (fun _ _ x => x) (fun i hi e => by have := (ap _ e).1; omega)⟩
  · obtain ⟨l, h1, h2⟩ := H.pr k bk hk hq
    exact ⟨l, h1.chgF c (fun gx hg => by obtain ⟨_, cur, hc⟩ := ownsRow_is h1.1 hg; exact ty hc (by decide)), h2⟩
  · exact ownsRow_chg H.r5 c (fun gx hg => by obtain ⟨_, cur, hc⟩ := ownsRow_is H.r5 hg; exact ty hc (by decide))
  · rw [ordB_succ, List.map_append]
    exact hr
/-- What holds at the head of a round. -/
structure TR (W wr : World) (m nw hd b i : Nat) (v5 v6 : Value) : Prop where
  ex : ∃ f h g q sv, TB W wr m nw hd b f h g q sv i i i i v5 v6 ∧ (∀ k, q k = (h k).isSome) ∧ ∀ k bk, h k = some bk → 1 ≤ k ∧ k ≤ i
/-- Behind the round's Do: the law's map is not yet what it will be. -/
inductive Mid (W wx : World) (m nw hd b i : Nat) (v5 v6 : Value) (o : OpP) : Int → Prop
  | snap (f h : Nat → Option Nat) (g : Nat → Nat → Option Nat) (q : Nat → Bool) (sv : Nat → Value) (cl : Nat) (hk : o.kd = 5) (hb : TB W wx m nw hd b f (updO h (i + 1) (some cl)) (setG g cl f) q sv (i + 1) i i i v5 v6) (hq : ∀ k, q k = (h k).isSome) (hi : ∀ k bk, h k = some bk → 1 ≤ k ∧ k ≤ i) : Mid W wx m nw hd b i v5 v6 o 0
  | rel (f h : Nat → Option Nat) (g : Nat → Nat → Option Nat) (q : Nat → Bool) (sv : Nat → Value) (hk : o.kd = 6) (hb : TB W wx m nw hd b f (updO h o.hk none) g q sv (i + 1) i i i v5 v6) (hq : ∀ k, q k = (h k).isSome) (hi : ∀ k bk, h k = some bk → 1 ≤ k ∧ k ≤ i) : Mid W wx m nw hd b i v5 v6 o 0
  | other (e : Int) (f h : Nat → Option Nat) (g : Nat → Nat → Option Nat) (q : Nat → Bool) (sv : Nat → Value) (hk : o.kd ≠ 5) (he : o.kd = 6 → e ≠ 0) (hb : TB W wx m nw hd b f h g q sv (i + 1) i i i v5 v6) (hq : ∀ k, q k = (h k).isSome) (hi : ∀ k bk, h k = some bk → 1 ≤ k ∧ k ≤ i) : Mid W wx m nw hd b i v5 v6 o e
theorem TR.call {W wr : World} {m nw hd b i : Nat} {v5 v6 : Value} (H : TR W wr m nw hd b i v5 v6) {x : OpI} (hx : x.Ok W) {w : World} (hw : Chg (fun _ => False) wr w) (hi : i ≤ 2000) :
    Calls Try.prog 5 #[.pointer (some ⟨m, 0, none⟩), .agg #[.int .u8 x.o.kd, .int .u64 (x.o.k : Int), .int .u64 (x.o.v : Int), .int .u64 (x.o.od : Int), .int .u64 (x.o.hk : Int), .bool x.r5, .int .i64 x.r6, .int .i64 x.r7, .slice x.kp x.o.ks.length x.kc, .int .u64 (x.o.lo : Int), .int .u64 (x.o.hi : Int)], .int .u64 ((i + 1 : Nat) : Int)] w fun e w' => (∃ A p c, e = .returned (.agg (ansC A p c)) ∧ Mid W w' m nw hd b i v5 v6 x.o A.e) ∧ Chg (fun i => i = nw ∨ i = hd) w w' := by
  obtain ⟨f, h, g, q, sv, HB, hq, hk⟩ := H.ex
  have H' := HB.quiet hw
  refine (Do_all hx.ok (th := i + 1) (by omega) H'.mo (by omega) (by omega) (hx.ks.chg H'.chg (fun _ _ _ x => x)) rfl).mono ?_
  rintro e w' ⟨⟨p, c, rfl, _⟩, ⟨cl, hcl, hM⟩, hc⟩
  refine ⟨⟨_, p, c, rfl, ?_⟩, hc⟩
  have hlb : b < w.heap.size := MapR.lt H'.hm
  have hclb : cl ≠ b := by omega
  have hgb : ∀ k bk, h k = some bk → setG g cl f bk = g bk := fun k bk hkb => setG_other _ _ (by have := H'.mo.blk.2.2.2 k bk hkb; omega)
  have h0 : h (i + 1) = none := by
    cases e : h (i + 1) with
    | none => rfl
    | some bk => have := hk _ _ e; omega
  by_cases k5 : x.o.kd = 5
  · have eA : tellP 4 f (pcs h g) x.o (i + 1) = ⟨0, false, 0, false, i + 1, [], 0⟩ := by
      unfold tellP
      rw [if_neg (by omega), if_neg (by omega), if_pos k5, if_neg (by simp [pcs, h0])]
    rw [eA] at hM ⊢
    have eF : doF x.o ⟨0, false, 0, false, i + 1, [], 0⟩ f = f := by
      unfold doF
      rw [if_neg (by omega), if_neg (by omega)]
    have eH : doH x.o ⟨0, false, 0, false, i + 1, [], 0⟩ cl h = updO h (i + 1) (some cl) := by
      unfold doH
      rw [if_pos ⟨rfl, k5, by simp⟩]
    rw [eF, eH] at hM
    refine Mid.snap f h g q sv cl k5 (H'.did hM hc (fun k bk hkb hqk => ?_) (fun k bk hkb => ?_)) hq hk
    · by_cases e : k = i + 1
      · subst e; rw [hq, h0] at hqk; cases hqk
      · rw [updO_other _ _ e] at hkb
        exact ⟨hkb, hgb k bk hkb⟩
    · by_cases e : k = i + 1
      · subst e; rw [updO_same] at hkb; injection hkb with hkb; omega
      · rw [updO_other _ _ e] at hkb; exact H'.pb k bk hkb
  · by_cases k6 : x.o.kd = 6
    · cases hh : h x.o.hk with
      | none =>
        have eA : tellP 4 f (pcs h g) x.o (i + 1) = errA 33 := by
          unfold tellP
          rw [if_neg (by omega), if_neg (by omega), if_neg k5, if_pos k6, if_neg (by simp [pcs, hh])]
        rw [eA] at hM ⊢
        have eH : doH x.o (errA 33) cl h = h := by
          unfold doH
          rw [if_neg (by simp [errA]), if_neg (by simp [errA])]
        rw [eH] at hM
        exact Mid.other _ _ h (setG g cl f) q sv k5 (fun _ => by simp [errA]) (H'.did hM hc (fun k bk hkb _ => ⟨hkb, hgb k bk hkb⟩) H'.pb) hq hk
      | some bb =>
        have eA : tellP 4 f (pcs h g) x.o (i + 1) = errA 0 := by
          unfold tellP
          rw [if_neg (by omega), if_neg (by omega), if_neg k5, if_pos k6, if_pos (by simp [pcs, hh])]
        rw [eA] at hM ⊢
        have eH : doH x.o (errA 0) cl h = updO h x.o.hk none := by
          unfold doH
          rw [if_neg (by omega), if_pos ⟨rfl, k6⟩]
        rw [eH] at hM
        refine Mid.rel _ h (setG g cl f) q sv k6 (H'.did hM hc (fun k bk hkb _ => ?_) (fun k bk hkb => ?_)) hq hk
        · by_cases e : k = x.o.hk
          · subst e; rw [updO_same] at hkb; cases hkb
          · rw [updO_other _ _ e] at hkb; exact ⟨hkb, hgb k bk hkb⟩
        · by_cases e : k = x.o.hk
          · subst e; rw [updO_same] at hkb; cases hkb
          · rw [updO_other _ _ e] at hkb; exact H'.pb k bk hkb
    · have eH : doH x.o (tellP 4 f (pcs h g) x.o (i + 1)) cl h = h := by
        unfold doH
        rw [if_neg (by omega), if_neg (by omega)]
      rw [eH] at hM
      exact Mid.other _ _ h (setG g cl f) q sv k5 (fun e => absurd e k6) (H'.did hM hc (fun k bk hkb _ => ⟨hkb, hgb k bk hkb⟩) H'.pb) hq hk
end Go.Proofs.Ytnlkdibalhgipaa
