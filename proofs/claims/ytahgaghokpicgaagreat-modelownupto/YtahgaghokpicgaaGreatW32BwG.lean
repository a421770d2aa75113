/- Calls that come in, of a bounded bulk. -/
import Derived.Lib.SmallJoins
import Derived.Deep.Slices
import Derived.Carry
import Derived.OpenShut
import Derived.Test.YtahgaghokpicgaaGreatW1MsL
import Derived.Test.YtahgaghokpicgaaGreatW29Nn
import Derived.Deep.RegionHeld3
import Derived.Deep.CutRange
import Derived.Test.YtahgaghokpicgaaGreatW31D9e
import Derived.Laws.OwnMore
import Derived.ArgAppend
import Derived.Test.YtahgaghokpicgaaGreatW27ZeS
import Derived.Test.YtahgaghokpicgaaGreatW3MsW
import Derived.Test.YtahgaghokpicgaaGreatW4Pi
namespace Go.Proofs.YtahgaghokpicgaaGreat
open Go.RowKit Go.Joins Go.ChangeShapes Go.WideShapes Go.Deep
set_option linter.unusedVariables false
theorem cut_nextQ {cs f : List Value} {o s : Nat} (h : (cs.drop o).take s = f) : cs.drop o = f ++ cs.drop (o + s) := by
 rw [← h, ← List.drop_drop, List.take_append_drop]
theorem slice_rowsSQ {H : Type} {enc : TypeId × Value → H} {W : World} {sp : Nat → Bool} {held : Bool} {fuel : Nat} {cs : List Value} {x : DataW H × List MemPlace} {T E : TypeId} {s : Nat} {Q : Nat → List Value → Prop} (hT : Tryz.prog.underlying T = some (.slice E)) (hs : Tryz.prog.cellsOf E = s) (hs0 : 0 < s)
    (hQ : ∀ fuel cs y, DataW.trod enc Tryz.prog W 0 sp held fuel E cs = some y → Q (Rows.uptoBulk y.1) cs ∧ cs.length = s) (hf : DataW.trod enc Tryz.prog W 0 sp held fuel T cs = some x) :
    ∃ p n c, cs = [.slice p n c] ∧ ∃ bu : List Nat, bu.length = n ∧ bu.sum + 1 ≤ Rows.uptoBulk x.1 ∧ (n = 0 ∨ ∃ bk off, p = some ⟨bk, off, none⟩ ∧ bk < W.heap.size ∧ ∀ i, i < n → ∃ cs' : List Value, (∃ w, bu[i]? = some w ∧ Q w cs') ∧ ∀ (j : Nat) (u : Value), cs'[j]? = some u → W.cell? ⟨bk, off + (i * s + j), none⟩ = some u) := by
 rcases open_slice hT hf with ⟨hcs, hx0⟩ | ⟨a, len, cap, m, k, D, Pl, hcs, _, hl, hm, hme, hx, hi⟩
 ·exact ⟨none, 0, 0, hcs, [], rfl, by simpa using bulk_one x.1, .inl rfl⟩
 ·have hmn : len ≤ m := by rw [hme]; split <;> omega
  have hsum : ∀ (l : List (DataW H)), (l.map Rows.uptoBulk).sum = Rows.uptoBulkAll l := by
   intro l
   induction l with
   | nil => rfl
   | cons d r ih => simp [Rows.uptoBulkAll, ih]
  refine ⟨some a, len, cap, hcs, ((List.range len).map D).map Rows.uptoBulk, by simp, ?_, ?_⟩
  ·rw [hsum, hx]
   simp only [Rows.uptoBulk]
   omega
  rcases Nat.eq_zero_or_pos len with h0 | h0
  ·exact .inl h0
  ·obtain ⟨bk, off, spot⟩ := a
   have hrow : ∀ i, i < len → ∃ cs' : List Value, ((∃ w, (((List.range len).map D).map Rows.uptoBulk)[i]? = some w ∧ Q w cs') ∧ cs'.length = s) ∧ ∀ (j : Nat) (u : Value), cs'[j]? = some u → W.cell? ((⟨bk, off, spot⟩ : Addr).add (i * s + j)) = some u := fun i hin => by
    obtain ⟨cs', hc, ht⟩ := hi i (by omega)
    obtain ⟨q1, q2⟩ := hQ _ _ _ ht
    refine ⟨cs', ⟨⟨_, by simp [hin], q1⟩, q2⟩, fun j u hj => ?_⟩
    rw [hs] at hc
    have e2 := cells_each hc j u hj
    have e3 : ((⟨bk, off, spot⟩ : Addr).add (i * s)).add j = (⟨bk, off, spot⟩ : Addr).add (i * s + j) := by
     unfold Addr.add
     split <;> split <;> simp_all <;> omega
    rw [← e3]
    exact e2
   have h00 : ∃ u, W.cell? ((⟨bk, off, spot⟩ : Addr).add 0) = some u := by
    obtain ⟨cs', ⟨_, hl'⟩, ho⟩ := hrow 0 h0
    obtain ⟨u, hu⟩ : ∃ u, cs'[0]? = some u := ⟨cs'[0]'(by omega), List.getElem?_eq_getElem _⟩
    exact ⟨u, by simpa using ho 0 u hu⟩
   obtain ⟨u, hu⟩ := h00
   have hspot : spot = none := by simpa [Addr.add] using World.cell?_spot hu
   subst hspot
   have hbk : bk < W.heap.size := World.block_lt_of_cell? W _ hu
   refine .inr ⟨bk, off, rfl, hbk, fun i hin => ?_⟩
   obtain ⟨cs', ⟨hq, _⟩, ho⟩ := hrow i hin
   refine ⟨cs', hq, fun j u hj => ?_⟩
   have e := ho j u hj
   unfold Addr.add at e
   split at e
   ·rename_i z
    have z0 : i * s + j = 0 := by simpa using z
    rw [z0]
    exact e
   ·exact e
theorem co_uQ : Tryz.prog.cellsOf 30 = 1 := by kernel_rfl
theorem co_usQ : Tryz.prog.cellsOf 33 = 1 := by kernel_rfl
theorem co_iQ : Tryz.prog.cellsOf 3 = 1 := by kernel_rfl
theorem co_bQ : Tryz.prog.cellsOf 4 = 1 := by kernel_rfl
theorem list2Q {α : Type} {cs : List α} (h : cs.length = 2) : ∃ c0 c1, cs = [c0, c1] := by
 match cs, h with
 | [c0, c1], _ => exact ⟨c0, c1, rfl⟩
theorem list3Q {α : Type} {cs : List α} (h : cs.length = 3) : ∃ c0 c1 c2, cs = [c0, c1, c2] := by
 match cs, h with
 | [c0, c1, c2], _ => exact ⟨c0, c1, c2, rfl⟩
theorem list7Q {α : Type} {cs : List α} (h : cs.length = 7) : ∃ c0 c1 c2 c3 c4 c5 c6, cs = [c0, c1, c2, c3, c4, c5, c6] := by
 match cs, h with
 | [c0, c1, c2, c3, c4, c5, c6], _ => exact ⟨c0, c1, c2, c3, c4, c5, c6, rfl⟩
theorem list9Q {α : Type} {cs : List α} (h : cs.length = 9) : ∃ c0 c1 c2 c3 c4 c5 c6 c7 c8, cs = [c0, c1, c2, c3, c4, c5, c6, c7, c8] := by
 match cs, h with
 | [c0, c1, c2, c3, c4, c5, c6, c7, c8], _ => exact ⟨c0, c1, c2, c3, c4, c5, c6, c7, c8, rfl⟩
theorem list11Q {α : Type} {cs : List α} (h : cs.length = 11) : ∃ c0 c1 c2 c3 c4 c5 c6 c7 c8 c9 c10, cs = [c0, c1, c2, c3, c4, c5, c6, c7, c8, c9, c10] := by
 match cs, h with
 | [c0, c1, c2, c3, c4, c5, c6, c7, c8, c9, c10], _ => exact ⟨c0, c1, c2, c3, c4, c5, c6, c7, c8, c9, c10, rfl⟩
theorem co_oQ : Tryz.prog.cellsOf 29 = 1 := by kernel_rfl
theorem co_eQ : Tryz.prog.cellsOf 36 = 1 := by kernel_rfl
theorem co_psQ : Tryz.prog.cellsOf 37 = 1 := by kernel_rfl
theorem co_rQ : Tryz.prog.cellsOf 32 = 3 := by kernel_rfl
theorem co_opQ : Tryz.prog.cellsOf 35 = 11 := by kernel_rfl
theorem co_anQ : Tryz.prog.cellsOf 39 = 7 := by kernel_rfl
theorem co_prQ : Tryz.prog.cellsOf 86 = 2 := by kernel_rfl
theorem vals_openQ {H : Type} {enc : TypeId × Value → H} {W : World} {sp : Nat → Bool} {held : Bool} {fuel : Nat} {cs : List Value} {x : DataW H × List MemPlace} (h : DataW.trod enc Tryz.prog W 0 sp held fuel 33 cs = some x) :
    ∃ (p : Option Addr) (c : Nat) (l : List Nat), cs = [.slice p l.length c] ∧ KeysAt W p l ∧ l.length + 1 ≤ Rows.uptoBulk x.1 := by
 obtain ⟨p, n, c, hcs, bu, hbl, hbs, hr⟩ := slice_rowsSQ (s := 1) (Q := fun w cs => 1 ≤ w ∧ ∃ k : Nat, k < 18446744073709551616 ∧ cs = [.int .u64 k]) Tryz.underlying33 co_uQ (by decide) (fun fuel cs y hy => by
  obtain ⟨z, e, _, w⟩ := DataW.trod_int Tryz.underlying30 hy
  obtain ⟨k, rfl, hk⟩ := nat_u64 w
  exact ⟨⟨bulk_one _, k, hk, e⟩, by rw [e]; rfl⟩) h
 rcases hr with rfl | ⟨bk, off, rfl, hbk, hr⟩
 ·exact ⟨p, c, [], hcs, .inl rfl, by simpa using bulk_one x.1⟩
 ·obtain ⟨l, hl, hp⟩ := choose_list (P := fun i (k : Nat) => (1 ≤ bu.getD i 0) ∧ k < 18446744073709551616 ∧ W.cell? ⟨bk, off + i, none⟩ = some (.int .u64 k)) n (fun i hi => by
    obtain ⟨cs', ⟨w, hw, h1, k, hk, rfl⟩, hc⟩ := hr i hi
    refine ⟨k, by simp [List.getD, hw]; exact h1, hk, ?_⟩
    have := hc 0 _ rfl
    simpa using this)
  have hsum : ∀ (b : List Nat), (∀ i, i < b.length → 1 ≤ b.getD i 0) → b.length ≤ b.sum := by
   intro b
   induction b with
   | nil => intro _; simp
   | cons z r ih =>
    intro hb
    have h0 := hb 0 (by simp)
    have h1 := ih (fun i hi => by have := hb (i + 1) (by simp; omega); simpa using this)
    simp only [List.length_cons, List.sum_cons]
    simp at h0
    omega
  subst hl
  refine ⟨_, c, l, hcs, .inr ⟨bk, off, rfl, hbk, fun i u hu => (hp i u hu).2⟩, ?_⟩
  ·have := hsum bu (fun i hi => by
     rw [hbl] at hi
     exact (hp i l[i] (List.getElem?_eq_getElem hi)).1)
   omega
theorem pair_openQ {H : Type} {enc : TypeId × Value → H} {W : World} {sp : Nat → Bool} {held : Bool} {fuel : Nat} {cs : List Value} {x : DataW H × List MemPlace} (h : DataW.trod enc Tryz.prog W 0 sp held fuel 86 cs = some x) : ∃ a b : Nat, cs = [.int .u64 a, .int .u64 b] ∧ a < 18446744073709551616 ∧ b < 18446744073709551616 := by
 obtain ⟨xs, n, hn, hx, hl, hlen, hh⟩ := DataW.trod_struct Tryz.underlying86 h
 rw [co_prQ] at hl
 obtain ⟨c0, c1, rfl⟩ := list2Q hl
 obtain ⟨y0, y1, rfl⟩ := list2Q (show xs.length = 2 from hlen)
 have h0 : DataW.trod enc Tryz.prog W 0 sp held n 30 [c0] = some y0 := by have := hh 0 _ rfl; simpa [co_uQ] using this
 have h1 : DataW.trod enc Tryz.prog W 0 sp held n 30 [c1] = some y1 := by have := hh 1 _ rfl; simpa [co_uQ] using this
 obtain ⟨z0, e0, _, w0⟩ := DataW.trod_int Tryz.underlying30 h0
 obtain ⟨z1, e1, _, w1⟩ := DataW.trod_int Tryz.underlying30 h1
 obtain ⟨a, rfl, ha⟩ := nat_u64 w0
 obtain ⟨b, rfl, hb⟩ := nat_u64 w1
 simp at e0 e1
 subst e0 e1
 exact ⟨a, b, rfl, ha, hb⟩
theorem pairs_openQ {H : Type} {enc : TypeId × Value → H} {W : World} {sp : Nat → Bool} {held : Bool} {fuel : Nat} {cs : List Value} {x : DataW H × List MemPlace} (h : DataW.trod enc Tryz.prog W 0 sp held fuel 37 cs = some x) :
    ∃ (p : Option Addr) (c : Nat) (l : List (Nat × Nat)), cs = [.slice p l.length c] ∧ PairsAt W p l ∧ l.length + 1 ≤ Rows.uptoBulk x.1 := by
 obtain ⟨p, n, c, hcs, bu, hbl, hbs, hr⟩ := slice_rowsSQ (s := 2) (Q := fun w cs => 1 ≤ w ∧ ∃ a b : Nat, (a < 18446744073709551616 ∧ b < 18446744073709551616) ∧ cs = [.int .u64 a, .int .u64 b]) Tryz.underlying37 co_prQ (by decide) (fun fuel cs y hy => by
  obtain ⟨a, b, e, ha, hb⟩ := pair_openQ hy
  exact ⟨⟨bulk_one _, a, b, ⟨ha, hb⟩, e⟩, by rw [e]; rfl⟩) h
 rcases hr with rfl | ⟨bk, off, rfl, hbk, hr⟩
 ·exact ⟨p, c, [], hcs, .inl rfl, by simpa using bulk_one x.1⟩
 ·obtain ⟨l, hl, hp⟩ := choose_list (P := fun i (k : Nat × Nat) => (1 ≤ bu.getD i 0) ∧ (k.1 < 18446744073709551616 ∧ k.2 < 18446744073709551616) ∧ W.cell? ⟨bk, off + i * 2, none⟩ = some (.int .u64 k.1) ∧ W.cell? ⟨bk, off + i * 2 + 1, none⟩ = some (.int .u64 k.2)) n (fun i hi => by
    obtain ⟨cs', ⟨w, hw, h1, a, b, hk, rfl⟩, hc⟩ := hr i hi
    refine ⟨(a, b), by simp [List.getD, hw]; exact h1, hk, ?_, ?_⟩
    ·have := hc 0 _ rfl
     simpa using this
    ·have := hc 1 _ rfl
     rw [← Nat.add_assoc] at this
     exact this)
  have hsum : ∀ (b : List Nat), (∀ i, i < b.length → 1 ≤ b.getD i 0) → b.length ≤ b.sum := by
   intro b
   induction b with
   | nil => intro _; simp
   | cons z r ih =>
    intro hb
    have h0 := hb 0 (by simp)
    have h1 := ih (fun i hi => by have := hb (i + 1) (by simp; omega); simpa using this)
    simp only [List.length_cons, List.sum_cons]
    simp at h0
    omega
  subst hl
  refine ⟨_, c, l, hcs, .inr ⟨bk, off, rfl, hbk, fun i a b hu => ⟨(hp i (a, b) hu).2.1.1, (hp i (a, b) hu).2.1.2, (hp i (a, b) hu).2.2⟩⟩, ?_⟩
  ·have := hsum bu (fun i hi => by
     rw [hbl] at hi
     exact (hp i l[i] (List.getElem?_eq_getElem hi)).1)
   omega
theorem ref_openQ {H : Type} {enc : TypeId × Value → H} {W : World} {sp : Nat → Bool} {held : Bool} {fuel : Nat} {cs : List Value} {x : DataW H × List MemPlace} (h : DataW.trod enc Tryz.prog W 0 sp held fuel 32 cs = some x) : ∃ (s : Bool) (a b : Int), cs = [.bool s, .int .i64 a, .int .i64 b] ∧ (Lit.int .i64 a).wf = true ∧ (Lit.int .i64 b).wf = true := by
 obtain ⟨xs, n, hn, hx, hl, hlen, hh⟩ := DataW.trod_struct Tryz.underlying32 h
 rw [co_rQ] at hl
 obtain ⟨c0, c1, c2, rfl⟩ := list3Q hl
 obtain ⟨y0, y1, y2, rfl⟩ := list3Q (show xs.length = 3 from hlen)
 have h0 : DataW.trod enc Tryz.prog W 0 sp held n 4 [c0] = some y0 := by have := hh 0 _ rfl; simpa [co_bQ] using this
 have h1 : DataW.trod enc Tryz.prog W 0 sp held n 3 [c1] = some y1 := by have := hh 1 _ rfl; simpa [co_iQ] using this
 have h2 : DataW.trod enc Tryz.prog W 0 sp held n 3 [c2] = some y2 := by have := hh 2 _ rfl; simpa [co_iQ] using this
 obtain ⟨s, e0, _⟩ := DataW.trod_bool Tryz.underlying4 h0
 obtain ⟨a, e1, _, w1⟩ := DataW.trod_int Tryz.underlying3 h1
 obtain ⟨b, e2, _, w2⟩ := DataW.trod_int Tryz.underlying3 h2
 simp at e0 e1 e2
 subst e0 e1 e2
 exact ⟨s, a, b, rfl, w1, w2⟩
theorem op_openQ {H : Type} {enc : TypeId × Value → H} {W : World} {sp : Nat → Bool} {held : Bool} {fuel : Nat} {cs : List Value} {x : DataW H × List MemPlace} (h : DataW.trod enc Tryz.prog W 0 sp held fuel 35 cs = some x) : ∃ (o : OpP) (r5 : Bool) (r6 r7 : Int) (kp : Option Addr) (kc : Nat), cs = [.int .u8 o.kd, .int .u64 o.k, .int .u64 o.v, .int .u64 o.od, .int .u64 o.hk, .bool r5, .int .i64 r6, .int .i64 r7, .slice kp o.ks.length kc, .int .u64 o.lo, .int .u64 o.hi] ∧ o.Ok ∧ (Lit.int .i64 r6).wf = true ∧ (Lit.int .i64 r7).wf = true ∧ KeysAt W kp o.ks ∧ o.ks.length + 1 ≤ Rows.uptoBulk x.1 ∧ 10 ≤ Rows.uptoBulk x.1 := by
 obtain ⟨xs, n, hn, hx, hl, hlen, hh⟩ := DataW.trod_struct Tryz.underlying35 h
 rw [co_opQ] at hl
 obtain ⟨c0, c1, c2, c3, c4, c5, c6, c7, c8, c9, c10, rfl⟩ := list11Q hl
 obtain ⟨y0, y1, y2, y3, y4, y5, y6, y7, y8, rfl⟩ := list9Q (show xs.length = 9 from hlen)
 have h0 : DataW.trod enc Tryz.prog W 0 sp held n 29 [c0] = some y0 := by have := hh 0 _ rfl; simpa [co_oQ] using this
 have h1 : DataW.trod enc Tryz.prog W 0 sp held n 30 [c1] = some y1 := by have := hh 1 _ rfl; simpa [co_uQ] using this
 have h2 : DataW.trod enc Tryz.prog W 0 sp held n 30 [c2] = some y2 := by have := hh 2 _ rfl; simpa [co_uQ] using this
 have h3 : DataW.trod enc Tryz.prog W 0 sp held n 30 [c3] = some y3 := by have := hh 3 _ rfl; simpa [co_uQ] using this
 have h4 : DataW.trod enc Tryz.prog W 0 sp held n 30 [c4] = some y4 := by have := hh 4 _ rfl; simpa [co_uQ] using this
 have h5 : DataW.trod enc Tryz.prog W 0 sp held n 32 [c5, c6, c7] = some y5 := by have := hh 5 _ rfl; simpa [co_rQ] using this
 have h6 : DataW.trod enc Tryz.prog W 0 sp held n 33 [c8] = some y6 := by have := hh 6 _ rfl; simpa [co_usQ] using this
 have h7 : DataW.trod enc Tryz.prog W 0 sp held n 30 [c9] = some y7 := by have := hh 7 _ rfl; simpa [co_uQ] using this
 have h8 : DataW.trod enc Tryz.prog W 0 sp held n 30 [c10] = some y8 := by have := hh 8 _ rfl; simpa [co_uQ] using this
 obtain ⟨k, e0, _, w0⟩ := DataW.trod_int Tryz.underlying29 h0
 obtain ⟨z1, e1, _, w1⟩ := DataW.trod_int Tryz.underlying30 h1
 obtain ⟨z2, e2, _, w2⟩ := DataW.trod_int Tryz.underlying30 h2
 obtain ⟨z3, e3, _, w3⟩ := DataW.trod_int Tryz.underlying30 h3
 obtain ⟨z4, e4, _, w4⟩ := DataW.trod_int Tryz.underlying30 h4
 obtain ⟨s, a, b, e5, ha, hb⟩ := ref_openQ h5
 obtain ⟨kp, kc, keys, e6, hK, hbl⟩ := vals_openQ h6
 obtain ⟨z7, e7, _, w7⟩ := DataW.trod_int Tryz.underlying30 h7
 obtain ⟨z8, e8, _, w8⟩ := DataW.trod_int Tryz.underlying30 h8
 obtain ⟨key, rfl, hkey⟩ := nat_u64 w1
 obtain ⟨val, rfl, hval⟩ := nat_u64 w2
 obtain ⟨old, rfl, hold⟩ := nat_u64 w3
 obtain ⟨hnd, rfl, hhnd⟩ := nat_u64 w4
 obtain ⟨lo, rfl, hlo⟩ := nat_u64 w7
 obtain ⟨hi, rfl, hhi⟩ := nat_u64 w8
 simp at e0 e1 e2 e3 e4 e5 e6 e7 e8
 obtain ⟨e5, e5', e5''⟩ := e5
 subst e0 e1 e2 e3 e4 e5 e5' e5'' e6 e7 e8
 have hx2 := fun (i : Nat) => bulk_one y0.1
 refine ⟨⟨k, key, val, old, hnd, keys, lo, hi⟩, s, a, b, kp, kc, rfl, ⟨hkey, hval, hold, hhnd, hlo, hhi⟩, ha, hb, hK, ?_⟩
 have hx1 : x.1 = .agg [y0.1, y1.1, y2.1, y3.1, y4.1, y5.1, y6.1, y7.1, y8.1] := by rw [hx]; rfl
 rw [hx1]
 simp only [Rows.uptoBulk, Rows.uptoBulkAll]
 (try simp only at hbl ⊢)
 have q0 := bulk_one y0.1
 have q1 := bulk_one y1.1
 have q2 := bulk_one y2.1
 have q3 := bulk_one y3.1
 have q4 := bulk_one y4.1
 have q5 := bulk_one y5.1
 have q6 := bulk_one y6.1
 have q7 := bulk_one y7.1
 have q8 := bulk_one y8.1
 omega
theorem ans_openQ {H : Type} {enc : TypeId × Value → H} {W : World} {sp : Nat → Bool} {held : Bool} {fuel : Nat} {cs : List Value} {x : DataW H × List MemPlace} (h : DataW.trod enc Tryz.prog W 0 sp held fuel 39 cs = some x) : ∃ (B : Ans) (p : Option Addr) (c : Nat), cs = [.int .i64 B.e, .bool B.f, .int .u64 B.x, .bool B.d, .int .u64 B.h, .slice p B.l.length c, .int .u64 B.n] ∧ B.h < 18446744073709551616 ∧ PairsAt W p B.l ∧ B.l.length + 1 ≤ Rows.uptoBulk x.1 ∧ 8 ≤ Rows.uptoBulk x.1 := by
 obtain ⟨xs, n, hn, hx, hl, hlen, hh⟩ := DataW.trod_struct Tryz.underlying39 h
 rw [co_anQ] at hl
 obtain ⟨c0, c1, c2, c3, c4, c5, c6, rfl⟩ := list7Q hl
 obtain ⟨y0, y1, y2, y3, y4, y5, y6, rfl⟩ := list7Q (show xs.length = 7 from hlen)
 have h0 : DataW.trod enc Tryz.prog W 0 sp held n 36 [c0] = some y0 := by have := hh 0 _ rfl; simpa [co_eQ] using this
 have h1 : DataW.trod enc Tryz.prog W 0 sp held n 4 [c1] = some y1 := by have := hh 1 _ rfl; simpa [co_bQ] using this
 have h2 : DataW.trod enc Tryz.prog W 0 sp held n 30 [c2] = some y2 := by have := hh 2 _ rfl; simpa [co_uQ] using this
 have h3 : DataW.trod enc Tryz.prog W 0 sp held n 4 [c3] = some y3 := by have := hh 3 _ rfl; simpa [co_bQ] using this
 have h4 : DataW.trod enc Tryz.prog W 0 sp held n 30 [c4] = some y4 := by have := hh 4 _ rfl; simpa [co_uQ] using this
 have h5 : DataW.trod enc Tryz.prog W 0 sp held n 37 [c5] = some y5 := by have := hh 5 _ rfl; simpa [co_psQ] using this
 have h6 : DataW.trod enc Tryz.prog W 0 sp held n 30 [c6] = some y6 := by have := hh 6 _ rfl; simpa [co_uQ] using this
 obtain ⟨e, e0, _, w0⟩ := DataW.trod_int Tryz.underlying36 h0
 obtain ⟨f, e1, _⟩ := DataW.trod_bool Tryz.underlying4 h1
 obtain ⟨z2, e2, _, w2⟩ := DataW.trod_int Tryz.underlying30 h2
 obtain ⟨dn, e3, _⟩ := DataW.trod_bool Tryz.underlying4 h3
 obtain ⟨z4, e4, _, w4⟩ := DataW.trod_int Tryz.underlying30 h4
 obtain ⟨p, c, l, e5, hP, hbl⟩ := pairs_openQ h5
 obtain ⟨z6, e6, _, w6⟩ := DataW.trod_int Tryz.underlying30 h6
 obtain ⟨v, rfl, hv⟩ := nat_u64 w2
 obtain ⟨hd, rfl, hhd⟩ := nat_u64 w4
 obtain ⟨ct, rfl, hct⟩ := nat_u64 w6
 simp at e0 e1 e2 e3 e4 e5 e6
 subst e0 e1 e2 e3 e4 e5 e6
 refine ⟨⟨e, f, v, dn, hd, l, ct⟩, p, c, rfl, hhd, hP, ?_⟩
 have hx1 : x.1 = .agg [y0.1, y1.1, y2.1, y3.1, y4.1, y5.1, y6.1] := by rw [hx]; rfl
 rw [hx1]
 simp only [Rows.uptoBulk, Rows.uptoBulkAll]
 (try simp only at hbl ⊢)
 have q0 := bulk_one y0.1
 have q1 := bulk_one y1.1
 have q2 := bulk_one y2.1
 have q3 := bulk_one y3.1
 have q4 := bulk_one y4.1
 have q5 := bulk_one y5.1
 have q6 := bulk_one y6.1
 omega
theorem mem_le_sum (b : List Nat) (w : Nat) (h : w ∈ b) : w ≤ b.sum := by
 induction b with
 | nil => cases h
 | cons z r ih =>
  rcases List.mem_cons.1 h with e | e
  ·subst e; simp
  ·have := ih e; simp; omega
theorem co_call : Tryz.prog.cellsOf 41 = 20 := by kernel_rfl
theorem call_openQ {H : Type} {enc : TypeId × Value → H} {W : World} {sp : Nat → Bool} {held : Bool} {fuel : Nat} {cs : List Value} {x : DataW H × List MemPlace} (h : DataW.trod enc Tryz.prog W 0 sp held fuel 41 cs = some x) : ∃ z : CallP, cs = z.cs ∧ z.o.Ok ∧ (Lit.int .i64 z.r6).wf = true ∧ (Lit.int .i64 z.r7).wf = true ∧ KeysAt W z.kp z.o.ks ∧ z.o.ks.length + 1 ≤ Rows.uptoBulk x.1 ∧ z.B.h < 18446744073709551616 ∧ PairsAt W z.lp z.B.l ∧ z.B.l.length + 1 ≤ Rows.uptoBulk x.1 ∧ z.hn < 18446744073709551616 ∧ 21 ≤ Rows.uptoBulk x.1 := by
 obtain ⟨xs, n, hn, hx, hl, hlen, hh⟩ := DataW.trod_struct Tryz.underlying41 h
 rw [co_call] at hl
 obtain ⟨y0, y1, y2, y3, rfl⟩ : ∃ c0 c1 c2 c3, xs = [c0, c1, c2, c3] := by
  match xs, (show xs.length = 4 from hlen) with
  | [c0, c1, c2, c3], _ => exact ⟨c0, c1, c2, c3, rfl⟩
 have h0 : DataW.trod enc Tryz.prog W 0 sp held n 4 ((cs.drop 0).take 1) = some y0 := by have := hh 0 _ rfl; simpa [co_bQ] using this
 have h1 : DataW.trod enc Tryz.prog W 0 sp held n 35 ((cs.drop 1).take 11) = some y1 := by have := hh 1 _ rfl; simpa [co_opQ] using this
 have h2 : DataW.trod enc Tryz.prog W 0 sp held n 39 ((cs.drop 12).take 7) = some y2 := by have := hh 2 _ rfl; simpa [co_anQ] using this
 have h3 : DataW.trod enc Tryz.prog W 0 sp held n 30 ((cs.drop 19).take 1) = some y3 := by have := hh 3 _ rfl; simpa [co_uQ] using this
 obtain ⟨tk, e0, _⟩ := DataW.trod_bool Tryz.underlying4 h0
 obtain ⟨o, r5, r6, r7, kp, kc, e1, ho, w6, w7, hk, hkb, ob⟩ := op_openQ h1
 obtain ⟨B, lp, lc, e2, hB, hp, hpb, ab⟩ := ans_openQ h2
 obtain ⟨z3, e3, _, w3⟩ := DataW.trod_int Tryz.underlying30 h3
 obtain ⟨h9, rfl, hh9⟩ := nat_u64 w3
 refine ⟨⟨tk, o, r5, r6, r7, kp, kc, B, lp, lc, h9⟩, ?_, ho, w6, w7, hk, ?_, hB, hp, ?_, hh9, ?_⟩
 ·have s0 := cut_nextQ e0
  have s1 := cut_nextQ e1
  have s2 := cut_nextQ e2
  have s3 := cut_nextQ e3
  have z : cs.drop (19 + 1) = [] := List.drop_eq_nil_of_le (by omega)
  rw [z] at s3
  rw [show 12 + 7 = 19 from rfl, s3] at s2
  rw [show 1 + 11 = 12 from rfl, s2] at s1
  rw [show 0 + 1 = 1 from rfl, s1] at s0
  exact (List.drop_zero (l := cs)).symm.trans s0
 all_goals (
  have hx1 : x.1 = .agg [y0.1, y1.1, y2.1, y3.1] := by rw [hx]; rfl
  rw [hx1]
  simp only [Rows.uptoBulk, Rows.uptoBulkAll]
  have q0 := bulk_one y0.1
  have q3 := bulk_one y3.1
  (try simp only at hkb hpb ⊢)
  omega)
theorem calls_openQ {H : Type} {enc : TypeId × Value → H} {W : World} {sp : Nat → Bool} {held : Bool} {p : Option Addr} {n c : Nat} {d : DataW H} {ps : List MemPlace} (h : DataW.Trod enc Tryz.prog W 0 sp held 22 (.slice p n c) d ps) (hb : Rows.uptoBulk d ≤ 1048576) : ∃ l : List CallP, l.length = n ∧ CallsAtP W p l ∧ l.length ≤ 50000 := by
 obtain ⟨fuel, hf⟩ := h
 obtain ⟨p', n', c', hcs, bu, hbl, hbs, hr⟩ := slice_rowsSQ (s := 20) (Q := fun w cs => 21 ≤ w ∧ ∃ z : CallP, cs = z.cs ∧ z.o.Ok ∧ (Lit.int .i64 z.r6).wf = true ∧ (Lit.int .i64 z.r7).wf = true ∧ KeysAt W z.kp z.o.ks ∧ z.o.ks.length + 1 ≤ w ∧ z.B.h < 18446744073709551616 ∧ PairsAt W z.lp z.B.l ∧ z.B.l.length + 1 ≤ w ∧ z.hn < 18446744073709551616) Tryz.underlying22 co_call (by decide) (fun fuel cs y hy => by
  obtain ⟨z, e, a1, a2, a3, a4, a5, a6, a7, a8, a9, a10⟩ := call_openQ hy
  exact ⟨⟨a10, z, e, a1, a2, a3, a4, a5, a6, a7, a8, a9⟩, by rw [e]; rfl⟩) hf
 simp [Value.cells] at hcs
 obtain ⟨rfl, rfl, rfl⟩ := hcs
 have hbs : bu.sum + 1 ≤ Rows.uptoBulk d := hbs
 rcases hr with rfl | ⟨bk, off, rfl, hbk, hr⟩
 ·exact ⟨[], rfl, .inl rfl, by simp⟩
 ·have hle : ∀ (i w : Nat), bu[i]? = some w → w ≤ 1048576 := fun i w hw => by
    have := mem_le_sum bu w (List.mem_of_getElem? hw)
    omega
  obtain ⟨l, hl, hp⟩ := choose_list (P := fun i (z : CallP) => 21 ≤ bu.getD i 0 ∧ z.Ok W ∧ ∀ (j : Nat) (u : Value), z.cs[j]? = some u → W.cell? ⟨bk, off + i * 20 + j, none⟩ = some u) n (fun i hi => by
   obtain ⟨cs', ⟨w, hw, h1, z, rfl, a1, a2, a3, a4, a5, a6, a7, a8, a9⟩, hc⟩ := hr i hi
   have hw2 := hle i w hw
   exact ⟨z, by simp [List.getD, hw]; exact h1, ⟨a1, a2, a3, a4, by omega, a6, a7, by omega, a9⟩, fun j u hj => by rw [Nat.add_assoc]; exact hc j u hj⟩)
  have hsum : ∀ (b : List Nat), (∀ i, i < b.length → 21 ≤ b.getD i 0) → b.length * 21 ≤ b.sum := by
   intro b
   induction b with
   | nil => intro _; simp
   | cons z r ih =>
    intro hb
    have h0 := hb 0 (by simp)
    have h1 := ih (fun i hi => by have := hb (i + 1) (by simp; omega); simpa using this)
    simp only [List.length_cons, List.sum_cons]
    simp at h0
    omega
  have hs := hsum bu (fun i hi => (hp i (l[i]'(by omega)) (List.getElem?_eq_getElem _)).1)
  exact ⟨l, hl, .inr ⟨bk, off, rfl, hbk, fun i z hz => (hp i z hz).2⟩, by omega⟩
structure RowP where
 p : Option Addr
 c : Nat
 l : List CallP
def RowsAtP (W : World) (p : Option Addr) (L : List RowP) : Prop := L = [] ∨ ∃ bk off, p = some ⟨bk, off, none⟩ ∧ bk < W.heap.size ∧ ∀ (i : Nat) (x : RowP), L[i]? = some x → CallsAtP W x.p x.l ∧ W.cell? ⟨bk, off + i, none⟩ = some (.slice x.p x.l.length x.c)
end Go.Proofs.YtahgaghokpicgaaGreat
namespace Go.Proofs.YtahgaghokpicgaaGreat
open Go.RowKit Go.Maps
set_option linter.unusedVariables false
theorem RowsAtP.get {W w : World} {F : Nat → Prop} {p : Option Addr} {L : List RowP} (h : RowsAtP W p L) (c : Chg F W w) (hF : ∀ i, F i → W.heap.size ≤ i) (j : Nat) (x : RowP) (hx : L[j]? = some x) : ∃ bk off, p = some ⟨bk, off, none⟩ ∧ w.cell? ⟨bk, off + j, none⟩ = some (.slice x.p x.l.length x.c) ∧ CallsAtP W x.p x.l := by
 rcases h with e | ⟨bk, off, e, hb, h⟩
 ·rw [e] at hx; cases hx
 ·obtain ⟨a, b⟩ := h j x hx
  exact ⟨bk, off, e, cell_chg c b (fun x => by have := hF _ x; simp only at this; omega), a⟩
theorem CallsAtP.get {W w : World} {F : Nat → Prop} {p : Option Addr} {l : List CallP} (h : CallsAtP W p l) (c : Chg F W w) (hF : ∀ i, F i → W.heap.size ≤ i) (i : Nat) (x : CallP) (hx : l[i]? = some x) : ∃ bk off, p = some ⟨bk, off, none⟩ ∧ w.rangeAt bk (off + i * 20) x.cs ∧ x.Ok W := by
 rcases h with e | ⟨bk, off, e, hb, h⟩
 ·rw [e] at hx; cases hx
 ·obtain ⟨a, b⟩ := h i x hx
  exact ⟨bk, off, e, rangeP (fun j u hj => cell_chg c (b j u hj) (fun x => by have := hF _ x; simp only at this; omega)), a⟩
end Go.Proofs.YtahgaghokpicgaaGreat
namespace Go.Proofs.YtahgaghokpicgaaGreat
open Go.RowKit Go.Maps Go.Shelf
theorem slice_of {W : World} {e : TypeId} {s n : Nat} {v : Value} {xs : List Value} (h : W.ownsRow 0 e s v n xs) : ∃ p c, v = .slice p n c := by
 rcases h.2 with ⟨rfl, rfl⟩ | ⟨g, cap, cur, rfl, _⟩
 ·exact ⟨_, _, rfl⟩
 ·exact ⟨_, _, rfl⟩
theorem slice_pos {W : World} {e : TypeId} {s n : Nat} {v : Value} {xs : List Value} (h : W.ownsRow 0 e s v n xs) (hn : 0 < n) : ∃ g c, v = .slice (some ⟨g, 0, none⟩) n c := by
 rcases h.2 with ⟨rfl, rfl⟩ | ⟨g, cap, cur, rfl, _⟩
 ·omega
 ·exact ⟨g, cap, rfl⟩
theorem wpList_append_two {P : Program} (w : World) {ops : Array Oper} {rest : List Oper} {o : Oper} {a : Act} {Q : Exit → Act → World → Prop} (hgd : o.guard = none) (s x : Operand) (t : TypeId)
    (ho : o.op = Op.call { callee := Callee.builtin Builtin.append, args := #[s, x], argTypes := #[t, t] })
    (e : TypeId) (i : TypeInfo) (z : Value) (size bytes : Nat) (ht : P.underlying t = some (.slice e)) (hi : P.info? e = some i) (hz : i.zero = some z)
    (hsize : i.size = size) (hby : i.bytes = bytes) (hzs : z.cells.size = size) (hsz : 0 < size)
    (v : Value) (n : Nat) (xs : List Value) (hs : a.eval s = v) (hown : w.ownsRow 0 e size v n xs)
    (ad : Addr) (m c : Nat) (news : List Value) (hx : a.eval x = .slice (some ad) m c) (hl : news.length = m * size) (hnews : ∀ j u, news[j]? = some u → w.cell? (ad.add j) = some u) (h1 : ∀ u ∈ news, u.oneCell' = true)
    (hm : 0 < m) (h63 : n + m ≤ maxLen) (hbytes : (n + m) * bytes ≤ 140737488355328)
    (h : ∀ v' w', w'.ownsRow 0 e size v' (n + m) (xs ++ news) → (w.grownBy w' v.ownBlock ∧ v'.ownBlock = v.ownBlock ∨ w.grownBy w' none ∧ ∀ b, v'.ownBlock = some b → w.heap.size ≤ b) → wpList P ops Q rest (a.put o.dst v') w') :
    wpList P ops Q (o :: rest) a w := by
 have lower : ∀ (w' : World) (v' : Value) (k : Nat) (ys : List Value), w'.ownsRow w.heap.size e size v' k ys → w'.ownsRow 0 e size v' k ys ∧ ∀ b, v'.ownBlock = some b → w.heap.size ≤ b := fun w' v' k ys hr => by
  refine ⟨⟨hr.1, ?_⟩, fun b hb => ?_⟩
  ·rcases hr.2 with hr2 | ⟨g, cap, cur, q1, q2, q3⟩
   ·exact .inl hr2
   ·exact .inr ⟨g, cap, cur, q1, Nat.zero_le _, q3⟩
  ·exact (hr.lt b hb).1
 rcases hown.2 with ⟨rfl, rfl⟩ | ⟨g, cap, cur, rfl, _⟩
 ·have hxs : xs = [] := List.eq_nil_of_length_eq_zero (by have := hown.1; simpa using this)
  subst hxs
  refine wpList_append_grows w hgd s x t ho e i z size bytes ht hi hz hsize hby hzs hsz none 0 0 [] hs (fun _ => ⟨rfl, rfl⟩) (by simp) (fun b hb => by simp at hb) ad m c news hx hl hnews h1 (by omega) h63 hbytes ?_
  intro v' w' r1 r2
  obtain ⟨l1, l2⟩ := lower w' v' _ _ r1
  exact h v' w' l1 (.inr ⟨r2, l2⟩)
 ·by_cases hroom : n + m ≤ cap
  ·refine wpList_append_fits w hgd s x t ho 0 e i size ht hi hsize g n cap xs hs hown ad m c news hx hl hnews h1 hroom ?_
   intro w' r1 r2
   exact h _ w' r1 (.inl ⟨r2, rfl⟩)
  ·refine wpList_append_grows w hgd s x t ho e i z size bytes ht hi hz hsize hby hzs hsz (some ⟨g, 0, none⟩) n cap xs hs (fun e => by simp at e) hown.1 (fun b hb j u hj => by cases hb; exact hown.cells (g := g) rfl j u hj) ad m c news hx hl hnews h1 (by omega) h63 hbytes ?_
   intro v' w' r1 r2
   obtain ⟨l1, l2⟩ := lower w' v' _ _ r1
   exact h v' w' l1 (.inr ⟨r2, l2⟩)
def mark (j : Nat) : Value := .int .u64 (1152921504606846976 + (j : Int))
def LV (v : Nat → Value) (n : Nat) : List Value := (List.range n).map v
theorem LV_get (v : Nat → Value) (n j : Nat) (hj : j < n) : (LV v n)[j]? = some (v j) := by simp [LV, hj]
theorem LV_snoc (v : Nat → Value) (n : Nat) (x : Value) : LV (fun j => if j = n then x else v j) (n + 1) = LV v n ++ [x] := by
 unfold LV
 rw [List.range_succ, List.map_append]
 congr 1
 ·apply List.map_congr_left
  intro j hj
  rw [List.mem_range] at hj
  rw [if_neg (by omega)]
 ·simp
def cellV (W : World) (v : Value) (q : Nat) : Option Value := match v with
 | .slice (some a) _ _ => W.cell? ⟨a.block, q, none⟩
 | _ => none
theorem cellV_some {W : World} {g n c q : Nat} : cellV W (.slice (some ⟨g, 0, none⟩) n c) q = W.cell? ⟨g, q, none⟩ := rfl
theorem row_cellV {W : World} {v : Value} {n : Nat} {xs : List Value} {e : TypeId} (h : W.ownsRow 0 e 1 v n xs) (q : Nat) (hq : q < n) : cellV W v q = xs[q]? := by
 obtain ⟨g, c, rfl⟩ := slice_pos h (by omega)
 rw [cellV_some, World.ownsRow.cellAt h q (by omega)]
theorem cellV_kept {W X : World} {v : Value} {q : Nat} (h : ∀ b, v.ownBlock = some b → X.heap[b]? = W.heap[b]?) (hf : ∃ p n c, v = .slice p n c ∧ (∀ a, p = some a → a.off = 0 ∧ a.spot = none)) : cellV X v q = cellV W v q := by
 obtain ⟨p, n, c, rfl, hp⟩ := hf
 cases p with
 | none => rfl
 | some a =>
  obtain ⟨bl, off, spot⟩ := a
  obtain ⟨rfl, rfl⟩ := hp _ rfl
  exact World.cell?_of_block (h bl rfl)
theorem row_form {W : World} {v : Value} {n : Nat} {xs : List Value} {e : TypeId} {s : Nat} (h : W.ownsRow 0 e s v n xs) : ∃ p n c, v = .slice p n c ∧ (∀ a, p = some a → a.off = 0 ∧ a.spot = none) := by
 rcases h.2 with ⟨rfl, rfl⟩ | ⟨g, cap, cur, rfl, _⟩
 ·exact ⟨_, _, _, rfl, fun a ha => by simp at ha⟩
 ·exact ⟨_, _, _, rfl, fun a ha => by cases ha; exact ⟨rfl, rfl⟩⟩
structure BkB (W : World) (Bk : Nat) (ov : Value) (n : Nat) (v : Nat → Value) : Prop where
 blk : ∃ cs, W.heap[Bk]? = some (.cells cs 73 (0, 0)) ∧ cs[3]? = some ov
 outer : W.ownsRow 0 33 1 ov n (LV v n)
theorem BkB.cell {W : World} {Bk : Nat} {ov : Value} {n : Nat} {v : Nat → Value} (h : BkB W Bk ov n v) : W.cell? ⟨Bk, 3, none⟩ = some ov := by
 obtain ⟨cs, h1, h2⟩ := h.blk
 rw [cell_of h1, h2]
theorem BkB.kept {W X : World} {Bk : Nat} {ov : Value} {n : Nat} {v : Nat → Value} (h : BkB W Bk ov n v) (h1 : X.heap[Bk]? = W.heap[Bk]?) (h2 : ∀ b, ov.ownBlock = some b → X.heap[b]? = W.heap[b]?) : BkB X Bk ov n v := by
 obtain ⟨cs, q1, q2⟩ := h.blk
 exact ⟨⟨cs, h1.trans q1, q2⟩, row_kept h.outer h2⟩
theorem BkB.lt {W : World} {Bk : Nat} {ov : Value} {n : Nat} {v : Nat → Value} (h : BkB W Bk ov n v) : Bk < W.heap.size := by
 obtain ⟨cs, q1, _⟩ := h.blk
 exact lt_of q1
theorem BkB.at {W : World} {Bk go co : Nat} {n : Nat} {v : Nat → Value} (h : BkB W Bk (.slice (some ⟨go, 0, none⟩) n co) n v) (j : Nat) (hj : j < n) : W.cell? ⟨go, j, none⟩ = some (v j) := by
 have e := row_cellV h.outer j hj
 rw [cellV_some, LV_get v n j hj] at e
 exact e
theorem BkB.ne {W : World} {Bk : Nat} {ov : Value} {n : Nat} {v : Nat → Value} {x : Value} {k : Nat} {xs : List Value} (h : BkB W Bk ov n v) (hr : W.ownsRow 0 30 1 x k xs) : x.ownBlock ≠ some Bk ∧ ∀ b, ov.ownBlock = some b → x.ownBlock ≠ some b := by
 obtain ⟨cs, q1, _⟩ := h.blk
 exact ⟨block_apart hr q1 (by decide), fun b hb => rows_apart h.outer hr (by decide) b hb⟩
def Apart (n : Nat) (v : Nat → Value) : Prop := ∀ i j b, i < n → j < n → i ≠ j → (v i).ownBlock = some b → (v j).ownBlock ≠ some b
def RowsM (W : World) (n : Nat) (v : Nat → Value) (len t : Nat → Nat) : Prop := ∀ j, j < n → ∃ xs, W.ownsRow 0 30 1 (v j) (len j) xs ∧ ∀ q, q < t j → xs[q]? = some (mark j)
def Fv (n : Nat) (v : Nat → Value) (b : Nat) : Prop := ∃ j, j < n ∧ (v j).ownBlock = some b
theorem RowsM.weak {W : World} {n : Nat} {v : Nat → Value} {len t t' : Nat → Nat} (h : RowsM W n v len t) (ht : ∀ j, j < n → t' j ≤ t j) : RowsM W n v len t' := fun j hj => by
 obtain ⟨xs, h1, h2⟩ := h j hj
 exact ⟨xs, h1, fun q hq => h2 q (Nat.lt_of_lt_of_le hq (ht j hj))⟩
theorem RowsM.put {W : World} {n g c i k : Nat} {v : Nat → Value} {len t t' : Nat → Nat} (h : RowsM W n v len t) (ha : Apart n v) (hi : i < n) (hk : k < len i) (hg : v i = .slice (some ⟨g, 0, none⟩) (len i) c) (ht : ∀ j q, j < n → q < t' j → q < t j ∨ j = i ∧ q = k) : RowsM (W.setCell ⟨g, k, none⟩ (mark i)) n v len t' := fun j hj => by
 obtain ⟨xs, h1, h2⟩ := h j hj
 by_cases e : j = i
 ·subst e
  rw [hg] at h1
  refine ⟨xs.set k (mark j), by rw [hg]; exact (World.ownsRow.stored h1 k (mark j)).1, fun q hq => ?_⟩
  have hl : xs.length = len j := by have := h1.1; omega
  rw [List.getElem?_set]
  by_cases e2 : k = q
  ·rw [if_pos e2, if_pos (by omega)]
  ·rw [if_neg e2]
   rcases ht j q hj hq with h3 | ⟨_, h3⟩
   ·exact h2 q h3
   ·exact absurd h3.symm e2
 ·have hb : (v i).ownBlock = some g := by rw [hg]; rfl
  refine ⟨xs, row_kept h1 fun b hb2 => Below.heap_setCell W ⟨g, k, none⟩ (mark i) b (fun e3 => ?_), fun q hq => ?_⟩
  ·exact ha i j b hi hj (fun e4 => e e4.symm) (by rw [hb]; exact congrArg some e3.symm) hb2
  ·rcases ht j q hj hq with h3 | ⟨h3, _⟩
   ·exact h2 q h3
   ·exact absurd h3 e
theorem all_marks {xs : List Value} {n : Nat} {x : Value} (hl : xs.length = n) (h : ∀ q, q < n → xs[q]? = some x) : xs = List.replicate n x := by
 apply List.ext_getElem?
 intro q
 by_cases c : q < n
 ·rw [h q c, List.getElem?_replicate, if_pos c]
 ·rw [List.getElem?_eq_none (by omega), List.getElem?_eq_none (by simp; omega)]
structure G2 (wi wr : World) (vi : Value) (len i k : Nat) (gv : Value) : Prop where
 row : wr.ownsRow 0 30 1 gv (len + k) (List.replicate (len + k) (mark i))
 rvi : ∀ q, q < len → cellV wr vi q = some (mark i)
 blk : gv.ownBlock = vi.ownBlock ∨ ∀ b, gv.ownBlock = some b → wi.heap.size ≤ b
 chg : Chg (fun b => vi.ownBlock = some b) wi wr
 form : ∃ p n c, vi = .slice p n c ∧ (∀ a, p = some a → a.off = 0 ∧ a.spot = none)
 vlt : ∀ b, vi.ownBlock = some b → b < wi.heap.size
theorem G2.more {wi wr w2 : World} {vi gv v' : Value} {len i k : Nat} {o : Obj} (h : G2 wi wr vi len i k gv) (hr : w2.ownsRow 0 30 1 v' (len + k + 1) (List.replicate (len + k) (mark i) ++ [mark i]))
    (hg : (wr.alloc o).grownBy w2 gv.ownBlock ∧ v'.ownBlock = gv.ownBlock ∨ (wr.alloc o).grownBy w2 none ∧ ∀ b, v'.ownBlock = some b → (wr.alloc o).heap.size ≤ b) : G2 wi w2 vi len i (k + 1) v' := by
 have hrow : w2.ownsRow 0 30 1 v' (len + (k + 1)) (List.replicate (len + (k + 1)) (mark i)) := by
  have e : List.replicate (len + (k + 1)) (mark i) = List.replicate (len + k) (mark i) ++ [mark i] := by
   rw [show len + (k + 1) = (len + k) + 1 by omega]
   exact List.replicate_succ' ..
  rw [e]
  exact hr
 have hs := h.chg.size
 have c1 : Chg (fun b => vi.ownBlock = some b) wi (wr.alloc o) := h.chg.alloc o
 rcases hg with ⟨g1, g2⟩ | ⟨g1, g2⟩
 ·refine ⟨hrow, fun q hq => ?_, ?_, c1.grown g1 (fun b hb hlt => ?_), h.form, h.vlt⟩
  ·by_cases e : gv.ownBlock = vi.ownBlock
   ·obtain ⟨b, cb, rfl⟩ := slice_pos hrow (by omega)
    have hb : vi.ownBlock = some b := by rw [← e, ← g2]; rfl
    obtain ⟨p, n, c, rfl, hp⟩ := h.form
    cases p with
    | none => simp [Value.ownBlock] at hb
    | some a =>
     obtain ⟨bl, off, spot⟩ := a
     obtain ⟨rfl, rfl⟩ := hp _ rfl
     simp [Value.ownBlock] at hb
     subst hb
     have e2 := row_cellV hrow q (by omega)
     rw [cellV_some, List.getElem?_replicate, if_pos (by omega)] at e2
     exact e2
   ·rw [cellV_kept (W := wr) (fun b hb => ?_) h.form]
    ·exact h.rvi q hq
    ·have hlt := h.vlt b hb
     refine (g1.block b (by simp; omega) (fun e3 => ?_)).trans (Below.heap_alloc _ _ _ (by omega))
     rcases h.blk with e4 | e4
     ·exact e e4
     ·have := e4 b e3.symm
      omega
  ·rcases h.blk with e4 | e4
   ·exact .inl (g2.trans e4)
   ·exact .inr (by rw [g2]; exact e4)
  ·rcases h.blk with e4 | e4
   ·rw [← e4]; exact hb
   ·have := e4 b hb
    omega
 ·refine ⟨hrow, fun q hq => ?_, .inr fun b hb => ?_, c1.grown g1 (fun b hb => by simp at hb), h.form, h.vlt⟩
  ·rw [cellV_kept (W := wr) (fun b hb => ?_) h.form]
   ·exact h.rvi q hq
   ·have hlt := h.vlt b hb
    exact (g1.block b (by simp; omega) (by simp)).trans (Below.heap_alloc _ _ _ (by omega))
  ·have := g2 b hb
   simp at this
   omega
structure B2 (wa wr : World) (n : Nat) (v : Nat → Value) (len : Nat → Nat) (i : Nat) (gs : Nat → Value) (av : Value) : Prop where
 rows : ∀ j, i ≤ j → j < n → wr.ownsRow 0 30 1 (v j) (len j) (List.replicate (len j) (mark j))
 rv : ∀ j, j < n → ∀ q, q < len j → cellV wr (v j) q = some (mark j)
 gf : ∀ j, j < i → ∃ h d, gs j = .slice (some ⟨h, 0, none⟩) (len j + 20) d ∧ h < wr.heap.size ∧ (∃ cur, wr.heap[h]? = some (.cells cur 30 (0, 0))) ∧ (∀ q, q < len j + 20 → wr.cell? ⟨h, q, none⟩ = some (mark j)) ∧ ∀ j', i ≤ j' → j' < n → (v j').ownBlock ≠ some h
 all : wr.ownsRow 0 33 1 av i (LV gs i)
 alln : ∀ b, av.ownBlock = some b → wa.heap.size ≤ b
 chg : Chg (Fv n v) wa wr
structure BV (wa : World) (n : Nat) (v : Nat → Value) : Prop where
 apart : Apart n v
 lt : ∀ j b, j < n → (v j).ownBlock = some b → b < wa.heap.size
 form : ∀ j, j < n → ∃ p n c, v j = .slice p n c ∧ (∀ a, p = some a → a.off = 0 ∧ a.spot = none)
theorem B2.next {wa wi wr w2 : World} {n i : Nat} {v : Nat → Value} {len : Nat → Nat} {gs : Nat → Value} {av av' gv : Value} {o : Obj} (hv : BV wa n v) (h : B2 wa wi n v len i gs av) (hi : i < n) (hg : G2 wi wr (v i) (len i) i 20 gv)
    (hr : w2.ownsRow 0 33 1 av' (i + 1) (LV gs i ++ [gv])) (hgr : (wr.alloc o).grownBy w2 av.ownBlock) (hw : av'.ownBlock = av.ownBlock ∨ av'.ownBlock = some (wr.alloc o).heap.size) : B2 wa w2 n v len (i + 1) (fun j => if j = i then gv else gs j) av' := by
 have s1 := h.chg.size
 have s2 := hg.chg.size
 have c2 : Chg (fun b => av.ownBlock = some b) wr w2 := ((Chg.refl (fun b => av.ownBlock = some b) wr).alloc o).grown hgr (fun k e _ => e)
 have s3 := c2.size
 have away : ∀ b, b < wi.heap.size → (v i).ownBlock ≠ some b → av.ownBlock ≠ some b → w2.heap[b]? = wi.heap[b]? := fun b hb h1 h2 => (c2.block b (by omega) h2).trans (hg.chg.block b hb h1)
 have vaway : ∀ j, j < n → j ≠ i → ∀ b, (v j).ownBlock = some b → w2.heap[b]? = wi.heap[b]? := fun j hj hne b hb => by
  have hlt := hv.lt j b hj hb
  exact away b (by omega) (hv.apart j i b hj hi hne hb) (fun e => by have := h.alln b e; omega)
 obtain ⟨hb, cb, hgv⟩ := slice_pos hg.row (by omega)
 obtain ⟨cur, hcur⟩ := row_block hg.row hb (by rw [hgv]; rfl)
 have hA := h.all
 have hAr : wr.ownsRow 0 33 1 av i (LV gs i) := row_kept hA fun b hb2 => hg.chg.block b (row_lt hA b hb2) (fun e => by have := hv.lt i b hi e; have := h.alln b hb2; omega)
 have hne : av.ownBlock ≠ some hb := block_apart hAr hcur (by decide)
 have hkeep : w2.heap[hb]? = wr.heap[hb]? := c2.block hb (lt_of hcur) hne
 refine ⟨fun j h1 h2 => ?_, fun j hj q hq => ?_, fun j hj => ?_, ?_, fun b hb2 => ?_, ?_⟩
 ·exact row_kept (h.rows j (by omega) h2) fun b hb2 => vaway j h2 (by omega) b hb2
 ·by_cases e : j = i
  ·subst e
   rw [cellV_kept (W := wr) (fun b hb2 => c2.block b (by have := hv.lt j b hj hb2; omega) (fun e => by have := hv.lt j b hj hb2; have := h.alln b e; omega)) (hv.form j hj)]
   exact hg.rvi q hq
  ·rw [cellV_kept (W := wi) (fun b hb2 => vaway j hj e b hb2) (hv.form j hj)]
   exact h.rv j hj q hq
 ·by_cases e : j = i
  ·subst e
   rw [if_pos rfl]
   refine ⟨hb, cb, hgv, by have := lt_of hcur; omega, ⟨cur, hkeep.trans hcur⟩, fun q hq => ?_, fun j' h1 h2 e2 => ?_⟩
   ·have e3 := row_cellV hg.row q hq
    rw [hgv, cellV_some, List.getElem?_replicate, if_pos hq] at e3
    exact (World.cell?_of_block (w := wr) hkeep).trans e3
   ·rcases hg.blk with e4 | e4
    ·exact hv.apart j j' hb hi h2 (by omega) (by rw [← e4, hgv]; rfl) e2
    ·have := e4 hb (by rw [hgv]; rfl)
     have := hv.lt j' hb h2 e2
     omega
  ·rw [if_neg e]
   obtain ⟨x, d, q1, q2, ⟨cx, q3⟩, q4, q5⟩ := h.gf j (by omega)
   have hx : w2.heap[x]? = wi.heap[x]? := away x q2 (q5 i (Nat.le_refl _) hi) (block_apart hA q3 (by decide))
   exact ⟨x, d, q1, by omega, ⟨cx, hx.trans q3⟩, fun q hq => (World.cell?_of_block (w := wi) hx).trans (q4 q hq), fun j' h1 h2 => q5 j' (by omega) h2⟩
 ·rw [LV_snoc]
  exact hr
 ·rcases hw with e | e
  ·rw [e] at hb2
   exact h.alln b hb2
  ·rw [e] at hb2
   simp at hb2
   omega
 ·exact (h.chg.trans hg.chg (H := Fv n v) (fun _ _ x => x) (fun b _ x => ⟨i, hi, x⟩)).trans c2 (fun _ _ x => x) (fun b hb2 x => by have := h.alln b x; omega)
end Go.Proofs.YtahgaghokpicgaaGreat
