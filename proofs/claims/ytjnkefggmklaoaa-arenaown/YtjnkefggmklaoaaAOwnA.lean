/- Lists of uint64s that came in, handed over, compared; what stays while a book takes lists of a trace. -/
import Derived.Test.YtjnkefggmklaoaaBkAU
import Derived.Test.YtjnkefggmklaoaaALive
namespace Go.Proofs.Ytjnkefggmklaoaa
open Go.RowKit Go.Maps

def UReads (W : World) (p : Option Addr) (xs : List Nat) : Prop :=
  xs = [] ∨ ∃ bk off, p = some ⟨bk, off, none⟩ ∧ bk < W.heap.size ∧ ∀ (i x : Nat), xs[i]? = some x → W.cell? ⟨bk, off + i, none⟩ = some (.int .u64 (x : Int))
theorem UReads.get {W : World} {p : Option Addr} {xs : List Nat} (h : UReads W p xs) (i x : Nat) (hx : xs[i]? = some x) : ∃ bk off, p = some ⟨bk, off, none⟩ ∧ bk < W.heap.size ∧ W.cell? ⟨bk, off + i, none⟩ = some (.int .u64 (x : Int)) := by
  rcases h with rfl | ⟨bk, off, rfl, hb, h⟩
  · simp at hx
  · exact ⟨bk, off, rfl, hb, h i x hx⟩
theorem UReads.up {W X : World} {p : Option Addr} {xs : List Nat} {F : Nat → Prop} (h : UReads W p xs) (hc : Chg F W X) (hF : ∀ b, F b → W.heap.size ≤ b) : UReads X p xs := by
  rcases h with rfl | ⟨bk, off, rfl, hb, h⟩
  · exact .inl rfl
  · exact .inr ⟨bk, off, rfl, Nat.lt_of_lt_of_le hb hc.size, fun i x hx => cell_chg hc (h i x hx) (fun e => by
      have := hF _ e
      simp at this
      omega)⟩
theorem add_plain (bk off i : Nat) : (⟨bk, off, none⟩ : Addr).add i = ⟨bk, off + i, none⟩ := by
  unfold Addr.add
  split <;> simp
theorem UReads.of_reads {W : World} {p : Option Addr} {xs : List Nat} (h : Reads W p xs) (hl : ∀ q, p = some q → xs ≠ [] → q.block < W.heap.size) : UReads W p xs := by
  rcases Classical.em (xs = []) with e | e
  · exact .inl e
  · rcases h with h | ⟨ad, rfl, h⟩
    · exact absurd h e
    · obtain ⟨bk, off, spot⟩ := ad
      obtain ⟨x, r, rfl⟩ := List.exists_cons_of_ne_nil e
      have c0 := h 0 (u64V x) (by simp)
      have hspot : spot = none := by simpa [Addr.add] using World.cell?_spot c0
      subst hspot
      refine .inr ⟨bk, off, rfl, hl _ rfl e, fun i y hy => ?_⟩
      rw [← add_plain]
      exact h i (u64V y) (by rw [List.getElem?_map, hy]; rfl)
theorem UReads.of_row {W : World} {p : Option Addr} {c : Nat} {vals : List Nat} (h : W.ownsRow 0 28 1 (.slice p vals.length c) vals.length (vals.map u64V)) : UReads W p vals :=
  UReads.of_reads (Reads.of_row h) (fun q hq _ => by subst hq; exact row_lt h _ rfl)

set_option maxRecDepth 100000 in
set_option maxHeartbeats 2000000 in
theorem r_sameU (p q : Option Addr) (c d : Nat) (la : List Nat) (W : World) (ha : UReads W p la) (hb : UReads W q la) (hla : la.length ≤ 17592186043904) :
    Calls Try.prog 22 #[.slice p la.length c, .slice q la.length d] W fun e W' => e = .returned (.bool true) ∧ Chg (fun _ => False) W W' := by
  have HA := keepH ha
  have HB := keepH hb
  clear ha hb
  go_enter Try.func22, Try.ntmps22
  go_wp2_with fail
  go_loopw [5] (fun s wr => ∃ k : Nat, k ≤ la.length ∧ s = .int .i64 (k : Int) ∧ Hid (Chg (fun _ => False) W wr)) (fun s _ => la.length - (intOf s).toNat)
  case atStart => exact ⟨0, by omega, rfl, keepH (Chg.refl _ _)⟩
  case round =>
    obtain ⟨k, hk, rfl, HK⟩ := hrel
    by_cases hlt : k < la.length
    · have t1 : (k : Int) < (la.length : Int) := by omega
      obtain ⟨x, hx⟩ : ∃ x, la[k]? = some x := ⟨la[k], List.getElem?_eq_getElem hlt⟩
      obtain ⟨bk, off, rfl, _, c0⟩ := (HA.out.up HK.out (fun _ x => x.elim)).get k x hx
      obtain ⟨bk', off', rfl, _, d0⟩ := (HB.out.up HK.out (fun _ x => x.elim)).get k x hx
      obtain ⟨z, hz⟩ : ∃ z : Int, z = (x : Int) := ⟨_, rfl⟩
      rw [← hz] at c0 d0
      clear hx hz
      go_wp2_with fail
      go_quiet (fail)
      go_wp2_with fail
      go_roundw
      case rel => exact ⟨k + 1, by omega, by first | rfl | go_num, keepH (HK.out.trans (H := fun _ => False) ⟨rfl, rfl, rfl, Nat.le_refl _, fun _ _ _ => rfl⟩ (fun _ _ x => x) (fun _ _ x => x))⟩
      case measure => simp [intOf]; omega
    · obtain rfl : k = la.length := by omega
      have t1 : ¬ (la.length : Int) < (la.length : Int) := by omega
      go_wp2_with fail
      go_ret
      exact ⟨by simp, HK.out⟩

/-- A list in memory of its own, so many of it written. -/
structure HU (w wr : World) (g n k : Nat) (vals : List Nat) (xs : List Value) : Prop where
  row : wr.ownsRow 0 28 1 (.slice (some ⟨g, 0, none⟩) (n + 9) (n + 9)) (n + 9) xs
  get : ∀ j x, j < k → vals[j]? = some x → xs[j]? = some (.int .u64 (x : Int))
  chg : Chg (fun b => w.heap.size ≤ b) w wr
theorem HU.at {w wr : World} {g n k : Nat} {vals : List Nat} {xs : List Value} (h : HU w wr g n k vals xs) (j : Nat) (hj : j < n + 9) : ∃ y, wr.cell? ⟨g, j, none⟩ = some y ∧ wr.frozen? ⟨g, j, none⟩ = false := by
  obtain ⟨y, hy⟩ : ∃ y, xs[j]? = some y := ⟨xs[j]'(by have := h.row.1; omega), List.getElem?_eq_getElem _⟩
  obtain ⟨cur, hcur⟩ := row_block h.row g rfl
  exact ⟨y, by rw [← hy]; exact World.ownsRow.cellAt h.row j (by omega), free_of hcur j⟩
theorem HU.put {w wr : World} {g n k : Nat} {vals : List Nat} {xs : List Value} (h : HU w wr g n k vals xs) (hg : w.heap.size ≤ g) (hk : k < n + 9) (x : Nat) (hx : vals[k]? = some x) : HU w (wr.setCell ⟨g, k, none⟩ (.int .u64 (x : Int))) g n (k + 1) vals (xs.set k (.int .u64 (x : Int))) :=
  ⟨(World.ownsRow.stored h.row k _).1, fun j y hj hy => by
    rw [List.getElem?_set]
    by_cases e : k = j
    · subst e
      rw [if_pos rfl, if_pos (by have := h.row.1; omega)]
      rw [hx] at hy
      simp at hy
      rw [hy]
    · rw [if_neg e]
      exact h.get j y (by omega) hy, h.chg.setCell (fun _ => hg) _⟩
theorem HU.over {w wr : World} {g n k : Nat} {vals : List Nat} {xs : List Value} (h : HU w wr g n k vals xs) (hg : w.heap.size ≤ g) (j : Nat) (hj : k ≤ j) (u : Value) : HU w (wr.setCell ⟨g, j, none⟩ u) g n k vals (xs.set j u) :=
  ⟨(World.ownsRow.stored h.row j _).1, fun i y hi hy => by
    rw [List.getElem?_set, if_neg (by omega)]
    exact h.get i y hi hy, h.chg.setCell (fun _ => hg) _⟩
theorem low_row {W : World} {base : Nat} {e : TypeId} {s n : Nat} {v : Value} {xs : List Value} (hr : W.ownsRow base e s v n xs) : W.ownsRow 0 e s v n xs := by
  refine ⟨hr.1, ?_⟩
  rcases hr.2 with hr2 | ⟨g, cap, cur, q1, q2, q3⟩
  · exact .inl hr2
  · exact .inr ⟨g, cap, cur, q1, Nat.zero_le _, q3⟩
set_option maxRecDepth 100000 in
set_option maxHeartbeats 4000000 in
theorem hand_u (p : Option Addr) (c n : Nat) (vals : List Nat) (w : World) (hlen : vals.length = n) (h : UReads w p vals) (hn : n ≤ 17592186043904) :
    Calls Try.prog 20 #[.slice p n c] w fun e W' => e = .returned (.slice (some ⟨w.heap.size, 0, none⟩) n (n + 9)) ∧ ∃ xs, HU w W' w.heap.size n n vals xs := by
  obtain ⟨i0, hi, hz0, hz1, hz2⟩ := info_parts infoU
  have HP := keepH h
  have HL := keepH hlen
  clear h hlen
  go_enter Try.func20, Try.ntmps20
  go_wp2_with (at_make; refine wpList_make_full _ rfl _ _ 29 rfl w.heap.size 28 i0 (.int .u64 0) 1 Try.underlying29 hi hz0 hz1 .i64 .i64 _ _ (n + 9) rfl rfl (by omega) (by omega) (by rw [hz2]; omega) (by unfold maxLen; omega) (Nat.le_refl _) ?_; intro w1 hown1 hgrow1)
  have HR1 : Hid (∃ xs, HU w w1 w.heap.size n 0 vals xs) := ⟨_, low_row hown1, fun j x hj => by omega, (Chg.refl _ w).grown hgrow1 (fun k e _ => by cases e)⟩
  clear hown1 hgrow1
  go_loopw [4] (fun s wr => ∃ k : Nat, k ≤ n ∧ s = .int .i64 (k : Int) ∧ Hid (∃ xs, HU w wr w.heap.size n k vals xs)) (fun s _ => n - (intOf s).toNat)
  case atStart => exact ⟨0, by omega, rfl, HR1⟩
  case round =>
    clear HR1
    obtain ⟨k, hk, rfl, HK⟩ := hrel
    by_cases hlt : k < n
    · have t1 : (k : Int) < (n : Int) := by omega
      obtain ⟨x, hx⟩ : ∃ x, vals[k]? = some x := ⟨vals[k]'(by rw [HL.out]; exact hlt), List.getElem?_eq_getElem _⟩
      obtain ⟨xs, hxs⟩ := HK.out
      obtain ⟨bk, off, rfl, _, c0⟩ := (HP.out.up hxs.chg (fun _ x => x)).get k x hx
      obtain ⟨y, c1, f1⟩ := hxs.at k (by omega)
      have HN : Hid (∃ ys, HU w (wr.setCell ⟨w.heap.size, k, none⟩ (.int .u64 (x : Int))) w.heap.size n (k + 1) vals ys) := ⟨_, hxs.put (Nat.le_refl _) (by omega) x hx⟩
      clear hx hxs
      go_wp2_with fail
      go_roundw
      case rel => exact ⟨k + 1, by omega, by first | rfl | go_num, HN⟩
      case measure => simp [intOf]; omega
    · obtain rfl : k = n := by omega
      have t1 : ¬ (k : Int) < (k : Int) := by omega
      go_wp2_with fail
      go_loopw [5] (fun s wr => ∃ m : Nat, m ≤ 9 ∧ s = .int .i64 ((k : Int) + (m : Int)) ∧ Hid (∃ xs, HU w wr w.heap.size k k vals xs)) (fun s _ => k + 9 - (intOf s).toNat)
      case atStart => exact ⟨0, by omega, by simp, HK⟩
      case round =>
        obtain ⟨wx, hwx⟩ : ∃ wx, wx = wr := ⟨_, rfl⟩
        rw [← hwx] at hrel ⊢
        clear hwx
        obtain ⟨m, hm, rfl, HM⟩ := hrel
        by_cases hlt2 : m < 9
        · have t2 : (k : Int) + (m : Int) < (k : Int) + 9 := by omega
          obtain ⟨xs, hxs⟩ := HM.out
          obtain ⟨y, c1, f1⟩ := hxs.at (k + m) (by omega)
          have HN : Hid (∀ u, ∃ ys, HU w (wx.setCell ⟨w.heap.size, k + m, none⟩ u) w.heap.size k k vals ys) := fun u => ⟨_, hxs.over (Nat.le_refl _) (k + m) (by omega) u⟩
          clear hxs
          go_wp2_with fail
          go_roundw
          case rel => exact ⟨m + 1, by omega, by first | rfl | go_num, keepH (HN.out _)⟩
          case measure => simp [intOf]; omega
        · obtain rfl : m = 9 := by omega
          have t2 : ¬ (k : Int) + 9 < (k : Int) + 9 := by omega
          go_wp2_with fail
          go_ret
          obtain ⟨xs, hxs⟩ := HM.out
          exact ⟨by simp, xs, hxs⟩

/-- The book, and what was there before it. -/
structure AO (base : Nat) (Wb wr : World) (Bk i fl : Nat) : Prop where
  book : ∃ v len sv, BKept base wr Bk i v len sv ∧ ∀ j, j < i → len j = fl
  chg : Chg (fun b => base ≤ b) Wb wr
theorem AO.quiet {base : Nat} {Wb wr wx : World} {Bk i fl : Nat} (h : AO base Wb wr Bk i fl) (hc : Chg (fun _ => False) wr wx) : AO base Wb wx Bk i fl := by
  obtain ⟨⟨v, len, sv, hb, hl⟩, h4⟩ := h
  exact ⟨⟨v, len, sv, hb.quiet hc, hl⟩, h4.trans hc (fun _ _ x => x) (fun _ _ x => x.elim)⟩
theorem AO.took {base : Nat} {Wb wr wx : World} {Bk i fl : Nat} {v : Nat → Value} {len : Nat → Nat} {sv sv' x : Value} (h : AO base Wb wr Bk i fl) (hb : BKept base wr Bk i v len sv) (hl : ∀ j, j < i → len j = fl)
    (hb' : BKept base wx Bk (i + 1) (fun j => if j = i then x else v j) (fun j => if j = i then fl else len j) sv') (hc : Chg (fun b => b = Bk ∨ sv.ownBlock = some b) wr wx) : AO base Wb wx Bk (i + 1) fl := by
  have hbn := hb.bn
  refine ⟨⟨_, _, sv', hb', fun j hj => ?_⟩, h.chg.trans hc (fun _ _ x => x) (fun b _ e => ?_)⟩
  · by_cases e : j = i
    · simp only [if_pos e]
    · simp only [if_neg e]
      exact hl j (by omega)
  · rcases e with e | e
    · omega
    · exact hb.sn _ e
/-- A list of one's own beside a memory with a view: of uint64s still. -/
structure OwnU (W wr : World) (g n c : Nat) : Prop where
  row : ∃ xs, wr.ownsRow 0 28 1 (.slice (some ⟨g, 0, none⟩) c c) c xs ∧ ∀ j, j < n → ∃ z : Int, xs[j]? = some (.int .u64 z)
  new : W.heap.size ≤ g
theorem OwnU.chg {W wr wx : World} {g n c : Nat} {F : Nat → Prop} (h : OwnU W wr g n c) (hc : Chg F wr wx) (hF : ¬ F g) : OwnU W wx g n c := by
  obtain ⟨⟨xs, h1, h2⟩, h3⟩ := h
  exact ⟨⟨xs, row_kept h1 fun b hb => by
    simp [Value.ownBlock] at hb
    subst hb
    exact hc.block _ (row_lt h1 _ rfl) hF, h2⟩, h3⟩
theorem OwnU.at {W wr : World} {g n c : Nat} (h : OwnU W wr g n c) (hnc : n ≤ c) (k : Nat) (hk : k < n) : ∃ z : Int, wr.cell? ⟨g, k, none⟩ = some (.int .u64 z) ∧ wr.frozen? ⟨g, k, none⟩ = false := by
  obtain ⟨⟨xs, h1, h2⟩, _⟩ := h
  obtain ⟨z, hz⟩ := h2 k hk
  obtain ⟨cur, hcur⟩ := row_block h1 g rfl
  exact ⟨z, by rw [← hz]; exact World.ownsRow.cellAt h1 k (by omega), free_of hcur k⟩
theorem OwnU.put {W wr : World} {g n c : Nat} (h : OwnU W wr g n c) (k : Nat) (z : Int) : OwnU W (wr.setCell ⟨g, k, none⟩ (.int .u64 z)) g n c := by
  obtain ⟨⟨xs, h1, h2⟩, h3⟩ := h
  refine ⟨⟨_, (World.ownsRow.stored h1 k _).1, fun j hj => ?_⟩, h3⟩
  obtain ⟨y, hy⟩ := h2 j hj
  rw [List.getElem?_set]
  by_cases e : k = j
  · subst e
    rw [if_pos rfl, if_pos (List.getElem?_eq_some_iff.1 hy).1]
    exact ⟨z, rfl⟩
  · rw [if_neg e]
    exact ⟨y, hy⟩
theorem St.put {W X : World} {m b v : Nat} {F : Nat → Prop} {th : Int} {most next made : Nat} {cs : List Nat} {l : List Acc} (h : St W X m b v F th most next made cs l) (g k : Nat) (u : Value) (h1 : ¬ F g) (h2 : g ≠ v) (h3 : g ≠ m) (h4 : W.heap.size ≤ g) : St W (X.setCell ⟨g, k, none⟩ u) m b v F th most next made cs l := by
  have c : Chg (fun i => i = g) X (X.setCell ⟨g, k, none⟩ u) := (Chg.refl (fun i => i = g) X).setCell (fun _ => rfl) u
  exact ⟨h.bank.chg c (fun i e x => h1 (by rw [← x]; exact e)), h.view.chg c (fun x => h2 x.symm), h.mem.chg c (fun x => h3 x.symm), h.nv, h.nm, h.mv, h.inF, h.hv, h.chg.trans c (fun _ _ x => x) (fun i hi x => by omega)⟩
theorem al_cell {n i : Nat} {vals : List Nat} (hl : vals.length = n) (h : alOk 4096 1 n) (hi : i < n) (x : Nat) (hx : vals[i]? = some x) : cellN (alN 4096 1 [] vals) (1 + i) = x := by
  unfold alN
  rw [hl, if_pos h, spliceN_cell _ _ _ (by rw [padN_length]; simp; omega), if_pos (by omega), show 1 + i - 1 = i by omega]
  simp [cellN, hx]
end Go.Proofs.Ytjnkefggmklaoaa
