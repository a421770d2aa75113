/- The bank of a plain memory: a copy of values; an access is written down. -/
import Derived.Test.YtjodechhnobkhaaGreatDoorStore
namespace Go.Proofs.YtjodechhnobkhaaGreatDoor
open Go.RowKit Go.Shelf

/-- A list that came in reads so. -/
def Reads (W : World) (p : Option Addr) (vals : List Nat) : Prop := vals = [] ∨ ∃ ad, p = some ad ∧ ∀ j u, (vals.map u64V)[j]? = some u → W.cell? (ad.add j) = some u
theorem Reads.nil (W : World) (p : Option Addr) : Reads W p [] := .inl rfl
theorem Reads.grown {W W' : World} {p : Option Addr} {vals : List Nat} {row : Option Nat} (h : Reads W p vals) (hg : W.grownBy W' row) (hne : ∀ ad, p = some ad → some ad.block ≠ row) : Reads W' p vals := by
  rcases h with h | ⟨ad, rfl, h⟩
  · exact .inl h
  · exact .inr ⟨ad, rfl, fun j u hj => hg.cell (h j u hj) (by unfold Addr.add; split <;> exact hne ad rfl)⟩

theorem run_append_empty {P : Program} (w : World) (t ty e : TypeId) (i : TypeInfo) (ht : P.underlying t = some (.slice e)) (hi : P.info? e = some i) (p : Option Addr) (c : Nat) :
    (Builtin.append_ #[t, t] ty #[.slice none 0 0, .slice p 0 c]).run P w = .ok (.slice none 0 0) w := by
  cases p <;> simp [Builtin.append_, run_underlying ht, sizeOf, typeInfo, hi, Builtin.lenOf, Builtin.firstCells, loadCells, loadCellsFrom]

set_option maxRecDepth 100000 in
theorem copy_of (p : Option Addr) (c : Nat) (vals : List Nat) (W : World) (hr : Reads W p vals) (hl : vals.length ≤ 17592186043904) :
    Calls Tryz.prog 149 #[.slice p vals.length c] W fun e W' => ∃ v, e = .returned v ∧ W'.ownsRow 0 42 1 v vals.length (vals.map u64V) ∧ W.grownBy W' none ∧ (v.ownBlock = none ∨ v.ownBlock = some W.heap.size) := by
  obtain ⟨i0, hi, hz0, hz1, hz2⟩ := info_parts infoU
  rcases hr with rfl | ⟨ad, rfl, hr⟩
  · have hrun := fun ty => run_append_empty (P := Tryz.prog) W 27 ty 42 i0 Tryz.underlying27 hi p c
    go_enter Tryz.func149, Tryz.ntmps149
    go_wp2_with (at_builtin; refine Lib.wpList_append_run _ rfl _ _ 27 27 rfl (.slice none 0 0) (.slice p 0 c) rfl rfl _ _ (hrun _) ?_)
    go_ret
    exact ⟨.slice none 0 0, by simp, World.ownsRow_nil _ _ _ _, ⟨rfl, rfl, rfl, Nat.le_refl _, fun _ _ _ => rfl⟩, .inl rfl⟩
  · have HR := keepH hr
    clear hr
    go_enter Tryz.func149, Tryz.ntmps149
    go_wp2_with (at_builtin; refine wpList_append_own_at _ rfl _ _ 27 rfl 0 42 i0 (.int .u64 0) 1 8 Tryz.underlying27 hi hz0 hz1 hz2 rfl (by decide) (.slice none 0 0) 0 [] rfl (World.ownsRow_nil _ _ _ _) ad vals.length c (vals.map u64V) rfl (by simp) HR.out (by intro u hu; obtain ⟨x, _, rfl⟩ := List.mem_map.1 hu; rfl) (by unfold maxLen; omega) (by omega) (Nat.zero_le _) ?_; intro v w1 h1 h2 h3 h4; have H1 := keepH h1; have H4 := keepH h4; clear h1 h3 h4)
    go_ret
    refine ⟨v, by simp, ?_, h2, H4.out⟩
    have e := H1.out
    simpa using e

def accV (th : Int) (kind addr a b : Nat) (vs : Value) (got : Nat) (ok : Bool) : Value := .agg #[.int .i64 th, .int .u8 (kind : Int), .int .u64 (addr : Int), .int .u64 (a : Int), .int .u64 (b : Int), vs, .int .u64 (got : Int), .bool ok]
theorem infoA : (Tryz.prog.info? 44).map (fun i => (i.zero, i.size, i.bytes)) = some (some (accV 0 0 0 0 0 (.slice none 0 0) 0 false), 8, 80) := by kernel_rfl

theorem cells_new (w : World) (g : Nat) (hg : w.heap.size = g) (cs : Array Value) (t : TypeId) : ∀ j u, cs.toList[j]? = some u → (w.alloc (.cells cs t)).cell? ((⟨g, 0, none⟩ : Addr).add j) = some u := by
  intro j u h
  subst hg
  have e : (⟨w.heap.size, 0, none⟩ : Addr).add j = ⟨w.heap.size, j, none⟩ := by unfold Addr.add; split <;> simp_all
  rw [e]
  have hh : (w.alloc (.cells cs t)).heap[w.heap.size]? = some (.cells cs t (0, 0)) := heap_alloc_new _ _
  rw [cell_of hh j]
  simpa using h
theorem blk_note {w2 w3 : World} {b B k : Nat} {o ob : Obj} {u : Value} {row : Option Nat} (hb : w2.heap[b]? = some o) (hne : ¬ b = B) (hg : (((w2.setCell ⟨B, k, none⟩ u).drew).alloc ob).grownBy w3 row) (hr : some b ≠ row) : w3.heap[b]? = some o := by
  have h1 : (w2.setCell ⟨B, k, none⟩ u).heap[b]? = some o := other_of hb hne u
  have h2 : ((w2.setCell ⟨B, k, none⟩ u).drew.alloc ob).heap[b]? = some o := alloc_of (W := (w2.setCell ⟨B, k, none⟩ u).drew) h1 ob
  exact (hg.block b (lt_of h2) hr).trans h2
theorem chg_note {w2 w3 : World} {B k : Nat} {ob : Obj} {u : Value} {row : Option Nat} (hg : (((w2.setCell ⟨B, k, none⟩ u).drew).alloc ob).grownBy w3 row) {F : Nat → Prop} {W : World} (h : Chg F W w2) (hB : W.heap.size ≤ B) (hr : ∀ k, row = some k → k < W.heap.size → F k) : Chg F W w3 :=
  ((Chg.setCell h (p := ⟨B, k, none⟩) (fun x => absurd x (Nat.not_lt.2 hB)) u).drew.alloc ob).grown hg hr

theorem note_end {W w2 w3 : World} {F : Nat → Prop} {b most next g' c3 B : Nat} {cv av vs u : Value} {ob : Obj} {cs : List Nat} {l : List Acc} {th : Int} {kind addr x y got : Nat} {ok : Bool} {vals : List Nat}
    (h : BankAt W F b cv av most next cs l) (hB : W.heap.size ≤ B) (hk2 : ∀ k, k < W.heap.size → w2.heap[k]? = W.heap[k]?) (hc2 : Chg F W w2) (hrow : w2.ownsRow 0 42 1 vs vals.length (vals.map u64V)) (hwh : ∀ k, vs.ownBlock = some k → W.heap.size ≤ k ∧ k ≠ B)
    (hb3 : w3.heap[b]? = some (.cells (bankCells cv av most next) 150 (0, 0))) (hg : (((w2.setCell ⟨B, 5, none⟩ u).drew).alloc ob).grownBy w3 av.ownBlock)
    (ho : w3.ownsRow 0 44 8 (.slice (some ⟨g', 0, none⟩) (l.length + 1) c3) (l.length + 1) (accRow l ++ [.int .i64 th, .int .u8 (kind : Int), .int .u64 (addr : Int), .int .u64 (x : Int), .int .u64 (y : Int), vs, .int .u64 (got : Int), .bool ok]))
    (hw2 : av.ownBlock = some g' ∨ W.heap.size ≤ g') :
    ∃ F' vs, Bank (w3.setCell ⟨b, 3, none⟩ (.slice (some ⟨g', 0, none⟩) (l.length + 1) c3)) F' b most next cs (l ++ [⟨th, kind, addr, x, y, vs, vals, got, ok⟩]) ∧ Goes W (w3.setCell ⟨b, 3, none⟩ (.slice (some ⟨g', 0, none⟩) (l.length + 1) c3)) F F' := by
  have hbl := lt_of h.blk
  have k3 : ∀ k, k < w2.heap.size → k ≠ B → k ≠ b → av.ownBlock ≠ some k → (w3.setCell ⟨b, 3, none⟩ (.slice (some ⟨g', 0, none⟩) (l.length + 1) c3)).heap[k]? = w2.heap[k]? := fun k hk h1 h2 h3 => by
    have e1 : (w3.setCell ⟨b, 3, none⟩ (.slice (some ⟨g', 0, none⟩) (l.length + 1) c3)).heap[k]? = w3.heap[k]? := Below.heap_setCell _ _ _ _ h2
    have s1 : (w2.setCell ⟨B, 5, none⟩ u).drew.heap.size = w2.heap.size := by simp [World.setCell]
    have e2 := hg.block k (by rw [World.size_alloc, s1]; omega) (fun e => h3 e.symm)
    have e3 : ((w2.setCell ⟨B, 5, none⟩ u).drew.alloc ob).heap[k]? = (w2.setCell ⟨B, 5, none⟩ u).drew.heap[k]? := Below.heap_alloc _ _ _ (by rw [s1]; exact hk)
    have e4 : (w2.setCell ⟨B, 5, none⟩ u).drew.heap[k]? = w2.heap[k]? := Below.heap_setCell _ _ _ _ h1
    exact e1.trans (e2.trans (e3.trans e4))
  have kF : ∀ k, F k → k ≠ b → av.ownBlock ≠ some k → (w3.setCell ⟨b, 3, none⟩ (.slice (some ⟨g', 0, none⟩) (l.length + 1) c3)).heap[k]? = W.heap[k]? := fun k hk h2 h3 => by
    have hl := h.lt k hk
    exact (k3 k (by have := hc2.size; omega) (by omega) h2 h3).trans (hk2 k hl)
  have gb : g' ≠ b := fun e => block_apart ho hb3 (by decide) (by rw [e]; rfl)
  have sz3 : w2.heap.size ≤ w3.heap.size := by
    have := hg.size
    have s1 : (w2.setCell ⟨B, 5, none⟩ u).drew.heap.size = w2.heap.size := by simp [World.setCell]
    rw [World.size_alloc, s1] at this
    omega
  have szW := hc2.size
  have hsz : (w3.setCell ⟨b, 3, none⟩ (.slice (some ⟨g', 0, none⟩) (l.length + 1) c3)).heap.size = w3.heap.size := by simp [World.setCell]
  have vlt : ∀ k, vs.ownBlock = some k → k < w2.heap.size := row_lt hrow
  refine ⟨fun k => F k ∨ k = g' ∨ vs.ownBlock = some k, vs, ⟨cv, .slice (some ⟨g', 0, none⟩) (l.length + 1) c3, ?_, ?_, ?_, ?_, ?_, .inl h.inb, fun k e => .inl (h.inc k e), ?_, ?_, ?_, h.most_le, h.next_le, h.len_le, h.small⟩, ⟨?_, ?_⟩⟩
  · have e := set_of hb3 3 (.slice (some ⟨g', 0, none⟩) (l.length + 1) c3)
    exact e
  · exact row_kept h.row fun k e => kF k (h.inc k e) (fun e2 => block_apart h.row h.blk (by decide) (by rw [e, e2])) (fun e2 => rows_apart h.row h.acc (by decide) k e e2)
  · have r := row_kept (W' := w3.setCell ⟨b, 3, none⟩ (.slice (some ⟨g', 0, none⟩) (l.length + 1) c3)) ho fun k e => Below.heap_setCell _ _ _ _ (by simp [Value.ownBlock] at e; rw [← e]; exact gb)
    simpa [accRow, Acc.cells] using r
  · intro z hz
    rcases List.mem_append.1 hz with hz | hz
    · exact row_kept (h.vals z hz) fun k e => kF k (h.inv z hz k e) (fun e2 => block_apart (h.vals z hz) h.blk (by decide) (by rw [e, e2])) (fun e2 => rows_apart (h.vals z hz) h.acc (by decide) k e e2)
    · obtain rfl := List.mem_singleton.1 hz
      refine row_kept hrow fun k e => k3 k (vlt k e) (hwh k e).2 (fun e2 => ?_) (fun e2 => ?_)
      · have := (hwh k e).1
        omega
      · have := row_lt h.acc k e2
        have := (hwh k e).1
        omega
  · intro z hz k e e2
    rcases List.mem_append.1 hz with hz | hz
    · exact h.ne z hz k e e2
    · obtain rfl := List.mem_singleton.1 hz
      have := (hwh k e).1
      have := row_lt h.row k e2
      omega
  · intro k e
    simp [Value.ownBlock] at e
    exact .inr (.inl e.symm)
  · intro z hz k e
    rcases List.mem_append.1 hz with hz | hz
    · exact .inl (h.inv z hz k e)
    · obtain rfl := List.mem_singleton.1 hz
      exact .inr (.inr e)
  · rw [hsz]
    rintro k (hk | rfl | hk)
    · have := h.lt k hk
      omega
    · exact row_lt ho k rfl
    · have := vlt k hk
      omega
  · exact (chg_note hg hc2 hB (fun k e _ => h.ina k e)).setCell (fun _ => h.inb) _
  · rintro k (hk | rfl | hk)
    · exact .inl hk
    · rcases hw2 with e | e
      · exact .inl (h.ina k e)
      · exact .inr e
    · exact .inr (hwh k hk).1

set_option maxRecDepth 100000 in
theorem p_note (b most next : Nat) (th : Int) (kind addr x y got : Nat) (ok : Bool) (p : Option Addr) (c : Nat) (vals : List Nat) (F : Nat → Prop) (cs : List Nat) (l : List Acc) (W : World) (h : Bank W F b most next cs l) (hr : Reads W p vals) (hv : vals.length ≤ 17592186043904) (hl : l.length < 1099511627776) :
    Calls Tryz.prog 144 #[.pointer (some ⟨b, 0, none⟩), accV th kind addr x y (.slice p vals.length c) got ok] W fun e W' => e = .returned (.tuple #[]) ∧ ∃ F' vs, Bank W' F' b most next cs (l ++ [⟨th, kind, addr, x, y, vs, vals, got, ok⟩]) ∧ Goes W W' F F' := by
  obtain ⟨i0, hi, hz0, hz1, hz2⟩ := info_parts infoA
  unfold accV
  have HB := keepH h
  have HR := keepH hr
  clear h hr
  go_enter Tryz.func144, Tryz.ntmps144
  go_wp2_with fail
  refine (copy_of p c vals _ (HR.out.grown (World.grownBy_alloc _ _ none) (fun _ _ => by simp)) hv).mono ?_
  rintro e w2 ⟨v, rfl, hrow, hgr, hwh⟩
  obtain ⟨p', c', rfl⟩ := slice_of hrow
  have hB2 : Hid (w2.heap[W.heap.size]? = some (.cells #[.int .i64 th, .int .u8 (kind : Int), .int .u64 (addr : Int), .int .u64 (x : Int), .int .u64 (y : Int), .slice p vals.length c, .int .u64 (got : Int), .bool ok] 44 (0, 0))) := (hgr.block _ (by simp) (by simp)).trans (heap_alloc_new _ _)
  have q0 := (cell_of hB2.out 0).trans rfl
  have q1 := (cell_of hB2.out 1).trans rfl
  have q2 := (cell_of hB2.out 2).trans rfl
  have q3 := (cell_of hB2.out 3).trans rfl
  have q4 := (cell_of hB2.out 4).trans rfl
  have q5 := (cell_of hB2.out 5).trans rfl
  have q6 := (cell_of hB2.out 6).trans rfl
  have q7 := (cell_of hB2.out 7).trans rfl
  have qf := free_of hB2.out 5
  have hk2 : Hid (∀ k, k < W.heap.size → w2.heap[k]? = W.heap[k]?) := fun k hk => (hgr.block k (by simp; omega) (by simp)).trans (Below.heap_alloc _ _ _ hk)
  have hs2 : W.heap.size + 1 ≤ w2.heap.size := by have := hgr.size; simpa using this
  obtain ⟨cv, av, h⟩ := HB.out
  have hbl := lt_of h.blk
  have ne1 : ¬ b = W.heap.size := by omega
  have ne2 : ¬ W.heap.size = b := by omega
  have hb2 : Hid (w2.heap[b]? = some (.cells (bankCells cv av most next) 150 (0, 0))) := (hk2.out b hbl).trans h.blk
  have q8 : w2.cell? ⟨b, 3, none⟩ = some av := cell_of hb2.out 3
  have HA : Hid (∀ u, ((w2.setCell ⟨W.heap.size, 5, none⟩ u).drew).ownsRow 0 44 8 av l.length (accRow l)) := fun u => row_kept (W := W) h.acc fun k e => (Below.heap_setCell _ _ _ _ (by have := row_lt h.acc k e; show ¬ _ = W.heap.size; omega)).trans (hk2.out k (row_lt h.acc k e))
  have H := keepH h
  have HROW := keepH hrow
  have HWH := keepH hwh
  clear h hrow hwh
  obtain ⟨pa, ca, rfl⟩ := slice_of H.out.acc
  have ne3 : ¬ b = w2.heap.size := by omega
  have ne4 : ¬ w2.heap.size = b := by omega
  have qa : ∀ u o, ((w2.setCell ⟨W.heap.size, 5, none⟩ u).alloc o).cell? ⟨b, 3, none⟩ = some (.slice pa l.length ca) := fun u o => cell_of (alloc_of (other_of hb2.out ne1 u) o) 3
  have hsz3 : ∀ u, ((w2.setCell ⟨W.heap.size, 5, none⟩ u).drew).heap.size = w2.heap.size := fun u => by simp [World.setCell]
  go_wp2_with fail
  go_region_law (refine step_append_own rfl (.tmp 12) (.tmp 14) 22 rfl 44 i0 (accV 0 0 0 0 0 (.slice none 0 0) 0 false) 8 80 Tryz.underlying22 hi hz0 hz1 hz2 rfl (by decide) (.slice pa l.length ca) l.length (accRow l) rfl ((HA.out _).alloc _) ⟨w2.heap.size, 0, none⟩ 1 1 [.int .i64 th, .int .u8 (kind : Int), .int .u64 (addr : Int), .int .u64 (x : Int), .int .u64 (y : Int), .slice p' vals.length c', .int .u64 (got : Int), .bool ok] rfl rfl (cells_new _ _ (hsz3 _) _ _) (by simp [Value.oneCell']) (by unfold maxLen; omega) (by omega) ?_; intro v' w3 hown3 hgr3 _ hwh3; obtain ⟨g', c3, rfl⟩ := slice_pos hown3 (Nat.succ_pos _); have hb3 := keepH (blk_note hb2.out ne1 hgr3 (fun e => block_apart H.out.acc H.out.blk (by decide) e.symm)); have r8 : w3.cell? ⟨b, 3, none⟩ = some (.slice pa l.length ca) := cell_of hb3.out 3; have rf := free_of hb3.out 3; have HO := keepH hown3; have HW3 := keepH hwh3; have HG3 := keepH hgr3; clear hown3 hwh3 hgr3)
  all_goals (go_wp2_with fail)
  all_goals go_end0
  all_goals (refine ⟨rfl, note_end H.out (Nat.le_refl _) hk2.out (((Chg.refl F W).alloc _).grown hgr (fun k e => by simp at e)) HROW.out (fun k e => ?_) hb3.out HG3.out HO.out ?_⟩)
  all_goals first
    | (rcases HWH.out with e2 | e2
       · rw [e2] at e; simp at e
       · rw [e2] at e; simp at e; omega)
    | (rcases HW3.out with e2 | e2
       · exact .inl e2.symm
       · simp [Value.ownBlock] at e2; exact .inr (by omega))
end Go.Proofs.YtjodechhnobkhaaGreatDoor
