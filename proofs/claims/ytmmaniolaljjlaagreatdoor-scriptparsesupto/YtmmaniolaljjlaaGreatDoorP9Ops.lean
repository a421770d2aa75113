/- The bank of a plain memory: a copy of values; an access is written down. -/
import Derived.Test.YtmmaniolaljjlaaGreatDoorP8Store
import Derived.Maps.AppendAt
namespace Go.Proofs.YtmmaniolaljjlaaGreatDoor
open Go.RowKit Go.Shelf

/-- A list that came in reads so. -/
def Reads (W : World) (p : Option Addr) (vals : List Nat) : Prop := vals = [] ∨ ∃ ad, p = some ad ∧ ∀ j u, (vals.map u64V)[j]? = some u → W.cell? (ad.add j) = some u
theorem Reads.nil (W : World) (p : Option Addr) : Reads W p [] := .inl rfl
theorem Reads.grown {W W' : World} {p : Option Addr} {vals : List Nat} {row : Option Nat} (h : Reads W p vals) (hg : W.grownBy W' row) (hne : ∀ ad, p = some ad → some ad.block ≠ row) : Reads W' p vals := by
  rcases h with h | ⟨ad, rfl, h⟩
  · exact .inl h
  · exact .inr ⟨ad, rfl, fun j u hj => hg.cell (h j u hj) (by unfold Addr.add; split <;> exact hne ad rfl)⟩

theorem run_append_empty {P : Program} (w : World) (t ty e : TypeId) (i : TypeInfo) (ht : P.underlying t = some (.slice e)) (hi : P.info? e = some i) (p : Option Addr) (c : Nat) :
    (Builtin.append_ #[t, t] ty #[.slice none 0 0, .slice p 0 c]).run P w = .ok (.slice none 0 0) w := by
  cases p <;> simp [Builtin.append_, run_underlying ht, sizeOf, typeInfo, hi, Builtin.lenOf, Builtin.firstCells, loadCells, loadCellsFrom]

set_option maxRecDepth 100000 in
theorem copy_of (p : Option Addr) (c : Nat) (vals : List Nat) (W : World) (hr : Reads W p vals) (hl : vals.length ≤ 17592186043904) :
    Calls Tryz.prog 203 #[.slice p vals.length c] W fun e W' => ∃ v, e = .returned v ∧ W'.ownsRow 0 23 1 v vals.length (vals.map u64V) ∧ W.grownBy W' none ∧ (v.ownBlock = none ∨ v.ownBlock = some W.heap.size) := by
  obtain ⟨i0, hi, hz0, hz1, hz2⟩ := info_parts infoU
  rcases hr with rfl | ⟨ad, rfl, hr⟩
  · have hrun := fun ty => run_append_empty (P := Tryz.prog) W 26 ty 23 i0 Tryz.underlying26 hi p c
    go_enter Tryz.func203, Tryz.ntmps203
    go_wp2_with (at_builtin; refine Lib.wpList_append_run _ rfl _ _ 26 26 rfl (.slice none 0 0) (.slice p 0 c) rfl rfl _ _ (hrun _) ?_)
    go_ret
    exact ⟨.slice none 0 0, by simp, World.ownsRow_nil _ _ _ _, ⟨rfl, rfl, rfl, Nat.le_refl _, fun _ _ _ => rfl⟩, .inl rfl⟩
  · have HR := keepH hr
    clear hr
    go_enter Tryz.func203, Tryz.ntmps203
    go_wp2_with (at_builtin; refine wpList_append_own_at _ rfl _ _ 26 rfl 0 23 i0 (.int .u64 0) 1 8 Tryz.underlying26 hi hz0 hz1 hz2 rfl (by decide) (.slice none 0 0) 0 [] rfl (World.ownsRow_nil _ _ _ _) ad vals.length c (vals.map u64V) rfl (by simp) HR.out (by intro u hu; obtain ⟨x, _, rfl⟩ := List.mem_map.1 hu; rfl) (by unfold maxLen; omega) (by omega) (Nat.zero_le _) ?_; intro v w1 h1 h2 h3 h4; have H1 := keepH h1; have H4 := keepH h4; clear h1 h3 h4)
    go_ret
    refine ⟨v, by simp, ?_, h2, H4.out⟩
    have e := H1.out
    simpa using e

def accV (th : Int) (kind addr a b : Nat) (vs : Value) (got : Nat) (ok : Bool) : Value := .agg #[.int .i64 th, .int .u8 (kind : Int), .int .u64 (addr : Int), .int .u64 (a : Int), .int .u64 (b : Int), vs, .int .u64 (got : Int), .bool ok]
theorem infoA : (Tryz.prog.info? 208).map (fun i => (i.zero, i.size, i.bytes)) = some (some (accV 0 0 0 0 0 (.slice none 0 0) 0 false), 8, 80) := by kernel_rfl

theorem cells_new (w : World) (g : Nat) (hg : w.heap.size = g) (cs : Array Value) (t : TypeId) : ∀ j u, cs.toList[j]? = some u → (w.alloc (.cells cs t)).cell? ((⟨g, 0, none⟩ : Addr).add j) = some u := by
  intro j u h
  subst hg
  have e : (⟨w.heap.size, 0, none⟩ : Addr).add j = ⟨w.heap.size, j, none⟩ := by unfold Addr.add; split <;> simp_all
  rw [e]
  have hh : (w.alloc (.cells cs t)).heap[w.heap.size]? = some (.cells cs t (0, 0)) := heap_alloc_new _ _
  rw [cell_of hh j]
  simpa using h
theorem blk_note {w2 w3 : World} {b B k : Nat} {o ob : Obj} {u : Value} {row : Option Nat} (hb : w2.heap[b]? = some o) (hne : ¬ b = B) (hg : (((w2.setCell ⟨B, k, none⟩ u).drew).alloc ob).grownBy w3 row) (hr : some b ≠ row) : w3.heap[b]? = some o := by
  have h1 : (w2.setCell ⟨B, k, none⟩ u).heap[b]? = some o := other_of hb hne u
  have h2 : ((w2.setCell ⟨B, k, none⟩ u).drew.alloc ob).heap[b]? = some o := alloc_of (W := (w2.setCell ⟨B, k, none⟩ u).drew) h1 ob
  exact (hg.block b (lt_of h2) hr).trans h2
theorem chg_note {w2 w3 : World} {B k : Nat} {ob : Obj} {u : Value} {row : Option Nat} (hg : (((w2.setCell ⟨B, k, none⟩ u).drew).alloc ob).grownBy w3 row) {F : Nat → Prop} {W : World} (h : Chg F W w2) (hB : W.heap.size ≤ B) (hr : ∀ k, row = some k → k < W.heap.size → F k) : Chg F W w3 :=
  ((Chg.setCell h (p := ⟨B, k, none⟩) (fun x => absurd x (Nat.not_lt.2 hB)) u).drew.alloc ob).grown hg hr

theorem note_end {W w2 w3 : World} {F : Nat → Prop} {b most next g' c3 B : Nat} {cv av vs u : Value} {ob : Obj} {cs : List Nat} {l : List Acc} {th : Int} {kind addr x y got : Nat} {ok : Bool} {vals : List Nat}
    (h : BankAt W F b cv av most next cs l) (hB : W.heap.size ≤ B) (hk2 : ∀ k, k < W.heap.size → w2.heap[k]? = W.heap[k]?) (hc2 : Chg F W w2) (hrow : w2.ownsRow 0 23 1 vs vals.length (vals.map u64V)) (hwh : ∀ k, vs.ownBlock = some k → W.heap.size ≤ k ∧ k ≠ B)
    (hb3 : w3.heap[b]? = some (.cells (bankCells cv av most next) 238 (0, 0))) (hg : (((w2.setCell ⟨B, 5, none⟩ u).drew).alloc ob).grownBy w3 av.ownBlock)
    (ho : w3.ownsRow 0 208 8 (.slice (some ⟨g', 0, none⟩) (l.length + 1) c3) (l.length + 1) (accRow l ++ [.int .i64 th, .int .u8 (kind : Int), .int .u64 (addr : Int), .int .u64 (x : Int), .int .u64 (y : Int), vs, .int .u64 (got : Int), .bool ok]))
    (hw2 : av.ownBlock = some g' ∨ W.heap.size ≤ g') :
    ∃ F' vs, Bank (w3.setCell ⟨b, 3, none⟩ (.slice (some ⟨g', 0, none⟩) (l.length + 1) c3)) F' b most next cs (l ++ [⟨th, kind, addr, x, y, vs, vals, got, ok⟩]) ∧ Goes W (w3.setCell ⟨b, 3, none⟩ (.slice (some ⟨g', 0, none⟩) (l.length + 1) c3)) F F' := by
  have hbl := lt_of h.blk
  have k3 : ∀ k, k < w2.heap.size → k ≠ B → k ≠ b → av.ownBlock ≠ some k → (w3.setCell ⟨b, 3, none⟩ (.slice (some ⟨g', 0, none⟩) (l.length + 1) c3)).heap[k]? = w2.heap[k]? := fun k hk h1 h2 h3 => by
    have e1 : (w3.setCell ⟨b, 3, none⟩ (.slice (some ⟨g', 0, none⟩) (l.length + 1) c3)).heap[k]? = w3.heap[k]? := Below.heap_setCell _ _ _ _ h2
    have s1 : (w2.setCell ⟨B, 5, none⟩ u).drew.heap.size = w2.heap.size := by simp [World.setCell]
    have e2 := hg.block k (by rw [World.size_alloc, s1]; omega) (fun e => h3 e.symm)
    have e3 : ((w2.setCell ⟨B, 5, none⟩ u).drew.alloc ob).heap[k]? = (w2.setCell ⟨B, 5, none⟩ u).drew.heap[k]? := Below.heap_alloc _ _ _ (by rw [s1]; exact hk)
    have e4 : (w2.setCell ⟨B, 5, none⟩ u).drew.heap[k]? = w2.heap[k]? := Below.heap_setCell _ _ _ _ h1
    exact e1.trans (e2.trans (e3.trans e4))
  have kF : ∀ k, F k → k ≠ b → av.ownBlock ≠ some k → (w3.setCell ⟨b, 3, none⟩ (.slice (some ⟨g', 0, none⟩) (l.length + 1) c3)).heap[k]? = W.heap[k]? := fun k hk h2 h3 => by
    have hl := h.lt k hk
    exact (k3 k (by have := hc2.size; omega) (by omega) h2 h3).trans (hk2 k hl)
  have gb : g' ≠ b := fun e => block_apart ho hb3 (by decide) (by rw [e]; rfl)
  have sz3 : w2.heap.size ≤ w3.heap.size := by
    have := hg.size
    have s1 : (w2.setCell ⟨B, 5, none⟩ u).drew.heap.size = w2.heap.size := by simp [World.setCell]
    rw [World.size_alloc, s1] at this
    omega
  have szW := hc2.size
  have hsz : (w3.setCell ⟨b, 3, none⟩ (.slice (some ⟨g', 0, none⟩) (l.length + 1) c3)).heap.size = w3.heap.size := by simp [World.setCell]
  have vlt : ∀ k, vs.ownBlock = some k → k < w2.heap.size := row_lt hrow
  refine ⟨fun k => F k ∨ k = g' ∨ vs.ownBlock = some k, vs, ⟨cv, .slice (some ⟨g', 0, none⟩) (l.length + 1) c3, ?_, ?_, ?_, ?_, ?_, .inl h.inb, fun k e => .inl (h.inc k e), ?_, ?_, ?_, h.most_le, h.next_le, h.len_le, h.small⟩, ⟨?_, ?_⟩⟩
  · have e := set_of hb3 3 (.slice (some ⟨g', 0, none⟩) (l.length + 1) c3)
    exact e
  · exact row_kept h.row fun k e => kF k (h.inc k e) (fun e2 => block_apart h.row h.blk (by decide) (by rw [e, e2])) (fun e2 => rows_apart h.row h.acc (by decide) k e e2)
  · have r := row_kept (W' := w3.setCell ⟨b, 3, none⟩ (.slice (some ⟨g', 0, none⟩) (l.length + 1) c3)) ho fun k e => Below.heap_setCell _ _ _ _ (by simp [Value.ownBlock] at e; rw [← e]; exact gb)
    simpa [accRow, Acc.cells] using r
  · intro z hz
    rcases List.mem_append.1 hz with hz | hz
    · exact row_kept (h.vals z hz) fun k e => kF k (h.inv z hz k e) (fun e2 => block_apart (h.vals z hz) h.blk (by decide) (by rw [e, e2])) (fun e2 => rows_apart (h.vals z hz) h.acc (by decide) k e e2)
    · obtain rfl := List.mem_singleton.1 hz
      refine row_kept hrow fun k e => k3 k (vlt k e) (hwh k e).2 (fun e2 => ?_) (fun e2 => ?_)
      · have := (hwh k e).1
        omega
      · have := row_lt h.acc k e2
        have := (hwh k e).1
        omega
  · intro z hz k e e2
    rcases List.mem_append.1 hz with hz | hz
    · exact h.ne z hz k e e2
    · obtain rfl := List.mem_singleton.1 hz
      have := (hwh k e).1
      have := row_lt h.row k e2
      omega
  · intro k e
    simp [Value.ownBlock] at e
    exact .inr (.inl e.symm)
  · intro z hz k e
    rcases List.mem_append.1 hz with hz | hz
    · exact .inl (h.inv z hz k e)
    · obtain rfl := List.mem_singleton.1 hz
      exact .inr (.inr e)
  · rw [hsz]
    rintro k (hk | rfl | hk)
    · have := h.lt k hk
      omega
    · exact row_lt ho k rfl
    · have := vlt k hk
      omega
  · exact (chg_note hg hc2 hB (fun k e _ => h.ina k e)).setCell (fun _ => h.inb) _
  · rintro k (hk | rfl | hk)
    · exact .inl hk
    · rcases hw2 with e | e
      · exact .inl (h.ina k e)
      · exact .inr e
    · exact .inr (hwh k hk).1

set_option maxRecDepth 100000 in
theorem p_note (b most next : Nat) (th : Int) (kind addr x y got : Nat) (ok : Bool) (p : Option Addr) (c : Nat) (vals : List Nat) (F : Nat → Prop) (cs : List Nat) (l : List Acc) (W : World) (h : Bank W F b most next cs l) (hr : Reads W p vals) (hv : vals.length ≤ 17592186043904) (hl : l.length < 1099511627776) :
    Calls Tryz.prog 198 #[.pointer (some ⟨b, 0, none⟩), accV th kind addr x y (.slice p vals.length c) got ok] W fun e W' => e = .returned (.tuple #[]) ∧ ∃ F' vs, Bank W' F' b most next cs (l ++ [⟨th, kind, addr, x, y, vs, vals, got, ok⟩]) ∧ Goes W W' F F' := by
  obtain ⟨i0, hi, hz0, hz1, hz2⟩ := info_parts infoA
  unfold accV
  have HB := keepH h
  have HR := keepH hr
  clear h hr
  go_enter Tryz.func198, Tryz.ntmps198
  go_wp2_with fail
  refine (copy_of p c vals _ (HR.out.grown (World.grownBy_alloc _ _ none) (fun _ _ => by simp)) hv).mono ?_
  rintro e w2 ⟨v, rfl, hrow, hgr, hwh⟩
  obtain ⟨p', c', rfl⟩ := slice_of hrow
  have hB2 : Hid (w2.heap[W.heap.size]? = some (.cells #[.int .i64 th, .int .u8 (kind : Int), .int .u64 (addr : Int), .int .u64 (x : Int), .int .u64 (y : Int), .slice p vals.length c, .int .u64 (got : Int), .bool ok] 208 (0, 0))) := (hgr.block _ (by simp) (by simp)).trans (heap_alloc_new _ _)
  have q0 := (cell_of hB2.out 0).trans rfl
  have q1 := (cell_of hB2.out 1).trans rfl
  have q2 := (cell_of hB2.out 2).trans rfl
  have q3 := (cell_of hB2.out 3).trans rfl
  have q4 := (cell_of hB2.out 4).trans rfl
  have q5 := (cell_of hB2.out 5).trans rfl
  have q6 := (cell_of hB2.out 6).trans rfl
  have q7 := (cell_of hB2.out 7).trans rfl
  have qf := free_of hB2.out 5
  have hk2 : Hid (∀ k, k < W.heap.size → w2.heap[k]? = W.heap[k]?) := fun k hk => (hgr.block k (by simp; omega) (by simp)).trans (Below.heap_alloc _ _ _ hk)
  have hs2 : W.heap.size + 1 ≤ w2.heap.size := by have := hgr.size; simpa using this
  obtain ⟨cv, av, h⟩ := HB.out
  have hbl := lt_of h.blk
  have ne1 : ¬ b = W.heap.size := by omega
  have ne2 : ¬ W.heap.size = b := by omega
  have hb2 : Hid (w2.heap[b]? = some (.cells (bankCells cv av most next) 238 (0, 0))) := (hk2.out b hbl).trans h.blk
  have q8 : w2.cell? ⟨b, 3, none⟩ = some av := cell_of hb2.out 3
  have HA : Hid (∀ u, ((w2.setCell ⟨W.heap.size, 5, none⟩ u).drew).ownsRow 0 208 8 av l.length (accRow l)) := fun u => row_kept (W := W) h.acc fun k e => (Below.heap_setCell _ _ _ _ (by have := row_lt h.acc k e; show ¬ _ = W.heap.size; omega)).trans (hk2.out k (row_lt h.acc k e))
  have H := keepH h
  have HROW := keepH hrow
  have HWH := keepH hwh
  clear h hrow hwh
  obtain ⟨pa, ca, rfl⟩ := slice_of H.out.acc
  have ne3 : ¬ b = w2.heap.size := by omega
  have ne4 : ¬ w2.heap.size = b := by omega
  have qa : ∀ u o, ((w2.setCell ⟨W.heap.size, 5, none⟩ u).alloc o).cell? ⟨b, 3, none⟩ = some (.slice pa l.length ca) := fun u o => cell_of (alloc_of (other_of hb2.out ne1 u) o) 3
  have hsz3 : ∀ u, ((w2.setCell ⟨W.heap.size, 5, none⟩ u).drew).heap.size = w2.heap.size := fun u => by simp [World.setCell]
  go_wp2_with fail
  go_region_law (refine step_append_own rfl (.tmp 12) (.tmp 14) 174 rfl 208 i0 (accV 0 0 0 0 0 (.slice none 0 0) 0 false) 8 80 Tryz.underlying174 hi hz0 hz1 hz2 rfl (by decide) (.slice pa l.length ca) l.length (accRow l) rfl ((HA.out _).alloc _) ⟨w2.heap.size, 0, none⟩ 1 1 [.int .i64 th, .int .u8 (kind : Int), .int .u64 (addr : Int), .int .u64 (x : Int), .int .u64 (y : Int), .slice p' vals.length c', .int .u64 (got : Int), .bool ok] rfl rfl (cells_new _ _ (hsz3 _) _ _) (by simp [Value.oneCell']) (by unfold maxLen; omega) (by omega) ?_; intro v' w3 hown3 hgr3 _ hwh3; obtain ⟨g', c3, rfl⟩ := slice_pos hown3 (Nat.succ_pos _); have hb3 := keepH (blk_note hb2.out ne1 hgr3 (fun e => block_apart H.out.acc H.out.blk (by decide) e.symm)); have r8 : w3.cell? ⟨b, 3, none⟩ = some (.slice pa l.length ca) := cell_of hb3.out 3; have rf := free_of hb3.out 3; have HO := keepH hown3; have HW3 := keepH hwh3; have HG3 := keepH hgr3; clear hown3 hwh3 hgr3)
  all_goals (go_wp2_with fail)
  all_goals go_end0
  all_goals (refine ⟨rfl, note_end H.out (Nat.le_refl _) hk2.out (((Chg.refl F W).alloc _).grown hgr (fun k e => by simp at e)) HROW.out (fun k e => ?_) hb3.out HG3.out HO.out ?_⟩)
  all_goals first
    | (rcases HWH.out with e2 | e2
       · rw [e2] at e; simp at e
       · rw [e2] at e; simp at e; omega)
    | (rcases HW3.out with e2 | e2
       · exact .inl e2.symm
       · simp [Value.ownBlock] at e2; exact .inr (by omega))
end Go.Proofs.YtmmaniolaljjlaaGreatDoor
/- The bank of a plain memory: new cells are handed out. -/
namespace Go.Proofs.YtmmaniolaljjlaaGreatDoor
open Go.RowKit Go.Shelf

theorem BankAt.setNext {W : World} {F : Nat → Prop} {b most next : Nat} {cv av : Value} {cs : List Nat} {l : List Acc} (h : BankAt W F b cv av most next cs l) (n : Nat) (hn : 1 ≤ n ∧ n ≤ most) : BankAt (W.setCell ⟨b, 2, none⟩ (.int .i64 (n : Int))) F b cv av most n cs l := by
  have ob : ∀ k, k ≠ b → (W.setCell ⟨b, 2, none⟩ (.int .i64 (n : Int))).heap[k]? = W.heap[k]? := fun k hk => Below.heap_setCell _ _ _ _ hk
  refine ⟨?_, row_kept h.row fun k e => ob k (fun e2 => block_apart h.row h.blk (by decide) (by rw [e, e2])), row_kept h.acc fun k e => ob k (fun e2 => block_apart h.acc h.blk (by decide) (by rw [e, e2])), fun x hx => row_kept (h.vals x hx) fun k e => ob k (fun e2 => block_apart (h.vals x hx) h.blk (by decide) (by rw [e, e2])), h.ne, h.inb, h.inc, h.ina, h.inv, fun k e => by simpa [World.setCell] using h.lt k e, h.most_le, hn, h.len_le, h.small⟩
  have e := set_of h.blk 2 (.int .i64 (n : Int))
  exact e

/-- copy into a row, as one step of a region that draws. -/
theorem step_copy_row {P : Program} {ops : Array Oper} {o : Oper} {a : Act} {w : World} {K : Act → World → Prop} {Q : Exit → Act → World → Prop} {E : Prop} (hgd : o.guard = none) (d s : Operand) (dT sT : TypeId)
    (ho : o.op = .call { callee := .builtin .copy, args := #[d, s], argTypes := #[dT, sT] }) (elem : TypeId) (hu : P.underlying dT = some (.slice elem)) (hsz : (P.info? elem).map (·.size) = some 1)
    (g off dLen dCap : Nat) (ad : Addr) (sLen sCap : Nat) (hd : a.eval d = .slice (some ⟨g, off, none⟩) dLen dCap) (hs : a.eval s = .slice (some ad) sLen sCap)
    (cur : Array Value) (t : TypeId) (hg : w.heap[g]? = some (.cells cur t (0, 0))) (cs : List Value) (hn : cs.length = Nat.min sLen dLen)
    (hsrc : ∀ j v, cs[j]? = some v → w.cell? (ad.add j) = some v) (hfit : off + cs.length ≤ cur.size) (h1 : ∀ v ∈ cs, v.oneCell' = true)
    (h : K (a.put o.dst (goInt cs.length)) (w.setRow g (cur.toList.take off ++ cs ++ cur.toList.drop (off + cs.length)).toArray)) :
    if Region.wanted o (yielded ops a.tmps) = true then Oper.wp P o a w K Q else E := by
  have hw : Region.wanted o (yielded ops a.tmps) = true := by simp [Region.wanted, hgd]
  rw [if_pos hw]
  have hrun := run_copy_row (P := P) w dT sT o.type elem g off dLen dCap ad sLen sCap cur t cs hu hsz hg hn hsrc hfit h1
  unfold Oper.wp execOp
  simp only [ho, resolve, invoke, builtin, Sem.run_bind, Sem.run_pure, Result.andThen_ok, List.map_toArray, List.map_cons, List.map_nil, hd, hs, hrun]
  exact h

def spliceN (cs : List Nat) (i : Nat) (vals : List Nat) : List Nat := cs.take i ++ vals ++ cs.drop (i + vals.length)
theorem spliceN_length (cs : List Nat) (i : Nat) (vals : List Nat) (h : i + vals.length ≤ cs.length) : (spliceN cs i vals).length = cs.length := by simp [spliceN]; omega
theorem spliceN_cell (cs : List Nat) (i : Nat) (vals : List Nat) (h : i + vals.length ≤ cs.length) (j : Nat) : cellN (spliceN cs i vals) j = if i ≤ j ∧ j < i + vals.length then cellN vals (j - i) else cellN cs j := by
  simp only [cellN, spliceN, List.getD_eq_getElem?_getD]
  have e : min i cs.length = i := by omega
  by_cases h1 : j < i
  · have : ¬ (i ≤ j ∧ j < i + vals.length) := by omega
    rw [if_neg this, List.append_assoc, List.getElem?_append_left (by simp; omega), List.getElem?_take_of_lt h1]
  · by_cases h2 : j < i + vals.length
    · rw [if_pos ⟨by omega, h2⟩, List.append_assoc, List.getElem?_append_right (by simp; omega), List.length_take, e, List.getElem?_append_left (by omega)]
    · have : ¬ (i ≤ j ∧ j < i + vals.length) := by omega
      rw [if_neg this, List.getElem?_append_right (by simp; omega), List.length_append, List.length_take, e, List.getElem?_drop, show i + vals.length + (j - (i + vals.length)) = j by omega]

def alOk (most next n : Nat) : Prop := 0 < n ∧ n ≤ most - next
instance (most next n : Nat) : Decidable (alOk most next n) := inferInstanceAs (Decidable (_ ∧ _))
def alAt (most next n : Nat) : Nat := if alOk most next n then next else 0
def alNext (most next n : Nat) : Nat := if alOk most next n then next + n else next
def alN (most next : Nat) (cs vals : List Nat) : List Nat := if alOk most next vals.length then spliceN (padN cs (next + vals.length)) next vals else cs

theorem BankAt.splice {W : World} {F : Nat → Prop} {b g n c most next : Nat} {av : Value} {cs : List Nat} {l : List Acc} (h : BankAt W F b (.slice (some ⟨g, 0, none⟩) n c) av most next cs l) (cur : Array Value) (hcur : W.heap[g]? = some (.cells cur 23 (0, 0))) (i : Nat) (vals : List Nat) (hi : i + vals.length ≤ cs.length) (hv : ∀ x ∈ vals, x < 18446744073709551616) :
    BankAt (W.setRow g (cur.toList.take i ++ vals.map u64V ++ cur.toList.drop (i + (vals.map u64V).length)).toArray) F b (.slice (some ⟨g, 0, none⟩) n c) av most next (spliceN cs i vals) l := by
  have gb : b ≠ g := fun e => block_apart h.row h.blk (by decide) (by rw [e]; rfl)
  have ob : ∀ k, k ≠ g → (W.setRow g (cur.toList.take i ++ vals.map u64V ++ cur.toList.drop (i + (vals.map u64V).length)).toArray).heap[k]? = W.heap[k]? := fun k hk => setRow_other W g k _ hk
  have hsl := spliceN_length cs i vals hi
  refine ⟨(ob b gb).trans h.blk, ?_, row_kept h.acc fun k e => ob k (fun e2 => rows_apart h.row h.acc (by decide) g rfl (by rw [e, e2])), fun x hx => row_kept (h.vals x hx) fun k e => ob k (fun e2 => h.ne x hx k e (by rw [e2]; rfl)), h.ne, h.inb, h.inc, h.ina, h.inv, fun k e => by simpa [World.setRow] using h.lt k e, h.most_le, h.next_le, by rw [hsl]; exact h.len_le, ?_⟩
  · have hxl := h.row.1
    rcases h.row.2 with ⟨h2, _⟩ | ⟨g2, cap, cur2, h2, hb, hg, hnc, hcm, hcs, htake⟩
    · simp at h2
    · simp only [Value.slice.injEq, Option.some.injEq, Addr.mk.injEq, and_true] at h2
      obtain ⟨rfl, rfl, rfl⟩ := h2
      rw [hcur] at hg
      simp at hg
      subst hg
      have hcl : cur.toList.length = c := by simpa using hcs
      rw [hsl]
      refine ⟨by simp [hsl], .inr ⟨g, c, _, rfl, hb, setRow_heap W g cur _ 23 _ hcur, hnc, hcm, ?_, ?_⟩⟩
      · simp at hcl ⊢
        omega
      · simp only [Nat.mul_one] at htake ⊢
        have e1 : cur.toList.take i = (cs.take i).map u64V := by rw [List.map_take, ← htake, List.take_take]; congr 1; omega
        have e2 : (cur.toList.drop (i + vals.length)).take (cs.length - (i + vals.length)) = (cs.drop (i + vals.length)).map u64V := by rw [List.map_drop, ← htake, List.drop_take]
        simp only [spliceN, List.map_append, List.length_map, e1]
        rw [List.take_append, List.take_of_length_le (by simp; omega)]
        congr 1
        rw [← e2]
        congr 1
        simp
        omega
  · intro x hx
    simp only [spliceN, List.mem_append] at hx
    rcases hx with (hx | hx) | hx
    · exact h.small x (List.mem_of_mem_take hx)
    · exact hv x hx
    · exact h.small x (List.mem_of_mem_drop hx)

theorem cell_chg {F : Nat → Prop} {W W' : World} (h : Chg F W W') {a : Addr} {v : Value} (hc : W.cell? a = some v) (hn : ¬ F a.block) : W'.cell? a = some v := by
  have hlt : a.block < W.heap.size := by
    by_cases hl : a.block < W.heap.size
    · exact hl
    · have e : W.heap[a.block]? = none := Array.getElem?_eq_none (by omega)
      simp [World.cell?, e] at hc
  exact (World.cell?_of_block (w := W) (h.block a.block hlt hn)).trans hc
theorem add_block (a : Addr) (j : Nat) : (a.add j).block = a.block := by unfold Addr.add; split <;> rfl

set_option maxRecDepth 100000 in
theorem p_alloc (b most next : Nat) (p : Option Addr) (c : Nat) (vals : List Nat) (F : Nat → Prop) (cs : List Nat) (l : List Acc) (W : World) (h : Bank W F b most next cs l) (hr : Reads W p vals) (hap : ∀ ad, p = some ad → vals ≠ [] → ¬ F ad.block) (hv : ∀ x ∈ vals, x < 18446744073709551616) :
    Calls Tryz.prog 192 #[.pointer (some ⟨b, 0, none⟩), .slice p vals.length c] W fun e W' => e = .returned (.int .u64 (alAt most next vals.length : Int)) ∧ ∃ F', Bank W' F' b most (alNext most next vals.length) (alN most next cs vals) l ∧ Goes W W' F F' := by
  have HB := keepH h
  have HR := keepH hr
  obtain ⟨cv, av, h⟩ := h
  have hml := h.most_le
  have hnl := h.next_le
  by_cases h1 : vals.length = 0
  · have t1 : (vals.length : Int) = 0 := by omega
    have e0 : ¬ alOk most next vals.length := by unfold alOk; omega
    have E0 := keepH e0
    clear h hr e0
    go_enter Tryz.func192, Tryz.ntmps192
    go_wp2_with fail
    go_ret
    exact ⟨by simp [alAt, E0.out], F, by unfold alNext alN; rw [if_neg E0.out, if_neg E0.out]; exact HB.out, Goes.refl _ _⟩
  · have t1 : ¬ (vals.length : Int) = 0 := by omega
    by_cases h2 : most - next < vals.length
    · have t2 : ((most - next : Nat) : Int) < (vals.length : Int) := by omega
      have e0 : ¬ alOk most next vals.length := by unfold alOk; omega
      have E0 := keepH e0
      clear h hr e0
      go_enter Tryz.func192, Tryz.ntmps192
      go_wp2_with fail
      refine (p_left b most next F cs l _ HB.out).mono ?_
      rintro e w' ⟨rfl, q, rfl⟩
      go_wp2_with fail
      go_ret
      exact ⟨by simp [alAt, E0.out], F, by unfold alNext alN; rw [if_neg E0.out, if_neg E0.out]; exact HB.out.drewN q, Goes.drewN _ _ _⟩
    · have t2 : ¬ ((most - next : Nat) : Int) < (vals.length : Int) := by omega
      have e0 : alOk most next vals.length := by unfold alOk; omega
      have E0 := keepH e0
      have c2 : W.cell? ⟨b, 2, none⟩ = some (.int .i64 (next : Int)) := cell_of h.blk 2
      have f2 := free_of h.blk 2
      obtain ⟨nx, hnx⟩ : ∃ nx, nx = next + vals.length := ⟨_, rfl⟩
      have hnm : nx ≤ most := by omega
      have wn : IntKind.i64.wrap ((next : Int) + (vals.length : Int)) = (nx : Int) := by rw [IntKind.wrap_i64]; omega
      have HNX := keepH hnx
      have HN1 : Hid (1 ≤ nx ∧ nx ≤ most ∧ next ≤ nx ∧ nx - next = vals.length) := by show _ ∧ _ ∧ _ ∧ _; omega
      obtain ⟨ad, rfl, hrd⟩ : ∃ ad, p = some ad ∧ ∀ j u, (vals.map u64V)[j]? = some u → W.cell? (ad.add j) = some u := by
        rcases hr with hr | hr
        · simp [hr] at h1
        · exact hr
      have HRD := keepH hrd
      have wm : IntKind.u64.wrap (next : Int) = (next : Int) := u64_lt (by omega)
      have H0 := keepH h
      clear h hr e0 hrd hnx
      go_enter Tryz.func192, Tryz.ntmps192
      go_wp2_with fail
      refine (p_left b most next F cs l _ HB.out).mono ?_
      rintro e w' ⟨rfl, q, rfl⟩
      go_wp2_with fail
      have hB1 : Hid (BankAt ((W.drewN q).setCell ⟨b, 2, none⟩ (.int .i64 (nx : Int))) F b cv av most nx cs l) := (H0.out.kept (W' := W.drewN q) (Nat.le_refl _) (fun _ _ => rfl)).setNext nx ⟨HN1.out.1, HN1.out.2.1⟩
      refine (p_reach b most nx nx F cs l _ ⟨_, _, hB1.out⟩ hnm).mono ?_
      rintro e W2 ⟨rfl, F2, ⟨cv2, av2, B2⟩, G2⟩
      have hlen := padN_length cs nx
      obtain ⟨g, c2', hcv⟩ := B2.len (by have := HN1.out; omega)
      subst hcv
      obtain ⟨m, hm⟩ : ∃ m, m = (padN cs nx).length := ⟨_, rfl⟩
      have HL := keepH hlen
      have HM := keepH hm
      have k0 : W2.cell? ⟨b, 0, none⟩ = some (.slice (some ⟨g, 0, none⟩) m c2') := by rw [hm]; exact cell_of B2.blk 0
      have k2 : W2.cell? ⟨b, 2, none⟩ = some (.int .i64 (nx : Int)) := cell_of B2.blk 2
      obtain ⟨cur, hcur⟩ := row_block B2.row g rfl
      have HC := keepH hcur
      have hcap : Hid (cur.size = c2' ∧ m ≤ c2') := by
        rcases B2.row.2 with ⟨h2, _⟩ | ⟨g2, cap, cur2, h2, hb, hg, hnc, hcm, hcs, htake⟩
        · simp at h2
        · simp only [Value.slice.injEq, Option.some.injEq, Addr.mk.injEq, and_true] at h2
          obtain ⟨rfl, _, rfl⟩ := h2
          rw [hcur] at hg
          simp at hg
          subst hg
          exact ⟨by simpa using hcs, by omega⟩
      have u1 : (next : Int) ≤ (nx : Int) := by have := HNX.out; omega
      have u2 : (nx : Int) ≤ (c2' : Int) := by have := hcap.out; have := HNX.out; omega
      have u3 : ¬ c2' = next := by have := hcap.out; have := HNX.out; omega
      have u4 : ¬ next = c2' := by have := hcap.out; have := HNX.out; omega
      have u5 : nx - next = vals.length := by have := HNX.out; omega
      have u6 : ¬ (next : Int) < 0 := by omega
      have u7 : nx ≤ c2' := by have := hcap.out; have := HNX.out; omega
      have u8 : next ≤ nx := by have := HNX.out; omega
      have HB2 := keepH B2
      clear B2 hlen hm hcur
      have HS : Hid (∀ j u, (vals.map u64V)[j]? = some u → W2.drew.cell? (ad.add j) = some u) := fun j u hj => by
        have e1 := HRD.out j u hj
        have c1 : Chg F W ((W.drewN q).setCell ⟨b, 2, none⟩ (.int .i64 (nx : Int))) := ((Goes.drewN W F q).chg).setCell (fun _ => H0.out.inb) _
        have e2 := cell_chg (c1.trans G2.chg (fun _ _ x => x) (fun _ _ x => x)) e1 (by rw [add_block]; exact hap ad rfl (fun e => by rw [e] at hj; simp at hj))
        exact e2
      have HF : Hid (next + (vals.map u64V).length ≤ cur.size) := by have := hcap.out; have := HN1.out; have := HM.out; have := HL.out; simp only [List.length_map]; show _ ≤ _; omega
      have HMN : Hid ((vals.map u64V).length = Nat.min vals.length vals.length) := by show _ = _; simp
      have HO : Hid (∀ v ∈ vals.map u64V, v.oneCell' = true) := by intro u hu; obtain ⟨x, _, rfl⟩ := List.mem_map.1 hu; rfl
      go_wp2_with fail
      go_region_law (refine step_copy_row rfl (.tmp 44) (.tmp 45) 26 26 rfl 23 Tryz.underlying26 (by kernel_rfl) g next vals.length (c2' - next) ad vals.length c rfl rfl cur 23 HC.out (vals.map u64V) HMN.out HS.out HF.out HO.out ?_)
      all_goals (go_wp2_with fail)
      all_goals go_ret
      all_goals (refine ⟨by simp [alAt, E0.out], F2, ⟨.slice (some ⟨g, 0, none⟩) (padN cs nx).length c2', av2, ?_⟩, ?_⟩)
      all_goals first
        | (have e := (HB2.out.splice cur HC.out next vals (by have := HN1.out; have := HL.out; omega) hv).kept (W' := (W2.setRow g (cur.toList.take next ++ vals.map u64V ++ cur.toList.drop (next + (vals.map u64V).length)).toArray).drew) (Nat.le_refl _) (fun _ _ => rfl)
           have e2 : alNext most next vals.length = nx := by unfold alNext; rw [if_pos E0.out]; exact HNX.out.symm
           have e3 : alN most next cs vals = spliceN (padN cs nx) next vals := by unfold alN; rw [if_pos E0.out, ← HNX.out]
           rw [e2, e3]
           simp only [List.append_assoc, List.length_map] at e
           exact e)
        | (have c1 : Goes W ((W.drewN q).setCell ⟨b, 2, none⟩ (.int .i64 (nx : Int))) F F := ⟨((Goes.drewN W F q).chg).setCell (fun _ => H0.out.inb) _, fun _ h => .inl h⟩
           have c3 : Goes W2 (W2.setRow g (cur.toList.take next ++ (vals.map u64V ++ cur.toList.drop (next + vals.length))).toArray).drew F2 F2 := ⟨⟨rfl, rfl, rfl, by simp [World.setRow], fun k _ hk => setRow_other W2 g k _ (fun e => hk (by rw [e]; exact HB2.out.inc g rfl))⟩, fun _ h => .inl h⟩
           exact (c1.trans G2).trans c3)
end Go.Proofs.YtmmaniolaljjlaaGreatDoor
/- A copy of a script: what lies in memory while it is made. -/
namespace Go.Proofs.YtmmaniolaljjlaaGreatDoor
open Go.RowKit Go.Shelf Go.Maps
set_option linter.unusedVariables false

theorem infoInt : (Tryz.prog.info? 3).map (fun i => (i.zero, i.size, i.bytes)) = some (some (.int .i64 0), 1, 8) := by kernel_rfl
theorem infoOps : (Tryz.prog.info? 75).map (fun i => (i.zero, i.size, i.bytes)) = some (some (.slice none 0 0), 1, 24) := by kernel_rfl
theorem infoOp : (Tryz.prog.info? 28).map (fun i => (i.zero, i.size, i.bytes)) = some (some (.agg #[.int .u8 0, .int .u64 0, .int .u64 0, .int .u64 0, .int .u64 0, .bool false, .int .i64 0, .int .i64 0, .slice none 0 0, .int .u64 0, .int .u64 0]), 11, 104) := by kernel_rfl
def iRow (l : List Int) : List Value := l.map (fun x => Value.int .i64 x)
theorem wpList_append_runS {P : Program} {w : World} {ops : Array Oper} {rest : List Oper} {o : Oper} {a : Act} {Q : Exit → Act → World → Prop} (hgd : o.guard = none) (s x : Operand) (t : TypeId)
    (ho : o.op = .call { callee := .builtin .append, args := #[s, x], argTypes := #[t, t] }) (v vx v' : Value) (w' : World) (hs : a.eval s = v) (hx : a.eval x = vx) (hr : (Builtin.append_ #[t, t] o.type #[v, vx]).run P w = .ok v' w')
    (h : wpList P ops Q rest (a.put o.dst v') w') : wpList P ops Q (o :: rest) a w := by
  refine wpList_plain hgd fun K hK => ?_
  unfold Oper.wp execOp
  simp only [ho, resolve, invoke, builtin, Sem.run_bind, Sem.run_pure, Result.andThen_ok, List.map_toArray, List.map_cons, List.map_nil, hs, hx, hr]
  exact hK _ _ h
theorem step_append_runS {P : Program} {ops : Array Oper} {o : Oper} {a : Act} {w : World} {K : Act → World → Prop} {Q : Exit → Act → World → Prop} {E : Prop}
    (hgd : o.guard = none) (s x : Operand) (t : TypeId) (ho : o.op = Op.call { callee := Callee.builtin Builtin.append, args := #[s, x], argTypes := #[t, t] }) (v y v' : Value) (w' : World) (hs : a.eval s = v) (hx : a.eval x = y)
    (hr : (Builtin.append_ #[t, t] o.type #[v, y]).run P w = .ok v' w') (h : K (a.put o.dst v') w') :
    if Region.wanted o (yielded ops a.tmps) = true then Oper.wp P o a w K Q else E := by
  have hw : Region.wanted o (yielded ops a.tmps) = true := by simp [Region.wanted, hgd]
  rw [if_pos hw]
  unfold Oper.wp execOp
  simp only [ho, resolve, invoke, builtin, Sem.run_bind, Sem.run_pure, Result.andThen_ok, List.map_toArray, List.map_cons, List.map_nil, hs, hx, hr]
  exact h
structure CB (W : World) (P O R : Nat) (row zr : Array Value) (ce sl : Int) (stp : Nat) (mu : Int) (pv tv : Value) (ps : List Int) (ts : List (List Opx)) (wr : World) : Prop where
  bel : Below W.heap.size W wr
  box : wr.heap[P]? = some (.cells row 46 (0, 0))
  out : wr.heap[O]? = some (.cells (scR ce sl stp mu tv pv) 46 (0, 0))
  res : wr.heap[R]? = some (.cells zr 46 (0, 0))
  pr : wr.ownsRow 0 3 1 pv ps.length (iRow ps)
  tr : ∃ vs : List Value, vs.length = ts.length ∧ wr.ownsRow 0 75 1 tv ts.length vs ∧ (∀ b, tv.ownBlock = some b → W.heap.size ≤ b) ∧ ∀ (i : Nat) (l : List Opx) (v : Value), ts[i]? = some l → vs[i]? = some v → OB W wr v l
  lO : W.heap.size ≤ O
  lR : W.heap.size ≤ R
  nP : P ≠ O
  nR : R ≠ O
theorem CB.on {W : World} {P O R : Nat} {row zr : Array Value} {ce sl : Int} {stp : Nat} {mu : Int} {pv tv : Value} {ps : List Int} {ts : List (List Opx)} {wr X : World} (h : CB W P O R row zr ce sl stp mu pv tv ps ts wr) (hb : Below wr.heap.size wr X) : CB W P O R row zr ce sl stp mu pv tv ps ts X := by
  obtain ⟨vs, v1, v2, v3, v4⟩ := h.tr
  exact ⟨below_chain h.bel hb, heap_below h.box hb, heap_below h.out hb, heap_below h.res hb, row_kept h.pr (fun k hk => hb.block k (row_lt h.pr k hk)), ⟨vs, v1, row_kept v2 (fun k hk => hb.block k (row_lt v2 k hk)), v3, fun i l v a b => (v4 i l v a b).kept (Kp.bel hb)⟩, h.lO, h.lR, h.nP, h.nR⟩
theorem OB.base {Z Z' wr : World} {v : Value} {l : List Opx} (h : OB Z wr v l) (hz : Z'.heap.size ≤ Z.heap.size) : OB Z' wr v l := by
  obtain ⟨ks, h1, h2, h3, h4⟩ := h
  exact ⟨ks, h1, h2, fun b hb => Nat.le_trans hz (h3 b hb), fun i o kv a b => ⟨(h4 i o kv a b).1, fun c hc => Nat.le_trans hz ((h4 i o kv a b).2 c hc)⟩⟩
theorem CB.more {W : World} {P O R : Nat} {row zr : Array Value} {ce sl : Int} {stp : Nat} {mu : Int} {pv tv tv' v : Value} {ps : List Int} {ts : List (List Opx)} {l : List Opx} {wr w2 : World} {ob : Obj} (h : CB W P O R row zr ce sl stp mu pv tv ps ts wr) (hl : OB W wr v l) {vs : List Value} (v1 : vs.length = ts.length) (v2 : wr.ownsRow 0 75 1 tv ts.length vs) (v3 : ∀ b, tv.ownBlock = some b → W.heap.size ≤ b) (v4 : ∀ (i : Nat) (l : List Opx) (v : Value), ts[i]? = some l → vs[i]? = some v → OB W wr v l)
    (hr : w2.ownsRow 0 75 1 tv' (ts.length + 1) (vs ++ [v])) (hg : (wr.alloc ob).grownBy w2 tv.ownBlock) (hw : tv'.ownBlock = tv.ownBlock ∨ tv'.ownBlock = some (wr.alloc ob).heap.size) : CB W P O R row zr ce sl stp mu pv tv' ps (ts ++ [l]) (w2.setCell ⟨O, 4, none⟩ tv') ∧ w2.cell? ⟨O, 4, none⟩ = some tv ∧ w2.frozen? ⟨O, 4, none⟩ = false := by
  have hs := h.bel.size
  have keepB : ∀ (b : Nat) (cur : Array Value) (t : TypeId), wr.heap[b]? = some (.cells cur t (0, 0)) → t ≠ 75 → w2.heap[b]? = some (.cells cur t (0, 0)) := fun b cur t hb ht => by
    have hlt := (Array.getElem?_eq_some_iff.1 hb).1
    have ha : (wr.alloc ob).heap[b]? = wr.heap[b]? := Below.heap_alloc _ _ _ hlt
    rw [hg.block b (by simp; omega) (fun e => by
      obtain ⟨cur2, hcur2⟩ := row_block v2 b e.symm
      rw [hb] at hcur2
      injection hcur2 with hcur2
      injection hcur2 with _ h9
      exact ht h9), ha]
    exact hb
  have hO2 := keepB O _ _ h.out (by decide)
  have kp2 : Kp wr w2 := fun b cur t hb ht => (keepB b cur t hb (by rcases ht with rfl | rfl <;> decide)).trans hb.symm
  have kpS : ∀ (b : Nat) (cur : Array Value) (t : TypeId), w2.heap[b]? = some (.cells cur t (0, 0)) → t ≠ 46 → (w2.setCell ⟨O, 4, none⟩ tv').heap[b]? = w2.heap[b]? := fun b cur t hb ht => Below.heap_setCell _ _ _ _ (fun e => by
    have e2 : b = O := e
    rw [e2, hO2] at hb
    injection hb with hb
    injection hb with _ h9
    exact ht h9.symm)
  have kp3 : Kp w2 (w2.setCell ⟨O, 4, none⟩ tv') := fun b cur t hb ht => kpS b cur t hb (by rcases ht with rfl | rfl <;> decide)
  refine ⟨⟨?_, other_of (keepB P _ _ h.box (by decide)) h.nP _, set_of hO2 4 tv', other_of (keepB R _ _ h.res (by decide)) h.nR _, ?_, ⟨vs ++ [v], by simp [v1], ?_, ?_, ?_⟩, h.lO, h.lR, h.nP, h.nR⟩, cell_of hO2 4, free_of hO2 4⟩
  · exact ((h.bel.alloc hs ob).grown hg (by simp; omega) (fun b e => v3 b e)).setCell h.lO _
  · have p2 : w2.ownsRow 0 3 1 pv ps.length (iRow ps) := row_kept h.pr fun k hk => by
      obtain ⟨cur, hcur⟩ := row_block h.pr k hk
      exact (keepB k cur _ hcur (by decide)).trans hcur.symm
    exact row_kept p2 fun k hk => by
      obtain ⟨cur, hcur⟩ := row_block p2 k hk
      exact kpS k cur _ hcur (by decide)
  · rw [List.length_append]
    exact row_kept hr fun k hk => by
      obtain ⟨cur, hcur⟩ := row_block hr k hk
      exact kpS k cur _ hcur (by decide)
  · intro b hb
    rcases hw with e | e
    · rw [e] at hb; exact v3 b hb
    · rw [e] at hb
      simp at hb
      omega
  · intro i l' v' hi hv'
    by_cases hlt : i < ts.length
    · rw [List.getElem?_append_left hlt] at hi
      rw [List.getElem?_append_left (by omega)] at hv'
      exact ((v4 i l' v' hi hv').kept kp2).kept kp3
    · have hi2 : i = ts.length := by
        have := (List.getElem?_eq_some_iff.1 hi).1
        simp at this
        omega
      subst hi2
      rw [← v1] at hv'
      simp at hi hv'
      subst hi hv'
      exact (hl.kept kp2).kept kp3
/-- what the copy reads as -/
theorem CB.reads {W : World} {P O R : Nat} {row zr : Array Value} {ce sl : Int} {stp : Nat} {mu : Int} {pv tv : Value} {ps : List Int} {ts : List (List Opx)} {wr : World} (h : CB W P O R row zr ce sl stp mu pv tv ps ts wr) : ∃ tp tc pp pc, tv = .slice tp ts.length tc ∧ pv = .slice pp ps.length pc ∧ TRd wr tp ts ∧ IRd wr pp ps ∧ ps.length ≤ pc := by
  obtain ⟨vs, v1, v2, v3, v4⟩ := h.tr
  have a : ∃ tp tc, tv = .slice tp ts.length tc ∧ TRd wr tp ts := by
    have v2' := v2
    rcases v2.2 with ⟨hv, h0⟩ | ⟨g, cap, cur, hv, _⟩
    · exact ⟨none, 0, by rw [hv, h0], .inl (List.eq_nil_of_length_eq_zero h0)⟩
    · refine ⟨_, cap, hv, .inr ⟨g, 0, rfl, row_lt v2 g (by rw [hv]; rfl), fun i l hl => ?_⟩⟩
      have hi := (List.getElem?_eq_some_iff.1 hl).1
      obtain ⟨v, hvv⟩ : ∃ v, vs[i]? = some v := ⟨_, List.getElem?_eq_getElem (by omega)⟩
      obtain ⟨lp, lc, rfl, hO⟩ := (v4 i l v hl hvv).ord
      rw [hv] at v2'
      refine ⟨lp, lc, hO, ?_⟩
      rw [Nat.zero_add, World.ownsRow.cellAt v2' i (by omega)]
      exact hvv
  obtain ⟨tp, tc, e1, h1⟩ := a
  have h2' := h.pr
  rcases h.pr.2 with ⟨hv, h0⟩ | ⟨g, cap, cur, hv, x0, x1, x2, x3, x4, x5⟩
  · exact ⟨tp, tc, none, 0, e1, by rw [hv, h0], h1, .inl (List.eq_nil_of_length_eq_zero h0), by omega⟩
  · refine ⟨tp, tc, _, cap, e1, hv, h1, .inr ⟨g, 0, rfl, row_lt h.pr g (by rw [hv]; rfl), fun i x hx => ?_⟩, by first | exact x2 | exact x3 | exact x4 | omega⟩
    have hi := (List.getElem?_eq_some_iff.1 hx).1
    rw [hv] at h2'
    rw [Nat.zero_add, World.ownsRow.cellAt h2' i (by omega)]
    simp [iRow, hx]
end Go.Proofs.YtmmaniolaljjlaaGreatDoor
/- The bank of a plain memory: its trace is told, in memory of its own. -/
namespace Go.Proofs.YtmmaniolaljjlaaGreatDoor
open Go.RowKit Go.Shelf

theorem accRow_set (l : List Acc) (j : Nat) (x : Acc) (hj : l[j]? = some x) (v : Value) : (accRow l).set (j * 8 + 5) v = accRow (l.set j { x with vs := v }) := by
  induction l generalizing j with
  | nil => simp at hj
  | cons y r ih =>
    have hy : y.cells.length = 8 := rfl
    cases j with
    | zero =>
      simp at hj
      subst hj
      rfl
    | succ j =>
      have e := ih j (by simpa using hj)
      simp only [accRow, List.flatMap_cons, List.set_cons_succ] at e ⊢
      rw [List.set_append_right _ _ (by rw [hy]; omega), hy, show (j + 1) * 8 + 5 - 8 = j * 8 + 5 by omega, e]
structure Traced (W W' : World) (v : Value) (l lk : List Acc) (k : Nat) : Prop where
  row : W'.ownsRow 0 208 8 v l.length (accRow lk)
  len : lk.length = l.length
  same : ∀ (j : Nat) (x : Acc), l[j]? = some x → ∃ vs, lk[j]? = some { x with vs := vs }
  rest : ∀ j, k ≤ j → lk[j]? = l[j]?
  vals : ∀ j y, j < k → lk[j]? = some y → W'.ownsRow 0 23 1 y.vs y.vals.length (y.vals.map u64V)
  fresh : ∀ j y b, j < k → lk[j]? = some y → y.vs.ownBlock = some b → W.heap.size ≤ b
  apart : ∀ i j x y b, i < j → j < k → lk[i]? = some x → lk[j]? = some y → x.vs.ownBlock = some b → y.vs.ownBlock ≠ some b
  own : ∀ b, v.ownBlock = some b → W.heap.size ≤ b
  chg : Chg (fun _ => False) W W'

theorem Traced.step {W W1 W2 : World} {g c : Nat} {l lk : List Acc} {k : Nat} {x : Acc} {vs : Value} (h : Traced W W1 (.slice (some ⟨g, 0, none⟩) l.length c) l lk k) (hx : lk[k]? = some x)
    (hr : W2.ownsRow 0 23 1 vs x.vals.length (x.vals.map u64V)) (hg : W1.grownBy W2 none) (hv : vs.ownBlock = none ∨ vs.ownBlock = some W1.heap.size) :
    Traced W (W2.setCell ⟨g, k * 8 + 5, none⟩ vs) (.slice (some ⟨g, 0, none⟩) l.length c) l (lk.set k { x with vs := vs }) (k + 1) := by
  have hk : k < lk.length := (List.getElem?_eq_some_iff.1 hx).1
  have hgl := row_lt h.row g rfl
  have hgf := h.own g rfl
  have ob : ∀ b, b ≠ g → (W2.setCell ⟨g, k * 8 + 5, none⟩ vs).heap[b]? = W2.heap[b]? := fun b hb => Below.heap_setCell _ _ _ _ hb
  have r2 : W2.ownsRow 0 208 8 (.slice (some ⟨g, 0, none⟩) l.length c) l.length (accRow lk) := row_kept h.row fun b e => hg.block b (row_lt h.row b e) (by simp)
  have old : ∀ j y b, j < k → lk[j]? = some y → y.vs.ownBlock = some b → b < W1.heap.size := fun j y b hj hy e => row_lt (h.vals j y hj hy) b e
  refine ⟨?_, by simpa using h.len, ?_, ?_, ?_, ?_, ?_, h.own, ?_⟩
  · have e := (World.ownsRow.stored r2 (k * 8 + 5) vs).1
    rw [accRow_set lk k x hx vs] at e
    exact e
  · intro j y hy
    obtain ⟨v, hv⟩ := h.same j y hy
    by_cases e : j = k
    · subst e
      rw [hx] at hv
      simp at hv
      subst hv
      exact ⟨vs, by simp [hk]⟩
    · exact ⟨v, by rw [List.getElem?_set_ne (Ne.symm e)]; exact hv⟩
  · intro j hj
    rw [List.getElem?_set_ne (by omega)]
    exact h.rest j (by omega)
  · intro j y hj hy
    by_cases e : j = k
    · subst e
      simp [hk] at hy
      subst hy
      exact row_kept hr fun b eb => ob b (fun e2 => by
        obtain ⟨cu, hcu⟩ := row_block hr b eb
        exact block_apart r2 hcu (by decide) (by rw [e2]; rfl))
    · rw [List.getElem?_set_ne (Ne.symm e)] at hy
      have r := h.vals j y (by omega) hy
      exact row_kept r fun b eb => (ob b (fun e2 => rows_apart r h.row (by decide) b eb (by rw [e2]; rfl))).trans (hg.block b (row_lt r b eb) (by simp))
  · intro j y b hj hy eb
    by_cases e : j = k
    · subst e
      simp [hk] at hy
      subst hy
      have eb' : vs.ownBlock = some b := eb
      rcases hv with hv | hv
      · rw [hv] at eb'
        simp at eb'
      · rw [hv] at eb'
        simp at eb'
        have := h.chg.size
        omega
    · rw [List.getElem?_set_ne (Ne.symm e)] at hy
      exact h.fresh j y b (by omega) hy eb
  · intro i j y z b hij hj hy hz eb e2
    rw [List.getElem?_set_ne (by omega)] at hy
    have hb := old i y b (by omega) hy eb
    by_cases e : j = k
    · subst e
      simp [hk] at hz
      subst hz
      have e2' : vs.ownBlock = some b := e2
      rcases hv with hv | hv
      · rw [hv] at e2'
        simp at e2'
      · rw [hv] at e2'
        simp at e2'
        omega
    · rw [List.getElem?_set_ne (Ne.symm e)] at hz
      exact h.apart i j y z b hij (by omega) hy hz eb e2
  · exact (h.chg.grown hg (fun _ e => by simp at e)).setCell (p := ⟨g, k * 8 + 5, none⟩) (fun hx => absurd hx (Nat.not_lt.2 hgf)) vs

end Go.Proofs.YtmmaniolaljjlaaGreatDoor
/- A memory and its views, over a plain bank. -/
namespace Go.Proofs.YtmmaniolaljjlaaGreatDoor
open Go.RowKit Go.Shelf

def IsMem (W : World) (m b : Nat) : Prop := W.heap[m]? = some (.cells #[.iface 199 (.pointer (some ⟨b, 0, none⟩)), .bool false] 198 (0, 0))
def IsView (W : World) (v b : Nat) (th : Int) (made : Nat) : Prop := W.heap[v]? = some (.cells #[.iface 199 (.pointer (some ⟨b, 0, none⟩)), .int .i64 th, .int .i64 (made : Int)] 202 (0, 0))
theorem IsMem.chg {W W' : World} {F : Nat → Prop} {m b : Nat} (h : IsMem W m b) (hc : Chg F W W') (hn : ¬ F m) : IsMem W' m b := (hc.block m (lt_of h) hn).trans h
theorem IsView.chg {W W' : World} {F : Nat → Prop} {v b : Nat} {th : Int} {made : Nat} (h : IsView W v b th made) (hc : Chg F W W') (hn : ¬ F v) : IsView W' v b th made := (hc.block v (lt_of h) hn).trans h
theorem IsMem.lt {W : World} {m b : Nat} (h : IsMem W m b) : m < W.heap.size := lt_of h
theorem IsView.lt {W : World} {v b : Nat} {th : Int} {made : Nat} (h : IsView W v b th made) : v < W.heap.size := lt_of h

theorem mt_alloc (a : Addr) (w : World) : (method 378 199 (.pointer (some a)) "shutter/arena.alloc").run Tryz.prog w = .ok (192, .pointer (some a)) w := by kernel_rfl
theorem mt_note (a : Addr) (w : World) : (method 378 199 (.pointer (some a)) "shutter/arena.note").run Tryz.prog w = .ok (198, .pointer (some a)) w := by kernel_rfl
set_option maxRecDepth 100000 in
theorem m_view (m b : Nat) (th : Int) (W : World) (hm : IsMem W m b) : Calls Tryz.prog 108 #[.pointer (some ⟨m, 0, none⟩), .int .i64 th] W fun e W' => e = .returned (.pointer (some ⟨W.heap.size, 0, none⟩)) ∧ W' = W.alloc (.cells #[.iface 199 (.pointer (some ⟨b, 0, none⟩)), .int .i64 th, .int .i64 0] 202) := by
  have c0 : W.cell? ⟨m, 0, none⟩ = some (.iface 199 (.pointer (some ⟨b, 0, none⟩))) := cell_of hm 0
  clear hm
  go_enter Tryz.func108, Tryz.ntmps108
  go_wp2_with fail
  go_ret
  exact ⟨by simp, rfl⟩

end Go.Proofs.YtmmaniolaljjlaaGreatDoor
/- A view counts an access, and writes it down. -/
namespace Go.Proofs.YtmmaniolaljjlaaGreatDoor
open Go.RowKit Go.Shelf

theorem Reads.chg {W W' : World} {F : Nat → Prop} {p : Option Addr} {vals : List Nat} (h : Reads W p vals) (hc : Chg F W W') (hne : ∀ ad, p = some ad → vals ≠ [] → ¬ F ad.block) : Reads W' p vals := by
  rcases h with h | ⟨ad, rfl, h⟩
  · exact .inl h
  · exact .inr ⟨ad, rfl, fun j u hj => cell_chg hc (h j u hj) (by rw [add_block]; exact hne ad rfl (fun e => by rw [e] at hj; simp at hj))⟩

/-- A view's own block may change too. -/
structure GoesV (W W' : World) (F F' : Nat → Prop) (v : Nat) : Prop where
  chg : Chg (fun k => F k ∨ k = v) W W'
  new : ∀ k, F' k → F k ∨ W.heap.size ≤ k

set_option maxRecDepth 100000 in
theorem v_count (v b most next made : Nat) (th th0 : Int) (kind addr x y got : Nat) (ok : Bool) (p : Option Addr) (c : Nat) (vals : List Nat) (F : Nat → Prop) (cs : List Nat) (l : List Acc) (W : World) (hw : IsView W v b th made) (h : Bank W F b most next cs l) (hnv : ¬ F v) (hmd : made < 1099511627776)
    (hr : Reads W p vals) (hpv : ∀ ad, p = some ad → vals ≠ [] → ad.block ≠ v) (hv : vals.length ≤ 17592186043904) (hl : l.length < 1099511627776) :
    Calls Tryz.prog 152 #[.pointer (some ⟨v, 0, none⟩), accV th0 kind addr x y (.slice p vals.length c) got ok] W fun e W' => e = .returned (.tuple #[]) ∧ ∃ F' vs, Bank W' F' b most next cs (l ++ [⟨th, kind, addr, x, y, vs, vals, got, ok⟩]) ∧ IsView W' v b th (made + 1) ∧ GoesV W W' F F' v := by
  have c0 : W.cell? ⟨v, 0, none⟩ = some (.iface 199 (.pointer (some ⟨b, 0, none⟩))) := cell_of hw 0
  have c1 : W.cell? ⟨v, 1, none⟩ = some (.int .i64 th) := cell_of hw 1
  have c2 : W.cell? ⟨v, 2, none⟩ = some (.int .i64 (made : Int)) := cell_of hw 2
  have f2 := free_of hw 2
  have q := mt_note ⟨b, 0, none⟩
  obtain ⟨md, hmd'⟩ : ∃ md, md = made + 1 := ⟨_, rfl⟩
  have wn : IntKind.i64.wrap ((made : Int) + 1) = (md : Int) := by rw [IntKind.wrap_i64]; omega
  have HMD := keepH hmd'
  clear hmd'
  have HW := keepH hw
  have H := keepH h
  have HR := keepH hr
  have hlt := lt_of hw
  have ne1 : ¬ v = W.heap.size := by omega
  have ne2 : ¬ W.heap.size = v := by omega
  have hv1 : Hid ((W.setCell ⟨v, 2, none⟩ (.int .i64 (md : Int))).heap[v]? = some (.cells #[.iface 199 (.pointer (some ⟨b, 0, none⟩)), .int .i64 th, .int .i64 (md : Int)] 202 (0, 0))) := set_of hw 2 _
  have ka : ∀ o, ((W.setCell ⟨v, 2, none⟩ (.int .i64 (md : Int))).alloc o).cell? ⟨v, 0, none⟩ = some (.iface 199 (.pointer (some ⟨b, 0, none⟩))) := fun o => cell_of (alloc_of hv1.out o) 0
  have HX : Hid (∀ o, Chg (fun k => F k ∨ k = v) W ((W.setCell ⟨v, 2, none⟩ (.int .i64 (md : Int))).alloc o).drew) := fun o => (((Chg.refl _ W).setCell (p := ⟨v, 2, none⟩) (fun _ => .inr rfl) _).alloc o).drew
  have HY : Hid (∀ o, Chg (fun k => k = v) W ((W.setCell ⟨v, 2, none⟩ (.int .i64 (md : Int))).alloc o).drew) := fun o => (((Chg.refl (fun k => k = v) W).setCell (p := ⟨v, 2, none⟩) (fun _ => rfl) _).alloc o).drew
  unfold accV
  clear h hw hr
  go_enter Tryz.func152, Tryz.ntmps152
  go_wp2_with fail
  go_region_with (go_at_call 198; refine (p_note b most next th kind addr x y got ok p c vals F cs l _ (H.out.chg (HY.out _) (fun k hk e => hnv (by rw [← e]; exact hk))) (HR.out.chg (HY.out _) hpv) hv hl).mono ?_; rintro e w2 ⟨rfl, F1, vs, B1, G1⟩; have HB1 := keepH B1; clear B1)
  all_goals (go_wp2_with fail)
  all_goals go_end0
  all_goals
    refine ⟨rfl, F1, vs, HB1.out, ?_, ?_, ?_⟩
    · have e := HMD.out
      subst e
      exact (G1.chg.block v (by simp; omega) hnv).trans (alloc_of hv1.out _)
    · exact (HX.out _).trans G1.chg (fun _ _ h => h) (fun _ _ h => .inl h)
    · intro k hk
      rcases G1.new k hk with e | e
      · exact .inl e
      · exact .inr (Nat.le_trans (HX.out _).size e)
end Go.Proofs.YtmmaniolaljjlaaGreatDoor
/- What a view's accesses do. -/
namespace Go.Proofs.YtmmaniolaljjlaaGreatDoor
open Go.RowKit Go.Shelf

theorem Goes.thenV {W W1 W2 : World} {F F1 F2 : Nat → Prop} {v : Nat} (h : Goes W W1 F F1) (k : GoesV W1 W2 F1 F2 v) : GoesV W W2 F F2 v :=
  ⟨h.chg.trans k.chg (fun _ _ x => .inl x) (fun i hi x => x.elim (fun y => .inl ((h.new i y).resolve_right (by omega))) .inr), fun i x => (k.new i x).elim (h.new i) (fun y => .inr (Nat.le_trans h.chg.size y))⟩
theorem Goes.out {W W1 : World} {F F1 : Nat → Prop} {v : Nat} (h : Goes W W1 F F1) (hv : v < W.heap.size) (hn : ¬ F v) : ¬ F1 v := fun x => (h.new v x).elim hn (fun y => by omega)
theorem GoesV.trans {W W1 W2 : World} {F F1 F2 : Nat → Prop} {v : Nat} (h : GoesV W W1 F F1 v) (k : GoesV W1 W2 F1 F2 v) : GoesV W W2 F F2 v :=
  ⟨h.chg.trans k.chg (fun _ _ x => x) (fun i hi x => x.elim (fun y => .inl ((h.new i y).resolve_right (by omega))) .inr), fun i x => (k.new i x).elim (h.new i) (fun y => .inr (Nat.le_trans h.chg.size y))⟩
theorem GoesV.out {W W1 : World} {F F1 : Nat → Prop} {v u : Nat} (h : GoesV W W1 F F1 u) (hv : v < W.heap.size) (hn : ¬ F v) : ¬ F1 v := fun x => (h.new v x).elim hn (fun y => by omega)

set_option maxRecDepth 100000 in
theorem v_alloc (v b most next made : Nat) (th : Int) (p : Option Addr) (c : Nat) (vals : List Nat) (F : Nat → Prop) (cs : List Nat) (l : List Acc) (W : World) (hw : IsView W v b th made) (h : Bank W F b most next cs l) (hnv : ¬ F v) (hmd : made < 1099511627776) (hl : l.length < 1099511627776)
    (hr : Reads W p vals) (hap : ∀ ad, p = some ad → vals ≠ [] → ¬ F ad.block) (hpv : ∀ ad, p = some ad → vals ≠ [] → ad.block ≠ v) (hv : ∀ x ∈ vals, x < 18446744073709551616) (hvl : vals.length ≤ 17592186043904) :
    Calls Tryz.prog 130 #[.pointer (some ⟨v, 0, none⟩), .slice p vals.length c] W fun e W' => e = .returned (.int .u64 (alAt most next vals.length : Int)) ∧ ∃ F' vs, Bank W' F' b most (alNext most next vals.length) (alN most next cs vals) (l ++ [⟨th, 5, alAt most next vals.length, 0, 0, vs, vals, 0, false⟩]) ∧ IsView W' v b th (made + 1) ∧ GoesV W W' F F' v := by
  have c0 : W.cell? ⟨v, 0, none⟩ = some (.iface 199 (.pointer (some ⟨b, 0, none⟩))) := cell_of hw 0
  have q := mt_alloc ⟨b, 0, none⟩
  have HW := keepH hw
  have H := keepH h
  have HR := keepH hr
  clear h hw hr
  go_enter Tryz.func130, Tryz.ntmps130
  go_wp2_with fail
  refine (p_alloc b most next p c vals F cs l _ H.out HR.out hap hv).mono ?_
  rintro e w1 ⟨rfl, F1, B1, G1⟩
  have HB1 := keepH B1
  have hV1 : Hid (IsView w1 v b th made) := HW.out.chg G1.chg hnv
  have hN1 : ¬ F1 v := G1.out HW.out.lt hnv
  have HR1 : Hid (Reads w1 p vals) := HR.out.chg G1.chg hap
  clear B1
  go_wp2_with fail
  refine (v_count v b most (alNext most next vals.length) made th 0 5 (alAt most next vals.length) 0 0 0 false p c vals F1 (alN most next cs vals) l _ hV1.out HB1.out hN1 hmd HR1.out hpv hvl hl).mono ?_
  rintro e w2 ⟨rfl, F2, vs, B2, V2, G2⟩
  have HB2 := keepH B2
  have HV2 := keepH V2
  clear B2 V2
  go_wp2_with fail
  go_ret
  exact ⟨by simp, F2, vs, HB2.out, HV2.out, G1.thenV G2⟩

/-- A new plain memory. -/
theorem bank_new (W : World) (n : Nat) (hn : 128 ≤ n ∧ n ≤ 4194304) : Bank (W.alloc (.cells #[.slice none 0 0, .int .i64 (n : Int), .int .i64 1, .slice none 0 0] 238)) (fun k => k = W.heap.size) W.heap.size n 1 [] [] :=
  ⟨.slice none 0 0, .slice none 0 0, heap_alloc_new _ _, World.ownsRow_nil _ _ _ _, World.ownsRow_nil _ _ _ _, fun x hx => by simp at hx, fun x hx => by simp at hx, rfl, fun k e => by simp [Value.ownBlock] at e, fun k e => by simp [Value.ownBlock] at e, fun x hx => by simp at hx, fun k e => by simp [e], by omega, by omega, by simp, fun x hx => by simp at hx⟩

set_option maxRecDepth 100000 in
theorem new_plain (n : Nat) (W : World) :
    Calls Tryz.prog 129 #[.int .i64 (n : Int)] W fun e W' => e = .returned (.pointer (some ⟨W.heap.size, 0, none⟩)) ∧ W' = W.alloc (.cells #[.slice none 0 0, .int .i64 (n : Int), .int .i64 1, .slice none 0 0] 238) := by
  go_enter Tryz.func129, Tryz.ntmps129
  go_wp2_with fail
  go_ret
  exact ⟨by simp, rfl⟩

set_option maxRecDepth 100000 in
theorem m_new (n : Nat) (W : World) (hn : 128 ≤ n ∧ n ≤ 4194304) :
    Calls Tryz.prog 107 #[.int .i64 (n : Int), .bool false] W fun e W' => e = .returned (.tuple #[.pointer (some ⟨W.heap.size + 1, 0, none⟩), .int .i64 0]) ∧ IsMem W' (W.heap.size + 1) W.heap.size ∧ Bank W' (fun k => k = W.heap.size) W.heap.size n 1 [] [] ∧ Chg (fun _ => False) W W' ∧ W'.heap.size = W.heap.size + 2 := by
  have t1 : ¬ (n : Int) < 128 := by omega
  have t2 : ¬ (4194304 : Int) < (n : Int) := by omega
  go_enter Tryz.func107, Tryz.ntmps107
  go_wp2_with fail
  refine (new_plain n _).mono ?_
  rintro e w' ⟨rfl, rfl⟩
  go_wp2_with fail
  go_ret2
  refine ⟨by simp, ?_, ?_, ((Chg.refl _ W).alloc _).alloc _, by simp⟩
  · have e := heap_alloc_new (W.alloc (.cells #[.slice none 0 0, .int .i64 (n : Int), .int .i64 1, .slice none 0 0] 238)) (.cells #[.iface 199 (.pointer (some ⟨W.heap.size, 0, none⟩)), .bool false] 198)
    rw [World.size_alloc] at e
    exact e
  · exact (bank_new W n hn).chg ((Chg.refl (fun _ => False) _).alloc _) (fun _ _ h => h)
end Go.Proofs.YtmmaniolaljjlaaGreatDoor
