/- The bank of a plain memory: new cells are handed out. -/
import Derived.Test.YtmmaniolaljjlaaGreatDoorG3Note
import Derived.BigQuiet
import Derived.Deep.Cut
import Derived.Deep.CutBlock
import Derived.Deep.DeepCutAuto
namespace Go.Proofs.YtmmaniolaljjlaaGreatDoor
open Go.RowKit Go.Shelf

theorem BankAt.setNext {W : World} {F : Nat → Prop} {b most next : Nat} {cv av : Value} {cs : List Nat} {l : List Acc} (h : BankAt W F b cv av most next cs l) (n : Nat) (hn : 1 ≤ n ∧ n ≤ most) : BankAt (W.setCell ⟨b, 2, none⟩ (.int .i64 (n : Int))) F b cv av most n cs l := by
  have ob : ∀ k, k ≠ b → (W.setCell ⟨b, 2, none⟩ (.int .i64 (n : Int))).heap[k]? = W.heap[k]? := fun k hk => Below.heap_setCell _ _ _ _ hk
  refine ⟨?_, row_kept h.row fun k e => ob k (fun e2 => block_apart h.row h.blk (by decide) (by rw [e, e2])), row_kept h.acc fun k e => ob k (fun e2 => block_apart h.acc h.blk (by decide) (by rw [e, e2])), fun x hx => row_kept (h.vals x hx) fun k e => ob k (fun e2 => block_apart (h.vals x hx) h.blk (by decide) (by rw [e, e2])), h.ne, h.inb, h.inc, h.ina, h.inv, fun k e => by simpa [World.setCell] using h.lt k e, h.most_le, hn, h.len_le, h.small⟩
  have e := set_of h.blk 2 (.int .i64 (n : Int))
  exact e

/-- copy into a row, as one step of a region that draws. -/
theorem step_copy_row {P : Program} {ops : Array Oper} {o : Oper} {a : Act} {w : World} {K : Act → World → Prop} {Q : Exit → Act → World → Prop} {E : Prop} (hgd : o.guard = none) (d s : Operand) (dT sT : TypeId)
    (ho : o.op = .call { callee := .builtin .copy, args := #[d, s], argTypes := #[dT, sT] }) (elem : TypeId) (hu : P.underlying dT = some (.slice elem)) (hsz : (P.info? elem).map (·.size) = some 1)
    (g off dLen dCap : Nat) (ad : Addr) (sLen sCap : Nat) (hd : a.eval d = .slice (some ⟨g, off, none⟩) dLen dCap) (hs : a.eval s = .slice (some ad) sLen sCap)
    (cur : Array Value) (t : TypeId) (hg : w.heap[g]? = some (.cells cur t (0, 0))) (cs : List Value) (hn : cs.length = Nat.min sLen dLen)
    (hsrc : ∀ j v, cs[j]? = some v → w.cell? (ad.add j) = some v) (hfit : off + cs.length ≤ cur.size) (h1 : ∀ v ∈ cs, v.oneCell' = true)
    (h : K (a.put o.dst (goInt cs.length)) (w.setRow g (cur.toList.take off ++ cs ++ cur.toList.drop (off + cs.length)).toArray)) :
    if Region.wanted o (yielded ops a.tmps) = true then Oper.wp P o a w K Q else E := by
  have hw : Region.wanted o (yielded ops a.tmps) = true := by simp [Region.wanted, hgd]
  rw [if_pos hw]
  have hrun := run_copy_row (P := P) w dT sT o.type elem g off dLen dCap ad sLen sCap cur t cs hu hsz hg hn hsrc hfit h1
  unfold Oper.wp execOp
  simp only [ho, resolve, invoke, builtin, Sem.run_bind, Sem.run_pure, Result.andThen_ok, List.map_toArray, List.map_cons, List.map_nil, hd, hs, hrun]
  exact h

def spliceN (cs : List Nat) (i : Nat) (vals : List Nat) : List Nat := cs.take i ++ vals ++ cs.drop (i + vals.length)
theorem spliceN_length (cs : List Nat) (i : Nat) (vals : List Nat) (h : i + vals.length ≤ cs.length) : (spliceN cs i vals).length = cs.length := by simp [spliceN]; omega
theorem spliceN_cell (cs : List Nat) (i : Nat) (vals : List Nat) (h : i + vals.length ≤ cs.length) (j : Nat) : cellN (spliceN cs i vals) j = if i ≤ j ∧ j < i + vals.length then cellN vals (j - i) else cellN cs j := by
  simp only [cellN, spliceN, List.getD_eq_getElem?_getD]
  have e : min i cs.length = i := by omega
  by_cases h1 : j < i
  · have : ¬ (i ≤ j ∧ j < i + vals.length) := by omega
    rw [if_neg this, List.append_assoc, List.getElem?_append_left (by simp; omega), List.getElem?_take_of_lt h1]
  · by_cases h2 : j < i + vals.length
    · rw [if_pos ⟨by omega, h2⟩, List.append_assoc, List.getElem?_append_right (by simp; omega), List.length_take, e, List.getElem?_append_left (by omega)]
    · have : ¬ (i ≤ j ∧ j < i + vals.length) := by omega
      rw [if_neg this, List.getElem?_append_right (by simp; omega), List.length_append, List.length_take, e, List.getElem?_drop, show i + vals.length + (j - (i + vals.length)) = j by omega]

def alOk (most next n : Nat) : Prop := 0 < n ∧ n ≤ most - next
instance (most next n : Nat) : Decidable (alOk most next n) := inferInstanceAs (Decidable (_ ∧ _))
def alAt (most next n : Nat) : Nat := if alOk most next n then next else 0
def alNext (most next n : Nat) : Nat := if alOk most next n then next + n else next
def alN (most next : Nat) (cs vals : List Nat) : List Nat := if alOk most next vals.length then spliceN (padN cs (next + vals.length)) next vals else cs

theorem BankAt.splice {W : World} {F : Nat → Prop} {b g n c most next : Nat} {av : Value} {cs : List Nat} {l : List Acc} (h : BankAt W F b (.slice (some ⟨g, 0, none⟩) n c) av most next cs l) (cur : Array Value) (hcur : W.heap[g]? = some (.cells cur 23 (0, 0))) (i : Nat) (vals : List Nat) (hi : i + vals.length ≤ cs.length) (hv : ∀ x ∈ vals, x < 18446744073709551616) :
    BankAt (W.setRow g (cur.toList.take i ++ vals.map u64V ++ cur.toList.drop (i + (vals.map u64V).length)).toArray) F b (.slice (some ⟨g, 0, none⟩) n c) av most next (spliceN cs i vals) l := by
  have gb : b ≠ g := fun e => block_apart h.row h.blk (by decide) (by rw [e]; rfl)
  have ob : ∀ k, k ≠ g → (W.setRow g (cur.toList.take i ++ vals.map u64V ++ cur.toList.drop (i + (vals.map u64V).length)).toArray).heap[k]? = W.heap[k]? := fun k hk => setRow_other W g k _ hk
  have hsl := spliceN_length cs i vals hi
  refine ⟨(ob b gb).trans h.blk, ?_, row_kept h.acc fun k e => ob k (fun e2 => rows_apart h.row h.acc (by decide) g rfl (by rw [e, e2])), fun x hx => row_kept (h.vals x hx) fun k e => ob k (fun e2 => h.ne x hx k e (by rw [e2]; rfl)), h.ne, h.inb, h.inc, h.ina, h.inv, fun k e => by simpa [World.setRow] using h.lt k e, h.most_le, h.next_le, by rw [hsl]; exact h.len_le, ?_⟩
  · have hxl := h.row.1
    rcases h.row.2 with ⟨h2, _⟩ | ⟨g2, cap, cur2, h2, hb, hg, hnc, hcm, hcs, htake⟩
    · simp at h2
    · simp only [Value.slice.injEq, Option.some.injEq, Addr.mk.injEq, and_true] at h2
      obtain ⟨rfl, rfl, rfl⟩ := h2
      rw [hcur] at hg
      simp at hg
      subst hg
      have hcl : cur.toList.length = c := by simpa using hcs
      rw [hsl]
      refine ⟨by simp [hsl], .inr ⟨g, c, _, rfl, hb, setRow_heap W g cur _ 23 _ hcur, hnc, hcm, ?_, ?_⟩⟩
      · simp at hcl ⊢
        omega
      · simp only [Nat.mul_one] at htake ⊢
        have e1 : cur.toList.take i = (cs.take i).map u64V := by rw [List.map_take, ← htake, List.take_take]; congr 1; omega
        have e2 : (cur.toList.drop (i + vals.length)).take (cs.length - (i + vals.length)) = (cs.drop (i + vals.length)).map u64V := by rw [List.map_drop, ← htake, List.drop_take]
        simp only [spliceN, List.map_append, List.length_map, e1]
        rw [List.take_append, List.take_of_length_le (by simp; omega)]
        congr 1
        rw [← e2]
        congr 1
        simp
        omega
  · intro x hx
    simp only [spliceN, List.mem_append] at hx
    rcases hx with (hx | hx) | hx
    · exact h.small x (List.mem_of_mem_take hx)
    · exact hv x hx
    · exact h.small x (List.mem_of_mem_drop hx)

theorem cell_chg {F : Nat → Prop} {W W' : World} (h : Chg F W W') {a : Addr} {v : Value} (hc : W.cell? a = some v) (hn : ¬ F a.block) : W'.cell? a = some v := by
  have hlt : a.block < W.heap.size := by
    by_cases hl : a.block < W.heap.size
    · exact hl
    · have e : W.heap[a.block]? = none := Array.getElem?_eq_none (by omega)
      simp [World.cell?, e] at hc
  exact (World.cell?_of_block (w := W) (h.block a.block hlt hn)).trans hc
theorem add_block (a : Addr) (j : Nat) : (a.add j).block = a.block := by unfold Addr.add; split <;> rfl

set_option maxRecDepth 100000 in
theorem p_alloc (b most next : Nat) (p : Option Addr) (c : Nat) (vals : List Nat) (F : Nat → Prop) (cs : List Nat) (l : List Acc) (W : World) (h : Bank W F b most next cs l) (hr : Reads W p vals) (hap : ∀ ad, p = some ad → vals ≠ [] → ¬ F ad.block) (hv : ∀ x ∈ vals, x < 18446744073709551616) :
    Calls Tryz.prog 192 #[.pointer (some ⟨b, 0, none⟩), .slice p vals.length c] W fun e W' => e = .returned (.int .u64 (alAt most next vals.length : Int)) ∧ ∃ F', Bank W' F' b most (alNext most next vals.length) (alN most next cs vals) l ∧ Goes W W' F F' := by
  have HB := keepH h
  have HR := keepH hr
  obtain ⟨cv, av, h⟩ := h
  have hml := h.most_le
  have hnl := h.next_le
  by_cases h1 : vals.length = 0
  · have t1 : (vals.length : Int) = 0 := by omega
    have e0 : ¬ alOk most next vals.length := by unfold alOk; omega
    have E0 := keepH e0
    clear h hr e0
    go_enter Tryz.func192, Tryz.ntmps192
    go_wp2_with fail
    go_ret
    exact ⟨by simp [alAt, E0.out], F, by unfold alNext alN; rw [if_neg E0.out, if_neg E0.out]; exact HB.out, Goes.refl _ _⟩
  · have t1 : ¬ (vals.length : Int) = 0 := by omega
    by_cases h2 : most - next < vals.length
    · have t2 : ((most - next : Nat) : Int) < (vals.length : Int) := by omega
      have e0 : ¬ alOk most next vals.length := by unfold alOk; omega
      have E0 := keepH e0
      clear h hr e0
      go_enter Tryz.func192, Tryz.ntmps192
      go_wp2_with fail
      refine (p_left b most next F cs l _ HB.out).mono ?_
      rintro e w' ⟨rfl, q, rfl⟩
      go_wp2_with fail
      go_ret
      exact ⟨by simp [alAt, E0.out], F, by unfold alNext alN; rw [if_neg E0.out, if_neg E0.out]; exact HB.out.drewN q, Goes.drewN _ _ _⟩
    · have t2 : ¬ ((most - next : Nat) : Int) < (vals.length : Int) := by omega
      have e0 : alOk most next vals.length := by unfold alOk; omega
      have E0 := keepH e0
      have c2 : W.cell? ⟨b, 2, none⟩ = some (.int .i64 (next : Int)) := cell_of h.blk 2
      have f2 := free_of h.blk 2
      obtain ⟨nx, hnx⟩ : ∃ nx, nx = next + vals.length := ⟨_, rfl⟩
      have hnm : nx ≤ most := by omega
      have wn : IntKind.i64.wrap ((next : Int) + (vals.length : Int)) = (nx : Int) := by rw [IntKind.wrap_i64]; omega
      have HNX := keepH hnx
      have HN1 : Hid (1 ≤ nx ∧ nx ≤ most ∧ next ≤ nx ∧ nx - next = vals.length) := by show _ ∧ _ ∧ _ ∧ _; omega
      obtain ⟨ad, rfl, hrd⟩ : ∃ ad, p = some ad ∧ ∀ j u, (vals.map u64V)[j]? = some u → W.cell? (ad.add j) = some u := by
        rcases hr with hr | hr
        · simp [hr] at h1
        · exact hr
      have HRD := keepH hrd
      have wm : IntKind.u64.wrap (next : Int) = (next : Int) := u64_lt (by omega)
      have H0 := keepH h
      clear h hr e0 hrd hnx
      go_enter Tryz.func192, Tryz.ntmps192
      go_wp2_with fail
      refine (p_left b most next F cs l _ HB.out).mono ?_
      rintro e w' ⟨rfl, q, rfl⟩
      go_wp2_with fail
      have hB1 : Hid (BankAt ((W.drewN q).setCell ⟨b, 2, none⟩ (.int .i64 (nx : Int))) F b cv av most nx cs l) := (H0.out.kept (W' := W.drewN q) (Nat.le_refl _) (fun _ _ => rfl)).setNext nx ⟨HN1.out.1, HN1.out.2.1⟩
      refine (p_reach b most nx nx F cs l _ ⟨_, _, hB1.out⟩ hnm).mono ?_
      rintro e W2 ⟨rfl, F2, ⟨cv2, av2, B2⟩, G2⟩
      have hlen := padN_length cs nx
      obtain ⟨g, c2', hcv⟩ := B2.len (by have := HN1.out; omega)
      subst hcv
      obtain ⟨m, hm⟩ : ∃ m, m = (padN cs nx).length := ⟨_, rfl⟩
      have HL := keepH hlen
      have HM := keepH hm
      have k0 : W2.cell? ⟨b, 0, none⟩ = some (.slice (some ⟨g, 0, none⟩) m c2') := by rw [hm]; exact cell_of B2.blk 0
      have k2 : W2.cell? ⟨b, 2, none⟩ = some (.int .i64 (nx : Int)) := cell_of B2.blk 2
      obtain ⟨cur, hcur⟩ := row_block B2.row g rfl
      have HC := keepH hcur
      have hcap : Hid (cur.size = c2' ∧ m ≤ c2') := by
        rcases B2.row.2 with ⟨h2, _⟩ | ⟨g2, cap, cur2, h2, hb, hg, hnc, hcm, hcs, htake⟩
        · simp at h2
        · simp only [Value.slice.injEq, Option.some.injEq, Addr.mk.injEq, and_true] at h2
          obtain ⟨rfl, _, rfl⟩ := h2
          rw [hcur] at hg
          simp at hg
          subst hg
          exact ⟨by simpa using hcs, by omega⟩
      have u1 : (next : Int) ≤ (nx : Int) := by have := HNX.out; omega
      have u2 : (nx : Int) ≤ (c2' : Int) := by have := hcap.out; have := HNX.out; omega
      have u3 : ¬ c2' = next := by have := hcap.out; have := HNX.out; omega
      have u4 : ¬ next = c2' := by have := hcap.out; have := HNX.out; omega
      have u5 : nx - next = vals.length := by have := HNX.out; omega
      have u6 : ¬ (next : Int) < 0 := by omega
      have u7 : nx ≤ c2' := by have := hcap.out; have := HNX.out; omega
      have u8 : next ≤ nx := by have := HNX.out; omega
      have HB2 := keepH B2
      clear B2 hlen hm hcur
      have HS : Hid (∀ j u, (vals.map u64V)[j]? = some u → W2.drew.cell? (ad.add j) = some u) := fun j u hj => by
        have e1 := HRD.out j u hj
        have c1 : Chg F W ((W.drewN q).setCell ⟨b, 2, none⟩ (.int .i64 (nx : Int))) := ((Goes.drewN W F q).chg).setCell (fun _ => H0.out.inb) _
        have e2 := cell_chg (c1.trans G2.chg (fun _ _ x => x) (fun _ _ x => x)) e1 (by rw [add_block]; exact hap ad rfl (fun e => by rw [e] at hj; simp at hj))
        exact e2
      have HF : Hid (next + (vals.map u64V).length ≤ cur.size) := by have := hcap.out; have := HN1.out; have := HM.out; have := HL.out; simp only [List.length_map]; show _ ≤ _; omega
      have HMN : Hid ((vals.map u64V).length = Nat.min vals.length vals.length) := by show _ = _; simp
      have HO : Hid (∀ v ∈ vals.map u64V, v.oneCell' = true) := by intro u hu; obtain ⟨x, _, rfl⟩ := List.mem_map.1 hu; rfl
      go_wp2_with fail
      go_region_law (refine step_copy_row rfl (.tmp 44) (.tmp 45) 26 26 rfl 23 Tryz.underlying26 (by kernel_rfl) g next vals.length (c2' - next) ad vals.length c rfl rfl cur 23 HC.out (vals.map u64V) HMN.out HS.out HF.out HO.out ?_)
      all_goals (go_wp2_with fail)
      all_goals go_ret
      all_goals (refine ⟨by simp [alAt, E0.out], F2, ⟨.slice (some ⟨g, 0, none⟩) (padN cs nx).length c2', av2, ?_⟩, ?_⟩)
      all_goals first
        | (have e := (HB2.out.splice cur HC.out next vals (by have := HN1.out; have := HL.out; omega) hv).kept (W' := (W2.setRow g (cur.toList.take next ++ vals.map u64V ++ cur.toList.drop (next + (vals.map u64V).length)).toArray).drew) (Nat.le_refl _) (fun _ _ => rfl)
           have e2 : alNext most next vals.length = nx := by unfold alNext; rw [if_pos E0.out]; exact HNX.out.symm
           have e3 : alN most next cs vals = spliceN (padN cs nx) next vals := by unfold alN; rw [if_pos E0.out, ← HNX.out]
           rw [e2, e3]
           simp only [List.append_assoc, List.length_map] at e
           exact e)
        | (have c1 : Goes W ((W.drewN q).setCell ⟨b, 2, none⟩ (.int .i64 (nx : Int))) F F := ⟨((Goes.drewN W F q).chg).setCell (fun _ => H0.out.inb) _, fun _ h => .inl h⟩
           have c3 : Goes W2 (W2.setRow g (cur.toList.take next ++ (vals.map u64V ++ cur.toList.drop (next + vals.length))).toArray).drew F2 F2 := ⟨⟨rfl, rfl, rfl, by simp [World.setRow], fun k _ hk => setRow_other W2 g k _ (fun e => hk (by rw [e]; exact HB2.out.inc g rfl))⟩, fun _ h => .inl h⟩
           exact (c1.trans G2).trans c3)
end Go.Proofs.YtmmaniolaljjlaaGreatDoor
/- The bank of a plain memory: its trace is told, in memory of its own. -/
namespace Go.Proofs.YtmmaniolaljjlaaGreatDoor
open Go.RowKit Go.Shelf

theorem accRow_length (l : List Acc) : (accRow l).length = l.length * 8 := by
  induction l with
  | nil => rfl
  | cons x r ih => simp only [accRow, List.flatMap_cons, List.length_append, List.length_cons] at ih ⊢; rw [ih]; simp [Acc.cells]; omega
theorem accRow_get (l : List Acc) (j f : Nat) (hf : f < 8) : (accRow l)[j * 8 + f]? = (l[j]?).bind fun x => x.cells[f]? := by
  induction l generalizing j with
  | nil => simp [accRow]
  | cons x r ih =>
    have hx : x.cells.length = 8 := rfl
    cases j with
    | zero => simp only [accRow, List.flatMap_cons]; rw [List.getElem?_append_left (by rw [hx]; omega)]; simp
    | succ j =>
      have e := ih j
      simp only [accRow, List.flatMap_cons] at e ⊢
      rw [List.getElem?_append_right (by rw [hx]; omega), hx, show (j + 1) * 8 + f - 8 = j * 8 + f by omega, e]
      simp
theorem accRow_set (l : List Acc) (j : Nat) (x : Acc) (hj : l[j]? = some x) (v : Value) : (accRow l).set (j * 8 + 5) v = accRow (l.set j { x with vs := v }) := by
  induction l generalizing j with
  | nil => simp at hj
  | cons y r ih =>
    have hy : y.cells.length = 8 := rfl
    cases j with
    | zero =>
      simp at hj
      subst hj
      rfl
    | succ j =>
      have e := ih j (by simpa using hj)
      simp only [accRow, List.flatMap_cons, List.set_cons_succ] at e ⊢
      rw [List.set_append_right _ _ (by rw [hy]; omega), hy, show (j + 1) * 8 + 5 - 8 = j * 8 + 5 by omega, e]
theorem accRow_one (l : List Acc) (h : ∀ x ∈ l, x.vs.oneCell' = true) : ∀ u ∈ accRow l, u.oneCell' = true := by
  intro u hu
  obtain ⟨x, hx, hu⟩ := List.mem_flatMap.1 hu
  simp only [Acc.cells, List.mem_cons, List.not_mem_nil, or_false] at hu
  rcases hu with rfl | rfl | rfl | rfl | rfl | rfl | rfl | rfl
  all_goals first | rfl | exact h x hx

structure Traced (W W' : World) (v : Value) (l lk : List Acc) (k : Nat) : Prop where
  row : W'.ownsRow 0 208 8 v l.length (accRow lk)
  len : lk.length = l.length
  same : ∀ (j : Nat) (x : Acc), l[j]? = some x → ∃ vs, lk[j]? = some { x with vs := vs }
  rest : ∀ j, k ≤ j → lk[j]? = l[j]?
  vals : ∀ j y, j < k → lk[j]? = some y → W'.ownsRow 0 23 1 y.vs y.vals.length (y.vals.map u64V)
  fresh : ∀ j y b, j < k → lk[j]? = some y → y.vs.ownBlock = some b → W.heap.size ≤ b
  apart : ∀ i j x y b, i < j → j < k → lk[i]? = some x → lk[j]? = some y → x.vs.ownBlock = some b → y.vs.ownBlock ≠ some b
  own : ∀ b, v.ownBlock = some b → W.heap.size ≤ b
  chg : Chg (fun _ => False) W W'

theorem Traced.start {W W' : World} {v : Value} {l : List Acc} (h : W'.ownsRow 0 208 8 v l.length (accRow l)) (hc : Chg (fun _ => False) W W') (ho : ∀ b, v.ownBlock = some b → W.heap.size ≤ b) : Traced W W' v l l 0 :=
  ⟨h, rfl, fun _ x hx => ⟨x.vs, hx⟩, fun _ _ => rfl, fun _ _ h => absurd h (Nat.not_lt_zero _), fun _ _ _ h => absurd h (Nat.not_lt_zero _), fun _ _ _ _ _ _ h => absurd h (Nat.not_lt_zero _), ho, hc⟩
theorem Traced.step {W W1 W2 : World} {g c : Nat} {l lk : List Acc} {k : Nat} {x : Acc} {vs : Value} (h : Traced W W1 (.slice (some ⟨g, 0, none⟩) l.length c) l lk k) (hx : lk[k]? = some x)
    (hr : W2.ownsRow 0 23 1 vs x.vals.length (x.vals.map u64V)) (hg : W1.grownBy W2 none) (hv : vs.ownBlock = none ∨ vs.ownBlock = some W1.heap.size) :
    Traced W (W2.setCell ⟨g, k * 8 + 5, none⟩ vs) (.slice (some ⟨g, 0, none⟩) l.length c) l (lk.set k { x with vs := vs }) (k + 1) := by
  have hk : k < lk.length := (List.getElem?_eq_some_iff.1 hx).1
  have hgl := row_lt h.row g rfl
  have hgf := h.own g rfl
  have ob : ∀ b, b ≠ g → (W2.setCell ⟨g, k * 8 + 5, none⟩ vs).heap[b]? = W2.heap[b]? := fun b hb => Below.heap_setCell _ _ _ _ hb
  have r2 : W2.ownsRow 0 208 8 (.slice (some ⟨g, 0, none⟩) l.length c) l.length (accRow lk) := row_kept h.row fun b e => hg.block b (row_lt h.row b e) (by simp)
  have old : ∀ j y b, j < k → lk[j]? = some y → y.vs.ownBlock = some b → b < W1.heap.size := fun j y b hj hy e => row_lt (h.vals j y hj hy) b e
  refine ⟨?_, by simpa using h.len, ?_, ?_, ?_, ?_, ?_, h.own, ?_⟩
  · have e := (World.ownsRow.stored r2 (k * 8 + 5) vs).1
    rw [accRow_set lk k x hx vs] at e
    exact e
  · intro j y hy
    obtain ⟨v, hv⟩ := h.same j y hy
    by_cases e : j = k
    · subst e
      rw [hx] at hv
      simp at hv
      subst hv
      exact ⟨vs, by simp [hk]⟩
    · exact ⟨v, by rw [List.getElem?_set_ne (Ne.symm e)]; exact hv⟩
  · intro j hj
    rw [List.getElem?_set_ne (by omega)]
    exact h.rest j (by omega)
  · intro j y hj hy
    by_cases e : j = k
    · subst e
      simp [hk] at hy
      subst hy
      exact row_kept hr fun b eb => ob b (fun e2 => by
        obtain ⟨cu, hcu⟩ := row_block hr b eb
        exact block_apart r2 hcu (by decide) (by rw [e2]; rfl))
    · rw [List.getElem?_set_ne (Ne.symm e)] at hy
      have r := h.vals j y (by omega) hy
      exact row_kept r fun b eb => (ob b (fun e2 => rows_apart r h.row (by decide) b eb (by rw [e2]; rfl))).trans (hg.block b (row_lt r b eb) (by simp))
  · intro j y b hj hy eb
    by_cases e : j = k
    · subst e
      simp [hk] at hy
      subst hy
      have eb' : vs.ownBlock = some b := eb
      rcases hv with hv | hv
      · rw [hv] at eb'
        simp at eb'
      · rw [hv] at eb'
        simp at eb'
        have := h.chg.size
        omega
    · rw [List.getElem?_set_ne (Ne.symm e)] at hy
      exact h.fresh j y b (by omega) hy eb
  · intro i j y z b hij hj hy hz eb e2
    rw [List.getElem?_set_ne (by omega)] at hy
    have hb := old i y b (by omega) hy eb
    by_cases e : j = k
    · subst e
      simp [hk] at hz
      subst hz
      have e2' : vs.ownBlock = some b := e2
      rcases hv with hv | hv
      · rw [hv] at e2'
        simp at e2'
      · rw [hv] at e2'
        simp at e2'
        omega
    · rw [List.getElem?_set_ne (Ne.symm e)] at hz
      exact h.apart i j y z b hij (by omega) hy hz eb e2
  · exact (h.chg.grown hg (fun _ e => by simp at e)).setCell (p := ⟨g, k * 8 + 5, none⟩) (fun hx => absurd hx (Nat.not_lt.2 hgf)) vs

theorem one_slice {W : World} {e : TypeId} {s n : Nat} {v : Value} {xs : List Value} (h : W.ownsRow 0 e s v n xs) : v.oneCell' = true := by
  obtain ⟨p, c, rfl⟩ := slice_of h
  rfl

theorem Reads.of_row {W : World} {p : Option Addr} {n c : Nat} {vals : List Nat} (h : W.ownsRow 0 23 1 (.slice p n c) vals.length (vals.map u64V)) : Reads W p vals := by
  rcases h.2 with ⟨h2, h3⟩ | ⟨g, cap, cur, h2, _⟩
  · exact .inl (List.eq_nil_of_length_eq_zero h3)
  · simp only [Value.slice.injEq] at h2
    obtain ⟨rfl, _, _⟩ := h2
    exact .inr ⟨_, rfl, h.cells rfl⟩

end Go.Proofs.YtmmaniolaljjlaaGreatDoor
/- A memory and its views, over a plain bank. -/
namespace Go.Proofs.YtmmaniolaljjlaaGreatDoor
open Go.RowKit Go.Shelf

def IsMem (W : World) (m b : Nat) : Prop := W.heap[m]? = some (.cells #[.iface 199 (.pointer (some ⟨b, 0, none⟩)), .bool false] 198 (0, 0))
def IsView (W : World) (v b : Nat) (th : Int) (made : Nat) : Prop := W.heap[v]? = some (.cells #[.iface 199 (.pointer (some ⟨b, 0, none⟩)), .int .i64 th, .int .i64 (made : Int)] 202 (0, 0))
theorem IsMem.chg {W W' : World} {F : Nat → Prop} {m b : Nat} (h : IsMem W m b) (hc : Chg F W W') (hn : ¬ F m) : IsMem W' m b := (hc.block m (lt_of h) hn).trans h
theorem IsView.chg {W W' : World} {F : Nat → Prop} {v b : Nat} {th : Int} {made : Nat} (h : IsView W v b th made) (hc : Chg F W W') (hn : ¬ F v) : IsView W' v b th made := (hc.block v (lt_of h) hn).trans h
theorem IsMem.lt {W : World} {m b : Nat} (h : IsMem W m b) : m < W.heap.size := lt_of h
theorem IsView.lt {W : World} {v b : Nat} {th : Int} {made : Nat} (h : IsView W v b th made) : v < W.heap.size := lt_of h

theorem mt_alloc (a : Addr) (w : World) : (method 378 199 (.pointer (some a)) "shutter/arena.alloc").run Tryz.prog w = .ok (192, .pointer (some a)) w := by kernel_rfl
theorem mt_left (a : Addr) (w : World) : (method 378 199 (.pointer (some a)) "shutter/arena.left").run Tryz.prog w = .ok (195, .pointer (some a)) w := by kernel_rfl
theorem mt_note (a : Addr) (w : World) : (method 378 199 (.pointer (some a)) "shutter/arena.note").run Tryz.prog w = .ok (198, .pointer (some a)) w := by kernel_rfl
set_option maxRecDepth 100000 in
theorem m_view (m b : Nat) (th : Int) (W : World) (hm : IsMem W m b) : Calls Tryz.prog 108 #[.pointer (some ⟨m, 0, none⟩), .int .i64 th] W fun e W' => e = .returned (.pointer (some ⟨W.heap.size, 0, none⟩)) ∧ W' = W.alloc (.cells #[.iface 199 (.pointer (some ⟨b, 0, none⟩)), .int .i64 th, .int .i64 0] 202) := by
  have c0 : W.cell? ⟨m, 0, none⟩ = some (.iface 199 (.pointer (some ⟨b, 0, none⟩))) := cell_of hm 0
  clear hm
  go_enter Tryz.func108, Tryz.ntmps108
  go_wp2_with fail
  go_ret
  exact ⟨by simp, rfl⟩

end Go.Proofs.YtmmaniolaljjlaaGreatDoor
/- A view counts an access, and writes it down. -/
namespace Go.Proofs.YtmmaniolaljjlaaGreatDoor
open Go.RowKit Go.Shelf

theorem Reads.chg {W W' : World} {F : Nat → Prop} {p : Option Addr} {vals : List Nat} (h : Reads W p vals) (hc : Chg F W W') (hne : ∀ ad, p = some ad → vals ≠ [] → ¬ F ad.block) : Reads W' p vals := by
  rcases h with h | ⟨ad, rfl, h⟩
  · exact .inl h
  · exact .inr ⟨ad, rfl, fun j u hj => cell_chg hc (h j u hj) (by rw [add_block]; exact hne ad rfl (fun e => by rw [e] at hj; simp at hj))⟩

/-- A view's own block may change too. -/
structure GoesV (W W' : World) (F F' : Nat → Prop) (v : Nat) : Prop where
  chg : Chg (fun k => F k ∨ k = v) W W'
  new : ∀ k, F' k → F k ∨ W.heap.size ≤ k

set_option maxRecDepth 100000 in
theorem v_count (v b most next made : Nat) (th th0 : Int) (kind addr x y got : Nat) (ok : Bool) (p : Option Addr) (c : Nat) (vals : List Nat) (F : Nat → Prop) (cs : List Nat) (l : List Acc) (W : World) (hw : IsView W v b th made) (h : Bank W F b most next cs l) (hnv : ¬ F v) (hmd : made < 1099511627776)
    (hr : Reads W p vals) (hpv : ∀ ad, p = some ad → vals ≠ [] → ad.block ≠ v) (hv : vals.length ≤ 17592186043904) (hl : l.length < 1099511627776) :
    Calls Tryz.prog 152 #[.pointer (some ⟨v, 0, none⟩), accV th0 kind addr x y (.slice p vals.length c) got ok] W fun e W' => e = .returned (.tuple #[]) ∧ ∃ F' vs, Bank W' F' b most next cs (l ++ [⟨th, kind, addr, x, y, vs, vals, got, ok⟩]) ∧ IsView W' v b th (made + 1) ∧ GoesV W W' F F' v := by
  have c0 : W.cell? ⟨v, 0, none⟩ = some (.iface 199 (.pointer (some ⟨b, 0, none⟩))) := cell_of hw 0
  have c1 : W.cell? ⟨v, 1, none⟩ = some (.int .i64 th) := cell_of hw 1
  have c2 : W.cell? ⟨v, 2, none⟩ = some (.int .i64 (made : Int)) := cell_of hw 2
  have f2 := free_of hw 2
  have q := mt_note ⟨b, 0, none⟩
  obtain ⟨md, hmd'⟩ : ∃ md, md = made + 1 := ⟨_, rfl⟩
  have wn : IntKind.i64.wrap ((made : Int) + 1) = (md : Int) := by rw [IntKind.wrap_i64]; omega
  have HMD := keepH hmd'
  clear hmd'
  have HW := keepH hw
  have H := keepH h
  have HR := keepH hr
  have hlt := lt_of hw
  have ne1 : ¬ v = W.heap.size := by omega
  have ne2 : ¬ W.heap.size = v := by omega
  have hv1 : Hid ((W.setCell ⟨v, 2, none⟩ (.int .i64 (md : Int))).heap[v]? = some (.cells #[.iface 199 (.pointer (some ⟨b, 0, none⟩)), .int .i64 th, .int .i64 (md : Int)] 202 (0, 0))) := set_of hw 2 _
  have ka : ∀ o, ((W.setCell ⟨v, 2, none⟩ (.int .i64 (md : Int))).alloc o).cell? ⟨v, 0, none⟩ = some (.iface 199 (.pointer (some ⟨b, 0, none⟩))) := fun o => cell_of (alloc_of hv1.out o) 0
  have HX : Hid (∀ o, Chg (fun k => F k ∨ k = v) W ((W.setCell ⟨v, 2, none⟩ (.int .i64 (md : Int))).alloc o).drew) := fun o => (((Chg.refl _ W).setCell (p := ⟨v, 2, none⟩) (fun _ => .inr rfl) _).alloc o).drew
  have HY : Hid (∀ o, Chg (fun k => k = v) W ((W.setCell ⟨v, 2, none⟩ (.int .i64 (md : Int))).alloc o).drew) := fun o => (((Chg.refl (fun k => k = v) W).setCell (p := ⟨v, 2, none⟩) (fun _ => rfl) _).alloc o).drew
  unfold accV
  clear h hw hr
  go_enter Tryz.func152, Tryz.ntmps152
  go_wp2_with fail
  go_region_with (go_at_call 198; refine (p_note b most next th kind addr x y got ok p c vals F cs l _ (H.out.chg (HY.out _) (fun k hk e => hnv (by rw [← e]; exact hk))) (HR.out.chg (HY.out _) hpv) hv hl).mono ?_; rintro e w2 ⟨rfl, F1, vs, B1, G1⟩; have HB1 := keepH B1; clear B1)
  all_goals (go_wp2_with fail)
  all_goals go_end0
  all_goals
    refine ⟨rfl, F1, vs, HB1.out, ?_, ?_, ?_⟩
    · have e := HMD.out
      subst e
      exact (G1.chg.block v (by simp; omega) hnv).trans (alloc_of hv1.out _)
    · exact (HX.out _).trans G1.chg (fun _ _ h => h) (fun _ _ h => .inl h)
    · intro k hk
      rcases G1.new k hk with e | e
      · exact .inl e
      · exact .inr (Nat.le_trans (HX.out _).size e)
end Go.Proofs.YtmmaniolaljjlaaGreatDoor
/- What a view's accesses do. -/
namespace Go.Proofs.YtmmaniolaljjlaaGreatDoor
open Go.RowKit Go.Shelf

theorem Goes.thenV {W W1 W2 : World} {F F1 F2 : Nat → Prop} {v : Nat} (h : Goes W W1 F F1) (k : GoesV W1 W2 F1 F2 v) : GoesV W W2 F F2 v :=
  ⟨h.chg.trans k.chg (fun _ _ x => .inl x) (fun i hi x => x.elim (fun y => .inl ((h.new i y).resolve_right (by omega))) .inr), fun i x => (k.new i x).elim (h.new i) (fun y => .inr (Nat.le_trans h.chg.size y))⟩
theorem Goes.out {W W1 : World} {F F1 : Nat → Prop} {v : Nat} (h : Goes W W1 F F1) (hv : v < W.heap.size) (hn : ¬ F v) : ¬ F1 v := fun x => (h.new v x).elim hn (fun y => by omega)
theorem GoesV.trans {W W1 W2 : World} {F F1 F2 : Nat → Prop} {v : Nat} (h : GoesV W W1 F F1 v) (k : GoesV W1 W2 F1 F2 v) : GoesV W W2 F F2 v :=
  ⟨h.chg.trans k.chg (fun _ _ x => x) (fun i hi x => x.elim (fun y => .inl ((h.new i y).resolve_right (by omega))) .inr), fun i x => (k.new i x).elim (h.new i) (fun y => .inr (Nat.le_trans h.chg.size y))⟩
theorem GoesV.out {W W1 : World} {F F1 : Nat → Prop} {v u : Nat} (h : GoesV W W1 F F1 u) (hv : v < W.heap.size) (hn : ¬ F v) : ¬ F1 v := fun x => (h.new v x).elim hn (fun y => by omega)

set_option maxRecDepth 100000 in
theorem v_alloc (v b most next made : Nat) (th : Int) (p : Option Addr) (c : Nat) (vals : List Nat) (F : Nat → Prop) (cs : List Nat) (l : List Acc) (W : World) (hw : IsView W v b th made) (h : Bank W F b most next cs l) (hnv : ¬ F v) (hmd : made < 1099511627776) (hl : l.length < 1099511627776)
    (hr : Reads W p vals) (hap : ∀ ad, p = some ad → vals ≠ [] → ¬ F ad.block) (hpv : ∀ ad, p = some ad → vals ≠ [] → ad.block ≠ v) (hv : ∀ x ∈ vals, x < 18446744073709551616) (hvl : vals.length ≤ 17592186043904) :
    Calls Tryz.prog 130 #[.pointer (some ⟨v, 0, none⟩), .slice p vals.length c] W fun e W' => e = .returned (.int .u64 (alAt most next vals.length : Int)) ∧ ∃ F' vs, Bank W' F' b most (alNext most next vals.length) (alN most next cs vals) (l ++ [⟨th, 5, alAt most next vals.length, 0, 0, vs, vals, 0, false⟩]) ∧ IsView W' v b th (made + 1) ∧ GoesV W W' F F' v := by
  have c0 : W.cell? ⟨v, 0, none⟩ = some (.iface 199 (.pointer (some ⟨b, 0, none⟩))) := cell_of hw 0
  have q := mt_alloc ⟨b, 0, none⟩
  have HW := keepH hw
  have H := keepH h
  have HR := keepH hr
  clear h hw hr
  go_enter Tryz.func130, Tryz.ntmps130
  go_wp2_with fail
  refine (p_alloc b most next p c vals F cs l _ H.out HR.out hap hv).mono ?_
  rintro e w1 ⟨rfl, F1, B1, G1⟩
  have HB1 := keepH B1
  have hV1 : Hid (IsView w1 v b th made) := HW.out.chg G1.chg hnv
  have hN1 : ¬ F1 v := G1.out HW.out.lt hnv
  have HR1 : Hid (Reads w1 p vals) := HR.out.chg G1.chg hap
  clear B1
  go_wp2_with fail
  refine (v_count v b most (alNext most next vals.length) made th 0 5 (alAt most next vals.length) 0 0 0 false p c vals F1 (alN most next cs vals) l _ hV1.out HB1.out hN1 hmd HR1.out hpv hvl hl).mono ?_
  rintro e w2 ⟨rfl, F2, vs, B2, V2, G2⟩
  have HB2 := keepH B2
  have HV2 := keepH V2
  clear B2 V2
  go_wp2_with fail
  go_ret
  exact ⟨by simp, F2, vs, HB2.out, HV2.out, G1.thenV G2⟩

/-- A new plain memory. -/
theorem bank_new (W : World) (n : Nat) (hn : 128 ≤ n ∧ n ≤ 4194304) : Bank (W.alloc (.cells #[.slice none 0 0, .int .i64 (n : Int), .int .i64 1, .slice none 0 0] 238)) (fun k => k = W.heap.size) W.heap.size n 1 [] [] :=
  ⟨.slice none 0 0, .slice none 0 0, heap_alloc_new _ _, World.ownsRow_nil _ _ _ _, World.ownsRow_nil _ _ _ _, fun x hx => by simp at hx, fun x hx => by simp at hx, rfl, fun k e => by simp [Value.ownBlock] at e, fun k e => by simp [Value.ownBlock] at e, fun x hx => by simp at hx, fun k e => by simp [e], by omega, by omega, by simp, fun x hx => by simp at hx⟩

set_option maxRecDepth 100000 in
theorem new_plain (n : Nat) (W : World) :
    Calls Tryz.prog 129 #[.int .i64 (n : Int)] W fun e W' => e = .returned (.pointer (some ⟨W.heap.size, 0, none⟩)) ∧ W' = W.alloc (.cells #[.slice none 0 0, .int .i64 (n : Int), .int .i64 1, .slice none 0 0] 238) := by
  go_enter Tryz.func129, Tryz.ntmps129
  go_wp2_with fail
  go_ret
  exact ⟨by simp, rfl⟩

set_option maxRecDepth 100000 in
theorem m_new (n : Nat) (W : World) (hn : 128 ≤ n ∧ n ≤ 4194304) :
    Calls Tryz.prog 107 #[.int .i64 (n : Int), .bool false] W fun e W' => e = .returned (.tuple #[.pointer (some ⟨W.heap.size + 1, 0, none⟩), .int .i64 0]) ∧ IsMem W' (W.heap.size + 1) W.heap.size ∧ Bank W' (fun k => k = W.heap.size) W.heap.size n 1 [] [] ∧ Chg (fun _ => False) W W' ∧ W'.heap.size = W.heap.size + 2 := by
  have t1 : ¬ (n : Int) < 128 := by omega
  have t2 : ¬ (4194304 : Int) < (n : Int) := by omega
  go_enter Tryz.func107, Tryz.ntmps107
  go_wp2_with fail
  refine (new_plain n _).mono ?_
  rintro e w' ⟨rfl, rfl⟩
  go_wp2_with fail
  go_ret2
  refine ⟨by simp, ?_, ?_, ((Chg.refl _ W).alloc _).alloc _, by simp⟩
  · have e := heap_alloc_new (W.alloc (.cells #[.slice none 0 0, .int .i64 (n : Int), .int .i64 1, .slice none 0 0] 238)) (.cells #[.iface 199 (.pointer (some ⟨W.heap.size, 0, none⟩)), .bool false] 198)
    rw [World.size_alloc] at e
    exact e
  · exact (bank_new W n hn).chg ((Chg.refl (fun _ => False) _).alloc _) (fun _ _ h => h)
end Go.Proofs.YtmmaniolaljjlaaGreatDoor
/- The document's memory (shutterref03), plain: what it holds, and what its accesses do. -/
namespace Go.Proofs.YtmmaniolaljjlaaGreatDoor
open Go.RowKit Go.Shelf

def Own (os cs : List Nat) (n : Nat) : Prop := os.length = n ∧ (∀ i, i < n → cellN os i = cellN cs i) ∧ ∀ i, n ≤ i → cellN cs i = 0
def IsOwn (W : World) (g : Nat) (os : List Nat) : Prop := W.heap[g]? = some (.cells (os.map u64V).toArray 23 (0, 0))
theorem IsOwn.set {W : World} {g : Nat} {os : List Nat} (h : IsOwn W g os) (i v : Nat) : IsOwn (W.setCell ⟨g, i, none⟩ (.int .u64 (v : Int))) g (os.set i v) := by
  have e := set_of h i (.int .u64 (v : Int))
  rw [IsOwn, e, List.map_set]
  simp [u64V]
theorem IsOwn.cell {W : World} {g : Nat} {os : List Nat} (h : IsOwn W g os) (i : Nat) (hi : i < os.length) : W.cell? ⟨g, i, none⟩ = some (.int .u64 (cellN os i : Int)) := by
  rw [cell_of h i]
  simp [cellN, u64V, List.getElem?_eq_getElem hi]
theorem cellN_set (os : List Nat) (i v j : Nat) (hi : i < os.length) : cellN (os.set i v) j = if j = i then v else cellN os j := by
  simp only [cellN, List.getD_eq_getElem?_getD, List.getElem?_set]
  by_cases e : i = j
  · subst e
    simp [hi]
  · rw [if_neg e, if_neg (fun x => e x.symm)]
theorem Own.set {os cs : List Nat} {n i v : Nat} (h : Own os cs n) (hi : i < n) : Own (os.set i v) (stN n cs i v) n := by
  refine ⟨by simp [h.1], fun j hj => ?_, fun j hj => ?_⟩
  · rw [cellN_set _ _ _ _ (by rw [h.1]; exact hi), stN_cell]
    simp [hi, h.2.1 j hj]
  · rw [stN_cell, if_neg (by omega)]
    exact h.2.2 j hj
theorem own_zero (n : Nat) : Own (List.replicate n 0) [] n := by
  refine ⟨by simp, fun i hi => ?_, fun i hi => by simp [cellN]⟩
  simp only [cellN, List.getD_eq_getElem?_getD, List.getElem?_replicate]
  split <;> simp
theorem infoU64m : (Tryz.prog.info? 23).map (fun i => (i.zero, i.size, i.bytes)) = some (some (.int .u64 0), 1, 8) := by kernel_rfl
theorem make_u64s (n : Nat) (hn : n ≤ 4194304) (u : World) : ∃ w, (Instr.makeSlice 26 (.int .i64 (n : Int)) (.int .i64 (n : Int))).run Tryz.prog u = .ok (.slice (some ⟨u.heap.size, 0, none⟩) n n) w ∧ IsOwn w u.heap.size (List.replicate n 0) ∧ Chg (fun _ => False) u w ∧ w.heap.size = u.heap.size + 1 := by
  obtain ⟨i0, hi, hz0, hz1, hz2⟩ := info_parts infoU64m
  have h := run_make (P := Tryz.prog) u 26 23 i0 (.int .u64 0) Tryz.underlying26 hi hz0 .i64 .i64 (n : Int) (n : Int) (by omega) (Int.le_refl _) (by rw [hz2]; omega) (by omega)
  refine ⟨u.alloc (.cells (madeCells #[Value.int .u64 0] n) 23), by simpa [hz1, Value.cells] using h, ?_, (Chg.refl _ _).alloc _, by simp⟩
  have e : madeCells #[Value.int .u64 0] n = ((List.replicate n 0).map u64V).toArray := by
    apply Array.ext'
    rw [toList_madeCells_one]
    simp [u64V]
  unfold IsOwn
  rw [e]
  exact heap_alloc_new _ _

def rmCells (nc n next : Nat) (av : Value) : Array Value := #[.slice (some ⟨nc, 0, none⟩) n n, .int .i64 (next : Int), av, .bool false]
structure RMemAt (W : World) (R : Nat → Prop) (nm nc : Nat) (av : Value) (n next : Nat) (os cs : List Nat) (l : List Acc) : Prop where
  blk : W.heap[nm]? = some (.cells (rmCells nc n next av) 176 (0, 0))
  own : IsOwn W nc os
  os : Own os cs n
  acc : W.ownsRow 0 208 8 av l.length (accRow l)
  vals : ∀ x ∈ l, W.ownsRow 0 23 1 x.vs x.vals.length (x.vals.map u64V)
  inn : R nm
  inc : R nc
  ina : ∀ k, av.ownBlock = some k → R k
  inv : ∀ x ∈ l, ∀ k, x.vs.ownBlock = some k → R k
  ne : ∀ x ∈ l, x.vs.ownBlock ≠ some nc
  lt : ∀ k, R k → k < W.heap.size
  nn : 128 ≤ n ∧ n ≤ 4194304
  small : ∀ i, cellN cs i < 18446744073709551616
def RMem (W : World) (R : Nat → Prop) (nm n next : Nat) (cs : List Nat) (l : List Acc) : Prop := ∃ nc av os, RMemAt W R nm nc av n next os cs l
theorem RMemAt.kept {W W' : World} {R : Nat → Prop} {nm nc n next : Nat} {av : Value} {os cs : List Nat} {l : List Acc} (h : RMemAt W R nm nc av n next os cs l) (hs : W.heap.size ≤ W'.heap.size) (hk : ∀ k, R k → W'.heap[k]? = W.heap[k]?) : RMemAt W' R nm nc av n next os cs l :=
  ⟨(hk nm h.inn).trans h.blk, (hk nc h.inc).trans h.own, h.os, row_kept h.acc fun k e => hk k (h.ina k e), fun x hx => row_kept (h.vals x hx) fun k e => hk k (h.inv x hx k e), h.inn, h.inc, h.ina, h.inv, h.ne, fun k e => Nat.lt_of_lt_of_le (h.lt k e) hs, h.nn, h.small⟩
theorem RMem.chg {W W' : World} {R G : Nat → Prop} {nm n next : Nat} {cs : List Nat} {l : List Acc} (h : RMem W R nm n next cs l) (hc : Chg G W W') (hd : ∀ k, R k → ¬ G k) : RMem W' R nm n next cs l := by
  obtain ⟨nc, av, os, h⟩ := h
  exact ⟨nc, av, os, h.kept hc.size fun k e => hc.block k (h.lt k e) (hd k e)⟩
theorem RMem.lt {W : World} {R : Nat → Prop} {nm n next : Nat} {cs : List Nat} {l : List Acc} (h : RMem W R nm n next cs l) (k : Nat) (hk : R k) : k < W.heap.size := by
  obtain ⟨nc, av, os, h⟩ := h
  exact h.lt k hk
theorem RMem.inn {W : World} {R : Nat → Prop} {nm n next : Nat} {cs : List Nat} {l : List Acc} (h : RMem W R nm n next cs l) : R nm := by
  obtain ⟨nc, av, os, h⟩ := h
  exact h.inn
theorem Bank.lt {W : World} {F : Nat → Prop} {b most next : Nat} {cs : List Nat} {l : List Acc} (h : Bank W F b most next cs l) (k : Nat) (hk : F k) : k < W.heap.size := by
  obtain ⟨cv, av, h⟩ := h
  exact h.lt k hk

theorem rnote_end {W w2 w3 : World} {R : Nat → Prop} {nm nc n next g' c3 : Nat} {av : Value} {os cs : List Nat} {l : List Acc} {th : Int} {kind addr x y got : Nat} {ok : Bool}
    (h : RMemAt W R nm nc av n next os cs l) (hk2 : ∀ k, k < W.heap.size → w2.heap[k]? = W.heap[k]?) (hc2 : Chg R W w2) (hg : w2.grownBy w3 av.ownBlock)
    (hb3 : w3.heap[nm]? = some (.cells (rmCells nc n next av) 176 (0, 0)))
    (ho : w3.ownsRow 0 208 8 (.slice (some ⟨g', 0, none⟩) (l.length + 1) c3) (l.length + 1) (accRow l ++ [.int .i64 th, .int .u8 (kind : Int), .int .u64 (addr : Int), .int .u64 (x : Int), .int .u64 (y : Int), .slice none 0 0, .int .u64 (got : Int), .bool ok]))
    (hw2 : av.ownBlock = some g' ∨ W.heap.size ≤ g') :
    ∃ R', RMem (w3.setCell ⟨nm, 2, none⟩ (.slice (some ⟨g', 0, none⟩) (l.length + 1) c3)) R' nm n next cs (l ++ [⟨th, kind, addr, x, y, .slice none 0 0, [], got, ok⟩]) ∧ Goes W (w3.setCell ⟨nm, 2, none⟩ (.slice (some ⟨g', 0, none⟩) (l.length + 1) c3)) R R' := by
  have gb : g' ≠ nm := fun e => block_apart ho hb3 (by decide) (by rw [e]; rfl)
  have szW := hc2.size
  have sz3 := hg.size
  have hsz : (w3.setCell ⟨nm, 2, none⟩ (.slice (some ⟨g', 0, none⟩) (l.length + 1) c3)).heap.size = w3.heap.size := by simp [World.setCell]
  have k3 : ∀ k, k < W.heap.size → k ≠ nm → av.ownBlock ≠ some k → (w3.setCell ⟨nm, 2, none⟩ (.slice (some ⟨g', 0, none⟩) (l.length + 1) c3)).heap[k]? = W.heap[k]? := fun k hk h1 h2 =>
    (Below.heap_setCell _ _ _ _ h1).trans ((hg.block k (by omega) (fun e => h2 e.symm)).trans (hk2 k hk))
  refine ⟨fun k => R k ∨ k = g', ⟨nc, .slice (some ⟨g', 0, none⟩) (l.length + 1) c3, os, ?_, ?_, h.os, ?_, ?_, .inl h.inn, .inl h.inc, ?_, ?_, ?_, ?_, h.nn, h.small⟩, ⟨?_, ?_⟩⟩
  · exact set_of hb3 2 _
  · refine (k3 nc (h.lt nc h.inc) (fun e => ?_) (fun e => block_apart h.acc h.own (by decide) e)).trans h.own
    have e1 := h.own
    rw [IsOwn, e, h.blk] at e1
    simp at e1
  · have r := row_kept (W' := w3.setCell ⟨nm, 2, none⟩ (.slice (some ⟨g', 0, none⟩) (l.length + 1) c3)) ho fun k e => Below.heap_setCell _ _ _ _ (by simp [Value.ownBlock] at e; rw [← e]; exact gb)
    simpa [accRow, Acc.cells] using r
  · intro z hz
    rcases List.mem_append.1 hz with hz | hz
    · exact row_kept (h.vals z hz) fun k e => k3 k (h.lt k (h.inv z hz k e)) (fun e2 => block_apart (h.vals z hz) h.blk (by decide) (by rw [e, e2])) (fun e2 => rows_apart (h.vals z hz) h.acc (by decide) k e e2)
    · obtain rfl := List.mem_singleton.1 hz
      exact World.ownsRow_nil _ _ _ _
  · intro k e
    simp [Value.ownBlock] at e
    exact .inr e.symm
  · intro z hz k e
    rcases List.mem_append.1 hz with hz | hz
    · exact .inl (h.inv z hz k e)
    · obtain rfl := List.mem_singleton.1 hz
      simp [Value.ownBlock] at e
  · intro z hz e
    rcases List.mem_append.1 hz with hz | hz
    · exact h.ne z hz e
    · obtain rfl := List.mem_singleton.1 hz
      simp [Value.ownBlock] at e
  · rw [hsz]
    rintro k (hk | rfl)
    · have := h.lt k hk
      omega
    · exact row_lt ho k rfl
  · exact ((hc2.grown hg (fun k e _ => h.ina k e))).setCell (fun _ => h.inn) _
  · rintro k (hk | rfl)
    · exact .inl hk
    · rcases hw2 with e | e
      · exact .inl (h.ina k e)
      · exact .inr e

set_option maxRecDepth 100000 in
theorem r_note (nm n next : Nat) (th : Int) (kind addr x y got : Nat) (ok : Bool) (R : Nat → Prop) (cs : List Nat) (l : List Acc) (W : World) (h : RMem W R nm n next cs l) (hl : l.length < 1099511627776) :
    Calls Tryz.prog 132 #[.pointer (some ⟨nm, 0, none⟩), accV th kind addr x y (.slice none 0 0) got ok] W fun e W' => e = .returned (.tuple #[]) ∧ ∃ R', RMem W' R' nm n next cs (l ++ [⟨th, kind, addr, x, y, .slice none 0 0, [], got, ok⟩]) ∧ Goes W W' R R' := by
  obtain ⟨i0, hi, hz0, hz1, hz2⟩ := info_parts infoA
  unfold accV
  obtain ⟨nc, av, os, h⟩ := h
  have hbl := lt_of h.blk
  obtain ⟨pa, ca, rfl⟩ := slice_of h.acc
  obtain ⟨w1, hw1⟩ : ∃ w1, w1 = W.alloc (.cells #[.int .i64 th, .int .u8 (kind : Int), .int .u64 (addr : Int), .int .u64 (x : Int), .int .u64 (y : Int), .slice none 0 0, .int .u64 (got : Int), .bool ok] 208) := ⟨_, rfl⟩
  have hB1 : Hid (w1.heap[W.heap.size]? = some (.cells #[.int .i64 th, .int .u8 (kind : Int), .int .u64 (addr : Int), .int .u64 (x : Int), .int .u64 (y : Int), .slice none 0 0, .int .u64 (got : Int), .bool ok] 208 (0, 0))) := by rw [hw1]; exact heap_alloc_new _ _
  have hk1 : Hid (∀ k, k < W.heap.size → w1.heap[k]? = W.heap[k]?) := fun k hk => by rw [hw1]; exact Below.heap_alloc _ _ _ hk
  have hs1 : w1.heap.size = W.heap.size + 1 := by rw [hw1]; simp
  have hC1 : Hid (Chg R W w1) := by rw [hw1]; exact (Chg.refl R W).alloc _
  have hb1 : Hid (w1.heap[nm]? = some (.cells (rmCells nc n next (.slice pa l.length ca)) 176 (0, 0))) := (hk1.out nm hbl).trans h.blk
  have HA : Hid (w1.drew.ownsRow 0 208 8 (.slice pa l.length ca) l.length (accRow l)) := row_kept (W := W) h.acc fun k e => (hk1.out k (row_lt h.acc k e))
  have q0 := (cell_of hB1.out 0).trans rfl
  have q1 := (cell_of hB1.out 1).trans rfl
  have q2 := (cell_of hB1.out 2).trans rfl
  have q3 := (cell_of hB1.out 3).trans rfl
  have q4 := (cell_of hB1.out 4).trans rfl
  have q5 := (cell_of hB1.out 5).trans rfl
  have q6 := (cell_of hB1.out 6).trans rfl
  have q7 := (cell_of hB1.out 7).trans rfl
  have r2 : w1.cell? ⟨nm, 2, none⟩ = some (.slice pa l.length ca) := cell_of hb1.out 2
  have r3 : w1.cell? ⟨nm, 3, none⟩ = some (.bool false) := cell_of hb1.out 3
  have H := keepH h
  have ne1 : ¬ nm = w1.heap.size := by omega
  have qa : ∀ o, (w1.alloc o).cell? ⟨nm, 2, none⟩ = some (.slice pa l.length ca) := fun o => cell_of (alloc_of hb1.out o) 2
  have HS1 := keepH hs1
  have HW1 := keepH hw1
  clear h hs1 hw1
  go_enter Tryz.func132, Tryz.ntmps132
  go_upto_region 1 with fail
  rw [← HW1.out]
  clear HW1
  go_wp2_with fail
  go_region_law (refine step_append_own rfl (.tmp 13) (.tmp 15) 174 rfl 208 i0 (accV 0 0 0 0 0 (.slice none 0 0) 0 false) 8 80 Tryz.underlying174 hi hz0 hz1 hz2 rfl (by decide) (.slice pa l.length ca) l.length (accRow l) rfl (HA.out.alloc _) ⟨w1.heap.size, 0, none⟩ 1 1 [.int .i64 th, .int .u8 (kind : Int), .int .u64 (addr : Int), .int .u64 (x : Int), .int .u64 (y : Int), .slice none 0 0, .int .u64 (got : Int), .bool ok] rfl rfl (cells_new _ _ rfl _ _) (by simp [Value.oneCell']) (by unfold maxLen; omega) (by omega) ?_; intro v' w3 hown3 hgr3 _ hwh3; obtain ⟨g', c3, rfl⟩ := slice_pos hown3 (Nat.succ_pos _); have hb3 : Hid (w3.heap[nm]? = some (.cells (rmCells nc n next (.slice pa l.length ca)) 176 (0, 0))) := (hgr3.block nm (by have := lt_of hb1.out; simp; omega) (fun e => block_apart H.out.acc H.out.blk (by decide) e.symm)).trans (alloc_of (W := w1.drew) hb1.out _); have r8 : w3.cell? ⟨nm, 2, none⟩ = some (.slice pa l.length ca) := cell_of hb3.out 2; have rf := free_of hb3.out 2; have HO := keepH hown3; have HW3 := keepH hwh3; have HG3 := keepH hgr3; clear hown3 hwh3 hgr3)
  all_goals (go_wp2_with fail)
  all_goals go_end0
  all_goals (refine ⟨rfl, rnote_end H.out (fun k hk => ?_) ?_ HG3.out hb3.out HO.out ?_⟩)
  all_goals first
    | exact (Below.heap_alloc w1.drew _ _ (by have := HS1.out; show _ < w1.heap.size; omega)).trans (hk1.out k hk)
    | exact hC1.out.drew.alloc _
    | (rcases HW3.out with e2 | e2
       · exact .inl e2.symm
       · simp [Value.ownBlock] at e2; exact .inr (by have := HS1.out; omega))
end Go.Proofs.YtmmaniolaljjlaaGreatDoor
/- The document's memory: Peek, Load, Store, Cas, New. -/
namespace Go.Proofs.YtmmaniolaljjlaaGreatDoor
open Go.RowKit Go.Shelf
set_option linter.unusedVariables false

theorem RMemAt.put {W : World} {R : Nat → Prop} {nm nc n next : Nat} {av : Value} {os cs : List Nat} {l : List Acc} (h : RMemAt W R nm nc av n next os cs l) (i v : Nat) (hi : i < n) (hv : v < 18446744073709551616) : RMemAt (W.setCell ⟨nc, i, none⟩ (.int .u64 (v : Int))) R nm nc av n next (os.set i v) (stN n cs i v) l ∧ Goes W (W.setCell ⟨nc, i, none⟩ (.int .u64 (v : Int))) R R := by
  have ne : nm ≠ nc := fun e => by
    have e1 := h.own
    rw [IsOwn, ← e, h.blk] at e1
    simp at e1
  refine ⟨⟨other_of h.blk ne _, h.own.set i v, h.os.set hi, row_kept h.acc fun k e => Below.heap_setCell _ _ _ _ (fun e2 => block_apart h.acc h.own (by decide) (by rw [e, e2])), fun x hx => row_kept (h.vals x hx) fun k e => Below.heap_setCell _ _ _ _ (fun e2 => h.ne x hx (by rw [e, e2])), h.inn, h.inc, h.ina, h.inv, h.ne, fun k e => by have := h.lt k e; simpa [World.setCell] using this, h.nn, fun j => ?_⟩, ⟨(Chg.refl R W).setCell (p := ⟨nc, i, none⟩) (fun _ => h.inc) _, fun k e => .inl e⟩⟩
  rw [stN_cell]
  split
  · exact hv
  · exact h.small j

theorem RMemAt.out {W : World} {R : Nat → Prop} {nm nc n next : Nat} {av : Value} {os cs : List Nat} {l : List Acc} (h : RMemAt W R nm nc av n next os cs l) (i : Nat) (hi : n ≤ i) : cellN cs i = 0 := h.os.2.2 i hi

theorem casN_stN (n : Nat) (cs : List Nat) (addr old now : Nat) (h : addr < n) (he : cellN cs addr = old) : casN n cs addr old now = stN n cs addr now := by simp [casN, stN, h, he]

set_option maxRecDepth 100000 in
theorem r_new (n : Nat) (W : World) (hn : 128 ≤ n ∧ n ≤ 4194304) :
    Calls Tryz.prog 85 #[.int .i64 (n : Int), .bool false] W fun e W' => e = .returned (.tuple #[.pointer (some ⟨W.heap.size + 1, 0, none⟩), .int .i64 0]) ∧ RMem W' (fun k => k = W.heap.size ∨ k = W.heap.size + 1) (W.heap.size + 1) n 1 [] [] ∧ Chg (fun _ => False) W W' ∧ W'.heap.size = W.heap.size + 2 := by
  have t1 : ¬ (n : Int) < 128 := by omega
  have t2 : ¬ (4194304 : Int) < (n : Int) := by omega
  obtain ⟨w3, hmk, hO3, hC3, hS3⟩ := make_u64s n hn.2 W
  have HO3 := keepH hO3
  have HC3 := keepH hC3
  have HS3 := keepH hS3
  clear hO3 hC3
  go_enter Tryz.func85, Tryz.ntmps85
  go_wp2_with fail
  go_ret2
  have hs := HS3.out
  have eN := heap_alloc_new w3 (.cells (rmCells W.heap.size n 1 (.slice none 0 0)) 176)
  rw [hs] at eN
  refine ⟨by simp, ⟨W.heap.size, .slice none 0 0, List.replicate n 0, eN, (Below.heap_alloc _ _ _ (by omega)).trans HO3.out, own_zero n, World.ownsRow_nil _ _ _ _, fun x hx => by simp at hx, .inr rfl, .inl rfl, fun k e => by simp [Value.ownBlock] at e, fun x hx => by simp at hx, fun x hx => by simp at hx, fun k e => by simp; omega, hn, fun i => by simp [cellN]⟩, HC3.out.alloc _, by simp [hs]⟩
end Go.Proofs.YtmmaniolaljjlaaGreatDoor
/- The document's memory: an access with values is noted; Alloc, Left. -/
namespace Go.Proofs.YtmmaniolaljjlaaGreatDoor
open Go.RowKit Go.Shelf
set_option linter.unusedVariables false

theorem rnote_endV {pv : Option Addr} {cv : Nat} {vals : List Nat} {W w2 w3 : World} {R : Nat → Prop} {nm nc n next g' c3 : Nat} {av : Value} {os cs : List Nat} {l : List Acc} {th : Int} {kind addr x y got : Nat} {ok : Bool}
    (h : RMemAt W R nm nc av n next os cs l) (hvs : W.ownsRow 0 23 1 (.slice pv vals.length cv) vals.length (vals.map u64V)) (hvR : ∀ k, (.slice pv vals.length cv : Value).ownBlock = some k → ¬ R k) (hk2 : ∀ k, k < W.heap.size → w2.heap[k]? = W.heap[k]?) (hc2 : Chg R W w2) (hg : w2.grownBy w3 av.ownBlock)
    (hb3 : w3.heap[nm]? = some (.cells (rmCells nc n next av) 176 (0, 0)))
    (ho : w3.ownsRow 0 208 8 (.slice (some ⟨g', 0, none⟩) (l.length + 1) c3) (l.length + 1) (accRow l ++ [.int .i64 th, .int .u8 (kind : Int), .int .u64 (addr : Int), .int .u64 (x : Int), .int .u64 (y : Int), .slice pv vals.length cv, .int .u64 (got : Int), .bool ok]))
    (hw2 : av.ownBlock = some g' ∨ W.heap.size ≤ g') :
    ∃ R', RMem (w3.setCell ⟨nm, 2, none⟩ (.slice (some ⟨g', 0, none⟩) (l.length + 1) c3)) R' nm n next cs (l ++ [⟨th, kind, addr, x, y, .slice pv vals.length cv, vals, got, ok⟩]) ∧ Chg R W (w3.setCell ⟨nm, 2, none⟩ (.slice (some ⟨g', 0, none⟩) (l.length + 1) c3)) ∧ ∀ k, R' k → R k ∨ W.heap.size ≤ k ∨ (.slice pv vals.length cv : Value).ownBlock = some k := by
  have gb : g' ≠ nm := fun e => block_apart ho hb3 (by decide) (by rw [e]; rfl)
  have szW := hc2.size
  have sz3 := hg.size
  have hsz : (w3.setCell ⟨nm, 2, none⟩ (.slice (some ⟨g', 0, none⟩) (l.length + 1) c3)).heap.size = w3.heap.size := by simp [World.setCell]
  have k3 : ∀ k, k < W.heap.size → k ≠ nm → av.ownBlock ≠ some k → (w3.setCell ⟨nm, 2, none⟩ (.slice (some ⟨g', 0, none⟩) (l.length + 1) c3)).heap[k]? = W.heap[k]? := fun k hk h1 h2 =>
    (Below.heap_setCell _ _ _ _ h1).trans ((hg.block k (by omega) (fun e => h2 e.symm)).trans (hk2 k hk))
  refine ⟨fun k => (R k ∨ k = g') ∨ (.slice pv vals.length cv : Value).ownBlock = some k, ⟨nc, .slice (some ⟨g', 0, none⟩) (l.length + 1) c3, os, ?_, ?_, h.os, ?_, ?_, .inl (.inl h.inn), .inl (.inl h.inc), ?_, ?_, ?_, ?_, h.nn, h.small⟩, ?_, ?_⟩
  · exact set_of hb3 2 _
  · refine (k3 nc (h.lt nc h.inc) (fun e => ?_) (fun e => block_apart h.acc h.own (by decide) e)).trans h.own
    have e1 := h.own
    rw [IsOwn, e, h.blk] at e1
    simp at e1
  · have r := row_kept (W' := w3.setCell ⟨nm, 2, none⟩ (.slice (some ⟨g', 0, none⟩) (l.length + 1) c3)) ho fun k e => Below.heap_setCell _ _ _ _ (by simp [Value.ownBlock] at e; rw [← e]; exact gb)
    simpa [accRow, Acc.cells] using r
  · intro z hz
    rcases List.mem_append.1 hz with hz | hz
    · exact row_kept (h.vals z hz) fun k e => k3 k (h.lt k (h.inv z hz k e)) (fun e2 => block_apart (h.vals z hz) h.blk (by decide) (by rw [e, e2])) (fun e2 => rows_apart (h.vals z hz) h.acc (by decide) k e e2)
    · obtain rfl := List.mem_singleton.1 hz
      exact row_kept hvs fun k e => k3 k (row_lt hvs k e) (fun e2 => hvR k e (by rw [e2]; exact h.inn)) (fun e2 => hvR k e (h.ina k e2))
  · intro k e
    simp [Value.ownBlock] at e
    exact .inl (.inr e.symm)
  · intro z hz k e
    rcases List.mem_append.1 hz with hz | hz
    · exact .inl (.inl (h.inv z hz k e))
    · obtain rfl := List.mem_singleton.1 hz
      exact .inr e
  · intro z hz e
    rcases List.mem_append.1 hz with hz | hz
    · exact h.ne z hz e
    · obtain rfl := List.mem_singleton.1 hz
      exact hvR nc e h.inc
  · rw [hsz]
    rintro k ((hk | rfl) | e)
    · have := h.lt k hk
      omega
    · exact row_lt ho k rfl
    · have := row_lt hvs k e
      omega
  · exact ((hc2.grown hg (fun k e _ => h.ina k e))).setCell (fun _ => h.inn) _
  · rintro k ((hk | rfl) | e)
    · exact .inl hk
    · rcases hw2 with e | e
      · exact .inl (h.ina k e)
      · exact .inr (.inl e)
    · exact .inr (.inr e)

set_option maxRecDepth 100000 in
theorem r_noteV (pv : Option Addr) (cv : Nat) (vals : List Nat) (nm n next : Nat) (th : Int) (kind addr x y got : Nat) (ok : Bool) (R : Nat → Prop) (cs : List Nat) (l : List Acc) (W : World) (h : RMem W R nm n next cs l) (hl : l.length < 1099511627776) (hvs : W.ownsRow 0 23 1 (.slice pv vals.length cv) vals.length (vals.map u64V)) (hvR : ∀ k, (.slice pv vals.length cv : Value).ownBlock = some k → ¬ R k) :
    Calls Tryz.prog 132 #[.pointer (some ⟨nm, 0, none⟩), accV th kind addr x y (.slice pv vals.length cv) got ok] W fun e W' => e = .returned (.tuple #[]) ∧ ∃ R', RMem W' R' nm n next cs (l ++ [⟨th, kind, addr, x, y, .slice pv vals.length cv, vals, got, ok⟩]) ∧ Chg R W W' ∧ ∀ k, R' k → R k ∨ W.heap.size ≤ k ∨ (.slice pv vals.length cv : Value).ownBlock = some k := by
  obtain ⟨i0, hi, hz0, hz1, hz2⟩ := info_parts infoA
  unfold accV
  obtain ⟨nc, av, os, h⟩ := h
  have hbl := lt_of h.blk
  obtain ⟨pa, ca, rfl⟩ := slice_of h.acc
  obtain ⟨w1, hw1⟩ : ∃ w1, w1 = W.alloc (.cells #[.int .i64 th, .int .u8 (kind : Int), .int .u64 (addr : Int), .int .u64 (x : Int), .int .u64 (y : Int), .slice pv vals.length cv, .int .u64 (got : Int), .bool ok] 208) := ⟨_, rfl⟩
  have hB1 : Hid (w1.heap[W.heap.size]? = some (.cells #[.int .i64 th, .int .u8 (kind : Int), .int .u64 (addr : Int), .int .u64 (x : Int), .int .u64 (y : Int), .slice pv vals.length cv, .int .u64 (got : Int), .bool ok] 208 (0, 0))) := by rw [hw1]; exact heap_alloc_new _ _
  have hk1 : Hid (∀ k, k < W.heap.size → w1.heap[k]? = W.heap[k]?) := fun k hk => by rw [hw1]; exact Below.heap_alloc _ _ _ hk
  have hs1 : w1.heap.size = W.heap.size + 1 := by rw [hw1]; simp
  have hC1 : Hid (Chg R W w1) := by rw [hw1]; exact (Chg.refl R W).alloc _
  have hb1 : Hid (w1.heap[nm]? = some (.cells (rmCells nc n next (.slice pa l.length ca)) 176 (0, 0))) := (hk1.out nm hbl).trans h.blk
  have HA : Hid (w1.drew.ownsRow 0 208 8 (.slice pa l.length ca) l.length (accRow l)) := row_kept (W := W) h.acc fun k e => (hk1.out k (row_lt h.acc k e))
  have q0 := (cell_of hB1.out 0).trans rfl
  have q1 := (cell_of hB1.out 1).trans rfl
  have q2 := (cell_of hB1.out 2).trans rfl
  have q3 := (cell_of hB1.out 3).trans rfl
  have q4 := (cell_of hB1.out 4).trans rfl
  have q5 := (cell_of hB1.out 5).trans rfl
  have q6 := (cell_of hB1.out 6).trans rfl
  have q7 := (cell_of hB1.out 7).trans rfl
  have r2 : w1.cell? ⟨nm, 2, none⟩ = some (.slice pa l.length ca) := cell_of hb1.out 2
  have r3 : w1.cell? ⟨nm, 3, none⟩ = some (.bool false) := cell_of hb1.out 3
  have H := keepH h
  have HVS := keepH hvs
  have HVR := keepH hvR
  clear hvs hvR
  have ne1 : ¬ nm = w1.heap.size := by omega
  have qa : ∀ o, (w1.alloc o).cell? ⟨nm, 2, none⟩ = some (.slice pa l.length ca) := fun o => cell_of (alloc_of hb1.out o) 2
  have HS1 := keepH hs1
  have HW1 := keepH hw1
  clear h hs1 hw1
  go_enter Tryz.func132, Tryz.ntmps132
  go_upto_region 1 with fail
  rw [← HW1.out]
  clear HW1
  go_wp2_with fail
  go_region_law (refine step_append_own rfl (.tmp 13) (.tmp 15) 174 rfl 208 i0 (accV 0 0 0 0 0 (.slice none 0 0) 0 false) 8 80 Tryz.underlying174 hi hz0 hz1 hz2 rfl (by decide) (.slice pa l.length ca) l.length (accRow l) rfl (HA.out.alloc _) ⟨w1.heap.size, 0, none⟩ 1 1 [.int .i64 th, .int .u8 (kind : Int), .int .u64 (addr : Int), .int .u64 (x : Int), .int .u64 (y : Int), .slice pv vals.length cv, .int .u64 (got : Int), .bool ok] rfl rfl (cells_new _ _ rfl _ _) (by simp [Value.oneCell']) (by unfold maxLen; omega) (by omega) ?_; intro v' w3 hown3 hgr3 _ hwh3; obtain ⟨g', c3, rfl⟩ := slice_pos hown3 (Nat.succ_pos _); have hb3 : Hid (w3.heap[nm]? = some (.cells (rmCells nc n next (.slice pa l.length ca)) 176 (0, 0))) := (hgr3.block nm (by have := lt_of hb1.out; simp; omega) (fun e => block_apart H.out.acc H.out.blk (by decide) e.symm)).trans (alloc_of (W := w1.drew) hb1.out _); have r8 : w3.cell? ⟨nm, 2, none⟩ = some (.slice pa l.length ca) := cell_of hb3.out 2; have rf := free_of hb3.out 2; have HO := keepH hown3; have HW3 := keepH hwh3; have HG3 := keepH hgr3; clear hown3 hwh3 hgr3)
  all_goals (go_wp2_with fail)
  all_goals go_end0
  all_goals (refine ⟨rfl, rnote_endV H.out HVS.out HVR.out (fun k hk => ?_) ?_ HG3.out hb3.out HO.out ?_⟩)
  all_goals first
    | exact (Below.heap_alloc w1.drew _ _ (by have := HS1.out; show _ < w1.heap.size; omega)).trans (hk1.out k hk)
    | exact hC1.out.drew.alloc _
    | (rcases HW3.out with e2 | e2
       · exact .inl e2.symm
       · simp [Value.ownBlock] at e2; exact .inr (by have := HS1.out; omega))
set_option maxRecDepth 100000 in
theorem r_left (nm n next : Nat) (R : Nat → Prop) (cs : List Nat) (l : List Acc) (W : World) (h : RMem W R nm n next cs l) (hnx : next ≤ n) : Calls Tryz.prog 131 #[.pointer (some ⟨nm, 0, none⟩)] W fun e W' => e = .returned (.int .i64 ((n - next : Nat) : Int)) ∧ ∃ q, W' = W.drewN q := by
  obtain ⟨nc, av, os, h⟩ := h
  have c0 : W.cell? ⟨nm, 0, none⟩ = some (.slice (some ⟨nc, 0, none⟩) n n) := cell_of h.blk 0
  have c1 : W.cell? ⟨nm, 1, none⟩ = some (.int .i64 (next : Int)) := cell_of h.blk 1
  have nn := h.nn
  have kw : IntKind.i64.wrap ((n : Int) - (next : Int)) = ((n - next : Nat) : Int) := by rw [IntKind.wrap_i64]; omega
  clear h
  go_enter Tryz.func131, Tryz.ntmps131
  go_wp2_with fail
  go_quiet (fail)
  go_wp2_with fail
  all_goals first
    | exact ⟨rfl, nq, rfl⟩
    | (go_ret; exact ⟨rfl, nq, rfl⟩)
    | (go_ret; trace_state)
end Go.Proofs.YtmmaniolaljjlaaGreatDoor
