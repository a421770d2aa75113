/- The bank of a plain memory: new cells are handed out. -/
import Derived.Test.YtnhiodmigmmfgaaQ1Note
namespace Go.Proofs.Ytnhiodmigmmfgaa
open Go.RowKit Go.Shelf

theorem BankAt.setNext {W : World} {F : Nat → Prop} {b most next : Nat} {cv av : Value} {cs : List Nat} {l : List Acc} (h : BankAt W F b cv av most next cs l) (n : Nat) (hn : 1 ≤ n ∧ n ≤ most) : BankAt (W.setCell ⟨b, 2, none⟩ (.int .i64 (n : Int))) F b cv av most n cs l := by
  have ob : ∀ k, k ≠ b → (W.setCell ⟨b, 2, none⟩ (.int .i64 (n : Int))).heap[k]? = W.heap[k]? := fun k hk => Below.heap_setCell _ _ _ _ hk
  refine ⟨?_, row_kept h.row fun k e => ob k (fun e2 => block_apart h.row h.blk (by decide) (by rw [e, e2])), row_kept h.acc fun k e => ob k (fun e2 => block_apart h.acc h.blk (by decide) (by rw [e, e2])), fun x hx => row_kept (h.vals x hx) fun k e => ob k (fun e2 => block_apart (h.vals x hx) h.blk (by decide) (by rw [e, e2])), h.ne, h.inb, h.inc, h.ina, h.inv, fun k e => by simpa [World.setCell] using h.lt k e, h.most_le, hn, h.len_le, h.small⟩
  have e := set_of h.blk 2 (.int .i64 (n : Int))
  exact e

/-- copy into a row, as one step of a region that draws. -/
theorem step_copy_row {P : Program} {ops : Array Oper} {o : Oper} {a : Act} {w : World} {K : Act → World → Prop} {Q : Exit → Act → World → Prop} {E : Prop} (hgd : o.guard = none) (d s : Operand) (dT sT : TypeId)
    (ho : o.op = .call { callee := .builtin .copy, args := #[d, s], argTypes := #[dT, sT] }) (elem : TypeId) (hu : P.underlying dT = some (.slice elem)) (hsz : (P.info? elem).map (·.size) = some 1)
    (g off dLen dCap : Nat) (ad : Addr) (sLen sCap : Nat) (hd : a.eval d = .slice (some ⟨g, off, none⟩) dLen dCap) (hs : a.eval s = .slice (some ad) sLen sCap)
    (cur : Array Value) (t : TypeId) (hg : w.heap[g]? = some (.cells cur t (0, 0))) (cs : List Value) (hn : cs.length = Nat.min sLen dLen)
    (hsrc : ∀ j v, cs[j]? = some v → w.cell? (ad.add j) = some v) (hfit : off + cs.length ≤ cur.size) (h1 : ∀ v ∈ cs, v.oneCell' = true)
    (h : K (a.put o.dst (goInt cs.length)) (w.setRow g (cur.toList.take off ++ cs ++ cur.toList.drop (off + cs.length)).toArray)) :
    if Region.wanted o (yielded ops a.tmps) = true then Oper.wp P o a w K Q else E := by
  have hw : Region.wanted o (yielded ops a.tmps) = true := by simp [Region.wanted, hgd]
  rw [if_pos hw]
  have hrun := run_copy_row (P := P) w dT sT o.type elem g off dLen dCap ad sLen sCap cur t cs hu hsz hg hn hsrc hfit h1
  unfold Oper.wp execOp
  simp only [ho, resolve, invoke, builtin, Sem.run_bind, Sem.run_pure, Result.andThen_ok, List.map_toArray, List.map_cons, List.map_nil, hd, hs, hrun]
  exact h

def spliceN (cs : List Nat) (i : Nat) (vals : List Nat) : List Nat := cs.take i ++ vals ++ cs.drop (i + vals.length)
theorem spliceN_length (cs : List Nat) (i : Nat) (vals : List Nat) (h : i + vals.length ≤ cs.length) : (spliceN cs i vals).length = cs.length := by simp [spliceN]; omega
theorem spliceN_cell (cs : List Nat) (i : Nat) (vals : List Nat) (h : i + vals.length ≤ cs.length) (j : Nat) : cellN (spliceN cs i vals) j = if i ≤ j ∧ j < i + vals.length then cellN vals (j - i) else cellN cs j := by
  simp only [cellN, spliceN, List.getD_eq_getElem?_getD]
  have e : min i cs.length = i := by omega
  by_cases h1 : j < i
  · have : ¬ (i ≤ j ∧ j < i + vals.length) := by omega
    rw [if_neg this, List.append_assoc, List.getElem?_append_left (by simp; omega), List.getElem?_take_of_lt h1]
  · by_cases h2 : j < i + vals.length
    · rw [if_pos ⟨by omega, h2⟩, List.append_assoc, List.getElem?_append_right (by simp; omega), List.length_take, e, List.getElem?_append_left (by omega)]
    · have : ¬ (i ≤ j ∧ j < i + vals.length) := by omega
      rw [if_neg this, List.getElem?_append_right (by simp; omega), List.length_append, List.length_take, e, List.getElem?_drop, show i + vals.length + (j - (i + vals.length)) = j by omega]

def alOk (most next n : Nat) : Prop := 0 < n ∧ n ≤ most - next
instance (most next n : Nat) : Decidable (alOk most next n) := inferInstanceAs (Decidable (_ ∧ _))
def alAt (most next n : Nat) : Nat := if alOk most next n then next else 0
def alNext (most next n : Nat) : Nat := if alOk most next n then next + n else next
def alN (most next : Nat) (cs vals : List Nat) : List Nat := if alOk most next vals.length then spliceN (padN cs (next + vals.length)) next vals else cs

theorem BankAt.splice {W : World} {F : Nat → Prop} {b g n c most next : Nat} {av : Value} {cs : List Nat} {l : List Acc} (h : BankAt W F b (.slice (some ⟨g, 0, none⟩) n c) av most next cs l) (cur : Array Value) (hcur : W.heap[g]? = some (.cells cur 30 (0, 0))) (i : Nat) (vals : List Nat) (hi : i + vals.length ≤ cs.length) (hv : ∀ x ∈ vals, x < 18446744073709551616) :
    BankAt (W.setRow g (cur.toList.take i ++ vals.map u64V ++ cur.toList.drop (i + (vals.map u64V).length)).toArray) F b (.slice (some ⟨g, 0, none⟩) n c) av most next (spliceN cs i vals) l := by
  have gb : b ≠ g := fun e => block_apart h.row h.blk (by decide) (by rw [e]; rfl)
  have ob : ∀ k, k ≠ g → (W.setRow g (cur.toList.take i ++ vals.map u64V ++ cur.toList.drop (i + (vals.map u64V).length)).toArray).heap[k]? = W.heap[k]? := fun k hk => setRow_other W g k _ hk
  have hsl := spliceN_length cs i vals hi
  refine ⟨(ob b gb).trans h.blk, ?_, row_kept h.acc fun k e => ob k (fun e2 => rows_apart h.row h.acc (by decide) g rfl (by rw [e, e2])), fun x hx => row_kept (h.vals x hx) fun k e => ob k (fun e2 => h.ne x hx k e (by rw [e2]; rfl)), h.ne, h.inb, h.inc, h.ina, h.inv, fun k e => by simpa [World.setRow] using h.lt k e, h.most_le, h.next_le, by rw [hsl]; exact h.len_le, ?_⟩
  · have hxl := h.row.1
    rcases h.row.2 with ⟨h2, _⟩ | ⟨g2, cap, cur2, h2, hb, hg, hnc, hcm, hcs, htake⟩
    · simp at h2
    · simp only [Value.slice.injEq, Option.some.injEq, Addr.mk.injEq, and_true] at h2
      obtain ⟨rfl, rfl, rfl⟩ := h2
      rw [hcur] at hg
      simp at hg
      subst hg
      have hcl : cur.toList.length = c := by simpa using hcs
      rw [hsl]
      refine ⟨by simp [hsl], .inr ⟨g, c, _, rfl, hb, setRow_heap W g cur _ 30 _ hcur, hnc, hcm, ?_, ?_⟩⟩
      · simp at hcl ⊢
        omega
      · simp only [Nat.mul_one] at htake ⊢
        have e1 : cur.toList.take i = (cs.take i).map u64V := by rw [List.map_take, ← htake, List.take_take]; congr 1; omega
        have e2 : (cur.toList.drop (i + vals.length)).take (cs.length - (i + vals.length)) = (cs.drop (i + vals.length)).map u64V := by rw [List.map_drop, ← htake, List.drop_take]
        simp only [spliceN, List.map_append, List.length_map, e1]
        rw [List.take_append, List.take_of_length_le (by simp; omega)]
        congr 1
        rw [← e2]
        congr 1
        simp
        omega
  · intro x hx
    simp only [spliceN, List.mem_append] at hx
    rcases hx with (hx | hx) | hx
    · exact h.small x (List.mem_of_mem_take hx)
    · exact hv x hx
    · exact h.small x (List.mem_of_mem_drop hx)

theorem cell_chg {F : Nat → Prop} {W W' : World} (h : Chg F W W') {a : Addr} {v : Value} (hc : W.cell? a = some v) (hn : ¬ F a.block) : W'.cell? a = some v := by
  have hlt : a.block < W.heap.size := by
    by_cases hl : a.block < W.heap.size
    · exact hl
    · have e : W.heap[a.block]? = none := Array.getElem?_eq_none (by omega)
      simp [World.cell?, e] at hc
  exact (World.cell?_of_block (w := W) (h.block a.block hlt hn)).trans hc
theorem add_block (a : Addr) (j : Nat) : (a.add j).block = a.block := by unfold Addr.add; split <;> rfl

set_option maxRecDepth 100000 in
theorem p_alloc (b most next : Nat) (p : Option Addr) (c : Nat) (vals : List Nat) (F : Nat → Prop) (cs : List Nat) (l : List Acc) (W : World) (h : Bank W F b most next cs l) (hr : Reads W p vals) (hap : ∀ ad, p = some ad → vals ≠ [] → ¬ F ad.block) (hv : ∀ x ∈ vals, x < 18446744073709551616) :
    Calls Try.prog 94 #[.pointer (some ⟨b, 0, none⟩), .slice p vals.length c] W fun e W' => e = .returned (.int .u64 (alAt most next vals.length : Int)) ∧ ∃ F', Bank W' F' b most (alNext most next vals.length) (alN most next cs vals) l ∧ Goes W W' F F' := by
  have HB := keepH h
  have HR := keepH hr
  obtain ⟨cv, av, h⟩ := h
  have hml := h.most_le
  have hnl := h.next_le
  by_cases h1 : vals.length = 0
  · have t1 : (vals.length : Int) = 0 := by omega
    have e0 : ¬ alOk most next vals.length := by unfold alOk; omega
    have E0 := keepH e0
    clear h hr e0
    go_enter Try.func94, Try.ntmps94
    go_wp2_with fail
    go_ret
    exact ⟨by simp [alAt, E0.out], F, by unfold alNext alN; rw [if_neg E0.out, if_neg E0.out]; exact HB.out, Goes.refl _ _⟩
  · have t1 : ¬ (vals.length : Int) = 0 := by omega
    by_cases h2 : most - next < vals.length
    · have t2 : ((most - next : Nat) : Int) < (vals.length : Int) := by omega
      have e0 : ¬ alOk most next vals.length := by unfold alOk; omega
      have E0 := keepH e0
      clear h hr e0
      go_enter Try.func94, Try.ntmps94
      go_wp2_with fail
      refine (p_left b most next F cs l _ HB.out).mono ?_
      rintro e w' ⟨rfl, q, rfl⟩
      go_wp2_with fail
      go_ret
      exact ⟨by simp [alAt, E0.out], F, by unfold alNext alN; rw [if_neg E0.out, if_neg E0.out]; exact HB.out.drewN q, Goes.drewN _ _ _⟩
    · have t2 : ¬ ((most - next : Nat) : Int) < (vals.length : Int) := by omega
      have e0 : alOk most next vals.length := by unfold alOk; omega
      have E0 := keepH e0
      have c2 : W.cell? ⟨b, 2, none⟩ = some (.int .i64 (next : Int)) := cell_of h.blk 2
      have f2 := free_of h.blk 2
      obtain ⟨nx, hnx⟩ : ∃ nx, nx = next + vals.length := ⟨_, rfl⟩
      have hnm : nx ≤ most := by omega
      have wn : IntKind.i64.wrap ((next : Int) + (vals.length : Int)) = (nx : Int) := by rw [IntKind.wrap_i64]; omega
      have HNX := keepH hnx
      have HN1 : Hid (1 ≤ nx ∧ nx ≤ most ∧ next ≤ nx ∧ nx - next = vals.length) := by show _ ∧ _ ∧ _ ∧ _; omega
      obtain ⟨ad, rfl, hrd⟩ : ∃ ad, p = some ad ∧ ∀ j u, (vals.map u64V)[j]? = some u → W.cell? (ad.add j) = some u := by
        rcases hr with hr | hr
        · simp [hr] at h1
        · exact hr
      have HRD := keepH hrd
      have wm : IntKind.u64.wrap (next : Int) = (next : Int) := u64_lt (by omega)
      have H0 := keepH h
      clear h hr e0 hrd hnx
      go_enter Try.func94, Try.ntmps94
      go_wp2_with fail
      refine (p_left b most next F cs l _ HB.out).mono ?_
      rintro e w' ⟨rfl, q, rfl⟩
      go_wp2_with fail
      have hB1 : Hid (BankAt ((W.drewN q).setCell ⟨b, 2, none⟩ (.int .i64 (nx : Int))) F b cv av most nx cs l) := (H0.out.kept (W' := W.drewN q) (Nat.le_refl _) (fun _ _ => rfl)).setNext nx ⟨HN1.out.1, HN1.out.2.1⟩
      refine (p_reach b most nx nx F cs l _ ⟨_, _, hB1.out⟩ hnm).mono ?_
      rintro e W2 ⟨rfl, F2, ⟨cv2, av2, B2⟩, G2⟩
      have hlen := padN_length cs nx
      obtain ⟨g, c2', hcv⟩ := B2.len (by have := HN1.out; omega)
      subst hcv
      obtain ⟨m, hm⟩ : ∃ m, m = (padN cs nx).length := ⟨_, rfl⟩
      have HL := keepH hlen
      have HM := keepH hm
      have k0 : W2.cell? ⟨b, 0, none⟩ = some (.slice (some ⟨g, 0, none⟩) m c2') := by rw [hm]; exact cell_of B2.blk 0
      have k2 : W2.cell? ⟨b, 2, none⟩ = some (.int .i64 (nx : Int)) := cell_of B2.blk 2
      obtain ⟨cur, hcur⟩ := row_block B2.row g rfl
      have HC := keepH hcur
      have hcap : Hid (cur.size = c2' ∧ m ≤ c2') := by
        rcases B2.row.2 with ⟨h2, _⟩ | ⟨g2, cap, cur2, h2, hb, hg, hnc, hcm, hcs, htake⟩
        · simp at h2
        · simp only [Value.slice.injEq, Option.some.injEq, Addr.mk.injEq, and_true] at h2
          obtain ⟨rfl, _, rfl⟩ := h2
          rw [hcur] at hg
          simp at hg
          subst hg
          exact ⟨by simpa using hcs, by omega⟩
      have u1 : (next : Int) ≤ (nx : Int) := by have := HNX.out; omega
      have u2 : (nx : Int) ≤ (c2' : Int) := by have := hcap.out; have := HNX.out; omega
      have u3 : ¬ c2' = next := by have := hcap.out; have := HNX.out; omega
      have u4 : ¬ next = c2' := by have := hcap.out; have := HNX.out; omega
      have u5 : nx - next = vals.length := by have := HNX.out; omega
      have u6 : ¬ (next : Int) < 0 := by omega
      have u7 : nx ≤ c2' := by have := hcap.out; have := HNX.out; omega
      have u8 : next ≤ nx := by have := HNX.out; omega
      have HB2 := keepH B2
      clear B2 hlen hm hcur
      have HS : Hid (∀ j u, (vals.map u64V)[j]? = some u → W2.drew.cell? (ad.add j) = some u) := fun j u hj => by
        have e1 := HRD.out j u hj
        have c1 : Chg F W ((W.drewN q).setCell ⟨b, 2, none⟩ (.int .i64 (nx : Int))) := ((Goes.drewN W F q).chg).setCell (fun _ => H0.out.inb) _
        have e2 := cell_chg (c1.trans G2.chg (fun _ _ x => x) (fun _ _ x => x)) e1 (by rw [add_block]; exact hap ad rfl (fun e => by rw [e] at hj; simp at hj))
        exact e2
      have HF : Hid (next + (vals.map u64V).length ≤ cur.size) := by have := hcap.out; have := HN1.out; have := HM.out; have := HL.out; simp only [List.length_map]; show _ ≤ _; omega
      have HMN : Hid ((vals.map u64V).length = Nat.min vals.length vals.length) := by show _ = _; simp
      have HO : Hid (∀ v ∈ vals.map u64V, v.oneCell' = true) := by intro u hu; obtain ⟨x, _, rfl⟩ := List.mem_map.1 hu; rfl
      go_wp2_with fail
      go_region_law (refine step_copy_row rfl (.tmp 44) (.tmp 45) 31 31 rfl 30 Try.underlying31 (by kernel_rfl) g next vals.length (c2' - next) ad vals.length c rfl rfl cur 30 HC.out (vals.map u64V) HMN.out HS.out HF.out HO.out ?_)
      all_goals (go_wp2_with fail)
      all_goals go_ret
      all_goals (refine ⟨by simp [alAt, E0.out], F2, ⟨.slice (some ⟨g, 0, none⟩) (padN cs nx).length c2', av2, ?_⟩, ?_⟩)
      all_goals first
        | (have e := (HB2.out.splice cur HC.out next vals (by have := HN1.out; have := HL.out; omega) hv).kept (W' := (W2.setRow g (cur.toList.take next ++ vals.map u64V ++ cur.toList.drop (next + (vals.map u64V).length)).toArray).drew) (Nat.le_refl _) (fun _ _ => rfl)
           have e2 : alNext most next vals.length = nx := by unfold alNext; rw [if_pos E0.out]; exact HNX.out.symm
           have e3 : alN most next cs vals = spliceN (padN cs nx) next vals := by unfold alN; rw [if_pos E0.out, ← HNX.out]
           rw [e2, e3]
           simp only [List.append_assoc, List.length_map] at e
           exact e)
        | (have c1 : Goes W ((W.drewN q).setCell ⟨b, 2, none⟩ (.int .i64 (nx : Int))) F F := ⟨((Goes.drewN W F q).chg).setCell (fun _ => H0.out.inb) _, fun _ h => .inl h⟩
           have c3 : Goes W2 (W2.setRow g (cur.toList.take next ++ (vals.map u64V ++ cur.toList.drop (next + vals.length))).toArray).drew F2 F2 := ⟨⟨rfl, rfl, rfl, by simp [World.setRow], fun k _ hk => setRow_other W2 g k _ (fun e => hk (by rw [e]; exact HB2.out.inc g rfl))⟩, fun _ h => .inl h⟩
           exact (c1.trans G2).trans c3)
end Go.Proofs.Ytnhiodmigmmfgaa
/- The bank of a plain memory: its trace is told, in memory of its own. -/
namespace Go.Proofs.Ytnhiodmigmmfgaa
open Go.RowKit Go.Shelf

theorem accRow_set (l : List Acc) (j : Nat) (x : Acc) (hj : l[j]? = some x) (v : Value) : (accRow l).set (j * 8 + 5) v = accRow (l.set j { x with vs := v }) := by
  induction l generalizing j with
  | nil => simp at hj
  | cons y r ih =>
    have hy : y.cells.length = 8 := rfl
    cases j with
    | zero =>
      simp at hj
      subst hj
      rfl
    | succ j =>
      have e := ih j (by simpa using hj)
      simp only [accRow, List.flatMap_cons, List.set_cons_succ] at e ⊢
      rw [List.set_append_right _ _ (by rw [hy]; omega), hy, show (j + 1) * 8 + 5 - 8 = j * 8 + 5 by omega, e]
structure Traced (W W' : World) (v : Value) (l lk : List Acc) (k : Nat) : Prop where
  row : W'.ownsRow 0 112 8 v l.length (accRow lk)
  len : lk.length = l.length
  same : ∀ (j : Nat) (x : Acc), l[j]? = some x → ∃ vs, lk[j]? = some { x with vs := vs }
  rest : ∀ j, k ≤ j → lk[j]? = l[j]?
  vals : ∀ j y, j < k → lk[j]? = some y → W'.ownsRow 0 30 1 y.vs y.vals.length (y.vals.map u64V)
  fresh : ∀ j y b, j < k → lk[j]? = some y → y.vs.ownBlock = some b → W.heap.size ≤ b
  apart : ∀ i j x y b, i < j → j < k → lk[i]? = some x → lk[j]? = some y → x.vs.ownBlock = some b → y.vs.ownBlock ≠ some b
  own : ∀ b, v.ownBlock = some b → W.heap.size ≤ b
  chg : Chg (fun _ => False) W W'

theorem Traced.start {W W' : World} {v : Value} {l : List Acc} (h : W'.ownsRow 0 112 8 v l.length (accRow l)) (hc : Chg (fun _ => False) W W') (ho : ∀ b, v.ownBlock = some b → W.heap.size ≤ b) : Traced W W' v l l 0 :=
  ⟨h, rfl, fun _ x hx => ⟨x.vs, hx⟩, fun _ _ => rfl, fun _ _ h => absurd h (Nat.not_lt_zero _), fun _ _ _ h => absurd h (Nat.not_lt_zero _), fun _ _ _ _ _ _ h => absurd h (Nat.not_lt_zero _), ho, hc⟩
theorem Traced.step {W W1 W2 : World} {g c : Nat} {l lk : List Acc} {k : Nat} {x : Acc} {vs : Value} (h : Traced W W1 (.slice (some ⟨g, 0, none⟩) l.length c) l lk k) (hx : lk[k]? = some x)
    (hr : W2.ownsRow 0 30 1 vs x.vals.length (x.vals.map u64V)) (hg : W1.grownBy W2 none) (hv : vs.ownBlock = none ∨ vs.ownBlock = some W1.heap.size) :
    Traced W (W2.setCell ⟨g, k * 8 + 5, none⟩ vs) (.slice (some ⟨g, 0, none⟩) l.length c) l (lk.set k { x with vs := vs }) (k + 1) := by
  have hk : k < lk.length := (List.getElem?_eq_some_iff.1 hx).1
  have hgl := row_lt h.row g rfl
  have hgf := h.own g rfl
  have ob : ∀ b, b ≠ g → (W2.setCell ⟨g, k * 8 + 5, none⟩ vs).heap[b]? = W2.heap[b]? := fun b hb => Below.heap_setCell _ _ _ _ hb
  have r2 : W2.ownsRow 0 112 8 (.slice (some ⟨g, 0, none⟩) l.length c) l.length (accRow lk) := row_kept h.row fun b e => hg.block b (row_lt h.row b e) (by simp)
  have old : ∀ j y b, j < k → lk[j]? = some y → y.vs.ownBlock = some b → b < W1.heap.size := fun j y b hj hy e => row_lt (h.vals j y hj hy) b e
  refine ⟨?_, by simpa using h.len, ?_, ?_, ?_, ?_, ?_, h.own, ?_⟩
  · have e := (World.ownsRow.stored r2 (k * 8 + 5) vs).1
    rw [accRow_set lk k x hx vs] at e
    exact e
  · intro j y hy
    obtain ⟨v, hv⟩ := h.same j y hy
    by_cases e : j = k
    · subst e
      rw [hx] at hv
      simp at hv
      subst hv
      exact ⟨vs, by simp [hk]⟩
    · exact ⟨v, by rw [List.getElem?_set_ne (Ne.symm e)]; exact hv⟩
  · intro j hj
    rw [List.getElem?_set_ne (by omega)]
    exact h.rest j (by omega)
  · intro j y hj hy
    by_cases e : j = k
    · subst e
      simp [hk] at hy
      subst hy
      exact row_kept hr fun b eb => ob b (fun e2 => by
        obtain ⟨cu, hcu⟩ := row_block hr b eb
        exact block_apart r2 hcu (by decide) (by rw [e2]; rfl))
    · rw [List.getElem?_set_ne (Ne.symm e)] at hy
      have r := h.vals j y (by omega) hy
      exact row_kept r fun b eb => (ob b (fun e2 => rows_apart r h.row (by decide) b eb (by rw [e2]; rfl))).trans (hg.block b (row_lt r b eb) (by simp))
  · intro j y b hj hy eb
    by_cases e : j = k
    · subst e
      simp [hk] at hy
      subst hy
      have eb' : vs.ownBlock = some b := eb
      rcases hv with hv | hv
      · rw [hv] at eb'
        simp at eb'
      · rw [hv] at eb'
        simp at eb'
        have := h.chg.size
        omega
    · rw [List.getElem?_set_ne (Ne.symm e)] at hy
      exact h.fresh j y b (by omega) hy eb
  · intro i j y z b hij hj hy hz eb e2
    rw [List.getElem?_set_ne (by omega)] at hy
    have hb := old i y b (by omega) hy eb
    by_cases e : j = k
    · subst e
      simp [hk] at hz
      subst hz
      have e2' : vs.ownBlock = some b := e2
      rcases hv with hv | hv
      · rw [hv] at e2'
        simp at e2'
      · rw [hv] at e2'
        simp at e2'
        omega
    · rw [List.getElem?_set_ne (Ne.symm e)] at hz
      exact h.apart i j y z b hij (by omega) hy hz eb e2
  · exact (h.chg.grown hg (fun _ e => by simp at e)).setCell (p := ⟨g, k * 8 + 5, none⟩) (fun hx => absurd hx (Nat.not_lt.2 hgf)) vs

theorem one_slice {W : World} {e : TypeId} {s n : Nat} {v : Value} {xs : List Value} (h : W.ownsRow 0 e s v n xs) : v.oneCell' = true := by
  obtain ⟨p, c, rfl⟩ := slice_of h
  rfl

theorem Reads.of_row {W : World} {p : Option Addr} {n c : Nat} {vals : List Nat} (h : W.ownsRow 0 30 1 (.slice p n c) vals.length (vals.map u64V)) : Reads W p vals := by
  rcases h.2 with ⟨h2, h3⟩ | ⟨g, cap, cur, h2, _⟩
  · exact .inl (List.eq_nil_of_length_eq_zero h3)
  · simp only [Value.slice.injEq] at h2
    obtain ⟨rfl, _, _⟩ := h2
    exact .inr ⟨_, rfl, h.cells rfl⟩

end Go.Proofs.Ytnhiodmigmmfgaa
/- A memory and its views, over a plain bank. -/
namespace Go.Proofs.Ytnhiodmigmmfgaa
open Go.RowKit Go.Shelf

def IsMem (W : World) (m b : Nat) : Prop := W.heap[m]? = some (.cells #[.iface 85 (.pointer (some ⟨b, 0, none⟩)), .bool false] 82 (0, 0))
def IsView (W : World) (v b : Nat) (th : Int) (made : Nat) : Prop := W.heap[v]? = some (.cells #[.iface 85 (.pointer (some ⟨b, 0, none⟩)), .int .i64 th, .int .i64 (made : Int)] 109 (0, 0))
theorem IsMem.chg {W W' : World} {F : Nat → Prop} {m b : Nat} (h : IsMem W m b) (hc : Chg F W W') (hn : ¬ F m) : IsMem W' m b := (hc.block m (lt_of h) hn).trans h
theorem IsView.chg {W W' : World} {F : Nat → Prop} {v b : Nat} {th : Int} {made : Nat} (h : IsView W v b th made) (hc : Chg F W W') (hn : ¬ F v) : IsView W' v b th made := (hc.block v (lt_of h) hn).trans h
theorem IsMem.lt {W : World} {m b : Nat} (h : IsMem W m b) : m < W.heap.size := lt_of h
theorem IsView.lt {W : World} {v b : Nat} {th : Int} {made : Nat} (h : IsView W v b th made) : v < W.heap.size := lt_of h

theorem mt_load (a : Addr) (w : World) : (method 264 85 (.pointer (some a)) "shutter/arena.load").run Try.prog w = .ok (98, .pointer (some a)) w := by kernel_rfl
theorem mt_store (a : Addr) (w : World) : (method 264 85 (.pointer (some a)) "shutter/arena.store").run Try.prog w = .ok (102, .pointer (some a)) w := by kernel_rfl
theorem mt_cas (a : Addr) (w : World) : (method 264 85 (.pointer (some a)) "shutter/arena.cas").run Try.prog w = .ok (95, .pointer (some a)) w := by kernel_rfl
theorem mt_add (a : Addr) (w : World) : (method 264 85 (.pointer (some a)) "shutter/arena.add").run Try.prog w = .ok (93, .pointer (some a)) w := by kernel_rfl
theorem mt_alloc (a : Addr) (w : World) : (method 264 85 (.pointer (some a)) "shutter/arena.alloc").run Try.prog w = .ok (94, .pointer (some a)) w := by kernel_rfl
theorem mt_note (a : Addr) (w : World) : (method 264 85 (.pointer (some a)) "shutter/arena.note").run Try.prog w = .ok (100, .pointer (some a)) w := by kernel_rfl
theorem mt_made (a : Addr) (w : World) : (method 264 85 (.pointer (some a)) "shutter/arena.made").run Try.prog w = .ok (99, .pointer (some a)) w := by kernel_rfl
set_option maxRecDepth 100000 in
theorem m_peek (m b most next addr : Nat) (F : Nat → Prop) (cs : List Nat) (l : List Acc) (W : World) (hm : IsMem W m b) (h : Bank W F b most next cs l) (ha : addr < 18446744073709551616) :
    Calls Try.prog 8 #[.pointer (some ⟨m, 0, none⟩), .int .u64 (addr : Int)] W fun e W' => e = .returned (.int .u64 (cellN cs addr : Int)) ∧ W' = W := by
  have c0 : W.cell? ⟨m, 0, none⟩ = some (.iface 85 (.pointer (some ⟨b, 0, none⟩))) := cell_of hm 0
  have q := mt_load ⟨b, 0, none⟩
  have H := keepH h
  clear h hm
  go_enter Try.func8, Try.ntmps8
  go_wp2_with fail
  refine (p_load b most next addr F cs l _ H.out ha).mono ?_
  rintro e w' ⟨rfl, rfl⟩
  go_wp2_with fail
  go_ret
  exact ⟨by simp, rfl⟩

set_option maxRecDepth 100000 in
theorem m_made (m b most next : Nat) (F : Nat → Prop) (cs : List Nat) (l : List Acc) (W : World) (hm : IsMem W m b) (h : Bank W F b most next cs l) :
    Calls Try.prog 30 #[.pointer (some ⟨m, 0, none⟩)] W fun e W' => e = .returned (.int .i64 (l.length : Int)) ∧ W' = W := by
  have c0 : W.cell? ⟨m, 0, none⟩ = some (.iface 85 (.pointer (some ⟨b, 0, none⟩))) := cell_of hm 0
  have q := mt_made ⟨b, 0, none⟩
  have H := keepH h
  clear h hm
  go_enter Try.func30, Try.ntmps30
  go_wp2_with fail
  refine (p_made b most next F cs l _ H.out).mono ?_
  rintro e w' ⟨rfl, rfl⟩
  go_wp2_with fail
  go_ret
  exact ⟨by simp, rfl⟩

set_option maxRecDepth 100000 in
theorem m_view (m b : Nat) (th : Int) (W : World) (hm : IsMem W m b) : Calls Try.prog 19 #[.pointer (some ⟨m, 0, none⟩), .int .i64 th] W fun e W' => e = .returned (.pointer (some ⟨W.heap.size, 0, none⟩)) ∧ W' = W.alloc (.cells #[.iface 85 (.pointer (some ⟨b, 0, none⟩)), .int .i64 th, .int .i64 0] 109) := by
  have c0 : W.cell? ⟨m, 0, none⟩ = some (.iface 85 (.pointer (some ⟨b, 0, none⟩))) := cell_of hm 0
  clear hm
  go_enter Try.func19, Try.ntmps19
  go_wp2_with fail
  go_ret
  exact ⟨by simp, rfl⟩

end Go.Proofs.Ytnhiodmigmmfgaa
/- A view counts an access, and writes it down. -/
namespace Go.Proofs.Ytnhiodmigmmfgaa
open Go.RowKit Go.Shelf

theorem Reads.chg {W W' : World} {F : Nat → Prop} {p : Option Addr} {vals : List Nat} (h : Reads W p vals) (hc : Chg F W W') (hne : ∀ ad, p = some ad → vals ≠ [] → ¬ F ad.block) : Reads W' p vals := by
  rcases h with h | ⟨ad, rfl, h⟩
  · exact .inl h
  · exact .inr ⟨ad, rfl, fun j u hj => cell_chg hc (h j u hj) (by rw [add_block]; exact hne ad rfl (fun e => by rw [e] at hj; simp at hj))⟩

/-- A view's own block may change too. -/
structure GoesV (W W' : World) (F F' : Nat → Prop) (v : Nat) : Prop where
  chg : Chg (fun k => F k ∨ k = v) W W'
  new : ∀ k, F' k → F k ∨ W.heap.size ≤ k

set_option maxRecDepth 100000 in
theorem v_count (v b most next made : Nat) (th th0 : Int) (kind addr x y got : Nat) (ok : Bool) (p : Option Addr) (c : Nat) (vals : List Nat) (F : Nat → Prop) (cs : List Nat) (l : List Acc) (W : World) (hw : IsView W v b th made) (h : Bank W F b most next cs l) (hnv : ¬ F v) (hmd : made < 1099511627776)
    (hr : Reads W p vals) (hpv : ∀ ad, p = some ad → vals ≠ [] → ad.block ≠ v) (hv : vals.length ≤ 17592186043904) (hl : l.length < 1099511627776) :
    Calls Try.prog 37 #[.pointer (some ⟨v, 0, none⟩), accV th0 kind addr x y (.slice p vals.length c) got ok] W fun e W' => e = .returned (.tuple #[]) ∧ ∃ F' vs, Bank W' F' b most next cs (l ++ [⟨th, kind, addr, x, y, vs, vals, got, ok⟩]) ∧ IsView W' v b th (made + 1) ∧ GoesV W W' F F' v := by
  have c0 : W.cell? ⟨v, 0, none⟩ = some (.iface 85 (.pointer (some ⟨b, 0, none⟩))) := cell_of hw 0
  have c1 : W.cell? ⟨v, 1, none⟩ = some (.int .i64 th) := cell_of hw 1
  have c2 : W.cell? ⟨v, 2, none⟩ = some (.int .i64 (made : Int)) := cell_of hw 2
  have f2 := free_of hw 2
  have q := mt_note ⟨b, 0, none⟩
  obtain ⟨md, hmd'⟩ : ∃ md, md = made + 1 := ⟨_, rfl⟩
  have wn : IntKind.i64.wrap ((made : Int) + 1) = (md : Int) := by rw [IntKind.wrap_i64]; omega
  have HMD := keepH hmd'
  clear hmd'
  have HW := keepH hw
  have H := keepH h
  have HR := keepH hr
  have hlt := lt_of hw
  have ne1 : ¬ v = W.heap.size := by omega
  have ne2 : ¬ W.heap.size = v := by omega
  have hv1 : Hid ((W.setCell ⟨v, 2, none⟩ (.int .i64 (md : Int))).heap[v]? = some (.cells #[.iface 85 (.pointer (some ⟨b, 0, none⟩)), .int .i64 th, .int .i64 (md : Int)] 109 (0, 0))) := set_of hw 2 _
  have ka : ∀ o, ((W.setCell ⟨v, 2, none⟩ (.int .i64 (md : Int))).alloc o).cell? ⟨v, 0, none⟩ = some (.iface 85 (.pointer (some ⟨b, 0, none⟩))) := fun o => cell_of (alloc_of hv1.out o) 0
  have HX : Hid (∀ o, Chg (fun k => F k ∨ k = v) W ((W.setCell ⟨v, 2, none⟩ (.int .i64 (md : Int))).alloc o).drew) := fun o => (((Chg.refl _ W).setCell (p := ⟨v, 2, none⟩) (fun _ => .inr rfl) _).alloc o).drew
  have HY : Hid (∀ o, Chg (fun k => k = v) W ((W.setCell ⟨v, 2, none⟩ (.int .i64 (md : Int))).alloc o).drew) := fun o => (((Chg.refl (fun k => k = v) W).setCell (p := ⟨v, 2, none⟩) (fun _ => rfl) _).alloc o).drew
  unfold accV
  clear h hw hr
  go_enter Try.func37, Try.ntmps37
  go_wp2_with fail
  go_region_with (go_at_call 100; refine (p_note b most next th kind addr x y got ok p c vals F cs l _ (H.out.chg (HY.out _) (fun k hk e => hnv (by rw [← e]; exact hk))) (HR.out.chg (HY.out _) hpv) hv hl).mono ?_; rintro e w2 ⟨rfl, F1, vs, B1, G1⟩; have HB1 := keepH B1; clear B1)
  all_goals (go_wp2_with fail)
  all_goals go_end0
  all_goals
    refine ⟨rfl, F1, vs, HB1.out, ?_, ?_, ?_⟩
    · have e := HMD.out
      subst e
      exact (G1.chg.block v (by simp; omega) hnv).trans (alloc_of hv1.out _)
    · exact (HX.out _).trans G1.chg (fun _ _ h => h) (fun _ _ h => .inl h)
    · intro k hk
      rcases G1.new k hk with e | e
      · exact .inl e
      · exact .inr (Nat.le_trans (HX.out _).size e)
end Go.Proofs.Ytnhiodmigmmfgaa
/- What a view's accesses do. -/
namespace Go.Proofs.Ytnhiodmigmmfgaa
open Go.RowKit Go.Shelf

theorem Goes.thenV {W W1 W2 : World} {F F1 F2 : Nat → Prop} {v : Nat} (h : Goes W W1 F F1) (k : GoesV W1 W2 F1 F2 v) : GoesV W W2 F F2 v :=
  ⟨h.chg.trans k.chg (fun _ _ x => .inl x) (fun i hi x => x.elim (fun y => .inl ((h.new i y).resolve_right (by omega))) .inr), fun i x => (k.new i x).elim (h.new i) (fun y => .inr (Nat.le_trans h.chg.size y))⟩
theorem Goes.out {W W1 : World} {F F1 : Nat → Prop} {v : Nat} (h : Goes W W1 F F1) (hv : v < W.heap.size) (hn : ¬ F v) : ¬ F1 v := fun x => (h.new v x).elim hn (fun y => by omega)
theorem GoesV.trans {W W1 W2 : World} {F F1 F2 : Nat → Prop} {v : Nat} (h : GoesV W W1 F F1 v) (k : GoesV W1 W2 F1 F2 v) : GoesV W W2 F F2 v :=
  ⟨h.chg.trans k.chg (fun _ _ x => x) (fun i hi x => x.elim (fun y => .inl ((h.new i y).resolve_right (by omega))) .inr), fun i x => (k.new i x).elim (h.new i) (fun y => .inr (Nat.le_trans h.chg.size y))⟩
theorem GoesV.out {W W1 : World} {F F1 : Nat → Prop} {v u : Nat} (h : GoesV W W1 F F1 u) (hv : v < W.heap.size) (hn : ¬ F v) : ¬ F1 v := fun x => (h.new v x).elim hn (fun y => by omega)

set_option maxRecDepth 100000 in
theorem v_load (v b most next made : Nat) (th : Int) (addr : Nat) (F : Nat → Prop) (cs : List Nat) (l : List Acc) (W : World) (hw : IsView W v b th made) (h : Bank W F b most next cs l) (hnv : ¬ F v) (hmd : made < 1099511627776) (hl : l.length < 1099511627776) (ha : addr < 18446744073709551616) :
    Calls Try.prog 65 #[.pointer (some ⟨v, 0, none⟩), .int .u64 (addr : Int)] W fun e W' => e = .returned (.int .u64 (cellN cs addr : Int)) ∧ ∃ F' vs, Bank W' F' b most next cs (l ++ [⟨th, 1, addr, 0, 0, vs, [], cellN cs addr, false⟩]) ∧ IsView W' v b th (made + 1) ∧ GoesV W W' F F' v := by
  have c0 : W.cell? ⟨v, 0, none⟩ = some (.iface 85 (.pointer (some ⟨b, 0, none⟩))) := cell_of hw 0
  have q := mt_load ⟨b, 0, none⟩
  have HW := keepH hw
  have H := keepH h
  clear h hw
  go_enter Try.func65, Try.ntmps65
  go_wp2_with fail
  refine (p_load b most next addr F cs l _ H.out ha).mono ?_
  rintro e w1 ⟨rfl, rfl⟩
  have HB1 := H
  have hV1 := HW
  have hN1 := hnv
  have G1 := Goes.refl w1 F
  go_wp2_with fail
  refine (v_count v b most next made th 0 1 addr 0 0 (cellN cs addr) false none 0 [] F cs l _ HW.out HB1.out hN1 hmd (.inl rfl) (fun ad e => by simp at e) (by simp) hl).mono ?_
  rintro e w2 ⟨rfl, F2, vs, B2, V2, G2⟩
  have HB2 := keepH B2
  have HV2 := keepH V2
  clear B2 V2
  go_wp2_with fail
  go_ret
  exact ⟨by simp, F2, vs, HB2.out, HV2.out, G1.thenV G2⟩

set_option maxRecDepth 100000 in
theorem v_store (v b most next made : Nat) (th : Int) (addr value : Nat) (F : Nat → Prop) (cs : List Nat) (l : List Acc) (W : World) (hw : IsView W v b th made) (h : Bank W F b most next cs l) (hnv : ¬ F v) (hmd : made < 1099511627776) (hl : l.length < 1099511627776) (ha : addr < 18446744073709551616) (hu : value < 18446744073709551616) :
    Calls Try.prog 20 #[.pointer (some ⟨v, 0, none⟩), .int .u64 (addr : Int), .int .u64 (value : Int)] W fun e W' => e = .returned (.tuple #[]) ∧ ∃ F' vs, Bank W' F' b most next (stN most cs addr value) (l ++ [⟨th, 2, addr, value, 0, vs, [], 0, false⟩]) ∧ IsView W' v b th (made + 1) ∧ GoesV W W' F F' v := by
  have c0 : W.cell? ⟨v, 0, none⟩ = some (.iface 85 (.pointer (some ⟨b, 0, none⟩))) := cell_of hw 0
  have q := mt_store ⟨b, 0, none⟩
  have HW := keepH hw
  have H := keepH h
  clear h hw
  go_enter Try.func20, Try.ntmps20
  go_wp2_with fail
  refine (p_store b most next addr value F cs l _ H.out ha hu).mono ?_
  rintro e w1 ⟨rfl, F1, B1, G1⟩
  have HB1 := keepH B1
  have hV1 : Hid (IsView w1 v b th made) := HW.out.chg G1.chg hnv
  have hN1 : ¬ F1 v := G1.out HW.out.lt hnv
  clear B1
  go_wp2_with fail
  refine (v_count v b most next made th 0 2 addr value 0 0 false none 0 [] F1 (stN most cs addr value) l _ hV1.out HB1.out hN1 hmd (.inl rfl) (fun ad e => by simp at e) (by simp) hl).mono ?_
  rintro e w2 ⟨rfl, F2, vs, B2, V2, G2⟩
  have HB2 := keepH B2
  have HV2 := keepH V2
  clear B2 V2
  go_wp2_with fail
  go_end0
  exact ⟨rfl, F2, vs, HB2.out, HV2.out, G1.thenV G2⟩

set_option maxRecDepth 100000 in
theorem v_cas (v b most next made : Nat) (th : Int) (addr old now : Nat) (F : Nat → Prop) (cs : List Nat) (l : List Acc) (W : World) (hw : IsView W v b th made) (h : Bank W F b most next cs l) (hnv : ¬ F v) (hmd : made < 1099511627776) (hl : l.length < 1099511627776) (ha : addr < 18446744073709551616) (hu : now < 18446744073709551616) :
    Calls Try.prog 66 #[.pointer (some ⟨v, 0, none⟩), .int .u64 (addr : Int), .int .u64 (old : Int), .int .u64 (now : Int)] W fun e W' => e = .returned (.bool (casOk most cs addr old)) ∧ ∃ F' vs, Bank W' F' b most next (casN most cs addr old now) (l ++ [⟨th, 3, addr, old, now, vs, [], 0, casOk most cs addr old⟩]) ∧ IsView W' v b th (made + 1) ∧ GoesV W W' F F' v := by
  have c0 : W.cell? ⟨v, 0, none⟩ = some (.iface 85 (.pointer (some ⟨b, 0, none⟩))) := cell_of hw 0
  have q := mt_cas ⟨b, 0, none⟩
  have HW := keepH hw
  have H := keepH h
  clear h hw
  go_enter Try.func66, Try.ntmps66
  go_wp2_with fail
  refine (p_cas b most next addr old now F cs l _ H.out ha hu).mono ?_
  rintro e w1 ⟨rfl, F1, B1, G1⟩
  have HB1 := keepH B1
  have hV1 : Hid (IsView w1 v b th made) := HW.out.chg G1.chg hnv
  have hN1 : ¬ F1 v := G1.out HW.out.lt hnv
  clear B1
  go_wp2_with fail
  refine (v_count v b most next made th 0 3 addr old now 0 (casOk most cs addr old) none 0 [] F1 (casN most cs addr old now) l _ hV1.out HB1.out hN1 hmd (.inl rfl) (fun ad e => by simp at e) (by simp) hl).mono ?_
  rintro e w2 ⟨rfl, F2, vs, B2, V2, G2⟩
  have HB2 := keepH B2
  have HV2 := keepH V2
  clear B2 V2
  go_wp2_with fail
  go_ret
  exact ⟨by simp, F2, vs, HB2.out, HV2.out, G1.thenV G2⟩

set_option maxRecDepth 100000 in
theorem v_add (v b most next made : Nat) (th : Int) (addr n : Nat) (F : Nat → Prop) (cs : List Nat) (l : List Acc) (W : World) (hw : IsView W v b th made) (h : Bank W F b most next cs l) (hnv : ¬ F v) (hmd : made < 1099511627776) (hl : l.length < 1099511627776) (ha : addr < 18446744073709551616) :
    Calls Try.prog 67 #[.pointer (some ⟨v, 0, none⟩), .int .u64 (addr : Int), .int .u64 (n : Int)] W fun e W' => e = .returned (.int .u64 (cellN cs addr : Int)) ∧ ∃ F' vs, Bank W' F' b most next (stN most cs addr (addN (cellN cs addr) n)) (l ++ [⟨th, 4, addr, n, 0, vs, [], cellN cs addr, false⟩]) ∧ IsView W' v b th (made + 1) ∧ GoesV W W' F F' v := by
  have c0 : W.cell? ⟨v, 0, none⟩ = some (.iface 85 (.pointer (some ⟨b, 0, none⟩))) := cell_of hw 0
  have q := mt_add ⟨b, 0, none⟩
  have HW := keepH hw
  have H := keepH h
  clear h hw
  go_enter Try.func67, Try.ntmps67
  go_wp2_with fail
  refine (p_add b most next addr n F cs l _ H.out ha).mono ?_
  rintro e w1 ⟨rfl, F1, B1, G1⟩
  have HB1 := keepH B1
  have hV1 : Hid (IsView w1 v b th made) := HW.out.chg G1.chg hnv
  have hN1 : ¬ F1 v := G1.out HW.out.lt hnv
  clear B1
  go_wp2_with fail
  refine (v_count v b most next made th 0 4 addr n 0 (cellN cs addr) false none 0 [] F1 (stN most cs addr (addN (cellN cs addr) n)) l _ hV1.out HB1.out hN1 hmd (.inl rfl) (fun ad e => by simp at e) (by simp) hl).mono ?_
  rintro e w2 ⟨rfl, F2, vs, B2, V2, G2⟩
  have HB2 := keepH B2
  have HV2 := keepH V2
  clear B2 V2
  go_wp2_with fail
  go_ret
  exact ⟨by simp, F2, vs, HB2.out, HV2.out, G1.thenV G2⟩

set_option maxRecDepth 100000 in
theorem v_alloc (v b most next made : Nat) (th : Int) (p : Option Addr) (c : Nat) (vals : List Nat) (F : Nat → Prop) (cs : List Nat) (l : List Acc) (W : World) (hw : IsView W v b th made) (h : Bank W F b most next cs l) (hnv : ¬ F v) (hmd : made < 1099511627776) (hl : l.length < 1099511627776)
    (hr : Reads W p vals) (hap : ∀ ad, p = some ad → vals ≠ [] → ¬ F ad.block) (hpv : ∀ ad, p = some ad → vals ≠ [] → ad.block ≠ v) (hv : ∀ x ∈ vals, x < 18446744073709551616) (hvl : vals.length ≤ 17592186043904) :
    Calls Try.prog 68 #[.pointer (some ⟨v, 0, none⟩), .slice p vals.length c] W fun e W' => e = .returned (.int .u64 (alAt most next vals.length : Int)) ∧ ∃ F' vs, Bank W' F' b most (alNext most next vals.length) (alN most next cs vals) (l ++ [⟨th, 5, alAt most next vals.length, 0, 0, vs, vals, 0, false⟩]) ∧ IsView W' v b th (made + 1) ∧ GoesV W W' F F' v := by
  have c0 : W.cell? ⟨v, 0, none⟩ = some (.iface 85 (.pointer (some ⟨b, 0, none⟩))) := cell_of hw 0
  have q := mt_alloc ⟨b, 0, none⟩
  have HW := keepH hw
  have H := keepH h
  have HR := keepH hr
  clear h hw hr
  go_enter Try.func68, Try.ntmps68
  go_wp2_with fail
  refine (p_alloc b most next p c vals F cs l _ H.out HR.out hap hv).mono ?_
  rintro e w1 ⟨rfl, F1, B1, G1⟩
  have HB1 := keepH B1
  have hV1 : Hid (IsView w1 v b th made) := HW.out.chg G1.chg hnv
  have hN1 : ¬ F1 v := G1.out HW.out.lt hnv
  have HR1 : Hid (Reads w1 p vals) := HR.out.chg G1.chg hap
  clear B1
  go_wp2_with fail
  refine (v_count v b most (alNext most next vals.length) made th 0 5 (alAt most next vals.length) 0 0 0 false p c vals F1 (alN most next cs vals) l _ hV1.out HB1.out hN1 hmd HR1.out hpv hvl hl).mono ?_
  rintro e w2 ⟨rfl, F2, vs, B2, V2, G2⟩
  have HB2 := keepH B2
  have HV2 := keepH V2
  clear B2 V2
  go_wp2_with fail
  go_ret
  exact ⟨by simp, F2, vs, HB2.out, HV2.out, G1.thenV G2⟩

/-- A new plain memory. -/
theorem bank_new (W : World) (n : Nat) (hn : 128 ≤ n ∧ n ≤ 4194304) : Bank (W.alloc (.cells #[.slice none 0 0, .int .i64 (n : Int), .int .i64 1, .slice none 0 0] 126)) (fun k => k = W.heap.size) W.heap.size n 1 [] [] :=
  ⟨.slice none 0 0, .slice none 0 0, heap_alloc_new _ _, World.ownsRow_nil _ _ _ _, World.ownsRow_nil _ _ _ _, fun x hx => by simp at hx, fun x hx => by simp at hx, rfl, fun k e => by simp [Value.ownBlock] at e, fun k e => by simp [Value.ownBlock] at e, fun x hx => by simp at hx, fun k e => by simp [e], by omega, by omega, by simp, fun x hx => by simp at hx⟩

set_option maxRecDepth 100000 in
theorem new_plain (n : Nat) (W : World) :
    Calls Try.prog 26 #[.int .i64 (n : Int)] W fun e W' => e = .returned (.pointer (some ⟨W.heap.size, 0, none⟩)) ∧ W' = W.alloc (.cells #[.slice none 0 0, .int .i64 (n : Int), .int .i64 1, .slice none 0 0] 126) := by
  go_enter Try.func26, Try.ntmps26
  go_wp2_with fail
  go_ret
  exact ⟨by simp, rfl⟩

set_option maxRecDepth 100000 in
theorem m_new (n : Nat) (W : World) (hn : 128 ≤ n ∧ n ≤ 4194304) :
    Calls Try.prog 10 #[.int .i64 (n : Int), .bool false] W fun e W' => e = .returned (.tuple #[.pointer (some ⟨W.heap.size + 1, 0, none⟩), .int .i64 0]) ∧ IsMem W' (W.heap.size + 1) W.heap.size ∧ Bank W' (fun k => k = W.heap.size) W.heap.size n 1 [] [] ∧ Chg (fun _ => False) W W' ∧ W'.heap.size = W.heap.size + 2 := by
  have t1 : ¬ (n : Int) < 128 := by omega
  have t2 : ¬ (4194304 : Int) < (n : Int) := by omega
  go_enter Try.func10, Try.ntmps10
  go_wp2_with fail
  refine (new_plain n _).mono ?_
  rintro e w' ⟨rfl, rfl⟩
  go_wp2_with fail
  go_ret2
  refine ⟨by simp, ?_, ?_, ((Chg.refl _ W).alloc _).alloc _, by simp⟩
  · have e := heap_alloc_new (W.alloc (.cells #[.slice none 0 0, .int .i64 (n : Int), .int .i64 1, .slice none 0 0] 126)) (.cells #[.iface 85 (.pointer (some ⟨W.heap.size, 0, none⟩)), .bool false] 82)
    rw [World.size_alloc] at e
    exact e
  · exact (bank_new W n hn).chg ((Chg.refl (fun _ => False) _).alloc _) (fun _ _ h => h)
end Go.Proofs.Ytnhiodmigmmfgaa
/- A runner: what lies where; what stays, and what a store into it leaves. -/
namespace Go.Proofs.Ytnhiodmigmmfgaa
open Go.RowKit Go.Shelf

theorem rowOf_get {α : Type} (f : α → List Value) (s : Nat) (hs : ∀ x, (f x).length = s) (l : List α) (j k : Nat) (hk : k < s) : (l.flatMap f)[j * s + k]? = (l[j]?).bind fun x => (f x)[k]? := by
  induction l generalizing j with
  | nil => simp
  | cons x r ih =>
    rw [List.flatMap_cons]
    cases j with
    | zero => rw [List.getElem?_append_left (by rw [hs]; omega)]; simp
    | succ j => rw [List.getElem?_append_right (by rw [hs, Nat.add_mul]; omega), hs, show (j + 1) * s + k - s = j * s + k by rw [Nat.add_mul]; omega, ih]; simp
theorem rowOf_set {α : Type} (f : α → List Value) (s : Nat) (hs : ∀ x, (f x).length = s) (l : List α) (j k : Nat) (hk : k < s) (x x' : α) (hj : l[j]? = some x) (v : Value) (hx : (f x).set k v = f x') : (l.flatMap f).set (j * s + k) v = (l.set j x').flatMap f := by
  induction l generalizing j with
  | nil => simp at hj
  | cons y r ih =>
    cases j with
    | zero =>
      simp at hj
      subst hj
      simp only [List.flatMap_cons, List.set_cons_zero]
      rw [List.set_append_left _ _ (by rw [hs]; omega), ← hx]
      simp
    | succ j =>
      simp only [List.flatMap_cons, List.set_cons_succ]
      rw [List.set_append_right _ _ (by rw [hs, Nat.add_mul]; omega), hs, show (j + 1) * s + k - s = j * s + k by rw [Nat.add_mul]; omega, ih j (by simpa using hj)]

def i64V (x : Int) : Value := .int .i64 x
structure Thr where
  cv : Value
  calls : List Value
  next : Nat
  begun : Bool
def Thr.cells (x : Thr) : List Value := [x.cv, .int .i64 (x.next : Int), .bool x.begun]
def thrRow (l : List Thr) : List Value := l.flatMap Thr.cells
structure Ev where
  st : Int
  th : Int
  ix : Int
  ret : Bool
def Ev.cells (x : Ev) : List Value := [.int .i64 x.st, .int .i64 x.th, .int .i64 x.ix, .bool x.ret]
def evRow (l : List Ev) : List Value := l.flatMap Ev.cells
def runL (m : Nat) (vw : List Value) (tv : Value) (steps : Nat) (ev av : Value) : List Value := .pointer (some ⟨m, 0, none⟩) :: (vw ++ [tv, .int .i64 (steps : Int), ev, av])

structure RunAt (W : World) (G : Nat → Prop) (r m : Nat) (vw : List Value) (tv ev av : Value) (ths : List Thr) (steps : Nat) (evs : List Ev) (ats : List Int) : Prop where
  blk : W.heap[r]? = some (.cells (runL m vw tv steps ev av).toArray 91 (0, 0))
  vlen : vw.length = 64
  tr : W.ownsRow 0 94 3 tv ths.length (thrRow ths)
  calls : ∀ x ∈ ths, W.ownsRow 0 77 1 x.cv x.calls.length x.calls
  er : W.ownsRow 0 99 4 ev evs.length (evRow evs)
  ar : W.ownsRow 0 3 1 av ats.length (ats.map i64V)
  inr : G r
  int : ∀ k, tv.ownBlock = some k → G k
  inc : ∀ x ∈ ths, ∀ k, x.cv.ownBlock = some k → G k
  ine : ∀ k, ev.ownBlock = some k → G k
  ina : ∀ k, av.ownBlock = some k → G k
  lt : ∀ k, G k → k < W.heap.size
  thl : ths.length ≤ 64
  nxt : ∀ x ∈ ths, x.next ≤ x.calls.length ∧ x.calls.length ≤ 4096

theorem RunAt.kept {W W' : World} {G : Nat → Prop} {r m : Nat} {vw : List Value} {tv ev av : Value} {ths : List Thr} {steps : Nat} {evs : List Ev} {ats : List Int} (h : RunAt W G r m vw tv ev av ths steps evs ats) (hs : W.heap.size ≤ W'.heap.size) (hk : ∀ k, G k → W'.heap[k]? = W.heap[k]?) : RunAt W' G r m vw tv ev av ths steps evs ats :=
  ⟨(hk r h.inr).trans h.blk, h.vlen, row_kept h.tr fun k e => hk k (h.int k e), fun x hx => row_kept (h.calls x hx) fun k e => hk k (h.inc x hx k e), row_kept h.er fun k e => hk k (h.ine k e), row_kept h.ar fun k e => hk k (h.ina k e),
    h.inr, h.int, h.inc, h.ine, h.ina, fun k e => Nat.lt_of_lt_of_le (h.lt k e) hs, h.thl, h.nxt⟩
theorem RunAt.chg {W W' : World} {G K : Nat → Prop} {r m : Nat} {vw : List Value} {tv ev av : Value} {ths : List Thr} {steps : Nat} {evs : List Ev} {ats : List Int} (h : RunAt W G r m vw tv ev av ths steps evs ats) (hc : Chg K W W') (hd : ∀ k, G k → ¬ K k) : RunAt W' G r m vw tv ev av ths steps evs ats :=
  h.kept hc.size fun k e => hc.block k (h.lt k e) (hd k e)

theorem runL_view (m : Nat) (vw : List Value) (tv : Value) (steps : Nat) (ev av : Value) (hv : vw.length = 64) (i : Nat) (hi : i < 64) : (runL m vw tv steps ev av)[1 + i]? = vw[i]? := by
  rw [Nat.add_comm]; simp only [runL, List.getElem?_cons_succ]; rw [List.getElem?_append_left (by omega)]
theorem runL_at (m : Nat) (vw : List Value) (tv : Value) (steps : Nat) (ev av : Value) (hv : vw.length = 64) (k : Nat) : (runL m vw tv steps ev av)[65 + k]? = [tv, .int .i64 (steps : Int), ev, av][k]? := by
  rw [show 65 + k = (64 + k) + 1 by omega]; simp only [runL, List.getElem?_cons_succ]; rw [List.getElem?_append_right (by omega), hv, show 64 + k - 64 = k by omega]
theorem runL_set (m : Nat) (vw : List Value) (tv : Value) (steps : Nat) (ev av : Value) (hv : vw.length = 64) (k : Nat) (v : Value) : (runL m vw tv steps ev av).set (65 + k) v = .pointer (some ⟨m, 0, none⟩) :: (vw ++ [tv, .int .i64 (steps : Int), ev, av].set k v) := by
  rw [show 65 + k = (64 + k) + 1 by omega]; simp only [runL, List.set_cons_succ]; rw [List.set_append_right _ _ (by omega), hv, show 64 + k - 64 = k by omega]
theorem runL_setv (m : Nat) (vw : List Value) (tv : Value) (steps : Nat) (ev av : Value) (hv : vw.length = 64) (i : Nat) (hi : i < 64) (v : Value) : (runL m vw tv steps ev av).set (1 + i) v = runL m (vw.set i v) tv steps ev av := by
  rw [Nat.add_comm]; simp only [runL, List.set_cons_succ]; rw [List.set_append_left _ _ (by omega)]

section
variable {W Y : World} {G : Nat → Prop} {r m : Nat} {vw : List Value} {tv ev av : Value} {ths : List Thr} {steps : Nat} {evs : List Ev} {ats : List Int}

theorem RunAt.cell0 (h : RunAt W G r m vw tv ev av ths steps evs ats) : W.cell? ⟨r, 0, none⟩ = some (.pointer (some ⟨m, 0, none⟩)) := (cell_of h.blk 0).trans rfl
theorem RunAt.cellv (h : RunAt W G r m vw tv ev av ths steps evs ats) (i : Nat) (hi : i < 64) : W.cell? ⟨r, 1 + i, none⟩ = vw[i]? := by rw [cell_of h.blk, List.getElem?_toArray, runL_view _ _ _ _ _ _ h.vlen i hi]
theorem RunAt.cellk (h : RunAt W G r m vw tv ev av ths steps evs ats) (k : Nat) : W.cell? ⟨r, 65 + k, none⟩ = [tv, .int .i64 (steps : Int), ev, av][k]? := by rw [cell_of h.blk, List.getElem?_toArray, runL_at _ _ _ _ _ _ h.vlen k]
theorem RunAt.free (h : RunAt W G r m vw tv ev av ths steps evs ats) (k : Nat) : W.frozen? ⟨r, k, none⟩ = false := free_of h.blk k

/-- A step more is counted. -/
theorem RunAt.setSteps (h : RunAt W G r m vw tv ev av ths steps evs ats) (n : Nat) : RunAt (W.setCell ⟨r, 66, none⟩ (.int .i64 (n : Int))) G r m vw tv ev av ths n evs ats := by
  have ob : ∀ k, k ≠ r → (W.setCell ⟨r, 66, none⟩ (.int .i64 (n : Int))).heap[k]? = W.heap[k]? := fun k hk => Below.heap_setCell _ _ _ _ hk
  refine ⟨?_, h.vlen, row_kept h.tr fun k e => ob k (fun e2 => block_apart h.tr h.blk (by decide) (by rw [e, e2])), fun x hx => row_kept (h.calls x hx) fun k e => ob k (fun e2 => block_apart (h.calls x hx) h.blk (by decide) (by rw [e, e2])), row_kept h.er fun k e => ob k (fun e2 => block_apart h.er h.blk (by decide) (by rw [e, e2])), row_kept h.ar fun k e => ob k (fun e2 => block_apart h.ar h.blk (by decide) (by rw [e, e2])), h.inr, h.int, h.inc, h.ine, h.ina, fun k e => by simpa [World.setCell] using h.lt k e, h.thl, h.nxt⟩
  have e := set_of h.blk 66 (.int .i64 (n : Int))
  rw [e]
  congr 2
  apply Array.ext'
  simp only [Array.toList_setIfInBounds]
  exact runL_set m vw tv steps ev av h.vlen 1 _

/-- Another row of events. -/
theorem RunAt.setEvents (h : RunAt W G r m vw tv ev av ths steps evs ats) {ev' : Value} {evs' : List Ev} (hy : ∀ k, G k → ev.ownBlock ≠ some k → Y.heap[k]? = W.heap[k]?) (hs : W.heap.size ≤ Y.heap.size) (hrow : Y.ownsRow 0 99 4 ev' evs'.length (evRow evs')) :
    RunAt (Y.setCell ⟨r, 67, none⟩ ev') (fun k => G k ∨ ev'.ownBlock = some k) r m vw tv ev' av ths steps evs' ats := by
  have hr : Y.heap[r]? = some (.cells (runL m vw tv steps ev av).toArray 91 (0, 0)) := (hy r h.inr (block_apart h.er h.blk (by decide))).trans h.blk
  have ob : ∀ k, k ≠ r → (Y.setCell ⟨r, 67, none⟩ ev').heap[k]? = Y.heap[k]? := fun k hk => Below.heap_setCell _ _ _ _ hk
  refine ⟨?_, h.vlen, row_kept h.tr fun k e => (ob k (fun e2 => block_apart h.tr h.blk (by decide) (by rw [e, e2]))).trans (hy k (h.int k e) (fun e2 => rows_apart h.er h.tr (by decide) k e2 e)),
    fun x hx => row_kept (h.calls x hx) fun k e => (ob k (fun e2 => block_apart (h.calls x hx) h.blk (by decide) (by rw [e, e2]))).trans (hy k (h.inc x hx k e) (fun e2 => rows_apart h.er (h.calls x hx) (by decide) k e2 e)),
    row_kept hrow fun k e => ob k (fun e2 => block_apart hrow hr (by decide) (by rw [e, e2])),
    row_kept h.ar fun k e => (ob k (fun e2 => block_apart h.ar h.blk (by decide) (by rw [e, e2]))).trans (hy k (h.ina k e) (fun e2 => rows_apart h.er h.ar (by decide) k e2 e)),
    .inl h.inr, fun k e => .inl (h.int k e), fun x hx k e => .inl (h.inc x hx k e), fun k e => .inr e, fun k e => .inl (h.ina k e), ?_, h.thl, h.nxt⟩
  · have e := set_of hr 67 ev'
    rw [e]
    congr 2
    apply Array.ext'
    simp only [Array.toList_setIfInBounds]
    exact runL_set m vw tv steps ev av h.vlen 2 _
  · intro k e
    have s : (Y.setCell ⟨r, 67, none⟩ ev').heap.size = Y.heap.size := by simp [World.setCell]
    rw [s]
    rcases e with e | e
    · exact Nat.lt_of_lt_of_le (h.lt k e) hs
    · exact row_lt hrow k e
/-- Another row of steps. -/
theorem RunAt.setAts (h : RunAt W G r m vw tv ev av ths steps evs ats) {av' : Value} {ats' : List Int} (hy : ∀ k, G k → av.ownBlock ≠ some k → Y.heap[k]? = W.heap[k]?) (hs : W.heap.size ≤ Y.heap.size) (hrow : Y.ownsRow 0 3 1 av' ats'.length (ats'.map i64V)) :
    RunAt (Y.setCell ⟨r, 68, none⟩ av') (fun k => G k ∨ av'.ownBlock = some k) r m vw tv ev av' ths steps evs ats' := by
  have hr : Y.heap[r]? = some (.cells (runL m vw tv steps ev av).toArray 91 (0, 0)) := (hy r h.inr (block_apart h.ar h.blk (by decide))).trans h.blk
  have ob : ∀ k, k ≠ r → (Y.setCell ⟨r, 68, none⟩ av').heap[k]? = Y.heap[k]? := fun k hk => Below.heap_setCell _ _ _ _ hk
  refine ⟨?_, h.vlen, row_kept h.tr fun k e => (ob k (fun e2 => block_apart h.tr h.blk (by decide) (by rw [e, e2]))).trans (hy k (h.int k e) (fun e2 => rows_apart h.ar h.tr (by decide) k e2 e)),
    fun x hx => row_kept (h.calls x hx) fun k e => (ob k (fun e2 => block_apart (h.calls x hx) h.blk (by decide) (by rw [e, e2]))).trans (hy k (h.inc x hx k e) (fun e2 => rows_apart h.ar (h.calls x hx) (by decide) k e2 e)),
    row_kept h.er fun k e => (ob k (fun e2 => block_apart h.er h.blk (by decide) (by rw [e, e2]))).trans (hy k (h.ine k e) (fun e2 => rows_apart h.ar h.er (by decide) k e2 e)),
    row_kept hrow fun k e => ob k (fun e2 => block_apart hrow hr (by decide) (by rw [e, e2])),
    .inl h.inr, fun k e => .inl (h.int k e), fun x hx k e => .inl (h.inc x hx k e), fun k e => .inl (h.ine k e), fun k e => .inr e, ?_, h.thl, h.nxt⟩
  · have e := set_of hr 68 av'
    rw [e]
    congr 2
    apply Array.ext'
    simp only [Array.toList_setIfInBounds]
    exact runL_set m vw tv steps ev av h.vlen 3 _
  · intro k e
    have s : (Y.setCell ⟨r, 68, none⟩ av').heap.size = Y.heap.size := by simp [World.setCell]
    rw [s]
    rcases e with e | e
    · exact Nat.lt_of_lt_of_le (h.lt k e) hs
    · exact row_lt hrow k e

/-- A thread's own cells. -/
theorem RunAt.thrCell {g c : Nat} (h : RunAt W G r m vw (.slice (some ⟨g, 0, none⟩) ths.length c) ev av ths steps evs ats) (i k : Nat) (hk : k < 3) (x : Thr) (hx : ths[i]? = some x) : W.cell? ⟨g, i * 3 + k, none⟩ = x.cells[k]? := by
  have hi : i < ths.length := (List.getElem?_eq_some_iff.1 hx).1
  rw [World.ownsRow.cellAt h.tr (i * 3 + k) (by omega), thrRow, rowOf_get Thr.cells 3 (fun _ => rfl) ths i k hk, hx]
  rfl
theorem RunAt.setThr {g c : Nat} (h : RunAt W G r m vw (.slice (some ⟨g, 0, none⟩) ths.length c) ev av ths steps evs ats) (i k : Nat) (hk : k < 3) (x x' : Thr) (hx : ths[i]? = some x) (v : Value) (hv : x.cells.set k v = x'.cells) (hc : x'.cv = x.cv ∧ x'.calls = x.calls) (hn : x'.next ≤ x'.calls.length) :
    RunAt (W.setCell ⟨g, i * 3 + k, none⟩ v) G r m vw (.slice (some ⟨g, 0, none⟩) ths.length c) ev av (ths.set i x') steps evs ats := by
  have ob : ∀ b, b ≠ g → (W.setCell ⟨g, i * 3 + k, none⟩ v).heap[b]? = W.heap[b]? := fun b hb => Below.heap_setCell _ _ _ _ hb
  have hxm : x ∈ ths := List.mem_of_getElem? hx
  have hm : ∀ y ∈ ths.set i x', ∃ z ∈ ths, y.cv = z.cv ∧ y.calls = z.calls ∧ (y.next ≤ y.calls.length ∧ y.calls.length ≤ 4096) := fun y hy => by
    rcases List.mem_or_eq_of_mem_set hy with hy | hy
    · exact ⟨y, hy, rfl, rfl, h.nxt y hy⟩
    · subst hy
      refine ⟨x, hxm, hc.1, hc.2, hn, ?_⟩
      rw [hc.2]
      exact (h.nxt x hxm).2
  refine ⟨(ob r (fun e => block_apart h.tr h.blk (by decide) (by rw [e]; rfl))).trans h.blk, h.vlen, ?_, fun y hy => ?_, row_kept h.er fun b e => ob b (fun e2 => rows_apart h.tr h.er (by decide) g rfl (by rw [e, e2])), row_kept h.ar fun b e => ob b (fun e2 => rows_apart h.tr h.ar (by decide) g rfl (by rw [e, e2])), h.inr, h.int, fun y hy b e => ?_, h.ine, h.ina, fun b e => by simpa [World.setCell] using h.lt b e, by simpa using h.thl, fun y hy => ?_⟩
  · have e := (World.ownsRow.stored h.tr (i * 3 + k) v).1
    rw [thrRow, rowOf_set Thr.cells 3 (fun _ => rfl) ths i k hk x x' hx v hv] at e
    rw [List.length_set]
    exact e
  · obtain ⟨z, hz, e1, e2, _⟩ := hm y hy
    rw [e1, e2]
    exact row_kept (h.calls z hz) fun b e => ob b (fun e2 => rows_apart h.tr (h.calls z hz) (by decide) g rfl (by rw [e, e2]))
  · obtain ⟨z, hz, e1, _⟩ := hm y hy
    exact h.inc z hz b (by rw [← e1]; exact e)
  · obtain ⟨z, hz, _, _, e3⟩ := hm y hy
    exact e3
end
end Go.Proofs.Ytnhiodmigmmfgaa
