/- The bank of a plain memory: new cells are handed out. -/
import Derived.Test.YtjodechhnobkhaaGreatDoorNote
namespace Go.Proofs.YtjodechhnobkhaaGreatDoor
open Go.RowKit Go.Shelf

theorem BankAt.setNext {W : World} {F : Nat → Prop} {b most next : Nat} {cv av : Value} {cs : List Nat} {l : List Acc} (h : BankAt W F b cv av most next cs l) (n : Nat) (hn : 1 ≤ n ∧ n ≤ most) : BankAt (W.setCell ⟨b, 2, none⟩ (.int .i64 (n : Int))) F b cv av most n cs l := by
  have ob : ∀ k, k ≠ b → (W.setCell ⟨b, 2, none⟩ (.int .i64 (n : Int))).heap[k]? = W.heap[k]? := fun k hk => Below.heap_setCell _ _ _ _ hk
  refine ⟨?_, row_kept h.row fun k e => ob k (fun e2 => block_apart h.row h.blk (by decide) (by rw [e, e2])), row_kept h.acc fun k e => ob k (fun e2 => block_apart h.acc h.blk (by decide) (by rw [e, e2])), fun x hx => row_kept (h.vals x hx) fun k e => ob k (fun e2 => block_apart (h.vals x hx) h.blk (by decide) (by rw [e, e2])), h.ne, h.inb, h.inc, h.ina, h.inv, fun k e => by simpa [World.setCell] using h.lt k e, h.most_le, hn, h.len_le, h.small⟩
  have e := set_of h.blk 2 (.int .i64 (n : Int))
  exact e

/-- copy into a row, as one step of a region that draws. -/
theorem step_copy_row {P : Program} {ops : Array Oper} {o : Oper} {a : Act} {w : World} {K : Act → World → Prop} {Q : Exit → Act → World → Prop} {E : Prop} (hgd : o.guard = none) (d s : Operand) (dT sT : TypeId)
    (ho : o.op = .call { callee := .builtin .copy, args := #[d, s], argTypes := #[dT, sT] }) (elem : TypeId) (hu : P.underlying dT = some (.slice elem)) (hsz : (P.info? elem).map (·.size) = some 1)
    (g off dLen dCap : Nat) (ad : Addr) (sLen sCap : Nat) (hd : a.eval d = .slice (some ⟨g, off, none⟩) dLen dCap) (hs : a.eval s = .slice (some ad) sLen sCap)
    (cur : Array Value) (t : TypeId) (hg : w.heap[g]? = some (.cells cur t (0, 0))) (cs : List Value) (hn : cs.length = Nat.min sLen dLen)
    (hsrc : ∀ j v, cs[j]? = some v → w.cell? (ad.add j) = some v) (hfit : off + cs.length ≤ cur.size) (h1 : ∀ v ∈ cs, v.oneCell' = true)
    (h : K (a.put o.dst (goInt cs.length)) (w.setRow g (cur.toList.take off ++ cs ++ cur.toList.drop (off + cs.length)).toArray)) :
    if Region.wanted o (yielded ops a.tmps) = true then Oper.wp P o a w K Q else E := by
  have hw : Region.wanted o (yielded ops a.tmps) = true := by simp [Region.wanted, hgd]
  rw [if_pos hw]
  have hrun := run_copy_row (P := P) w dT sT o.type elem g off dLen dCap ad sLen sCap cur t cs hu hsz hg hn hsrc hfit h1
  unfold Oper.wp execOp
  simp only [ho, resolve, invoke, builtin, Sem.run_bind, Sem.run_pure, Result.andThen_ok, List.map_toArray, List.map_cons, List.map_nil, hd, hs, hrun]
  exact h

def spliceN (cs : List Nat) (i : Nat) (vals : List Nat) : List Nat := cs.take i ++ vals ++ cs.drop (i + vals.length)
theorem spliceN_length (cs : List Nat) (i : Nat) (vals : List Nat) (h : i + vals.length ≤ cs.length) : (spliceN cs i vals).length = cs.length := by simp [spliceN]; omega
theorem spliceN_cell (cs : List Nat) (i : Nat) (vals : List Nat) (h : i + vals.length ≤ cs.length) (j : Nat) : cellN (spliceN cs i vals) j = if i ≤ j ∧ j < i + vals.length then cellN vals (j - i) else cellN cs j := by
  simp only [cellN, spliceN, List.getD_eq_getElem?_getD]
  have e : min i cs.length = i := by omega
  by_cases h1 : j < i
  · have : ¬ (i ≤ j ∧ j < i + vals.length) := by omega
    rw [if_neg this, List.append_assoc, List.getElem?_append_left (by simp; omega), List.getElem?_take_of_lt h1]
  · by_cases h2 : j < i + vals.length
    · rw [if_pos ⟨by omega, h2⟩, List.append_assoc, List.getElem?_append_right (by simp; omega), List.length_take, e, List.getElem?_append_left (by omega)]
    · have : ¬ (i ≤ j ∧ j < i + vals.length) := by omega
      rw [if_neg this, List.getElem?_append_right (by simp; omega), List.length_append, List.length_take, e, List.getElem?_drop, show i + vals.length + (j - (i + vals.length)) = j by omega]

def alOk (most next n : Nat) : Prop := 0 < n ∧ n ≤ most - next
instance (most next n : Nat) : Decidable (alOk most next n) := inferInstanceAs (Decidable (_ ∧ _))
def alAt (most next n : Nat) : Nat := if alOk most next n then next else 0
def alNext (most next n : Nat) : Nat := if alOk most next n then next + n else next
def alN (most next : Nat) (cs vals : List Nat) : List Nat := if alOk most next vals.length then spliceN (padN cs (next + vals.length)) next vals else cs

theorem BankAt.splice {W : World} {F : Nat → Prop} {b g n c most next : Nat} {av : Value} {cs : List Nat} {l : List Acc} (h : BankAt W F b (.slice (some ⟨g, 0, none⟩) n c) av most next cs l) (cur : Array Value) (hcur : W.heap[g]? = some (.cells cur 42 (0, 0))) (i : Nat) (vals : List Nat) (hi : i + vals.length ≤ cs.length) (hv : ∀ x ∈ vals, x < 18446744073709551616) :
    BankAt (W.setRow g (cur.toList.take i ++ vals.map u64V ++ cur.toList.drop (i + (vals.map u64V).length)).toArray) F b (.slice (some ⟨g, 0, none⟩) n c) av most next (spliceN cs i vals) l := by
  have gb : b ≠ g := fun e => block_apart h.row h.blk (by decide) (by rw [e]; rfl)
  have ob : ∀ k, k ≠ g → (W.setRow g (cur.toList.take i ++ vals.map u64V ++ cur.toList.drop (i + (vals.map u64V).length)).toArray).heap[k]? = W.heap[k]? := fun k hk => setRow_other W g k _ hk
  have hsl := spliceN_length cs i vals hi
  refine ⟨(ob b gb).trans h.blk, ?_, row_kept h.acc fun k e => ob k (fun e2 => rows_apart h.row h.acc (by decide) g rfl (by rw [e, e2])), fun x hx => row_kept (h.vals x hx) fun k e => ob k (fun e2 => h.ne x hx k e (by rw [e2]; rfl)), h.ne, h.inb, h.inc, h.ina, h.inv, fun k e => by simpa [World.setRow] using h.lt k e, h.most_le, h.next_le, by rw [hsl]; exact h.len_le, ?_⟩
  · have hxl := h.row.1
    rcases h.row.2 with ⟨h2, _⟩ | ⟨g2, cap, cur2, h2, hb, hg, hnc, hcm, hcs, htake⟩
    · simp at h2
    · simp only [Value.slice.injEq, Option.some.injEq, Addr.mk.injEq, and_true] at h2
      obtain ⟨rfl, rfl, rfl⟩ := h2
      rw [hcur] at hg
      simp at hg
      subst hg
      have hcl : cur.toList.length = c := by simpa using hcs
      rw [hsl]
      refine ⟨by simp [hsl], .inr ⟨g, c, _, rfl, hb, setRow_heap W g cur _ 42 _ hcur, hnc, hcm, ?_, ?_⟩⟩
      · simp at hcl ⊢
        omega
      · simp only [Nat.mul_one] at htake ⊢
        have e1 : cur.toList.take i = (cs.take i).map u64V := by rw [List.map_take, ← htake, List.take_take]; congr 1; omega
        have e2 : (cur.toList.drop (i + vals.length)).take (cs.length - (i + vals.length)) = (cs.drop (i + vals.length)).map u64V := by rw [List.map_drop, ← htake, List.drop_take]
        simp only [spliceN, List.map_append, List.length_map, e1]
        rw [List.take_append, List.take_of_length_le (by simp; omega)]
        congr 1
        rw [← e2]
        congr 1
        simp
        omega
  · intro x hx
    simp only [spliceN, List.mem_append] at hx
    rcases hx with (hx | hx) | hx
    · exact h.small x (List.mem_of_mem_take hx)
    · exact hv x hx
    · exact h.small x (List.mem_of_mem_drop hx)

theorem cell_chg {F : Nat → Prop} {W W' : World} (h : Chg F W W') {a : Addr} {v : Value} (hc : W.cell? a = some v) (hn : ¬ F a.block) : W'.cell? a = some v := by
  have hlt : a.block < W.heap.size := by
    by_cases hl : a.block < W.heap.size
    · exact hl
    · have e : W.heap[a.block]? = none := Array.getElem?_eq_none (by omega)
      simp [World.cell?, e] at hc
  exact (World.cell?_of_block (w := W) (h.block a.block hlt hn)).trans hc
theorem add_block (a : Addr) (j : Nat) : (a.add j).block = a.block := by unfold Addr.add; split <;> rfl

set_option maxRecDepth 100000 in
theorem p_alloc (b most next : Nat) (p : Option Addr) (c : Nat) (vals : List Nat) (F : Nat → Prop) (cs : List Nat) (l : List Acc) (W : World) (h : Bank W F b most next cs l) (hr : Reads W p vals) (hap : ∀ ad, p = some ad → vals ≠ [] → ¬ F ad.block) (hv : ∀ x ∈ vals, x < 18446744073709551616) :
    Calls Tryz.prog 138 #[.pointer (some ⟨b, 0, none⟩), .slice p vals.length c] W fun e W' => e = .returned (.int .u64 (alAt most next vals.length : Int)) ∧ ∃ F', Bank W' F' b most (alNext most next vals.length) (alN most next cs vals) l ∧ Goes W W' F F' := by
  have HB := keepH h
  have HR := keepH hr
  obtain ⟨cv, av, h⟩ := h
  have hml := h.most_le
  have hnl := h.next_le
  by_cases h1 : vals.length = 0
  · have t1 : (vals.length : Int) = 0 := by omega
    have e0 : ¬ alOk most next vals.length := by unfold alOk; omega
    have E0 := keepH e0
    clear h hr e0
    go_enter Tryz.func138, Tryz.ntmps138
    go_wp2_with fail
    go_ret
    exact ⟨by simp [alAt, E0.out], F, by unfold alNext alN; rw [if_neg E0.out, if_neg E0.out]; exact HB.out, Goes.refl _ _⟩
  · have t1 : ¬ (vals.length : Int) = 0 := by omega
    by_cases h2 : most - next < vals.length
    · have t2 : ((most - next : Nat) : Int) < (vals.length : Int) := by omega
      have e0 : ¬ alOk most next vals.length := by unfold alOk; omega
      have E0 := keepH e0
      clear h hr e0
      go_enter Tryz.func138, Tryz.ntmps138
      go_wp2_with fail
      refine (p_left b most next F cs l _ HB.out).mono ?_
      rintro e w' ⟨rfl, q, rfl⟩
      go_wp2_with fail
      go_ret
      exact ⟨by simp [alAt, E0.out], F, by unfold alNext alN; rw [if_neg E0.out, if_neg E0.out]; exact HB.out.drewN q, Goes.drewN _ _ _⟩
    · have t2 : ¬ ((most - next : Nat) : Int) < (vals.length : Int) := by omega
      have e0 : alOk most next vals.length := by unfold alOk; omega
      have E0 := keepH e0
      have c2 : W.cell? ⟨b, 2, none⟩ = some (.int .i64 (next : Int)) := cell_of h.blk 2
      have f2 := free_of h.blk 2
      obtain ⟨nx, hnx⟩ : ∃ nx, nx = next + vals.length := ⟨_, rfl⟩
      have hnm : nx ≤ most := by omega
      have wn : IntKind.i64.wrap ((next : Int) + (vals.length : Int)) = (nx : Int) := by rw [IntKind.wrap_i64]; omega
      have HNX := keepH hnx
      have HN1 : Hid (1 ≤ nx ∧ nx ≤ most ∧ next ≤ nx ∧ nx - next = vals.length) := by show _ ∧ _ ∧ _ ∧ _; omega
      obtain ⟨ad, rfl, hrd⟩ : ∃ ad, p = some ad ∧ ∀ j u, (vals.map u64V)[j]? = some u → W.cell? (ad.add j) = some u := by
        rcases hr with hr | hr
        · simp [hr] at h1
        · exact hr
      have HRD := keepH hrd
      have wm : IntKind.u64.wrap (next : Int) = (next : Int) := u64_lt (by omega)
      have H0 := keepH h
      clear h hr e0 hrd hnx
      go_enter Tryz.func138, Tryz.ntmps138
      go_wp2_with fail
      refine (p_left b most next F cs l _ HB.out).mono ?_
      rintro e w' ⟨rfl, q, rfl⟩
      go_wp2_with fail
      have hB1 : Hid (BankAt ((W.drewN q).setCell ⟨b, 2, none⟩ (.int .i64 (nx : Int))) F b cv av most nx cs l) := (H0.out.kept (W' := W.drewN q) (Nat.le_refl _) (fun _ _ => rfl)).setNext nx ⟨HN1.out.1, HN1.out.2.1⟩
      refine (p_reach b most nx nx F cs l _ ⟨_, _, hB1.out⟩ hnm).mono ?_
      rintro e W2 ⟨rfl, F2, ⟨cv2, av2, B2⟩, G2⟩
      have hlen := padN_length cs nx
      obtain ⟨g, c2', hcv⟩ := B2.len (by have := HN1.out; omega)
      subst hcv
      obtain ⟨m, hm⟩ : ∃ m, m = (padN cs nx).length := ⟨_, rfl⟩
      have HL := keepH hlen
      have HM := keepH hm
      have k0 : W2.cell? ⟨b, 0, none⟩ = some (.slice (some ⟨g, 0, none⟩) m c2') := by rw [hm]; exact cell_of B2.blk 0
      have k2 : W2.cell? ⟨b, 2, none⟩ = some (.int .i64 (nx : Int)) := cell_of B2.blk 2
      obtain ⟨cur, hcur⟩ := row_block B2.row g rfl
      have HC := keepH hcur
      have hcap : Hid (cur.size = c2' ∧ m ≤ c2') := by
        rcases B2.row.2 with ⟨h2, _⟩ | ⟨g2, cap, cur2, h2, hb, hg, hnc, hcm, hcs, htake⟩
        · simp at h2
        · simp only [Value.slice.injEq, Option.some.injEq, Addr.mk.injEq, and_true] at h2
          obtain ⟨rfl, _, rfl⟩ := h2
          rw [hcur] at hg
          simp at hg
          subst hg
          exact ⟨by simpa using hcs, by omega⟩
      have u1 : (next : Int) ≤ (nx : Int) := by have := HNX.out; omega
      have u2 : (nx : Int) ≤ (c2' : Int) := by have := hcap.out; have := HNX.out; omega
      have u3 : ¬ c2' = next := by have := hcap.out; have := HNX.out; omega
      have u4 : ¬ next = c2' := by have := hcap.out; have := HNX.out; omega
      have u5 : nx - next = vals.length := by have := HNX.out; omega
      have u6 : ¬ (next : Int) < 0 := by omega
      have u7 : nx ≤ c2' := by have := hcap.out; have := HNX.out; omega
      have u8 : next ≤ nx := by have := HNX.out; omega
      have HB2 := keepH B2
      clear B2 hlen hm hcur
      have HS : Hid (∀ j u, (vals.map u64V)[j]? = some u → W2.drew.cell? (ad.add j) = some u) := fun j u hj => by
        have e1 := HRD.out j u hj
        have c1 : Chg F W ((W.drewN q).setCell ⟨b, 2, none⟩ (.int .i64 (nx : Int))) := ((Goes.drewN W F q).chg).setCell (fun _ => H0.out.inb) _
        have e2 := cell_chg (c1.trans G2.chg (fun _ _ x => x) (fun _ _ x => x)) e1 (by rw [add_block]; exact hap ad rfl (fun e => by rw [e] at hj; simp at hj))
        exact e2
      have HF : Hid (next + (vals.map u64V).length ≤ cur.size) := by have := hcap.out; have := HN1.out; have := HM.out; have := HL.out; simp only [List.length_map]; show _ ≤ _; omega
      have HMN : Hid ((vals.map u64V).length = Nat.min vals.length vals.length) := by show _ = _; simp
      have HO : Hid (∀ v ∈ vals.map u64V, v.oneCell' = true) := by intro u hu; obtain ⟨x, _, rfl⟩ := List.mem_map.1 hu; rfl
      go_wp2_with fail
      go_region_law (refine step_copy_row rfl (.tmp 44) (.tmp 45) 27 27 rfl 42 Tryz.underlying27 (by kernel_rfl) g next vals.length (c2' - next) ad vals.length c rfl rfl cur 42 HC.out (vals.map u64V) HMN.out HS.out HF.out HO.out ?_)
      all_goals (go_wp2_with fail)
      all_goals go_ret
      all_goals (refine ⟨by simp [alAt, E0.out], F2, ⟨.slice (some ⟨g, 0, none⟩) (padN cs nx).length c2', av2, ?_⟩, ?_⟩)
      all_goals first
        | (have e := (HB2.out.splice cur HC.out next vals (by have := HN1.out; have := HL.out; omega) hv).kept (W' := (W2.setRow g (cur.toList.take next ++ vals.map u64V ++ cur.toList.drop (next + (vals.map u64V).length)).toArray).drew) (Nat.le_refl _) (fun _ _ => rfl)
           have e2 : alNext most next vals.length = nx := by unfold alNext; rw [if_pos E0.out]; exact HNX.out.symm
           have e3 : alN most next cs vals = spliceN (padN cs nx) next vals := by unfold alN; rw [if_pos E0.out, ← HNX.out]
           rw [e2, e3]
           simp only [List.append_assoc, List.length_map] at e
           exact e)
        | (have c1 : Goes W ((W.drewN q).setCell ⟨b, 2, none⟩ (.int .i64 (nx : Int))) F F := ⟨((Goes.drewN W F q).chg).setCell (fun _ => H0.out.inb) _, fun _ h => .inl h⟩
           have c3 : Goes W2 (W2.setRow g (cur.toList.take next ++ (vals.map u64V ++ cur.toList.drop (next + vals.length))).toArray).drew F2 F2 := ⟨⟨rfl, rfl, rfl, by simp [World.setRow], fun k _ hk => setRow_other W2 g k _ (fun e => hk (by rw [e]; exact HB2.out.inc g rfl))⟩, fun _ h => .inl h⟩
           exact (c1.trans G2).trans c3)
end Go.Proofs.YtjodechhnobkhaaGreatDoor
