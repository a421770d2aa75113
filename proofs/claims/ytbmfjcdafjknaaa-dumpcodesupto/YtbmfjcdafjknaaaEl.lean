/- The operations that lead from the first to the second. -/
import Derived.Test.YtbmfjcdafjknaaaEj
import Derived.Test.YtbmfjcdafjknaaaEk
namespace Go.Proofs.Ytbmfjcdafjknaaa
open Go.RowKit Go.Joins
set_option linter.unusedVariables false

/-- An operation: its kind, key and value. -/
structure OpS where
  kd : Nat
  k : Nat
  v : Nat
  deriving DecidableEq
def OpS.cells (o : OpS) : List Value := [.int .u8 (o.kd : Int), .int .u64 (o.k : Int), .int .u64 (o.v : Int), .int .u64 0, .int .u64 0, .bool false, .int .i64 0, .int .i64 0, .slice none 0 0, .int .u64 0, .int .u64 0]
def opRow (l : List OpS) : List Value := l.flatMap OpS.cells
theorem opRow_len (l : List OpS) : (opRow l).length = l.length * 11 := by
  induction l with
  | nil => rfl
  | cons x l ih => simp [opRow, OpS.cells] at ih ⊢; omega
theorem opRow_add (l : List OpS) (o : OpS) : opRow (l ++ [o]) = opRow l ++ o.cells := by simp [opRow]
theorem opRow_get (l : List OpS) : ∀ (i : Nat) (o : OpS), l[i]? = some o → ∀ j, j < 11 → (opRow l)[i * 11 + j]? = o.cells[j]? := by
  induction l with
  | nil => intro i c h; simp at h
  | cons y l ih =>
    intro i c h j hj
    have e : opRow (y :: l) = y.cells ++ opRow l := rfl
    rw [e]
    have hy : y.cells.length = 11 := rfl
    cases i with
    | zero =>
      simp at h
      subst h
      rw [List.getElem?_append_left (by omega)]
      simp
    | succ i =>
      rw [List.getElem?_append_right (by omega), hy, show (i + 1) * 11 + j - 11 = i * 11 + j by omega]
      exact ih i c (by simpa using h) j hj
def opOf (c : Ch) : OpS := if c.has then ⟨2, c.k, c.new⟩ else ⟨3, c.k, 0⟩
theorem infoOp : (Try.prog.info? 66).map (fun i => (i.zero, i.size, i.bytes)) = some (some (.agg #[.int .u8 0, .int .u64 0, .int .u64 0, .int .u64 0, .int .u64 0, .bool false, .int .i64 0, .int .i64 0, .slice none 0 0, .int .u64 0, .int .u64 0]), 11, 104) := by kernel_rfl
def OpSAt (W : World) (p : Option Addr) (l : List OpS) : Prop := l = [] ∨ ∃ bk off, p = some ⟨bk, off, none⟩ ∧ bk < W.heap.size ∧ ∀ (i : Nat) (o : OpS), l[i]? = some o → ∀ (j : Nat) (u : Value), o.cells[j]? = some u → W.cell? ⟨bk, off + i * 11 + j, none⟩ = some u
theorem OpSAt.chg {W W' : World} {F : Nat → Prop} {p : Option Addr} {l : List OpS} (h : OpSAt W p l) (c : Chg F W W') (hn : ∀ bk off, p = some ⟨bk, off, none⟩ → ¬ F bk) : OpSAt W' p l := by
  rcases h with h | ⟨bk, off, rfl, hb, h⟩
  · exact .inl h
  · exact .inr ⟨bk, off, rfl, Nat.lt_of_lt_of_le hb c.size, fun i o e j u hu => cell_chg c (h i o e j u hu) (hn bk off rfl)⟩
theorem row_op {W : World} {B : Nat} {v : Value} {l : List OpS} (h : W.ownsRow B 66 11 v l.length (opRow l)) : ∃ p c, v = .slice p l.length c ∧ OpSAt W p l ∧ ∀ bk off, p = some ⟨bk, off, none⟩ → B ≤ bk := by
  obtain ⟨hl, h⟩ := h
  rcases h with ⟨rfl, e⟩ | ⟨g, cap, cur, rfl, hB, hg, hcap, _, _, ht⟩
  · obtain rfl := List.length_eq_zero_iff.1 e
    exact ⟨none, 0, rfl, .inl rfl, fun bk off e => by cases e⟩
  · refine ⟨_, cap, rfl, .inr ⟨g, 0, rfl, lt_of hg, fun i c hc j u hu => ?_⟩, fun bk off e => by injection e with e; injection e with e; omega⟩
    have hi := (List.getElem?_eq_some_iff.1 hc).1
    have hj : j < 11 := (List.getElem?_eq_some_iff.1 hu).1
    rw [← hu, ← opRow_get l i c hc j hj, cell_of hg, ← ht, List.getElem?_take_of_lt (by omega), Nat.zero_add]
    simp
theorem ch_op (c : Ch) (w : World) : Calls Try.prog 48 #[c.val] w fun e w' => e = .returned (.agg (opOf c).cells.toArray) ∧ Below w.heap.size w w' := by
  obtain ⟨k, had, has, old, new⟩ := c
  unfold Ch.val opOf
  cases has
  · go_enter Try.func48, Try.ntmps48
    go_wp2_with fail
    exact bodyPost_ret (v := .agg (OpS.cells ⟨3, k, 0⟩).toArray) (by simp [results, Try.results48, go_sem, OpS.cells]) rfl ⟨rfl, (((Below.refl _ w).alloc (Nat.le_refl _) _).alloc (by simp) _)⟩
  · go_enter Try.func48, Try.ntmps48
    go_wp2_with fail
    exact bodyPost_ret (v := .agg (OpS.cells ⟨2, k, new⟩).toArray) (by simp [results, Try.results48, go_sem, OpS.cells]) rfl ⟨rfl, (((Below.refl _ w).alloc (Nat.le_refl _) _).alloc (by simp) _)⟩
theorem row_on {W1 wr W2 : World} {e : TypeId} {s n : Nat} {v : Value} {xs : List Value} {o : Obj} (h : wr.ownsRow W1.heap.size e s v n xs ∧ Below W1.heap.size W1 wr) (h2 : Below (wr.alloc o).heap.size (wr.alloc o) W2) : W2.ownsRow W1.heap.size e s v n xs ∧ Below W1.heap.size W1 W2 := by
  have hb : Below wr.heap.size wr W2 := below_trans ((Below.refl _ wr).alloc (Nat.le_refl _) o) h2
  exact ⟨h.1.kept (grown_none hb) (by cases Value.ownBlock _ <;> simp), below_trans h.2 hb⟩
def syncL (a b : List (Nat × Nat)) : List OpS := (diffL a b).map opOf
set_option maxRecDepth 100000 in
set_option maxHeartbeats 4000000 in
theorem sync_no {W : World} {pa pb : Option Addr} {la lb : List (Nat × Nat)} (HA : PairsAt W pa la) (HB : PairsAt W pb lb) (ca cb : Nat) (hla : la.length ≤ 10000000) (hlb : lb.length ≤ 10000000) (hr : ¬ (riseB la = true ∧ riseB lb = true)) :
    Calls Try.prog 22 #[.slice pa la.length ca, .slice pb lb.length cb] W fun e W' => e = .returned (.tuple #[.slice none 0 0, .int .i64 52]) ∧ Below W.heap.size W W' := by
  have HC := keepH (diff_no HA HB ca cb hla hlb hr)
  clear HA HB hr
  go_enter Try.func22, Try.ntmps22
  go_wp2_with (first | (go_at_call 20; refine HC.out.mono ?_; clear HC; rintro e W1 ⟨rfl, hB1⟩; have HB1 := keepH hB1; clear hB1))
  go_ret2
  exact ⟨rfl, HB1.out⟩
set_option maxRecDepth 100000 in
set_option maxHeartbeats 4000000 in
theorem sync_yes {W : World} {pa pb : Option Addr} {la lb : List (Nat × Nat)} (HA : PairsAt W pa la) (HB : PairsAt W pb lb) {ca cb : Nat} (hca : la.length ≤ ca ∧ ca ≤ 9223372036854775807) (hcb : lb.length ≤ cb ∧ cb ≤ 9223372036854775807) (hla : la.length ≤ 10000000) (hlb : lb.length ≤ 10000000) (ra : riseB la = true) (rb : riseB lb = true) :
    Calls Try.prog 22 #[.slice pa la.length ca, .slice pb lb.length cb] W fun e W' => (∃ v, e = .returned (.tuple #[v, .int .i64 0]) ∧ W'.ownsRow W.heap.size 66 11 v (syncL la lb).length (opRow (syncL la lb))) ∧ Below W.heap.size W W' := by
  obtain ⟨i0, hi, hz0, hz1, hz2⟩ := info_parts infoOp
  have H1 := keepH (diff_yes HA HB hca hcb (by omega) (by omega) ra rb)
  have hl9 : (diffL la lb).length ≤ 100000000 := by
    refine Nat.le_trans (diffX_len _) ?_
    have := mrg_len (fun y : Nat × Nat => y.1) _ la lb (Nat.le_refl _)
    omega
  have HSy : Hid (syncL la lb = (diffL la lb).map opOf) := keepH rfl
  obtain ⟨l, hl⟩ : ∃ l, l = diffL la lb := ⟨_, rfl⟩
  rw [← hl] at H1 hl9 HSy
  clear HA HB ra rb hl
  go_enter Try.func22, Try.ntmps22
  go_wp2_with (first | (go_at_call 20; refine H1.out.mono ?_; clear H1; rintro e W1 ⟨⟨v1, rfl, r1⟩, hB1⟩; obtain ⟨p1, c1, rfl, hat1, _⟩ := row_ch r1; have HR1 : Hid (ChAt W1 p1 l ∧ Below W.heap.size W W1) := keepH ⟨hat1, hB1⟩; clear r1 hat1 hB1))
  go_loopw [8, 22] (fun s q wr => ∃ i : Nat, i ≤ l.length ∧ q = .int .i64 (i : Int) ∧ Hid (wr.ownsRow W1.heap.size 66 11 s ((l.take i).map opOf).length (opRow ((l.take i).map opOf)) ∧ Below W1.heap.size W1 wr)) (fun _ q _ => l.length - (intOf q).toNat)
  case atStart => exact ⟨0, Nat.zero_le _, rfl, keepH ⟨World.ownsRow_nil _ _ _ _, Below.refl _ _⟩⟩
  case round =>
    obtain ⟨i, hil, rfl, HX⟩ := hrel
    by_cases hlt : i < l.length
    · have q1 : (i : Int) < (l.length : Int) := by omega
      obtain ⟨⟨k, had, has, old, new⟩, hc⟩ : ∃ c, l[i]? = some c := ⟨l[i], List.getElem?_eq_getElem hlt⟩
      obtain ⟨bk, off, rfl, hbk, hcs⟩ := (HR1.out.1.below HX.out.2).resolve_left (by intro e; subst e; simp at hc)
      obtain ⟨c0, c1, c2, c3, c4⟩ := hcs i _ hc
      simp only at c0 c1 c2 c3 c4
      have HOP := keepH (fun w => ch_op ⟨k, had, has, old, new⟩ w)
      simp only [Ch.val] at HOP
      have HE : Hid ((l.take (i + 1)).map opOf = (l.take i).map opOf ++ [opOf ⟨k, had, has, old, new⟩]) := keepH (by rw [List.take_add_one, hc]; simp)
      have HLN : Hid (((l.take i).map opOf).length < 100000000) := keepH (by simp; omega)
      obtain ⟨⟨kd, ky, vl⟩, ho⟩ : ∃ o, o = opOf ⟨k, had, has, old, new⟩ := ⟨_, rfl⟩
      rw [← ho] at HOP HE
      simp only [OpS.cells, List.toArray] at HOP
      clear hc hcs ho
      go_wp2_with (first | (go_at_call 48; refine (HOP.out _).mono ?_; clear HOP; rintro e W2 ⟨rfl, hB2⟩; have HY := keepH (row_on HX.out hB2); clear hB2) | (at_builtin; go_loud (refine wpList_append_own_at _ rfl _ _ 41 rfl W1.heap.size 66 i0 (.agg #[.int .u8 0, .int .u64 0, .int .u64 0, .int .u64 0, .int .u64 0, .bool false, .int .i64 0, .int .i64 0, .slice none 0 0, .int .u64 0, .int .u64 0]) 11 104 Try.underlying41 hi hz0 hz1 hz2 rfl (by decide) _ _ _ rfl (HY.out.1.kept (World.grownBy_alloc _ _ none) (by cases Value.ownBlock _ <;> simp)) ⟨_, 0, none⟩ 1 1 (OpS.cells ⟨kd, ky, vl⟩) rfl rfl (cells_newE _ _ rfl _ _) (by intro u hu; simp [OpS.cells] at hu; rcases hu with rfl | rfl | rfl | rfl | rfl | rfl | rfl | rfl | rfl | rfl | rfl <;> rfl) (by unfold maxLen; have := HLN.out; omega) (by have := HLN.out; omega) (Nat.le_trans HY.out.2.size (by simp)) ?_); intro v' w3 r1 r2 r3 r4; have R1 := keepH r1; have R2 := keepH r2; clear r1 r2 r3 r4))
      go_roundw
      case rel =>
        refine ⟨i + 1, by omega, by first | rfl | go_num, keepH ⟨?_, ?_⟩⟩
        · rw [HE.out, opRow_add]
          have := R1.out
          simpa using this
        · exact chg_belowE (((below_chgE HY.out.2).alloc _).trans (grown_chgE (F := fun j => W1.heap.size ≤ j) R2.out (fun j e => (HY.out.1.lt j e).1)) (fun _ _ x => x.elim) (fun j hj e => e))
      case measure => simp [intOf]; omega
    · have q1 : ¬ (i : Int) < (l.length : Int) := by omega
      obtain rfl : i = l.length := by omega
      rw [List.take_length] at HX
      go_wp2_with fail
      go_ret2
      rw [HSy.out]
      exact ⟨⟨_, rfl, row_base HX.out.1 HR1.out.2.size⟩, below_trans HR1.out.2 HX.out.2⟩
theorem load_no {W : World} {pb : Option Addr} {lb : List (Nat × Nat)} (HB : PairsAt W pb lb) (cb : Nat) (hlb : lb.length ≤ 10000000) (rb : riseB lb = false) :
    Calls Try.prog 24 #[.slice pb lb.length cb] W fun e W' => e = .returned (.tuple #[.slice none 0 0, .int .i64 52]) ∧ Below W.heap.size W W' := by
  have HC := keepH (sync_no (la := []) (.inl rfl) HB 0 cb (by simp) hlb (by rw [rb]; simp) : Calls Try.prog 22 #[.slice none 0 0, .slice pb lb.length cb] W _)
  clear HB rb
  go_enter Try.func24, Try.ntmps24
  go_wp2_with (first | (go_at_call 22; refine HC.out.mono ?_; clear HC; rintro e W1 ⟨rfl, hB1⟩; have HB1 := keepH hB1; clear hB1))
  go_ret2
  exact ⟨rfl, HB1.out⟩
theorem load_yes {W : World} {pb : Option Addr} {lb : List (Nat × Nat)} (HB : PairsAt W pb lb) {cb : Nat} (hcb : lb.length ≤ cb ∧ cb ≤ 9223372036854775807) (hlb : lb.length ≤ 10000000) (rb : riseB lb = true) :
    Calls Try.prog 24 #[.slice pb lb.length cb] W fun e W' => (∃ v, e = .returned (.tuple #[v, .int .i64 0]) ∧ W'.ownsRow W.heap.size 66 11 v (syncL [] lb).length (opRow (syncL [] lb))) ∧ Below W.heap.size W W' := by
  have HC := keepH (sync_yes (la := []) (pa := none) (ca := 0) (.inl rfl) HB ⟨by simp, by omega⟩ hcb (by simp) hlb rfl rb)
  simp only [List.length_nil] at HC
  clear HB rb
  go_enter Try.func24, Try.ntmps24
  go_wp2_with (first | (go_at_call 22; refine HC.out.mono ?_; clear HC; rintro e W1 ⟨⟨v, rfl, r1⟩, hB1⟩; have HR := keepH r1; have HB1 := keepH hB1; clear hB1 r1))
  go_ret2
  exact ⟨⟨_, rfl, HR.out⟩, HB1.out⟩
end Go.Proofs.Ytbmfjcdafjknaaa
