/- A book's lists of bytes, of any lengths: what lies where, marked, grown. -/
import Derived.Test.YtbmfjcdafjknaabFi
namespace Go.Proofs.Ytbmfjcdafjknaab
open Go.RowKit Go.Maps

theorem slice_of {W : World} {e : TypeId} {s n : Nat} {v : Value} {xs : List Value} (h : W.ownsRow 0 e s v n xs) : ∃ p c, v = .slice p n c := by
  rcases h.2 with ⟨rfl, rfl⟩ | ⟨g, cap, cur, rfl, _⟩
  · exact ⟨_, _, rfl⟩
  · exact ⟨_, _, rfl⟩
theorem slice_pos {W : World} {e : TypeId} {s n : Nat} {v : Value} {xs : List Value} (h : W.ownsRow 0 e s v n xs) (hn : 0 < n) : ∃ g c, v = .slice (some ⟨g, 0, none⟩) n c := by
  rcases h.2 with ⟨rfl, rfl⟩ | ⟨g, cap, cur, rfl, _⟩
  · omega
  · exact ⟨g, cap, rfl⟩

/-- append to a row of one's own: in its block, or in a new one and nothing that was there turns. -/
theorem wpList_append_two {P : Program} (w : World) {ops : Array Oper} {rest : List Oper} {o : Oper} {a : Act} {Q : Exit → Act → World → Prop} (hgd : o.guard = none) (s x : Operand) (t : TypeId)
    (ho : o.op = Op.call { callee := Callee.builtin Builtin.append, args := #[s, x], argTypes := #[t, t] })
    (e : TypeId) (i : TypeInfo) (z : Value) (size bytes : Nat) (ht : P.underlying t = some (.slice e)) (hi : P.info? e = some i) (hz : i.zero = some z)
    (hsize : i.size = size) (hby : i.bytes = bytes) (hzs : z.cells.size = size) (hsz : 0 < size)
    (v : Value) (n : Nat) (xs : List Value) (hs : a.eval s = v) (hown : w.ownsRow 0 e size v n xs)
    (ad : Addr) (m c : Nat) (news : List Value) (hx : a.eval x = .slice (some ad) m c) (hl : news.length = m * size) (hnews : ∀ j u, news[j]? = some u → w.cell? (ad.add j) = some u) (h1 : ∀ u ∈ news, u.oneCell' = true)
    (hm : 0 < m) (h63 : n + m ≤ maxLen) (hbytes : (n + m) * bytes ≤ 140737488355328)
    (h : ∀ v' w', w'.ownsRow 0 e size v' (n + m) (xs ++ news) → (w.grownBy w' v.ownBlock ∧ v'.ownBlock = v.ownBlock ∨ w.grownBy w' none ∧ ∀ b, v'.ownBlock = some b → w.heap.size ≤ b) → wpList P ops Q rest (a.put o.dst v') w') :
    wpList P ops Q (o :: rest) a w := by
  have lower : ∀ (w' : World) (v' : Value) (k : Nat) (ys : List Value), w'.ownsRow w.heap.size e size v' k ys → w'.ownsRow 0 e size v' k ys ∧ ∀ b, v'.ownBlock = some b → w.heap.size ≤ b := fun w' v' k ys hr => by
    refine ⟨⟨hr.1, ?_⟩, fun b hb => ?_⟩
    · rcases hr.2 with hr2 | ⟨g, cap, cur, q1, q2, q3⟩
      · exact .inl hr2
      · exact .inr ⟨g, cap, cur, q1, Nat.zero_le _, q3⟩
    · exact (hr.lt b hb).1
  rcases hown.2 with ⟨rfl, rfl⟩ | ⟨g, cap, cur, rfl, _⟩
  · have hxs : xs = [] := List.eq_nil_of_length_eq_zero (by have := hown.1; simpa using this)
    subst hxs
    refine wpList_append_grows w hgd s x t ho e i z size bytes ht hi hz hsize hby hzs hsz none 0 0 [] hs (fun _ => ⟨rfl, rfl⟩) (by simp) (fun b hb => by simp at hb) ad m c news hx hl hnews h1 (by omega) h63 hbytes ?_
    intro v' w' r1 r2
    obtain ⟨l1, l2⟩ := lower w' v' _ _ r1
    exact h v' w' l1 (.inr ⟨r2, l2⟩)
  · by_cases hroom : n + m ≤ cap
    · refine wpList_append_fits w hgd s x t ho 0 e i size ht hi hsize g n cap xs hs hown ad m c news hx hl hnews h1 hroom ?_
      intro w' r1 r2
      exact h _ w' r1 (.inl ⟨r2, rfl⟩)
    · refine wpList_append_grows w hgd s x t ho e i z size bytes ht hi hz hsize hby hzs hsz (some ⟨g, 0, none⟩) n cap xs hs (fun e => by simp at e) hown.1 (fun b hb j u hj => by cases hb; exact hown.cells (g := g) rfl j u hj) ad m c news hx hl hnews h1 (by omega) h63 hbytes ?_
      intro v' w' r1 r2
      obtain ⟨l1, l2⟩ := lower w' v' _ _ r1
      exact h v' w' l1 (.inr ⟨r2, l2⟩)

def mark (j : Nat) : Value := .int .u8 (48 + (j : Int))
def LV (v : Nat → Value) (n : Nat) : List Value := (List.range n).map v
theorem LV_get (v : Nat → Value) (n j : Nat) (hj : j < n) : (LV v n)[j]? = some (v j) := by simp [LV, hj]
theorem LV_snoc (v : Nat → Value) (n : Nat) (x : Value) : LV (fun j => if j = n then x else v j) (n + 1) = LV v n ++ [x] := by
  unfold LV
  rw [List.range_succ, List.map_append]
  congr 1
  · apply List.map_congr_left
    intro j hj
    rw [List.mem_range] at hj
    rw [if_neg (by omega)]
  · simp
def cellV (W : World) (v : Value) (q : Nat) : Option Value := match v with
  | .slice (some a) _ _ => W.cell? ⟨a.block, q, none⟩
  | _ => none
theorem cellV_some {W : World} {g n c q : Nat} : cellV W (.slice (some ⟨g, 0, none⟩) n c) q = W.cell? ⟨g, q, none⟩ := rfl
theorem row_cellV {W : World} {v : Value} {n : Nat} {xs : List Value} {e : TypeId} (h : W.ownsRow 0 e 1 v n xs) (q : Nat) (hq : q < n) : cellV W v q = xs[q]? := by
  obtain ⟨g, c, rfl⟩ := slice_pos h (by omega)
  rw [cellV_some, World.ownsRow.cellAt h q (by omega)]
theorem cellV_kept {W X : World} {v : Value} {q : Nat} (h : ∀ b, v.ownBlock = some b → X.heap[b]? = W.heap[b]?) (hf : ∃ p n c, v = .slice p n c ∧ (∀ a, p = some a → a.off = 0 ∧ a.spot = none)) : cellV X v q = cellV W v q := by
  obtain ⟨p, n, c, rfl, hp⟩ := hf
  cases p with
  | none => rfl
  | some a =>
    obtain ⟨bl, off, spot⟩ := a
    obtain ⟨rfl, rfl⟩ := hp _ rfl
    exact World.cell?_of_block (h bl rfl)
theorem row_form {W : World} {v : Value} {n : Nat} {xs : List Value} {e : TypeId} {s : Nat} (h : W.ownsRow 0 e s v n xs) : ∃ p n c, v = .slice p n c ∧ (∀ a, p = some a → a.off = 0 ∧ a.spot = none) := by
  rcases h.2 with ⟨rfl, rfl⟩ | ⟨g, cap, cur, rfl, _⟩
  · exact ⟨_, _, _, rfl, fun a ha => by simp at ha⟩
  · exact ⟨_, _, _, rfl, fun a ha => by cases ha; exact ⟨rfl, rfl⟩⟩

/-- The book: its block, the list of lists. -/
structure BkB (W : World) (Bk : Nat) (ov : Value) (n : Nat) (v : Nat → Value) : Prop where
  blk : ∃ cs, W.heap[Bk]? = some (.cells cs 54 (0, 0)) ∧ cs[0]? = some ov
  outer : W.ownsRow 0 23 1 ov n (LV v n)
theorem BkB.cell {W : World} {Bk : Nat} {ov : Value} {n : Nat} {v : Nat → Value} (h : BkB W Bk ov n v) : W.cell? ⟨Bk, 0, none⟩ = some ov := by
  obtain ⟨cs, h1, h2⟩ := h.blk
  rw [cell_of h1, h2]
theorem BkB.kept {W X : World} {Bk : Nat} {ov : Value} {n : Nat} {v : Nat → Value} (h : BkB W Bk ov n v) (h1 : X.heap[Bk]? = W.heap[Bk]?) (h2 : ∀ b, ov.ownBlock = some b → X.heap[b]? = W.heap[b]?) : BkB X Bk ov n v := by
  obtain ⟨cs, q1, q2⟩ := h.blk
  exact ⟨⟨cs, h1.trans q1, q2⟩, row_kept h.outer h2⟩
theorem BkB.lt {W : World} {Bk : Nat} {ov : Value} {n : Nat} {v : Nat → Value} (h : BkB W Bk ov n v) : Bk < W.heap.size := by
  obtain ⟨cs, q1, _⟩ := h.blk
  exact lt_of q1
theorem BkB.at {W : World} {Bk go co : Nat} {n : Nat} {v : Nat → Value} (h : BkB W Bk (.slice (some ⟨go, 0, none⟩) n co) n v) (j : Nat) (hj : j < n) : W.cell? ⟨go, j, none⟩ = some (v j) := by
  have e := row_cellV h.outer j hj
  rw [cellV_some, LV_get v n j hj] at e
  exact e
theorem BkB.ne {W : World} {Bk : Nat} {ov : Value} {n : Nat} {v : Nat → Value} {x : Value} {k : Nat} {xs : List Value} (h : BkB W Bk ov n v) (hr : W.ownsRow 0 5 1 x k xs) : x.ownBlock ≠ some Bk ∧ ∀ b, ov.ownBlock = some b → x.ownBlock ≠ some b := by
  obtain ⟨cs, q1, _⟩ := h.blk
  exact ⟨block_apart hr q1 (by decide), fun b hb => rows_apart h.outer hr (by decide) b hb⟩

def Apart (n : Nat) (v : Nat → Value) : Prop := ∀ i j b, i < n → j < n → i ≠ j → (v i).ownBlock = some b → (v j).ownBlock ≠ some b
/-- The lists: of the list j the first t j bear its mark. -/
def RowsM (W : World) (n : Nat) (v : Nat → Value) (len t : Nat → Nat) : Prop := ∀ j, j < n → ∃ xs, W.ownsRow 0 5 1 (v j) (len j) xs ∧ ∀ q, q < t j → xs[q]? = some (mark j)
def Fv (n : Nat) (v : Nat → Value) (b : Nat) : Prop := ∃ j, j < n ∧ (v j).ownBlock = some b
theorem RowsM.weak {W : World} {n : Nat} {v : Nat → Value} {len t t' : Nat → Nat} (h : RowsM W n v len t) (ht : ∀ j, j < n → t' j ≤ t j) : RowsM W n v len t' := fun j hj => by
  obtain ⟨xs, h1, h2⟩ := h j hj
  exact ⟨xs, h1, fun q hq => h2 q (Nat.lt_of_lt_of_le hq (ht j hj))⟩
theorem RowsM.put {W : World} {n g c i k : Nat} {v : Nat → Value} {len t t' : Nat → Nat} (h : RowsM W n v len t) (ha : Apart n v) (hi : i < n) (hk : k < len i) (hg : v i = .slice (some ⟨g, 0, none⟩) (len i) c) (ht : ∀ j q, j < n → q < t' j → q < t j ∨ j = i ∧ q = k) : RowsM (W.setCell ⟨g, k, none⟩ (mark i)) n v len t' := fun j hj => by
  obtain ⟨xs, h1, h2⟩ := h j hj
  by_cases e : j = i
  · subst e
    rw [hg] at h1
    refine ⟨xs.set k (mark j), by rw [hg]; exact (World.ownsRow.stored h1 k (mark j)).1, fun q hq => ?_⟩
    have hl : xs.length = len j := by have := h1.1; omega
    rw [List.getElem?_set]
    by_cases e2 : k = q
    · rw [if_pos e2, if_pos (by omega)]
    · rw [if_neg e2]
      rcases ht j q hj hq with h3 | ⟨_, h3⟩
      · exact h2 q h3
      · exact absurd h3.symm e2
  · have hb : (v i).ownBlock = some g := by rw [hg]; rfl
    refine ⟨xs, row_kept h1 fun b hb2 => Below.heap_setCell W ⟨g, k, none⟩ (mark i) b (fun e3 => ?_), fun q hq => ?_⟩
    · exact ha i j b hi hj (fun e4 => e e4.symm) (by rw [hb]; exact congrArg some e3.symm) hb2
    · rcases ht j q hj hq with h3 | ⟨h3, _⟩
      · exact h2 q h3
      · exact absurd h3 e
theorem all_marks {xs : List Value} {n : Nat} {x : Value} (hl : xs.length = n) (h : ∀ q, q < n → xs[q]? = some x) : xs = List.replicate n x := by
  apply List.ext_getElem?
  intro q
  by_cases c : q < n
  · rw [h q c, List.getElem?_replicate, if_pos c]
  · rw [List.getElem?_eq_none (by omega), List.getElem?_eq_none (by simp; omega)]

/-- While a list is grown. -/
structure G2 (wi wr : World) (vi : Value) (len i k : Nat) (gv : Value) : Prop where
  row : wr.ownsRow 0 5 1 gv (len + k) (List.replicate (len + k) (mark i))
  rvi : ∀ q, q < len → cellV wr vi q = some (mark i)
  blk : gv.ownBlock = vi.ownBlock ∨ ∀ b, gv.ownBlock = some b → wi.heap.size ≤ b
  chg : Chg (fun b => vi.ownBlock = some b) wi wr
  form : ∃ p n c, vi = .slice p n c ∧ (∀ a, p = some a → a.off = 0 ∧ a.spot = none)
  vlt : ∀ b, vi.ownBlock = some b → b < wi.heap.size
theorem G2.more {wi wr w2 : World} {vi gv v' : Value} {len i k : Nat} {o : Obj} (h : G2 wi wr vi len i k gv) (hr : w2.ownsRow 0 5 1 v' (len + k + 1) (List.replicate (len + k) (mark i) ++ [mark i]))
    (hg : (wr.alloc o).grownBy w2 gv.ownBlock ∧ v'.ownBlock = gv.ownBlock ∨ (wr.alloc o).grownBy w2 none ∧ ∀ b, v'.ownBlock = some b → (wr.alloc o).heap.size ≤ b) : G2 wi w2 vi len i (k + 1) v' := by
  have hrow : w2.ownsRow 0 5 1 v' (len + (k + 1)) (List.replicate (len + (k + 1)) (mark i)) := by
    have e : List.replicate (len + (k + 1)) (mark i) = List.replicate (len + k) (mark i) ++ [mark i] := by
      rw [show len + (k + 1) = (len + k) + 1 by omega]
      exact List.replicate_succ' ..
    rw [e]
    exact hr
  have hs := h.chg.size
  have c1 : Chg (fun b => vi.ownBlock = some b) wi (wr.alloc o) := h.chg.alloc o
  rcases hg with ⟨g1, g2⟩ | ⟨g1, g2⟩
  · refine ⟨hrow, fun q hq => ?_, ?_, c1.grown g1 (fun b hb hlt => ?_), h.form, h.vlt⟩
    · by_cases e : gv.ownBlock = vi.ownBlock
      · obtain ⟨b, cb, rfl⟩ := slice_pos hrow (by omega)
        have hb : vi.ownBlock = some b := by rw [← e, ← g2]; rfl
        obtain ⟨p, n, c, rfl, hp⟩ := h.form
        cases p with
        | none => simp [Value.ownBlock] at hb
        | some a =>
          obtain ⟨bl, off, spot⟩ := a
          obtain ⟨rfl, rfl⟩ := hp _ rfl
          simp [Value.ownBlock] at hb
          subst hb
          have e2 := row_cellV hrow q (by omega)
          rw [cellV_some, List.getElem?_replicate, if_pos (by omega)] at e2
          exact e2
      · rw [cellV_kept (W := wr) (fun b hb => ?_) h.form]
        · exact h.rvi q hq
        · have hlt := h.vlt b hb
          refine (g1.block b (by simp; omega) (fun e3 => ?_)).trans (Below.heap_alloc _ _ _ (by omega))
          rcases h.blk with e4 | e4
          · exact e e4
          · have := e4 b e3.symm
            omega
    · rcases h.blk with e4 | e4
      · exact .inl (g2.trans e4)
      · exact .inr (by rw [g2]; exact e4)
    · rcases h.blk with e4 | e4
      · rw [← e4]; exact hb
      · have := e4 b hb
        omega
  · refine ⟨hrow, fun q hq => ?_, .inr fun b hb => ?_, c1.grown g1 (fun b hb => by simp at hb), h.form, h.vlt⟩
    · rw [cellV_kept (W := wr) (fun b hb => ?_) h.form]
      · exact h.rvi q hq
      · have hlt := h.vlt b hb
        exact (g1.block b (by simp; omega) (by simp)).trans (Below.heap_alloc _ _ _ (by omega))
    · have := g2 b hb
      simp at this
      omega
/-- So many lists are grown. -/
structure B2 (wa wr : World) (n : Nat) (v : Nat → Value) (len : Nat → Nat) (i : Nat) (gs : Nat → Value) (av : Value) : Prop where
  rows : ∀ j, i ≤ j → j < n → wr.ownsRow 0 5 1 (v j) (len j) (List.replicate (len j) (mark j))
  rv : ∀ j, j < n → ∀ q, q < len j → cellV wr (v j) q = some (mark j)
  gf : ∀ j, j < i → ∃ h d, gs j = .slice (some ⟨h, 0, none⟩) (len j + 20) d ∧ h < wr.heap.size ∧ (∃ cur, wr.heap[h]? = some (.cells cur 5 (0, 0))) ∧ (∀ q, q < len j + 20 → wr.cell? ⟨h, q, none⟩ = some (mark j)) ∧ ∀ j', i ≤ j' → j' < n → (v j').ownBlock ≠ some h
  all : wr.ownsRow 0 23 1 av i (LV gs i)
  alln : ∀ b, av.ownBlock = some b → wa.heap.size ≤ b
  chg : Chg (Fv n v) wa wr
structure BV (wa : World) (n : Nat) (v : Nat → Value) : Prop where
  apart : Apart n v
  lt : ∀ j b, j < n → (v j).ownBlock = some b → b < wa.heap.size
  form : ∀ j, j < n → ∃ p n c, v j = .slice p n c ∧ (∀ a, p = some a → a.off = 0 ∧ a.spot = none)
theorem B2.next {wa wi wr w2 : World} {n i : Nat} {v : Nat → Value} {len : Nat → Nat} {gs : Nat → Value} {av av' gv : Value} {o : Obj} (hv : BV wa n v) (h : B2 wa wi n v len i gs av) (hi : i < n) (hg : G2 wi wr (v i) (len i) i 20 gv)
    (hr : w2.ownsRow 0 23 1 av' (i + 1) (LV gs i ++ [gv])) (hgr : (wr.alloc o).grownBy w2 av.ownBlock) (hw : av'.ownBlock = av.ownBlock ∨ av'.ownBlock = some (wr.alloc o).heap.size) : B2 wa w2 n v len (i + 1) (fun j => if j = i then gv else gs j) av' := by
  have s1 := h.chg.size
  have s2 := hg.chg.size
  have c2 : Chg (fun b => av.ownBlock = some b) wr w2 := ((Chg.refl (fun b => av.ownBlock = some b) wr).alloc o).grown hgr (fun k e _ => e)
  have s3 := c2.size
  have away : ∀ b, b < wi.heap.size → (v i).ownBlock ≠ some b → av.ownBlock ≠ some b → w2.heap[b]? = wi.heap[b]? := fun b hb h1 h2 => (c2.block b (by omega) h2).trans (hg.chg.block b hb h1)
  have vaway : ∀ j, j < n → j ≠ i → ∀ b, (v j).ownBlock = some b → w2.heap[b]? = wi.heap[b]? := fun j hj hne b hb => by
    have hlt := hv.lt j b hj hb
    exact away b (by omega) (hv.apart j i b hj hi hne hb) (fun e => by have := h.alln b e; omega)
  obtain ⟨hb, cb, hgv⟩ := slice_pos hg.row (by omega)
  obtain ⟨cur, hcur⟩ := row_block hg.row hb (by rw [hgv]; rfl)
  have hA := h.all
  have hAr : wr.ownsRow 0 23 1 av i (LV gs i) := row_kept hA fun b hb2 => hg.chg.block b (row_lt hA b hb2) (fun e => by have := hv.lt i b hi e; have := h.alln b hb2; omega)
  have hne : av.ownBlock ≠ some hb := block_apart hAr hcur (by decide)
  have hkeep : w2.heap[hb]? = wr.heap[hb]? := c2.block hb (lt_of hcur) hne
  refine ⟨fun j h1 h2 => ?_, fun j hj q hq => ?_, fun j hj => ?_, ?_, fun b hb2 => ?_, ?_⟩
  · exact row_kept (h.rows j (by omega) h2) fun b hb2 => vaway j h2 (by omega) b hb2
  · by_cases e : j = i
    · subst e
      rw [cellV_kept (W := wr) (fun b hb2 => c2.block b (by have := hv.lt j b hj hb2; omega) (fun e => by have := hv.lt j b hj hb2; have := h.alln b e; omega)) (hv.form j hj)]
      exact hg.rvi q hq
    · rw [cellV_kept (W := wi) (fun b hb2 => vaway j hj e b hb2) (hv.form j hj)]
      exact h.rv j hj q hq
  · by_cases e : j = i
    · subst e
      rw [if_pos rfl]
      refine ⟨hb, cb, hgv, by have := lt_of hcur; omega, ⟨cur, hkeep.trans hcur⟩, fun q hq => ?_, fun j' h1 h2 e2 => ?_⟩
      · have e3 := row_cellV hg.row q hq
        rw [hgv, cellV_some, List.getElem?_replicate, if_pos hq] at e3
        exact (World.cell?_of_block (w := wr) hkeep).trans e3
      · rcases hg.blk with e4 | e4
        · exact hv.apart j j' hb hi h2 (by omega) (by rw [← e4, hgv]; rfl) e2
        · have := e4 hb (by rw [hgv]; rfl)
          have := hv.lt j' hb h2 e2
          omega
    · rw [if_neg e]
      obtain ⟨x, d, q1, q2, ⟨cx, q3⟩, q4, q5⟩ := h.gf j (by omega)
      have hx : w2.heap[x]? = wi.heap[x]? := away x q2 (q5 i (Nat.le_refl _) hi) (block_apart hA q3 (by decide))
      exact ⟨x, d, q1, by omega, ⟨cx, hx.trans q3⟩, fun q hq => (World.cell?_of_block (w := wi) hx).trans (q4 q hq), fun j' h1 h2 => q5 j' (by omega) h2⟩
  · rw [LV_snoc]
    exact hr
  · rcases hw with e | e
    · rw [e] at hb2
      exact h.alln b hb2
    · rw [e] at hb2
      simp at hb2
      omega
  · exact (h.chg.trans hg.chg (H := Fv n v) (fun _ _ x => x) (fun b _ x => ⟨i, hi, x⟩)).trans c2 (fun _ _ x => x) (fun b hb2 x => by have := h.alln b x; omega)
end Go.Proofs.Ytbmfjcdafjknaab
/- The book's look at its lists of bytes: where they share no memory it tells true. -/
namespace Go.Proofs.Ytbmfjcdafjknaab
open Go.RowKit Go.Maps

theorem infoLists : (Try.prog.info? 23).map (fun i => (i.zero, i.size, i.bytes)) = some (some (.slice none 0 0), 1, 24) := by kernel_rfl
set_option maxRecDepth 100000 in
set_option maxHeartbeats 16000000 in
theorem alone_g (Bk n : Nat) (ov : Value) (v : Nat → Value) (len : Nat → Nat) (w : World) (hn : n ≤ 100) (hn0 : 0 < n) (hb : BkB w Bk ov n v) (hr : RowsM w n v len (fun _ => 0)) (ha : Apart n v) (hlen : ∀ j, j < n → len j ≤ 17592186043904) :
    Calls Try.prog 24 #[.pointer (some ⟨Bk, 0, none⟩)] w fun e w' => e = .returned (.bool true) ∧ Chg (Fv n v) w w' := by
  obtain ⟨i0, hi, hz0, hz1, hz2⟩ := info_parts infoU8
  obtain ⟨i1, hi1, hy0, hy1, hy2⟩ := info_parts infoLists
  obtain ⟨go, co, rfl⟩ := slice_pos hb.outer hn0
  have HB := keepH hb
  have HR := keepH hr
  have HA := keepH ha
  have HLEN := keepH hlen
  have HI0 := keepH hi
  have HI1 := keepH hi1
  clear hb hr ha hlen hi hi1
  go_enter Try.func24, Try.ntmps24
  go_wp2_with fail
  go_loopw [3] (fun s wr => ∃ i : Nat, i ≤ n ∧ s = .int .i64 (i : Int) ∧ Hid (BkB wr Bk (.slice (some ⟨go, 0, none⟩) n co) n v ∧ RowsM wr n v len (fun j => if j < i then len j else 0) ∧ Chg (Fv n v) w wr)) (fun s _ => n - (intOf s).toNat)
  case atStart => exact ⟨0, by omega, rfl, keepH ⟨HB.out, by simpa using HR.out, Chg.refl _ _⟩⟩
  case round =>
    obtain ⟨i, hin, rfl, HK⟩ := hrel
    have c1 := HK.out.1.cell
    by_cases hlt : i < n
    · have t1 : (i : Int) < (n : Int) := by omega
      have hti : (i : Int).tmod 200 = (i : Int) := by rw [Int.tmod_eq_emod_of_nonneg (by omega)]; omega
      obtain ⟨xs, hx, hx2⟩ := HK.out.2.1 i hlt
      obtain ⟨pi, ci, hvi⟩ := slice_of hx
      obtain ⟨li, hli⟩ : ∃ li, li = len i := ⟨_, rfl⟩
      have hlib : li ≤ 17592186043904 := by rw [hli]; exact HLEN.out i hlt
      rw [← hli] at hvi
      have c2 := HK.out.1.at i hlt
      rw [hvi] at c2
      have HVI := keepH hvi
      have HLI := keepH hli
      clear hx2 hx hvi hli xs
      go_wp2_with fail
      clear c1 c2
      go_loopw [4] (fun s wx => ∃ k : Nat, k ≤ li ∧ s = .int .i64 (k : Int) ∧ Hid (BkB wx Bk (.slice (some ⟨go, 0, none⟩) n co) n v ∧ RowsM wx n v len (fun j => if j < i then len j else if j = i then k else 0) ∧ Chg (Fv n v) w wx)) (fun s _ => li - (intOf s).toNat)
      case atStart => exact ⟨0, by omega, rfl, keepH ⟨HK.out.1, HK.out.2.1.weak (fun j hj => by split; exact Nat.le_refl _; split <;> exact Nat.zero_le _), HK.out.2.2⟩⟩
      case round =>
        obtain ⟨wx, hwx⟩ : ∃ wx, wx = wr := ⟨_, rfl⟩
        rw [← hwx] at hrel ⊢
        clear hwx
        obtain ⟨k, hk, rfl, HJ⟩ := hrel
        have c1 := HJ.out.1.cell
        have c2 := HJ.out.1.at i hlt
        rw [HVI.out] at c2
        by_cases hkl : k < li
        · have t2 : (k : Int) < (li : Int) := by omega
          obtain ⟨xs, hx, _⟩ := HJ.out.2.1 i hlt
          rw [HVI.out, ← HLI.out] at hx
          obtain ⟨g, cg, hg⟩ := slice_pos hx (by omega)
          simp only [Value.slice.injEq, true_and] at hg
          obtain ⟨rfl, rfl⟩ := hg
          obtain ⟨y, hy⟩ : ∃ y, xs[k]? = some y := ⟨xs[k]'(by have := hx.1; omega), List.getElem?_eq_getElem _⟩
          have c3 : wx.cell? ⟨g, k, none⟩ = some y := by rw [← hy]; exact row_cellV hx k hkl
          obtain ⟨cur, hcur⟩ := row_block hx g rfl
          have fz : wx.frozen? ⟨g, k, none⟩ = false := free_of hcur k
          have hne := HJ.out.1.ne hx
          have HBN : Hid (BkB (wx.setCell ⟨g, k, none⟩ (mark i)) Bk (.slice (some ⟨go, 0, none⟩) n co) n v) := HJ.out.1.kept (Below.heap_setCell wx ⟨g, k, none⟩ (mark i) Bk (fun e => hne.1 (by rw [e]; rfl))) (fun b hb => Below.heap_setCell wx ⟨g, k, none⟩ (mark i) b (fun e => hne.2 b hb (by rw [e]; rfl)))
          have HRN : Hid (RowsM (wx.setCell ⟨g, k, none⟩ (mark i)) n v len (fun j => if j < i then len j else if j = i then k + 1 else 0)) := HJ.out.2.1.put HA.out hlt (by rw [← HLI.out]; exact hkl) (by rw [HVI.out, ← HLI.out]) (fun j q hj hq => by
            by_cases e1 : j < i
            · simp only [if_pos e1] at hq ⊢; exact .inl hq
            · by_cases e2 : j = i
              · simp only [if_neg e1, if_pos e2] at hq ⊢
                by_cases e3 : q = k
                · exact .inr ⟨e2, e3⟩
                · exact .inl (by omega)
              · simp only [if_neg e1, if_neg e2] at hq; omega)
          have HCN : Hid (Chg (Fv n v) w (wx.setCell ⟨g, k, none⟩ (mark i))) := HJ.out.2.2.setCell (fun _ => ⟨i, hlt, by rw [HVI.out]; rfl⟩) _
          clear hx hy hcur hne
          go_wp2_with fail
          go_roundw
          case rel => exact ⟨k + 1, by omega, by first | rfl | go_num, keepH ⟨HBN.out, HRN.out, HCN.out⟩⟩
          case measure => simp [intOf]; omega
        · obtain rfl : k = li := by omega
          have t2 : ¬ (k : Int) < (k : Int) := by omega
          go_wp2_with fail
          go_roundw
          case rel =>
            refine ⟨i + 1, by omega, by first | rfl | go_num, keepH ⟨HJ.out.1, HJ.out.2.1.weak (fun j hj => ?_), HJ.out.2.2⟩⟩
            by_cases e1 : j < i
            · simp only [if_pos e1, if_pos (show j < i + 1 by omega)]; exact Nat.le_refl _
            · by_cases e2 : j = i
              · simp only [if_neg e1, if_pos e2, if_pos (show j < i + 1 by omega)]; rw [e2, HLI.out]; exact Nat.le_refl _
              · simp only [if_neg (show ¬ j < i + 1 by omega)]; exact Nat.zero_le _
          case measure => simp [intOf]; omega
    · obtain rfl : i = n := by omega
      have t1 : ¬ (i : Int) < (i : Int) := by omega
      obtain ⟨wa, hwa⟩ : ∃ wa, wa = wr := ⟨_, rfl⟩
      rw [← hwa] at HK c1 ⊢
      clear hwa
      have HF : Hid (∀ j, j < i → wa.ownsRow 0 5 1 (v j) (len j) (List.replicate (len j) (mark j))) := fun j hj => by
        obtain ⟨xs, h1, h2⟩ := HK.out.2.1 j hj
        have e := all_marks (n := len j) (x := mark j) (by have := h1.1; omega) (fun q hq => h2 q (by simp only [if_pos hj]; exact hq))
        rw [← e]
        exact h1
      have HBV : Hid (BV wa i v) := ⟨HA.out, fun j b hj hb => row_lt (HF.out j hj) b hb, fun j hj => row_form (HF.out j hj)⟩
      have HBK : Hid (∀ X, Chg (Fv i v) wa X → BkB X Bk (.slice (some ⟨go, 0, none⟩) i co) i v) := fun X hX => HK.out.1.kept (hX.block Bk HK.out.1.lt (fun ⟨j, hj, e⟩ => (HK.out.1.ne (HF.out j hj)).1 e)) (fun b hb => hX.block b (row_lt HK.out.1.outer b hb) (fun ⟨j, hj, e⟩ => (HK.out.1.ne (HF.out j hj)).2 b hb e))
      have HCW : Hid (Chg (Fv i v) w wa) := HK.out.2.2
      have H20 : Hid (B2 wa wa i v len 0 (fun _ => .slice none 0 0) (.slice none 0 0)) := ⟨fun j _ hj => HF.out j hj, fun j hj q hq => by rw [row_cellV (HF.out j hj) q hq, List.getElem?_replicate, if_pos hq], fun j hj => by omega, World.ownsRow_nil _ _ _ _, fun b hb => by simp [Value.ownBlock] at hb, Chg.refl _ _⟩
      go_wp2_with fail
      clear c1 t1 HK HB HR
      go_loopw [5, 6] (fun av s wx => ∃ (m : Nat) (gs : Nat → Value), m ≤ i ∧ s = .int .i64 (m : Int) ∧ Hid (B2 wa wx i v len m gs av)) (fun _ s _ => i - (intOf s).toNat)
      case atStart => exact ⟨0, _, by omega, rfl, H20⟩
      case round =>
        clear H20
        obtain ⟨wi, hwi⟩ : ∃ wi, wi = wr := ⟨_, rfl⟩
        rw [← hwi] at hrel ⊢
        clear hwi
        obtain ⟨m, gs, hm, rfl, H2⟩ := hrel
        obtain ⟨av, hav⟩ : ∃ av, av = u5 := ⟨_, rfl⟩
        rw [← hav] at H2 ⊢
        clear hav
        have c1 := (HBK.out wi H2.out.chg).cell
        by_cases hmi : m < i
        · have t2 : (m : Int) < (i : Int) := by omega
          have hti : (m : Int).tmod 200 = (m : Int) := by rw [Int.tmod_eq_emod_of_nonneg (by omega)]; omega
          have c2 := (HBK.out wi H2.out.chg).at m hmi
          obtain ⟨pi, ci, hvi⟩ := slice_of (H2.out.rows m (Nat.le_refl _) hmi)
          obtain ⟨li, hli⟩ : ∃ li, li = len m := ⟨_, rfl⟩
          have hlib : li ≤ 17592186043904 := by rw [hli]; exact HLEN.out m hmi
          rw [← hli] at hvi
          rw [hvi] at c2
          have HVI := keepH hvi
          have HLI := keepH hli
          have HG0 : Hid (G2 wi wi (v m) li m 0 (.slice pi li ci)) := by
            have r := H2.out.rows m (Nat.le_refl _) hmi
            rw [← hli] at r
            exact ⟨by rw [← hvi]; exact r, fun q hq => by rw [row_cellV r q hq, List.getElem?_replicate, if_pos hq], .inl (by rw [hvi]), Chg.refl _ _, HBV.out.form m hmi, fun b hb => row_lt r b hb⟩
          clear hvi hli
          go_wp2_with fail
          clear c1 c2
          go_loopw [7, 8] (fun gv s wx => ∃ k : Nat, k ≤ 20 ∧ s = .int .i64 (k : Int) ∧ Hid (G2 wi wx (v m) li m k gv)) (fun _ s _ => 20 - (intOf s).toNat)
          case atStart => exact ⟨0, by omega, rfl, HG0⟩
          case round =>
            clear HG0
            obtain ⟨wx, hwx⟩ : ∃ wx, wx = wr := ⟨_, rfl⟩
            rw [← hwx] at hrel ⊢
            clear hwx
            obtain ⟨k, hk, rfl, HG⟩ := hrel
            obtain ⟨gv, hgv⟩ : ∃ gv, gv = u7 := ⟨_, rfl⟩
            rw [← hgv] at HG ⊢
            clear hgv
            by_cases hk20 : k < 20
            · have t3 : (k : Int) < 20 := by omega
              have hi := HI0.out
              go_wp2_with (first | (at_builtin; refine wpList_append_two _ rfl (.tmp 68) (.tmp 73) 23 rfl 5 i0 (.int .u8 0) 1 1 Try.underlying23 hi hz0 hz1 hz2 rfl (by decide) gv (li + k) (List.replicate (li + k) (mark m)) rfl (HG.out.row.alloc _) ⟨wx.heap.size, 0, none⟩ 1 1 [.int .u8 (48 + (m : Int))] rfl rfl (cells_new _ _ rfl _ _) (by intro u hu; simp at hu; subst hu; rfl) (by decide) (by unfold maxLen; omega) (by omega) ?_; intro v2 w2 r1 r2; have R1 := keepH r1; have R2 := keepH r2; clear r1 r2) | go_in)
              go_roundw
              case rel => exact ⟨k + 1, by omega, by first | rfl | go_num, keepH (HG.out.more R1.out R2.out)⟩
              case measure => simp [intOf]; omega
            · obtain rfl : k = 20 := by omega
              have t3 : ¬ (20 : Int) < 20 := by omega
              obtain ⟨hb, cb, hgv⟩ := slice_pos HG.out.row (by omega)
              subst hgv
              have hi1 := HI1.out
              have HAR : Hid (wx.ownsRow 0 23 1 av m (LV gs m)) := row_kept H2.out.all fun b hb2 => HG.out.chg.block b (row_lt H2.out.all b hb2) (fun e => by have := HBV.out.lt m b hmi e; have := H2.out.alln b hb2; omega)
              have hmb : m + 1 ≤ 1000000 := by omega
              go_wp2_with (first | (at_builtin; refine wpList_append_own_at _ rfl (.tmp 75) (.tmp 77) 33 rfl 0 23 i1 (.slice none 0 0) 1 24 Try.underlying33 hi1 hy0 hy1 hy2 rfl (by decide) av m (LV gs m) rfl (HAR.out.alloc _) ⟨wx.heap.size, 0, none⟩ 1 1 [.slice (some ⟨hb, 0, none⟩) (li + 20) cb] rfl rfl (cells_new _ _ rfl _ _) (by intro u hu; simp at hu; subst hu; rfl) (by unfold maxLen; omega) (by omega) (Nat.zero_le _) ?_; intro v3 w3 r1 r2 r3 r4; have R1 := keepH r1; have R2 := keepH r2; have R4 := keepH r4; clear r1 r2 r3 r4) | go_in)
              have HGL : Hid (G2 wi wx (v m) (len m) m 20 (.slice (some ⟨hb, 0, none⟩) (li + 20) cb)) := by have e := HG.out; rw [HLI.out] at e ⊢; exact e
              go_roundw
              case rel => exact ⟨m + 1, _, by omega, by first | rfl | go_num, keepH (B2.next HBV.out H2.out hmi HGL.out R1.out R2.out R4.out)⟩
              case measure => simp [intOf]; omega
        · obtain rfl : m = i := by omega
          have t2 : ¬ (m : Int) < (m : Int) := by omega
          obtain ⟨pa, ca, hpa⟩ := slice_pos H2.out.all hn0
          subst hpa
          have HCE : Hid (Chg (Fv m v) w wi) := HCW.out.trans H2.out.chg (fun _ _ x => x) (fun _ _ x => x)
          go_wp2_with fail
          clear c1 t2
          go_loopw [9] (fun s wx => ∃ j : Nat, j ≤ m ∧ s = .int .i64 (j : Int) ∧ Hid (wx = wi)) (fun s _ => m - (intOf s).toNat)
          case atStart => exact ⟨0, by omega, rfl, by first | exact keepH rfl | exact keepH trivial⟩
          case round =>
            obtain ⟨j, hj, rfl, HW⟩ := hrel
            have e1 : wr = wi := HW.out
            rw [e1]
            clear e1 HW
            by_cases hjm : j < m
            · have t3 : (j : Int) < (m : Int) := by omega
              have hti : (j : Int).tmod 200 = (j : Int) := by rw [Int.tmod_eq_emod_of_nonneg (by omega)]; omega
              obtain ⟨hx, dx, q1, q2, _, q4, _⟩ := H2.out.gf j hjm
              have a1 : wi.cell? ⟨pa, j, none⟩ = some (.slice (some ⟨hx, 0, none⟩) (len j + 20) dx) := by
                have e := row_cellV H2.out.all j hjm
                rw [cellV_some, LV_get gs m j hjm, q1] at e
                exact e
              obtain ⟨li, hli⟩ : ∃ li, li = len j := ⟨_, rfl⟩
              have hlib : li ≤ 17592186043904 := by rw [hli]; exact HLEN.out j hjm
              obtain ⟨l20, hl20⟩ : ∃ l20, l20 = li + 20 := ⟨_, rfl⟩
              rw [← hli, ← hl20] at a1 q4
              have HQ4 := keepH q4
              have HLI := keepH hli
              have hl20b : l20 ≤ 17592186043924 := by omega
              clear q1 q2 q4 hli hl20
              go_wp2_with fail
              go_loopw [10] (fun s wx => ∃ k : Nat, k ≤ l20 ∧ s = .int .i64 (k : Int) ∧ Hid (wx = wi)) (fun s _ => l20 - (intOf s).toNat)
              case atStart => exact ⟨0, by omega, rfl, by first | exact keepH rfl | exact keepH trivial⟩
              case round =>
                obtain ⟨k, hk, rfl, HW⟩ := hrel
                have e1 : wr = wi := HW.out
                rw [e1]
                clear e1 HW
                by_cases hkl : k < l20
                · have t4 : (k : Int) < (l20 : Int) := by omega
                  have a2 : wi.cell? ⟨hx, k, none⟩ = some (.int .u8 (48 + (j : Int))) := HQ4.out k hkl
                  go_wp2_with fail
                  go_roundw
                  case rel => exact ⟨k + 1, by omega, by first | rfl | go_num, by first | exact keepH rfl | exact keepH trivial⟩
                  case measure => simp [intOf]; omega
                · obtain rfl : k = l20 := by omega
                  have t4 : ¬ (k : Int) < (k : Int) := by omega
                  have c1 := (HBK.out wi H2.out.chg).cell
                  have c2 := (HBK.out wi H2.out.chg).at j hjm
                  obtain ⟨pj, nj, cj, hvj, hpj⟩ := HBV.out.form j hjm
                  have hvl : nj = li := by
                    obtain ⟨p', c', e⟩ := slice_of (HF.out j hjm)
                    rw [hvj] at e
                    simp only [Value.slice.injEq] at e
                    rw [HLI.out]
                    exact e.2.1
                  subst hvl
                  rw [hvj] at c2
                  have HVJ := keepH hvj
                  have HPJ := keepH hpj
                  clear hvj hpj
                  go_wp2_with fail
                  go_loopw [12] (fun s wx => ∃ k : Nat, k ≤ nj ∧ s = .int .i64 (k : Int) ∧ Hid (wx = wi)) (fun s _ => nj - (intOf s).toNat)
                  case atStart => exact ⟨0, by omega, rfl, by first | exact keepH rfl | exact keepH trivial⟩
                  case round =>
                    obtain ⟨k2, hk2, rfl, HW⟩ := hrel
                    have e1 : wr = wi := HW.out
                    rw [e1]
                    clear e1 HW
                    by_cases hkn : k2 < nj
                    · have t5 : (k2 : Int) < (nj : Int) := by omega
                      have hq := H2.out.rv j hjm k2 (by rw [← HLI.out]; exact hkn)
                      rw [HVJ.out] at hq
                      cases pj with
                      | none => simp [cellV] at hq
                      | some ad =>
                        obtain ⟨bl, off, spot⟩ := ad
                        obtain ⟨rfl, rfl⟩ := HPJ.out _ rfl
                        have a3 : wi.cell? ⟨bl, k2, none⟩ = some (.int .u8 (48 + (j : Int))) := hq
                        clear hq
                        go_wp2_with fail
                        go_roundw
                        case rel => exact ⟨k2 + 1, by omega, by first | rfl | go_num, by first | exact keepH rfl | exact keepH trivial⟩
                        case measure => simp [intOf]; omega
                    · obtain rfl : k2 = nj := by omega
                      have t5 : ¬ (k2 : Int) < (k2 : Int) := by omega
                      go_wp2_with fail
                      go_roundw
                      case rel => exact ⟨j + 1, by omega, by first | rfl | go_num, by first | exact keepH rfl | exact keepH trivial⟩
                      case measure => simp [intOf]; omega
            · obtain rfl : j = m := by omega
              have t3 : ¬ (j : Int) < (j : Int) := by omega
              go_wp2_with fail
              go_ret
              exact ⟨by simp, HCE.out⟩
end Go.Proofs.Ytbmfjcdafjknaab
