/- A script in memory. (mkSea.py) -/
import Derived.Test.YtmmaniolaljjlaaGreatDoorB8Sco
import Derived.Test.YtmmaniolaljjlaaGreatDoorB3Shelf
import Derived.Shelf.Abstract
namespace Go.Proofs.YtmmaniolaljjlaaGreatDoor
open Go.RowKit Go.Shelf
set_option linter.unusedVariables false

abbrev scR (ce sl : Int) (stp : Nat) (mu : Int) (tv pv : Value) : Array Value := #[.int .i64 ce, .int .i64 sl, .int .u64 (stp : Int), .int .i64 mu, tv, pv]
def ORd (W : World) (p : Option Addr) (l : List Opx) : Prop :=
  l = [] ∨ ∃ bk off, p = some ⟨bk, off, none⟩ ∧ bk < W.heap.size ∧ ∀ (i : Nat) (o : Opx), l[i]? = some o → ∃ kp kc, KRd W kp o.keys ∧ W.cell? ⟨bk, off + i * 11, none⟩ = some (.int .u8 (o.k : Int)) ∧ W.cell? ⟨bk, off + i * 11 + 1, none⟩ = some (.int .u64 (o.key : Int)) ∧ W.cell? ⟨bk, off + i * 11 + 2, none⟩ = some (.int .u64 (o.val : Int)) ∧ W.cell? ⟨bk, off + i * 11 + 3, none⟩ = some (.int .u64 (o.old : Int)) ∧ W.cell? ⟨bk, off + i * 11 + 4, none⟩ = some (.int .u64 (o.hnd : Int)) ∧ W.cell? ⟨bk, off + i * 11 + 5, none⟩ = some (.bool o.set) ∧ W.cell? ⟨bk, off + i * 11 + 6, none⟩ = some (.int .i64 o.rt) ∧ W.cell? ⟨bk, off + i * 11 + 7, none⟩ = some (.int .i64 o.ri) ∧ W.cell? ⟨bk, off + i * 11 + 8, none⟩ = some (.slice kp o.keys.length kc) ∧ W.cell? ⟨bk, off + i * 11 + 9, none⟩ = some (.int .u64 (o.lo : Int)) ∧ W.cell? ⟨bk, off + i * 11 + 10, none⟩ = some (.int .u64 (o.hi : Int))
theorem ORd.get {W : World} {p : Option Addr} {l : List Opx} (h : ORd W p l) (i : Nat) (o : Opx) (hx : l[i]? = some o) : ∃ bk off kp kc, p = some ⟨bk, off, none⟩ ∧ bk < W.heap.size ∧ KRd W kp o.keys ∧ W.cell? ⟨bk, off + i * 11, none⟩ = some (.int .u8 (o.k : Int)) ∧ W.cell? ⟨bk, off + i * 11 + 1, none⟩ = some (.int .u64 (o.key : Int)) ∧ W.cell? ⟨bk, off + i * 11 + 2, none⟩ = some (.int .u64 (o.val : Int)) ∧ W.cell? ⟨bk, off + i * 11 + 3, none⟩ = some (.int .u64 (o.old : Int)) ∧ W.cell? ⟨bk, off + i * 11 + 4, none⟩ = some (.int .u64 (o.hnd : Int)) ∧ W.cell? ⟨bk, off + i * 11 + 5, none⟩ = some (.bool o.set) ∧ W.cell? ⟨bk, off + i * 11 + 6, none⟩ = some (.int .i64 o.rt) ∧ W.cell? ⟨bk, off + i * 11 + 7, none⟩ = some (.int .i64 o.ri) ∧ W.cell? ⟨bk, off + i * 11 + 8, none⟩ = some (.slice kp o.keys.length kc) ∧ W.cell? ⟨bk, off + i * 11 + 9, none⟩ = some (.int .u64 (o.lo : Int)) ∧ W.cell? ⟨bk, off + i * 11 + 10, none⟩ = some (.int .u64 (o.hi : Int)) := by
  rcases h with rfl | ⟨bk, off, rfl, hb, h⟩
  · simp at hx
  · obtain ⟨kp, kc, h⟩ := h i o hx
    exact ⟨bk, off, kp, kc, rfl, hb, h⟩
theorem ORd.on {W X : World} {p : Option Addr} {l : List Opx} (h : ORd W p l) (hb : Below W.heap.size W X) : ORd X p l := by
  rcases h with rfl | ⟨bk, off, rfl, hl, h⟩
  · exact .inl rfl
  · refine .inr ⟨bk, off, rfl, Nat.lt_of_lt_of_le hl hb.size, fun i o hx => ?_⟩
    obtain ⟨kp, kc, hk, a0, a1, a2, a3, a4, a5, a6, a7, a8, a9, a10⟩ := h i o hx
    exact ⟨kp, kc, hk.on hb, cell_below a0 hb, cell_below a1 hb, cell_below a2 hb, cell_below a3 hb, cell_below a4 hb, cell_below a5 hb, cell_below a6 hb, cell_below a7 hb, cell_below a8 hb, cell_below a9 hb, cell_below a10 hb⟩
def TRd (W : World) (p : Option Addr) (ts : List (List Opx)) : Prop :=
  ts = [] ∨ ∃ bk off, p = some ⟨bk, off, none⟩ ∧ bk < W.heap.size ∧ ∀ (i : Nat) (l : List Opx), ts[i]? = some l → ∃ lp lc, ORd W lp l ∧ W.cell? ⟨bk, off + i, none⟩ = some (.slice lp l.length lc)
theorem TRd.get {W : World} {p : Option Addr} {ts : List (List Opx)} (h : TRd W p ts) (i : Nat) (l : List Opx) (hx : ts[i]? = some l) : ∃ bk off lp lc, p = some ⟨bk, off, none⟩ ∧ bk < W.heap.size ∧ ORd W lp l ∧ W.cell? ⟨bk, off + i, none⟩ = some (.slice lp l.length lc) := by
  rcases h with rfl | ⟨bk, off, rfl, hb, h⟩
  · simp at hx
  · obtain ⟨lp, lc, h⟩ := h i l hx
    exact ⟨bk, off, lp, lc, rfl, hb, h⟩
theorem TRd.on {W X : World} {p : Option Addr} {ts : List (List Opx)} (h : TRd W p ts) (hb : Below W.heap.size W X) : TRd X p ts := by
  rcases h with rfl | ⟨bk, off, rfl, hl, h⟩
  · exact .inl rfl
  · refine .inr ⟨bk, off, rfl, Nat.lt_of_lt_of_le hl hb.size, fun i l hx => ?_⟩
    obtain ⟨lp, lc, h1, h2⟩ := h i l hx
    exact ⟨lp, lc, h1.on hb, cell_below h2 hb⟩
def IRd (W : World) (p : Option Addr) (l : List Int) : Prop :=
  l = [] ∨ ∃ bk off, p = some ⟨bk, off, none⟩ ∧ bk < W.heap.size ∧ ∀ (i : Nat) (x : Int), l[i]? = some x → W.cell? ⟨bk, off + i, none⟩ = some (.int .i64 x)
theorem IRd.get {W : World} {p : Option Addr} {l : List Int} (h : IRd W p l) (i : Nat) (x : Int) (hx : l[i]? = some x) : ∃ bk off, p = some ⟨bk, off, none⟩ ∧ bk < W.heap.size ∧ W.cell? ⟨bk, off + i, none⟩ = some (.int .i64 x) := by
  rcases h with rfl | ⟨bk, off, rfl, hb, h⟩
  · simp at hx
  · exact ⟨bk, off, rfl, hb, h i x hx⟩
theorem IRd.on {W X : World} {p : Option Addr} {l : List Int} (h : IRd W p l) (hb : Below W.heap.size W X) : IRd X p l := by
  rcases h with rfl | ⟨bk, off, rfl, hl, h⟩
  · exact .inl rfl
  · exact .inr ⟨bk, off, rfl, Nat.lt_of_lt_of_le hl hb.size, fun i x hx => cell_below (h i x hx) hb⟩
/-- what a script is -/
structure SOk (ts : List (List Opx)) (ps : List Int) : Prop where
  tl : ts.length ≤ 10000000
  pl : ps.length ≤ 10000000
  ll : ∀ l ∈ ts, l.length ≤ 10000000
  ok : ∀ l ∈ ts, ∀ o ∈ l, o.Ok ∧ o.keys.length ≤ 10000000
  pk : ∀ x ∈ ps, isI x
def anyO (P : Opx → Prop) (ts : List (List Opx)) : Prop := ∃ l ∈ ts, ∃ o ∈ l, P o
theorem anyO_at {P : Opx → Prop} {ts : List (List Opx)} {i j : Nat} {l : List Opx} {o : Opx} (h1 : ts[i]? = some l) (h2 : l[j]? = some o) (h : P o) : anyO P ts := ⟨l, List.mem_of_getElem? h1, o, List.mem_of_getElem? h2, h⟩
/-- none so far: in the lists ahead of i -/
def noT (P : Opx → Prop) (ts : List (List Opx)) (i : Nat) : Prop := ∀ l ∈ ts.take i, ∀ o ∈ l, ¬ P o
def noL (P : Opx → Prop) (l : List Opx) (j : Nat) : Prop := ∀ o ∈ l.take j, ¬ P o
theorem noT.zero (P : Opx → Prop) (ts : List (List Opx)) : noT P ts 0 := fun l hl => by simp at hl
theorem noL.zero (P : Opx → Prop) (l : List Opx) : noL P l 0 := fun l hl => by simp at hl
theorem noL.next {P : Opx → Prop} {l : List Opx} {j : Nat} {o : Opx} (h : noL P l j) (hx : l[j]? = some o) (hp : ¬ P o) : noL P l (j + 1) := fun x hm => by
  rw [List.take_add_one, hx] at hm
  rcases List.mem_append.1 hm with hm | hm
  · exact h x hm
  · simp at hm; subst hm; exact hp
theorem noT.next {P : Opx → Prop} {ts : List (List Opx)} {i : Nat} {l : List Opx} (h : noT P ts i) (hx : ts[i]? = some l) (hp : noL P l l.length) : noT P ts (i + 1) := fun x hm => by
  rw [List.take_add_one, hx] at hm
  rcases List.mem_append.1 hm with hm | hm
  · exact h x hm
  · simp at hm; subst hm
    intro o ho
    exact hp o (by rw [List.take_length]; exact ho)
theorem noT.all {P : Opx → Prop} {ts : List (List Opx)} (h : noT P ts ts.length) : ¬ anyO P ts := by
  rintro ⟨l, hl, o, ho, hp⟩
  exact h l (by rw [List.take_length]; exact hl) o ho hp
def tooO (o : Opx) : Prop := o.k = 7 ∧ 1024 < o.keys.length
instance (o : Opx) : Decidable (tooO o) := by unfold tooO; infer_instance
def longT (ts : List (List Opx)) (ps : List Int) : Prop := (∃ l ∈ ts, 4096 < l.length) ∨ 64 < ts.length ∨ 1048576 < ps.length
end Go.Proofs.YtmmaniolaljjlaaGreatDoor
/- A copy of a script in memory of its own: what it is made of. -/
namespace Go.Proofs.YtmmaniolaljjlaaGreatDoor
open Go.RowKit Go.Shelf
set_option linter.unusedVariables false

def opC (o : Opx) (kv : Value) : List Value := (opR o.k o.key o.val o.old o.hnd o.set o.rt o.ri kv o.lo o.hi).toList
theorem opC_len (o : Opx) (kv : Value) : (opC o kv).length = 11 := rfl
def opRows : List Opx → List Value → List Value
  | o :: l, kv :: ks => opC o kv ++ opRows l ks
  | _, _ => []
theorem opRows_snoc : ∀ (l : List Opx) (ks : List Value) (o : Opx) (kv : Value), ks.length = l.length → opRows (l ++ [o]) (ks ++ [kv]) = opRows l ks ++ opC o kv
  | [], [], o, kv, _ => by simp [opRows]
  | [], k :: ks, o, kv, h => by simp at h
  | a :: l, [], o, kv, h => by simp at h
  | a :: l, k :: ks, o, kv, h => by
    simp only [List.cons_append, opRows]
    rw [opRows_snoc l ks o kv (by simpa using h)]
    simp
theorem opRows_at : ∀ (l : List Opx) (ks : List Value) (i q : Nat) (o : Opx) (kv : Value), l[i]? = some o → ks[i]? = some kv → q < 11 → (opRows l ks)[i * 11 + q]? = (opC o kv)[q]?
  | a :: l, k :: ks, 0, q, o, kv, h1, h2, hq => by
    simp at h1 h2
    subst h1 h2
    simp only [opRows]
    rw [List.getElem?_append_left (by rw [opC_len]; omega)]
    simp
  | a :: l, k :: ks, i + 1, q, o, kv, h1, h2, hq => by
    simp only [opRows]
    rw [List.getElem?_append_right (by rw [opC_len]; omega), opC_len, show (i + 1) * 11 + q - 11 = i * 11 + q by omega]
    exact opRows_at l ks i q o kv (by simpa using h1) (by simpa using h2) hq
  | [], _, i, q, o, kv, h1, _, _ => by simp at h1
  | a :: l, [], i, q, o, kv, _, h2, _ => by simp at h2
def KyO (Z wr : World) (keys : List Nat) (kv : Value) : Prop := wr.ownsRow 0 23 1 kv keys.length (uRow keys) ∧ ∀ b, kv.ownBlock = some b → Z.heap.size ≤ b
/-- a list of operations of one's own -/
def OB (Z wr : World) (v : Value) (l : List Opx) : Prop := ∃ ks : List Value, ks.length = l.length ∧ wr.ownsRow 0 28 11 v l.length (opRows l ks) ∧ (∀ b, v.ownBlock = some b → Z.heap.size ≤ b) ∧ ∀ (i : Nat) (o : Opx) (kv : Value), l[i]? = some o → ks[i]? = some kv → KyO Z wr o.keys kv
def Kp (wr X : World) : Prop := ∀ (b : Nat) (cur : Array Value) (t : TypeId), wr.heap[b]? = some (.cells cur t (0, 0)) → (t = 28 ∨ t = 23) → X.heap[b]? = wr.heap[b]?
theorem Kp.bel {wr X : World} (h : Below wr.heap.size wr X) : Kp wr X := fun b cur t hb _ => h.block b (Array.getElem?_eq_some_iff.1 hb).1
theorem row_keptK {wr X : World} {e : TypeId} {s n : Nat} {v : Value} {xs : List Value} (h : wr.ownsRow 0 e s v n xs) (hk : Kp wr X) (he : e = 28 ∨ e = 23) : X.ownsRow 0 e s v n xs := row_kept h fun b hb => by
  obtain ⟨cur, hcur⟩ := row_block h b hb
  exact hk b cur e hcur he
theorem OB.kept {Z wr X : World} {v : Value} {l : List Opx} (h : OB Z wr v l) (hk : Kp wr X) : OB Z X v l := by
  obtain ⟨ks, h1, h2, h3, h4⟩ := h
  exact ⟨ks, h1, row_keptK h2 hk (.inl rfl), h3, fun i o kv ho hkv => ⟨row_keptK (h4 i o kv ho hkv).1 hk (.inr rfl), (h4 i o kv ho hkv).2⟩⟩
theorem OB.nil (Z wr : World) : OB Z wr (.slice none 0 0) [] := ⟨[], rfl, World.ownsRow_nil _ _ _ _, fun b hb => by simp [Value.ownBlock] at hb, fun i o kv ho => by simp at ho⟩
theorem OB.more {Z w1 w2 : World} {v v' kv : Value} {l : List Opx} {o : Opx} {ob : Obj} {ks : List Value} (h1 : ks.length = l.length) (h2 : w1.ownsRow 0 28 11 v l.length (opRows l ks)) (h3 : ∀ b, v.ownBlock = some b → Z.heap.size ≤ b) (h4 : ∀ (i : Nat) (o : Opx) (kv : Value), l[i]? = some o → ks[i]? = some kv → KyO Z w1 o.keys kv)
    (hZ : Z.heap.size ≤ w1.heap.size) (hkv : KyO Z w1 o.keys kv) (hr : w2.ownsRow 0 28 11 v' (l.length + 1) (opRows l ks ++ opC o kv)) (hg : (w1.alloc ob).grownBy w2 v.ownBlock) (hw : v'.ownBlock = v.ownBlock ∨ v'.ownBlock = some (w1.alloc ob).heap.size) : OB Z w2 v' (l ++ [o]) := by
  have ky : ∀ keys kv, KyO Z w1 keys kv → KyO Z w2 keys kv := fun keys kv hk => ⟨row_kept hk.1 fun b hb => by
    obtain ⟨cur, hcur⟩ := row_block hk.1 b hb
    have hlt := (Array.getElem?_eq_some_iff.1 hcur).1
    have ha : (w1.alloc ob).heap[b]? = w1.heap[b]? := Below.heap_alloc _ _ _ hlt
    rw [← ha]
    refine hg.block b (by simp; omega) (fun e => ?_)
    obtain ⟨cur2, hcur2⟩ := row_block h2 b e.symm
    rw [hcur] at hcur2
    injection hcur2 with hcur2
    injection hcur2 with _ ht
    exact absurd ht (by decide), hk.2⟩
  refine ⟨ks ++ [kv], by simp [h1], by rw [opRows_snoc l ks o kv h1, List.length_append]; exact hr, fun b hb => ?_, fun i x kx hx hkx => ?_⟩
  · rcases hw with e | e
    · rw [e] at hb; exact h3 b hb
    · rw [e] at hb
      simp at hb
      omega
  · by_cases hi : i < l.length
    · rw [List.getElem?_append_left hi] at hx
      rw [List.getElem?_append_left (by omega)] at hkx
      exact ky _ _ (h4 i x kx hx hkx)
    · have hi2 : i = l.length := by
        have := (List.getElem?_eq_some_iff.1 hx).1
        simp at this
        omega
      subst hi2
      rw [← h1] at hkx
      simp at hx hkx
      subst hx hkx
      exact ky _ _ hkv
theorem KyO.form {Z wr : World} {keys : List Nat} {kv : Value} (h : KyO Z wr keys kv) : ∃ kp kc, kv = .slice kp keys.length kc ∧ KRd wr kp keys := by
  have hl := fun k hk => row_lt h.1 k hk
  have hc := fun g (hg : kv.ownBlock = some g) => h.1.cells (g := g) hg
  rcases h.1.2 with ⟨hv, h0⟩ | ⟨g, cap, cur, hv, _⟩
  · exact ⟨none, 0, by rw [hv, h0], .inl (List.eq_nil_of_length_eq_zero h0)⟩
  · refine ⟨_, cap, hv, .inr ⟨g, 0, rfl, hl g (by rw [hv]; rfl), fun i x hx => ?_⟩⟩
    have := hc g (by rw [hv]; rfl) i (.int .u64 (x : Int)) (by unfold uRow; rw [List.getElem?_map, hx]; rfl)
    rw [Addr.add_mid] at this
    exact this
theorem OB.ord {Z wr : World} {v : Value} {l : List Opx} (h : OB Z wr v l) : ∃ lp lc, v = .slice lp l.length lc ∧ ORd wr lp l := by
  obtain ⟨ks, h1, h2, h3, h4⟩ := h
  have h2' := h2
  rcases h2.2 with ⟨hv, h0⟩ | ⟨g, cap, cur, hv, _⟩
  · exact ⟨none, 0, by rw [hv, h0], .inl (List.eq_nil_of_length_eq_zero h0)⟩
  · refine ⟨_, cap, hv, .inr ⟨g, 0, rfl, row_lt h2 g (by rw [hv]; rfl), fun i o ho => ?_⟩⟩
    have hi := (List.getElem?_eq_some_iff.1 ho).1
    obtain ⟨kv, hkv⟩ : ∃ kv, ks[i]? = some kv := ⟨_, List.getElem?_eq_getElem (by omega)⟩
    obtain ⟨kp, kc, rfl, hK⟩ := (h4 i o kv ho hkv).form
    rw [hv] at h2'
    have hcell : ∀ q, q < 11 → wr.cell? ⟨g, 0 + i * 11 + q, none⟩ = (opC o (.slice kp o.keys.length kc))[q]? := fun q hq => by
      rw [Nat.zero_add, World.ownsRow.cellAt h2' (i * 11 + q) (by omega)]
      exact opRows_at l ks i q o _ ho hkv hq
    exact ⟨kp, kc, hK, hcell 0 (by decide), hcell 1 (by decide), hcell 2 (by decide), hcell 3 (by decide), hcell 4 (by decide), hcell 5 (by decide), hcell 6 (by decide), hcell 7 (by decide), hcell 8 (by decide), hcell 9 (by decide), hcell 10 (by decide)⟩
end Go.Proofs.YtmmaniolaljjlaaGreatDoor
/- The bank of a plain memory: what lies where, and what its small calls do. -/
namespace Go.Proofs.YtmmaniolaljjlaaGreatDoor
open Go.RowKit

def u64V (x : Nat) : Value := .int .u64 (x : Int)
def cellN (cs : List Nat) (i : Nat) : Nat := cs.getD i 0

/-- An access as the trace has it. -/
structure Acc where
  th : Int
  kind : Nat
  addr : Nat
  a : Nat
  b : Nat
  vs : Value
  vals : List Nat
  got : Nat
  ok : Bool
def Acc.cells (x : Acc) : List Value := [.int .i64 x.th, .int .u8 (x.kind : Int), .int .u64 (x.addr : Int), .int .u64 (x.a : Int), .int .u64 (x.b : Int), x.vs, .int .u64 (x.got : Int), .bool x.ok]
def accRow (l : List Acc) : List Value := l.flatMap Acc.cells

def bankCells (cv av : Value) (most next : Nat) : Array Value := #[cv, .int .i64 (most : Int), .int .i64 (next : Int), av]

structure BankAt (W : World) (F : Nat → Prop) (b : Nat) (cv av : Value) (most next : Nat) (cs : List Nat) (l : List Acc) : Prop where
  blk : W.heap[b]? = some (.cells (bankCells cv av most next) 238 (0, 0))
  row : W.ownsRow 0 23 1 cv cs.length (cs.map u64V)
  acc : W.ownsRow 0 208 8 av l.length (accRow l)
  vals : ∀ x ∈ l, W.ownsRow 0 23 1 x.vs x.vals.length (x.vals.map u64V)
  ne : ∀ x ∈ l, ∀ k, x.vs.ownBlock = some k → cv.ownBlock ≠ some k
  inb : F b
  inc : ∀ k, cv.ownBlock = some k → F k
  ina : ∀ k, av.ownBlock = some k → F k
  inv : ∀ x ∈ l, ∀ k, x.vs.ownBlock = some k → F k
  lt : ∀ k, F k → k < W.heap.size
  most_le : most ≤ 4194304
  next_le : 1 ≤ next ∧ next ≤ most
  len_le : cs.length ≤ most
  small : ∀ c ∈ cs, c < 18446744073709551616

def Bank (W : World) (F : Nat → Prop) (b : Nat) (most next : Nat) (cs : List Nat) (l : List Acc) : Prop := ∃ cv av, BankAt W F b cv av most next cs l

/-- What a bank's blocks hold is all that it is. -/
theorem BankAt.kept {W W' : World} {F : Nat → Prop} {b most next : Nat} {cv av : Value} {cs : List Nat} {l : List Acc} (h : BankAt W F b cv av most next cs l) (hs : W.heap.size ≤ W'.heap.size) (hk : ∀ k, F k → W'.heap[k]? = W.heap[k]?) : BankAt W' F b cv av most next cs l :=
  ⟨(hk b h.inb).trans h.blk, row_kept h.row fun k e => hk k (h.inc k e), row_kept h.acc fun k e => hk k (h.ina k e), fun x hx => row_kept (h.vals x hx) fun k e => hk k (h.inv x hx k e), h.ne, h.inb, h.inc, h.ina, h.inv,
    fun k e => Nat.lt_of_lt_of_le (h.lt k e) hs, h.most_le, h.next_le, h.len_le, h.small⟩
theorem Bank.kept {W W' : World} {F : Nat → Prop} {b most next : Nat} {cs : List Nat} {l : List Acc} (h : Bank W F b most next cs l) (hs : W.heap.size ≤ W'.heap.size) (hk : ∀ k, F k → W'.heap[k]? = W.heap[k]?) : Bank W' F b most next cs l :=
  let ⟨cv, av, h⟩ := h; ⟨cv, av, h.kept hs hk⟩
theorem Bank.chg {W W' : World} {F G : Nat → Prop} {b most next : Nat} {cs : List Nat} {l : List Acc} (h : Bank W F b most next cs l) (hc : Chg G W W') (hd : ∀ k, F k → ¬ G k) : Bank W' F b most next cs l :=
  let ⟨_, _, h0⟩ := h; h.kept hc.size fun k e => hc.block k (h0.lt k e) (hd k e)

theorem u64_lt {x : Nat} (h : x < 18446744073709551616) : IntKind.u64.wrap (x : Int) = (x : Int) := by rw [IntKind.wrap_u64]; omega
theorem slice_of {W : World} {e : TypeId} {s n : Nat} {v : Value} {xs : List Value} (h : W.ownsRow 0 e s v n xs) : ∃ p c, v = .slice p n c := by
  rcases h.2 with ⟨rfl, rfl⟩ | ⟨g, cap, cur, rfl, _⟩
  · exact ⟨_, _, rfl⟩
  · exact ⟨_, _, rfl⟩
theorem slice_pos {W : World} {e : TypeId} {s n : Nat} {v : Value} {xs : List Value} (h : W.ownsRow 0 e s v n xs) (hn : 0 < n) : ∃ g c, v = .slice (some ⟨g, 0, none⟩) n c := by
  rcases h.2 with ⟨rfl, rfl⟩ | ⟨g, cap, cur, rfl, _⟩
  · omega
  · exact ⟨g, cap, rfl⟩
end Go.Proofs.YtmmaniolaljjlaaGreatDoor
/- The bank of a plain memory: it reaches out, stores, compares and adds. -/
namespace Go.Proofs.YtmmaniolaljjlaaGreatDoor
open Go.RowKit Go.Shelf

theorem infoU : (Tryz.prog.info? 23).map (fun i => (i.zero, i.size, i.bytes)) = some (some (.int .u64 0), 1, 8) := by kernel_rfl

/-- From one footprint to another: what has changed lay in the first, what is new in the second is new. -/
structure Goes (W W' : World) (F F' : Nat → Prop) : Prop where
  chg : Chg F W W'
  new : ∀ k, F' k → F k ∨ W.heap.size ≤ k
theorem Goes.refl (W : World) (F : Nat → Prop) : Goes W W F F := ⟨Chg.refl F W, fun _ h => .inl h⟩
theorem Goes.trans {W W1 W2 : World} {F F1 F2 : Nat → Prop} (h : Goes W W1 F F1) (k : Goes W1 W2 F1 F2) : Goes W W2 F F2 :=
  ⟨h.chg.trans k.chg (fun _ _ x => x) (fun i hi x => (h.new i x).resolve_right (by omega)), fun i x => (k.new i x).elim (h.new i) (fun y => .inr (Nat.le_trans h.chg.size y))⟩

def padN (cs : List Nat) (n : Nat) : List Nat := cs ++ List.replicate (n - cs.length) 0
theorem padN_length (cs : List Nat) (n : Nat) : (padN cs n).length = max cs.length n := by simp [padN]; omega
theorem padN_cell (cs : List Nat) (n i : Nat) : cellN (padN cs n) i = cellN cs i := by
  simp only [cellN, padN, List.getD_eq_getElem?_getD, List.getElem?_append, List.getElem?_replicate]
  split
  · rfl
  · rw [List.getElem?_eq_none (by omega)]
    split <;> rfl
theorem padN_id (cs : List Nat) (n : Nat) (h : n ≤ cs.length) : padN cs n = cs := by simp [padN, show n - cs.length = 0 by omega]
def putN (cs : List Nat) (i v : Nat) : List Nat := (padN cs (i + 1)).set i v
theorem putN_cell (cs : List Nat) (i v j : Nat) : cellN (putN cs i v) j = if j = i then v else cellN cs j := by
  have hl := padN_length cs (i + 1)
  by_cases h : j = i
  · subst h
    simp only [cellN, putN, List.getD_eq_getElem?_getD, List.getElem?_set]
    simp [show j < (padN cs (j + 1)).length by omega]
  · rw [if_neg h, ← padN_cell cs (i + 1) j]
    simp only [cellN, putN, List.getD_eq_getElem?_getD, List.getElem?_set]
    simp [Ne.symm h]

set_option maxRecDepth 100000 in
theorem p_reach (b most next count : Nat) (F : Nat → Prop) (cs : List Nat) (l : List Acc) (W : World) (h : Bank W F b most next cs l) (hc : count ≤ most) :
    Calls Tryz.prog 202 #[.pointer (some ⟨b, 0, none⟩), .int .i64 (count : Int)] W fun e W' => e = .returned (.tuple #[]) ∧ ∃ F', Bank W' F' b most next (padN cs count) l ∧ Goes W W' F F' := by
  obtain ⟨i0, hi, hz0, hz1, hz2⟩ := info_parts infoU
  obtain ⟨cv, av, h⟩ := h
  have c0 : W.cell? ⟨b, 0, none⟩ = some cv := cell_of h.blk 0
  have f0 := free_of h.blk 0
  have hml := h.most_le
  have hll := h.len_le
  by_cases h1 : count ≤ cs.length
  · have ti : ¬ (0 : Int) < (count : Int) - (cs.length : Int) := by omega
    have wl : IntKind.i64.wrap ((count : Int) - (cs.length : Int)) = (count : Int) - (cs.length : Int) := by rw [IntKind.wrap_i64]; omega
    have H := keepH h
    obtain ⟨p, c, rfl⟩ := slice_of h.row
    clear h
    go_enter Tryz.func202, Tryz.ntmps202
    go_wp2_with fail
    go_end0
    exact ⟨rfl, F, ⟨_, _, by rw [padN_id cs count h1]; exact H.out⟩, Goes.refl _ _⟩
  · obtain ⟨m, hmm⟩ : ∃ m, m = count - cs.length := ⟨_, rfl⟩
    have hm : 0 < m := by omega
    have wl : IntKind.i64.wrap ((count : Int) - (cs.length : Int)) = (m : Int) := by rw [IntKind.wrap_i64]; omega
    have ti : (0 : Int) < (m : Int) := by omega
    have h63 : cs.length + m ≤ 1099511627776 := by omega
    have HM := keepH hmm
    have H := keepH h
    have hrow := h.row
    obtain ⟨p, c, hcv⟩ := slice_of h.row
    have HV := keepH hcv
    have hlt := lt_of h.blk
    subst hcv
    clear h h1 hmm
    go_enter Tryz.func202, Tryz.ntmps202
    go_wp2_with (at_builtin; refine wpList_append_zeros _ rfl _ _ 26 3 rfl 23 i0 (.int .u64 0) 8 Tryz.underlying26 Tryz.underlying3 hi hz0 hz1 hz2 rfl rfl (.slice p cs.length c) cs.length _ rfl hrow m rfl hm h63 (by omega) ?_; intro v' w1 hown hgrow hwhere; obtain ⟨g', c', rfl⟩ := slice_pos hown (by omega); have hb1 := keepH ((hgrow.block b hlt (fun e => block_apart H.out.row H.out.blk (by decide) e.symm)).trans H.out.blk); have c1 := (cell_of hb1.out 0).trans rfl; have f1 := free_of hb1.out 0; have HO := keepH hown; have HW := keepH hwhere; clear hown hwhere)
    go_end0
    have h := H.out
    have hbk := HW.out
    have hg' : g' < w1.heap.size := row_lt HO.out g' rfl
    have epad : padN cs count = cs ++ List.replicate m 0 := by have := HM.out; subst this; rfl
    have en : ∀ k, F k → k ≠ b → (Value.slice p cs.length c).ownBlock ≠ some k → (w1.setCell ⟨b, 0, none⟩ (.slice (some ⟨g', 0, none⟩) (cs.length + m) c')).heap[k]? = W.heap[k]? := fun k hk hb hc => (Below.heap_setCell _ _ _ _ hb).trans (hgrow.block k (h.lt k hk) (fun e => hc e.symm))
    have gb : g' ≠ b := fun e => block_apart HO.out hb1.out (by decide) (by rw [e]; rfl)
    have hsz : (w1.setCell ⟨b, 0, none⟩ (.slice (some ⟨g', 0, none⟩) (cs.length + m) c')).heap.size = w1.heap.size := by simp [World.setCell]
    refine ⟨rfl, fun k => F k ∨ k = g', ⟨.slice (some ⟨g', 0, none⟩) (cs.length + m) c', av, ?_, ?_, ?_, ?_, ?_, .inl h.inb, ?_, fun k e => .inl (h.ina k e), fun x hx k e => .inl (h.inv x hx k e), ?_, h.most_le, h.next_le, ?_, ?_⟩, ⟨?_, ?_⟩⟩
    · have e := set_of hb1.out 0 (.slice (some ⟨g', 0, none⟩) (cs.length + m) c')
      exact e
    · rw [epad]
      have r := row_kept (W' := w1.setCell ⟨b, 0, none⟩ (.slice (some ⟨g', 0, none⟩) (cs.length + m) c')) HO.out fun k e => Below.heap_setCell _ _ _ _ (by simp [Value.ownBlock] at e; rw [← e]; exact gb)
      simpa [u64V] using r
    · exact row_kept h.acc fun k e => en k (h.ina k e) (fun e2 => block_apart h.acc h.blk (by decide) (by rw [e, e2])) (fun e2 => rows_apart h.row h.acc (by decide) k e2 e)
    · intro x hx
      exact row_kept (h.vals x hx) fun k e => en k (h.inv x hx k e) (fun e2 => block_apart (h.vals x hx) h.blk (by decide) (by rw [e, e2])) (fun e2 => h.ne x hx k e e2)
    · intro x hx k e e2
      rcases hbk with hb | hb
      · exact h.ne x hx k e (hb.symm.trans e2)
      · have := row_lt (h.vals x hx) k e
        rw [hb] at e2
        simp at e2
        omega
    · intro k e
      simp [Value.ownBlock] at e
      exact .inr e.symm
    · rw [hsz]
      rintro k (hk | rfl)
      · exact Nat.lt_of_lt_of_le (h.lt k hk) hgrow.size
      · exact hg'
    · rw [padN_length]
      omega
    · rw [epad]
      intro x hx
      rcases List.mem_append.1 hx with hx | hx
      · exact h.small x hx
      · rw [List.eq_of_mem_replicate hx]
        decide
    · exact ((Chg.refl F W).grown hgrow fun k e _ => h.inc k e).setCell (fun _ => h.inb) _
    · rintro k (hk | rfl)
      · exact .inl hk
      · rcases hbk with hb | hb
        · exact .inl (h.inc _ hb.symm)
        · simp [Value.ownBlock] at hb
          exact .inr (by omega)
end Go.Proofs.YtmmaniolaljjlaaGreatDoor
/- The bank of a plain memory: it stores, compares, adds, and tells its numbers. -/
namespace Go.Proofs.YtmmaniolaljjlaaGreatDoor
open Go.RowKit Go.Shelf

theorem BankAt.put {W : World} {F : Nat → Prop} {b g n c most next : Nat} {av : Value} {cs : List Nat} {l : List Acc} (h : BankAt W F b (.slice (some ⟨g, 0, none⟩) n c) av most next cs l) (i v : Nat) (hv : v < 18446744073709551616) :
    BankAt (W.setCell ⟨g, i, none⟩ (.int .u64 (v : Int))) F b (.slice (some ⟨g, 0, none⟩) n c) av most next (cs.set i v) l := by
  have gb : b ≠ g := fun e => block_apart h.row h.blk (by decide) (by rw [e]; rfl)
  have hn : n = cs.length := by
    rcases h.row.2 with ⟨h2, _⟩ | ⟨_, _, _, h2, _⟩
    · simp at h2
    · simp at h2; exact h2.2.1
  subst hn
  refine ⟨(Below.heap_setCell _ _ _ _ gb).trans h.blk, ?_, row_kept h.acc fun k e => Below.heap_setCell _ _ _ _ (fun e2 => rows_apart h.row h.acc (by decide) g rfl (by rw [e, e2])), fun x hx => row_kept (h.vals x hx) fun k e => Below.heap_setCell _ _ _ _ (fun e2 => h.ne x hx k e (by rw [e2]; rfl)), h.ne, h.inb, h.inc, h.ina, h.inv, fun k e => by simpa [World.setCell] using h.lt k e, h.most_le, h.next_le, by simpa using h.len_le, ?_⟩
  · have r := World.ownsRow.stored h.row i (.int .u64 (v : Int))
    rw [List.length_set]
    rw [List.map_set]
    exact r.1
  · intro x hx
    rcases List.mem_or_eq_of_mem_set hx with hx | hx
    · exact h.small x hx
    · omega
theorem BankAt.len {W : World} {F : Nat → Prop} {b most next : Nat} {cv av : Value} {cs : List Nat} {l : List Acc} (h : BankAt W F b cv av most next cs l) (hp : 0 < cs.length) : ∃ g c, cv = .slice (some ⟨g, 0, none⟩) cs.length c := slice_pos h.row hp
theorem Bank.drewN {W : World} {F : Nat → Prop} {b most next : Nat} {cs : List Nat} {l : List Acc} (h : Bank W F b most next cs l) (q : Nat) : Bank (W.drewN q) F b most next cs l := h.kept (Nat.le_refl _) fun _ _ => rfl
theorem Goes.drewN (W : World) (F : Nat → Prop) (q : Nat) : Goes W (W.drewN q) F F := ⟨⟨rfl, rfl, rfl, Nat.le_refl _, fun _ _ _ => rfl⟩, fun _ h => .inl h⟩

/-- What a store leaves. -/
def stN (most : Nat) (cs : List Nat) (addr v : Nat) : List Nat := if addr < most then putN cs addr v else cs
theorem stN_cell (most : Nat) (cs : List Nat) (addr v j : Nat) : cellN (stN most cs addr v) j = if j = addr ∧ addr < most then v else cellN cs j := by
  unfold stN
  by_cases h : addr < most
  · rw [if_pos h, putN_cell]
    simp [h]
  · simp [h]

set_option maxRecDepth 100000 in
theorem p_left (b most next : Nat) (F : Nat → Prop) (cs : List Nat) (l : List Acc) (W : World) (h : Bank W F b most next cs l) :
    Calls Tryz.prog 195 #[.pointer (some ⟨b, 0, none⟩)] W fun e W' => e = .returned (.int .i64 ((most - next : Nat) : Int)) ∧ ∃ q, W' = W.drewN q := by
  obtain ⟨cv, av, h⟩ := h
  have c1 : W.cell? ⟨b, 1, none⟩ = some (.int .i64 (most : Int)) := cell_of h.blk 1
  have c2 : W.cell? ⟨b, 2, none⟩ = some (.int .i64 (next : Int)) := cell_of h.blk 2
  have hml := h.most_le
  have hn := h.next_le
  have wl : IntKind.i64.wrap ((most : Int) - (next : Int)) = ((most - next : Nat) : Int) := by rw [IntKind.wrap_i64]; omega
  clear h
  go_enter Tryz.func195, Tryz.ntmps195
  go_wp2_with fail
  go_quiet (fail)
  go_wp2_with fail
  go_ret
  exact ⟨by simp, _, rfl⟩
end Go.Proofs.YtmmaniolaljjlaaGreatDoor
/- The bank of a plain memory: a copy of values; an access is written down. -/
namespace Go.Proofs.YtmmaniolaljjlaaGreatDoor
open Go.RowKit Go.Shelf

/-- A list that came in reads so. -/
def Reads (W : World) (p : Option Addr) (vals : List Nat) : Prop := vals = [] ∨ ∃ ad, p = some ad ∧ ∀ j u, (vals.map u64V)[j]? = some u → W.cell? (ad.add j) = some u
theorem Reads.nil (W : World) (p : Option Addr) : Reads W p [] := .inl rfl
theorem Reads.grown {W W' : World} {p : Option Addr} {vals : List Nat} {row : Option Nat} (h : Reads W p vals) (hg : W.grownBy W' row) (hne : ∀ ad, p = some ad → some ad.block ≠ row) : Reads W' p vals := by
  rcases h with h | ⟨ad, rfl, h⟩
  · exact .inl h
  · exact .inr ⟨ad, rfl, fun j u hj => hg.cell (h j u hj) (by unfold Addr.add; split <;> exact hne ad rfl)⟩

theorem run_append_empty {P : Program} (w : World) (t ty e : TypeId) (i : TypeInfo) (ht : P.underlying t = some (.slice e)) (hi : P.info? e = some i) (p : Option Addr) (c : Nat) :
    (Builtin.append_ #[t, t] ty #[.slice none 0 0, .slice p 0 c]).run P w = .ok (.slice none 0 0) w := by
  cases p <;> simp [Builtin.append_, run_underlying ht, sizeOf, typeInfo, hi, Builtin.lenOf, Builtin.firstCells, loadCells, loadCellsFrom]

set_option maxRecDepth 100000 in
theorem copy_of (p : Option Addr) (c : Nat) (vals : List Nat) (W : World) (hr : Reads W p vals) (hl : vals.length ≤ 17592186043904) :
    Calls Tryz.prog 203 #[.slice p vals.length c] W fun e W' => ∃ v, e = .returned v ∧ W'.ownsRow 0 23 1 v vals.length (vals.map u64V) ∧ W.grownBy W' none ∧ (v.ownBlock = none ∨ v.ownBlock = some W.heap.size) := by
  obtain ⟨i0, hi, hz0, hz1, hz2⟩ := info_parts infoU
  rcases hr with rfl | ⟨ad, rfl, hr⟩
  · have hrun := fun ty => run_append_empty (P := Tryz.prog) W 26 ty 23 i0 Tryz.underlying26 hi p c
    go_enter Tryz.func203, Tryz.ntmps203
    go_wp2_with (at_builtin; refine Lib.wpList_append_run _ rfl _ _ 26 26 rfl (.slice none 0 0) (.slice p 0 c) rfl rfl _ _ (hrun _) ?_)
    go_ret
    exact ⟨.slice none 0 0, by simp, World.ownsRow_nil _ _ _ _, ⟨rfl, rfl, rfl, Nat.le_refl _, fun _ _ _ => rfl⟩, .inl rfl⟩
  · have HR := keepH hr
    clear hr
    go_enter Tryz.func203, Tryz.ntmps203
    go_wp2_with (at_builtin; refine wpList_append_own_at _ rfl _ _ 26 rfl 0 23 i0 (.int .u64 0) 1 8 Tryz.underlying26 hi hz0 hz1 hz2 rfl (by decide) (.slice none 0 0) 0 [] rfl (World.ownsRow_nil _ _ _ _) ad vals.length c (vals.map u64V) rfl (by simp) HR.out (by intro u hu; obtain ⟨x, _, rfl⟩ := List.mem_map.1 hu; rfl) (by unfold maxLen; omega) (by omega) (Nat.zero_le _) ?_; intro v w1 h1 h2 h3 h4; have H1 := keepH h1; have H4 := keepH h4; clear h1 h3 h4)
    go_ret
    refine ⟨v, by simp, ?_, h2, H4.out⟩
    have e := H1.out
    simpa using e

def accV (th : Int) (kind addr a b : Nat) (vs : Value) (got : Nat) (ok : Bool) : Value := .agg #[.int .i64 th, .int .u8 (kind : Int), .int .u64 (addr : Int), .int .u64 (a : Int), .int .u64 (b : Int), vs, .int .u64 (got : Int), .bool ok]
theorem infoA : (Tryz.prog.info? 208).map (fun i => (i.zero, i.size, i.bytes)) = some (some (accV 0 0 0 0 0 (.slice none 0 0) 0 false), 8, 80) := by kernel_rfl

theorem cells_new (w : World) (g : Nat) (hg : w.heap.size = g) (cs : Array Value) (t : TypeId) : ∀ j u, cs.toList[j]? = some u → (w.alloc (.cells cs t)).cell? ((⟨g, 0, none⟩ : Addr).add j) = some u := by
  intro j u h
  subst hg
  have e : (⟨w.heap.size, 0, none⟩ : Addr).add j = ⟨w.heap.size, j, none⟩ := by unfold Addr.add; split <;> simp_all
  rw [e]
  have hh : (w.alloc (.cells cs t)).heap[w.heap.size]? = some (.cells cs t (0, 0)) := heap_alloc_new _ _
  rw [cell_of hh j]
  simpa using h
theorem blk_note {w2 w3 : World} {b B k : Nat} {o ob : Obj} {u : Value} {row : Option Nat} (hb : w2.heap[b]? = some o) (hne : ¬ b = B) (hg : (((w2.setCell ⟨B, k, none⟩ u).drew).alloc ob).grownBy w3 row) (hr : some b ≠ row) : w3.heap[b]? = some o := by
  have h1 : (w2.setCell ⟨B, k, none⟩ u).heap[b]? = some o := other_of hb hne u
  have h2 : ((w2.setCell ⟨B, k, none⟩ u).drew.alloc ob).heap[b]? = some o := alloc_of (W := (w2.setCell ⟨B, k, none⟩ u).drew) h1 ob
  exact (hg.block b (lt_of h2) hr).trans h2
theorem chg_note {w2 w3 : World} {B k : Nat} {ob : Obj} {u : Value} {row : Option Nat} (hg : (((w2.setCell ⟨B, k, none⟩ u).drew).alloc ob).grownBy w3 row) {F : Nat → Prop} {W : World} (h : Chg F W w2) (hB : W.heap.size ≤ B) (hr : ∀ k, row = some k → k < W.heap.size → F k) : Chg F W w3 :=
  ((Chg.setCell h (p := ⟨B, k, none⟩) (fun x => absurd x (Nat.not_lt.2 hB)) u).drew.alloc ob).grown hg hr

theorem note_end {W w2 w3 : World} {F : Nat → Prop} {b most next g' c3 B : Nat} {cv av vs u : Value} {ob : Obj} {cs : List Nat} {l : List Acc} {th : Int} {kind addr x y got : Nat} {ok : Bool} {vals : List Nat}
    (h : BankAt W F b cv av most next cs l) (hB : W.heap.size ≤ B) (hk2 : ∀ k, k < W.heap.size → w2.heap[k]? = W.heap[k]?) (hc2 : Chg F W w2) (hrow : w2.ownsRow 0 23 1 vs vals.length (vals.map u64V)) (hwh : ∀ k, vs.ownBlock = some k → W.heap.size ≤ k ∧ k ≠ B)
    (hb3 : w3.heap[b]? = some (.cells (bankCells cv av most next) 238 (0, 0))) (hg : (((w2.setCell ⟨B, 5, none⟩ u).drew).alloc ob).grownBy w3 av.ownBlock)
    (ho : w3.ownsRow 0 208 8 (.slice (some ⟨g', 0, none⟩) (l.length + 1) c3) (l.length + 1) (accRow l ++ [.int .i64 th, .int .u8 (kind : Int), .int .u64 (addr : Int), .int .u64 (x : Int), .int .u64 (y : Int), vs, .int .u64 (got : Int), .bool ok]))
    (hw2 : av.ownBlock = some g' ∨ W.heap.size ≤ g') :
    ∃ F' vs, Bank (w3.setCell ⟨b, 3, none⟩ (.slice (some ⟨g', 0, none⟩) (l.length + 1) c3)) F' b most next cs (l ++ [⟨th, kind, addr, x, y, vs, vals, got, ok⟩]) ∧ Goes W (w3.setCell ⟨b, 3, none⟩ (.slice (some ⟨g', 0, none⟩) (l.length + 1) c3)) F F' := by
  have hbl := lt_of h.blk
  have k3 : ∀ k, k < w2.heap.size → k ≠ B → k ≠ b → av.ownBlock ≠ some k → (w3.setCell ⟨b, 3, none⟩ (.slice (some ⟨g', 0, none⟩) (l.length + 1) c3)).heap[k]? = w2.heap[k]? := fun k hk h1 h2 h3 => by
    have e1 : (w3.setCell ⟨b, 3, none⟩ (.slice (some ⟨g', 0, none⟩) (l.length + 1) c3)).heap[k]? = w3.heap[k]? := Below.heap_setCell _ _ _ _ h2
    have s1 : (w2.setCell ⟨B, 5, none⟩ u).drew.heap.size = w2.heap.size := by simp [World.setCell]
    have e2 := hg.block k (by rw [World.size_alloc, s1]; omega) (fun e => h3 e.symm)
    have e3 : ((w2.setCell ⟨B, 5, none⟩ u).drew.alloc ob).heap[k]? = (w2.setCell ⟨B, 5, none⟩ u).drew.heap[k]? := Below.heap_alloc _ _ _ (by rw [s1]; exact hk)
    have e4 : (w2.setCell ⟨B, 5, none⟩ u).drew.heap[k]? = w2.heap[k]? := Below.heap_setCell _ _ _ _ h1
    exact e1.trans (e2.trans (e3.trans e4))
  have kF : ∀ k, F k → k ≠ b → av.ownBlock ≠ some k → (w3.setCell ⟨b, 3, none⟩ (.slice (some ⟨g', 0, none⟩) (l.length + 1) c3)).heap[k]? = W.heap[k]? := fun k hk h2 h3 => by
    have hl := h.lt k hk
    exact (k3 k (by have := hc2.size; omega) (by omega) h2 h3).trans (hk2 k hl)
  have gb : g' ≠ b := fun e => block_apart ho hb3 (by decide) (by rw [e]; rfl)
  have sz3 : w2.heap.size ≤ w3.heap.size := by
    have := hg.size
    have s1 : (w2.setCell ⟨B, 5, none⟩ u).drew.heap.size = w2.heap.size := by simp [World.setCell]
    rw [World.size_alloc, s1] at this
    omega
  have szW := hc2.size
  have hsz : (w3.setCell ⟨b, 3, none⟩ (.slice (some ⟨g', 0, none⟩) (l.length + 1) c3)).heap.size = w3.heap.size := by simp [World.setCell]
  have vlt : ∀ k, vs.ownBlock = some k → k < w2.heap.size := row_lt hrow
  refine ⟨fun k => F k ∨ k = g' ∨ vs.ownBlock = some k, vs, ⟨cv, .slice (some ⟨g', 0, none⟩) (l.length + 1) c3, ?_, ?_, ?_, ?_, ?_, .inl h.inb, fun k e => .inl (h.inc k e), ?_, ?_, ?_, h.most_le, h.next_le, h.len_le, h.small⟩, ⟨?_, ?_⟩⟩
  · have e := set_of hb3 3 (.slice (some ⟨g', 0, none⟩) (l.length + 1) c3)
    exact e
  · exact row_kept h.row fun k e => kF k (h.inc k e) (fun e2 => block_apart h.row h.blk (by decide) (by rw [e, e2])) (fun e2 => rows_apart h.row h.acc (by decide) k e e2)
  · have r := row_kept (W' := w3.setCell ⟨b, 3, none⟩ (.slice (some ⟨g', 0, none⟩) (l.length + 1) c3)) ho fun k e => Below.heap_setCell _ _ _ _ (by simp [Value.ownBlock] at e; rw [← e]; exact gb)
    simpa [accRow, Acc.cells] using r
  · intro z hz
    rcases List.mem_append.1 hz with hz | hz
    · exact row_kept (h.vals z hz) fun k e => kF k (h.inv z hz k e) (fun e2 => block_apart (h.vals z hz) h.blk (by decide) (by rw [e, e2])) (fun e2 => rows_apart (h.vals z hz) h.acc (by decide) k e e2)
    · obtain rfl := List.mem_singleton.1 hz
      refine row_kept hrow fun k e => k3 k (vlt k e) (hwh k e).2 (fun e2 => ?_) (fun e2 => ?_)
      · have := (hwh k e).1
        omega
      · have := row_lt h.acc k e2
        have := (hwh k e).1
        omega
  · intro z hz k e e2
    rcases List.mem_append.1 hz with hz | hz
    · exact h.ne z hz k e e2
    · obtain rfl := List.mem_singleton.1 hz
      have := (hwh k e).1
      have := row_lt h.row k e2
      omega
  · intro k e
    simp [Value.ownBlock] at e
    exact .inr (.inl e.symm)
  · intro z hz k e
    rcases List.mem_append.1 hz with hz | hz
    · exact .inl (h.inv z hz k e)
    · obtain rfl := List.mem_singleton.1 hz
      exact .inr (.inr e)
  · rw [hsz]
    rintro k (hk | rfl | hk)
    · have := h.lt k hk
      omega
    · exact row_lt ho k rfl
    · have := vlt k hk
      omega
  · exact (chg_note hg hc2 hB (fun k e _ => h.ina k e)).setCell (fun _ => h.inb) _
  · rintro k (hk | rfl | hk)
    · exact .inl hk
    · rcases hw2 with e | e
      · exact .inl (h.ina k e)
      · exact .inr e
    · exact .inr (hwh k hk).1

set_option maxRecDepth 100000 in
theorem p_note (b most next : Nat) (th : Int) (kind addr x y got : Nat) (ok : Bool) (p : Option Addr) (c : Nat) (vals : List Nat) (F : Nat → Prop) (cs : List Nat) (l : List Acc) (W : World) (h : Bank W F b most next cs l) (hr : Reads W p vals) (hv : vals.length ≤ 17592186043904) (hl : l.length < 1099511627776) :
    Calls Tryz.prog 198 #[.pointer (some ⟨b, 0, none⟩), accV th kind addr x y (.slice p vals.length c) got ok] W fun e W' => e = .returned (.tuple #[]) ∧ ∃ F' vs, Bank W' F' b most next cs (l ++ [⟨th, kind, addr, x, y, vs, vals, got, ok⟩]) ∧ Goes W W' F F' := by
  obtain ⟨i0, hi, hz0, hz1, hz2⟩ := info_parts infoA
  unfold accV
  have HB := keepH h
  have HR := keepH hr
  clear h hr
  go_enter Tryz.func198, Tryz.ntmps198
  go_wp2_with fail
  refine (copy_of p c vals _ (HR.out.grown (World.grownBy_alloc _ _ none) (fun _ _ => by simp)) hv).mono ?_
  rintro e w2 ⟨v, rfl, hrow, hgr, hwh⟩
  obtain ⟨p', c', rfl⟩ := slice_of hrow
  have hB2 : Hid (w2.heap[W.heap.size]? = some (.cells #[.int .i64 th, .int .u8 (kind : Int), .int .u64 (addr : Int), .int .u64 (x : Int), .int .u64 (y : Int), .slice p vals.length c, .int .u64 (got : Int), .bool ok] 208 (0, 0))) := (hgr.block _ (by simp) (by simp)).trans (heap_alloc_new _ _)
  have q0 := (cell_of hB2.out 0).trans rfl
  have q1 := (cell_of hB2.out 1).trans rfl
  have q2 := (cell_of hB2.out 2).trans rfl
  have q3 := (cell_of hB2.out 3).trans rfl
  have q4 := (cell_of hB2.out 4).trans rfl
  have q5 := (cell_of hB2.out 5).trans rfl
  have q6 := (cell_of hB2.out 6).trans rfl
  have q7 := (cell_of hB2.out 7).trans rfl
  have qf := free_of hB2.out 5
  have hk2 : Hid (∀ k, k < W.heap.size → w2.heap[k]? = W.heap[k]?) := fun k hk => (hgr.block k (by simp; omega) (by simp)).trans (Below.heap_alloc _ _ _ hk)
  have hs2 : W.heap.size + 1 ≤ w2.heap.size := by have := hgr.size; simpa using this
  obtain ⟨cv, av, h⟩ := HB.out
  have hbl := lt_of h.blk
  have ne1 : ¬ b = W.heap.size := by omega
  have ne2 : ¬ W.heap.size = b := by omega
  have hb2 : Hid (w2.heap[b]? = some (.cells (bankCells cv av most next) 238 (0, 0))) := (hk2.out b hbl).trans h.blk
  have q8 : w2.cell? ⟨b, 3, none⟩ = some av := cell_of hb2.out 3
  have HA : Hid (∀ u, ((w2.setCell ⟨W.heap.size, 5, none⟩ u).drew).ownsRow 0 208 8 av l.length (accRow l)) := fun u => row_kept (W := W) h.acc fun k e => (Below.heap_setCell _ _ _ _ (by have := row_lt h.acc k e; show ¬ _ = W.heap.size; omega)).trans (hk2.out k (row_lt h.acc k e))
  have H := keepH h
  have HROW := keepH hrow
  have HWH := keepH hwh
  clear h hrow hwh
  obtain ⟨pa, ca, rfl⟩ := slice_of H.out.acc
  have ne3 : ¬ b = w2.heap.size := by omega
  have ne4 : ¬ w2.heap.size = b := by omega
  have qa : ∀ u o, ((w2.setCell ⟨W.heap.size, 5, none⟩ u).alloc o).cell? ⟨b, 3, none⟩ = some (.slice pa l.length ca) := fun u o => cell_of (alloc_of (other_of hb2.out ne1 u) o) 3
  have hsz3 : ∀ u, ((w2.setCell ⟨W.heap.size, 5, none⟩ u).drew).heap.size = w2.heap.size := fun u => by simp [World.setCell]
  go_wp2_with fail
  go_region_law (refine step_append_own rfl (.tmp 12) (.tmp 14) 174 rfl 208 i0 (accV 0 0 0 0 0 (.slice none 0 0) 0 false) 8 80 Tryz.underlying174 hi hz0 hz1 hz2 rfl (by decide) (.slice pa l.length ca) l.length (accRow l) rfl ((HA.out _).alloc _) ⟨w2.heap.size, 0, none⟩ 1 1 [.int .i64 th, .int .u8 (kind : Int), .int .u64 (addr : Int), .int .u64 (x : Int), .int .u64 (y : Int), .slice p' vals.length c', .int .u64 (got : Int), .bool ok] rfl rfl (cells_new _ _ (hsz3 _) _ _) (by simp [Value.oneCell']) (by unfold maxLen; omega) (by omega) ?_; intro v' w3 hown3 hgr3 _ hwh3; obtain ⟨g', c3, rfl⟩ := slice_pos hown3 (Nat.succ_pos _); have hb3 := keepH (blk_note hb2.out ne1 hgr3 (fun e => block_apart H.out.acc H.out.blk (by decide) e.symm)); have r8 : w3.cell? ⟨b, 3, none⟩ = some (.slice pa l.length ca) := cell_of hb3.out 3; have rf := free_of hb3.out 3; have HO := keepH hown3; have HW3 := keepH hwh3; have HG3 := keepH hgr3; clear hown3 hwh3 hgr3)
  all_goals (go_wp2_with fail)
  all_goals go_end0
  all_goals (refine ⟨rfl, note_end H.out (Nat.le_refl _) hk2.out (((Chg.refl F W).alloc _).grown hgr (fun k e => by simp at e)) HROW.out (fun k e => ?_) hb3.out HG3.out HO.out ?_⟩)
  all_goals first
    | (rcases HWH.out with e2 | e2
       · rw [e2] at e; simp at e
       · rw [e2] at e; simp at e; omega)
    | (rcases HW3.out with e2 | e2
       · exact .inl e2.symm
       · simp [Value.ownBlock] at e2; exact .inr (by omega))
end Go.Proofs.YtmmaniolaljjlaaGreatDoor
/- The bank of a plain memory: new cells are handed out. -/
namespace Go.Proofs.YtmmaniolaljjlaaGreatDoor
open Go.RowKit Go.Shelf

theorem BankAt.setNext {W : World} {F : Nat → Prop} {b most next : Nat} {cv av : Value} {cs : List Nat} {l : List Acc} (h : BankAt W F b cv av most next cs l) (n : Nat) (hn : 1 ≤ n ∧ n ≤ most) : BankAt (W.setCell ⟨b, 2, none⟩ (.int .i64 (n : Int))) F b cv av most n cs l := by
  have ob : ∀ k, k ≠ b → (W.setCell ⟨b, 2, none⟩ (.int .i64 (n : Int))).heap[k]? = W.heap[k]? := fun k hk => Below.heap_setCell _ _ _ _ hk
  refine ⟨?_, row_kept h.row fun k e => ob k (fun e2 => block_apart h.row h.blk (by decide) (by rw [e, e2])), row_kept h.acc fun k e => ob k (fun e2 => block_apart h.acc h.blk (by decide) (by rw [e, e2])), fun x hx => row_kept (h.vals x hx) fun k e => ob k (fun e2 => block_apart (h.vals x hx) h.blk (by decide) (by rw [e, e2])), h.ne, h.inb, h.inc, h.ina, h.inv, fun k e => by simpa [World.setCell] using h.lt k e, h.most_le, hn, h.len_le, h.small⟩
  have e := set_of h.blk 2 (.int .i64 (n : Int))
  exact e

/-- copy into a row, as one step of a region that draws. -/
theorem step_copy_row {P : Program} {ops : Array Oper} {o : Oper} {a : Act} {w : World} {K : Act → World → Prop} {Q : Exit → Act → World → Prop} {E : Prop} (hgd : o.guard = none) (d s : Operand) (dT sT : TypeId)
    (ho : o.op = .call { callee := .builtin .copy, args := #[d, s], argTypes := #[dT, sT] }) (elem : TypeId) (hu : P.underlying dT = some (.slice elem)) (hsz : (P.info? elem).map (·.size) = some 1)
    (g off dLen dCap : Nat) (ad : Addr) (sLen sCap : Nat) (hd : a.eval d = .slice (some ⟨g, off, none⟩) dLen dCap) (hs : a.eval s = .slice (some ad) sLen sCap)
    (cur : Array Value) (t : TypeId) (hg : w.heap[g]? = some (.cells cur t (0, 0))) (cs : List Value) (hn : cs.length = Nat.min sLen dLen)
    (hsrc : ∀ j v, cs[j]? = some v → w.cell? (ad.add j) = some v) (hfit : off + cs.length ≤ cur.size) (h1 : ∀ v ∈ cs, v.oneCell' = true)
    (h : K (a.put o.dst (goInt cs.length)) (w.setRow g (cur.toList.take off ++ cs ++ cur.toList.drop (off + cs.length)).toArray)) :
    if Region.wanted o (yielded ops a.tmps) = true then Oper.wp P o a w K Q else E := by
  have hw : Region.wanted o (yielded ops a.tmps) = true := by simp [Region.wanted, hgd]
  rw [if_pos hw]
  have hrun := run_copy_row (P := P) w dT sT o.type elem g off dLen dCap ad sLen sCap cur t cs hu hsz hg hn hsrc hfit h1
  unfold Oper.wp execOp
  simp only [ho, resolve, invoke, builtin, Sem.run_bind, Sem.run_pure, Result.andThen_ok, List.map_toArray, List.map_cons, List.map_nil, hd, hs, hrun]
  exact h

def spliceN (cs : List Nat) (i : Nat) (vals : List Nat) : List Nat := cs.take i ++ vals ++ cs.drop (i + vals.length)
theorem spliceN_length (cs : List Nat) (i : Nat) (vals : List Nat) (h : i + vals.length ≤ cs.length) : (spliceN cs i vals).length = cs.length := by simp [spliceN]; omega
theorem spliceN_cell (cs : List Nat) (i : Nat) (vals : List Nat) (h : i + vals.length ≤ cs.length) (j : Nat) : cellN (spliceN cs i vals) j = if i ≤ j ∧ j < i + vals.length then cellN vals (j - i) else cellN cs j := by
  simp only [cellN, spliceN, List.getD_eq_getElem?_getD]
  have e : min i cs.length = i := by omega
  by_cases h1 : j < i
  · have : ¬ (i ≤ j ∧ j < i + vals.length) := by omega
    rw [if_neg this, List.append_assoc, List.getElem?_append_left (by simp; omega), List.getElem?_take_of_lt h1]
  · by_cases h2 : j < i + vals.length
    · rw [if_pos ⟨by omega, h2⟩, List.append_assoc, List.getElem?_append_right (by simp; omega), List.length_take, e, List.getElem?_append_left (by omega)]
    · have : ¬ (i ≤ j ∧ j < i + vals.length) := by omega
      rw [if_neg this, List.getElem?_append_right (by simp; omega), List.length_append, List.length_take, e, List.getElem?_drop, show i + vals.length + (j - (i + vals.length)) = j by omega]

def alOk (most next n : Nat) : Prop := 0 < n ∧ n ≤ most - next
instance (most next n : Nat) : Decidable (alOk most next n) := inferInstanceAs (Decidable (_ ∧ _))
def alAt (most next n : Nat) : Nat := if alOk most next n then next else 0
def alNext (most next n : Nat) : Nat := if alOk most next n then next + n else next
def alN (most next : Nat) (cs vals : List Nat) : List Nat := if alOk most next vals.length then spliceN (padN cs (next + vals.length)) next vals else cs

theorem BankAt.splice {W : World} {F : Nat → Prop} {b g n c most next : Nat} {av : Value} {cs : List Nat} {l : List Acc} (h : BankAt W F b (.slice (some ⟨g, 0, none⟩) n c) av most next cs l) (cur : Array Value) (hcur : W.heap[g]? = some (.cells cur 23 (0, 0))) (i : Nat) (vals : List Nat) (hi : i + vals.length ≤ cs.length) (hv : ∀ x ∈ vals, x < 18446744073709551616) :
    BankAt (W.setRow g (cur.toList.take i ++ vals.map u64V ++ cur.toList.drop (i + (vals.map u64V).length)).toArray) F b (.slice (some ⟨g, 0, none⟩) n c) av most next (spliceN cs i vals) l := by
  have gb : b ≠ g := fun e => block_apart h.row h.blk (by decide) (by rw [e]; rfl)
  have ob : ∀ k, k ≠ g → (W.setRow g (cur.toList.take i ++ vals.map u64V ++ cur.toList.drop (i + (vals.map u64V).length)).toArray).heap[k]? = W.heap[k]? := fun k hk => setRow_other W g k _ hk
  have hsl := spliceN_length cs i vals hi
  refine ⟨(ob b gb).trans h.blk, ?_, row_kept h.acc fun k e => ob k (fun e2 => rows_apart h.row h.acc (by decide) g rfl (by rw [e, e2])), fun x hx => row_kept (h.vals x hx) fun k e => ob k (fun e2 => h.ne x hx k e (by rw [e2]; rfl)), h.ne, h.inb, h.inc, h.ina, h.inv, fun k e => by simpa [World.setRow] using h.lt k e, h.most_le, h.next_le, by rw [hsl]; exact h.len_le, ?_⟩
  · have hxl := h.row.1
    rcases h.row.2 with ⟨h2, _⟩ | ⟨g2, cap, cur2, h2, hb, hg, hnc, hcm, hcs, htake⟩
    · simp at h2
    · simp only [Value.slice.injEq, Option.some.injEq, Addr.mk.injEq, and_true] at h2
      obtain ⟨rfl, rfl, rfl⟩ := h2
      rw [hcur] at hg
      simp at hg
      subst hg
      have hcl : cur.toList.length = c := by simpa using hcs
      rw [hsl]
      refine ⟨by simp [hsl], .inr ⟨g, c, _, rfl, hb, setRow_heap W g cur _ 23 _ hcur, hnc, hcm, ?_, ?_⟩⟩
      · simp at hcl ⊢
        omega
      · simp only [Nat.mul_one] at htake ⊢
        have e1 : cur.toList.take i = (cs.take i).map u64V := by rw [List.map_take, ← htake, List.take_take]; congr 1; omega
        have e2 : (cur.toList.drop (i + vals.length)).take (cs.length - (i + vals.length)) = (cs.drop (i + vals.length)).map u64V := by rw [List.map_drop, ← htake, List.drop_take]
        simp only [spliceN, List.map_append, List.length_map, e1]
        rw [List.take_append, List.take_of_length_le (by simp; omega)]
        congr 1
        rw [← e2]
        congr 1
        simp
        omega
  · intro x hx
    simp only [spliceN, List.mem_append] at hx
    rcases hx with (hx | hx) | hx
    · exact h.small x (List.mem_of_mem_take hx)
    · exact hv x hx
    · exact h.small x (List.mem_of_mem_drop hx)

theorem cell_chg {F : Nat → Prop} {W W' : World} (h : Chg F W W') {a : Addr} {v : Value} (hc : W.cell? a = some v) (hn : ¬ F a.block) : W'.cell? a = some v := by
  have hlt : a.block < W.heap.size := by
    by_cases hl : a.block < W.heap.size
    · exact hl
    · have e : W.heap[a.block]? = none := Array.getElem?_eq_none (by omega)
      simp [World.cell?, e] at hc
  exact (World.cell?_of_block (w := W) (h.block a.block hlt hn)).trans hc
theorem add_block (a : Addr) (j : Nat) : (a.add j).block = a.block := by unfold Addr.add; split <;> rfl

set_option maxRecDepth 100000 in
theorem p_alloc (b most next : Nat) (p : Option Addr) (c : Nat) (vals : List Nat) (F : Nat → Prop) (cs : List Nat) (l : List Acc) (W : World) (h : Bank W F b most next cs l) (hr : Reads W p vals) (hap : ∀ ad, p = some ad → vals ≠ [] → ¬ F ad.block) (hv : ∀ x ∈ vals, x < 18446744073709551616) :
    Calls Tryz.prog 192 #[.pointer (some ⟨b, 0, none⟩), .slice p vals.length c] W fun e W' => e = .returned (.int .u64 (alAt most next vals.length : Int)) ∧ ∃ F', Bank W' F' b most (alNext most next vals.length) (alN most next cs vals) l ∧ Goes W W' F F' := by
  have HB := keepH h
  have HR := keepH hr
  obtain ⟨cv, av, h⟩ := h
  have hml := h.most_le
  have hnl := h.next_le
  by_cases h1 : vals.length = 0
  · have t1 : (vals.length : Int) = 0 := by omega
    have e0 : ¬ alOk most next vals.length := by unfold alOk; omega
    have E0 := keepH e0
    clear h hr e0
    go_enter Tryz.func192, Tryz.ntmps192
    go_wp2_with fail
    go_ret
    exact ⟨by simp [alAt, E0.out], F, by unfold alNext alN; rw [if_neg E0.out, if_neg E0.out]; exact HB.out, Goes.refl _ _⟩
  · have t1 : ¬ (vals.length : Int) = 0 := by omega
    by_cases h2 : most - next < vals.length
    · have t2 : ((most - next : Nat) : Int) < (vals.length : Int) := by omega
      have e0 : ¬ alOk most next vals.length := by unfold alOk; omega
      have E0 := keepH e0
      clear h hr e0
      go_enter Tryz.func192, Tryz.ntmps192
      go_wp2_with fail
      refine (p_left b most next F cs l _ HB.out).mono ?_
      rintro e w' ⟨rfl, q, rfl⟩
      go_wp2_with fail
      go_ret
      exact ⟨by simp [alAt, E0.out], F, by unfold alNext alN; rw [if_neg E0.out, if_neg E0.out]; exact HB.out.drewN q, Goes.drewN _ _ _⟩
    · have t2 : ¬ ((most - next : Nat) : Int) < (vals.length : Int) := by omega
      have e0 : alOk most next vals.length := by unfold alOk; omega
      have E0 := keepH e0
      have c2 : W.cell? ⟨b, 2, none⟩ = some (.int .i64 (next : Int)) := cell_of h.blk 2
      have f2 := free_of h.blk 2
      obtain ⟨nx, hnx⟩ : ∃ nx, nx = next + vals.length := ⟨_, rfl⟩
      have hnm : nx ≤ most := by omega
      have wn : IntKind.i64.wrap ((next : Int) + (vals.length : Int)) = (nx : Int) := by rw [IntKind.wrap_i64]; omega
      have HNX := keepH hnx
      have HN1 : Hid (1 ≤ nx ∧ nx ≤ most ∧ next ≤ nx ∧ nx - next = vals.length) := by show _ ∧ _ ∧ _ ∧ _; omega
      obtain ⟨ad, rfl, hrd⟩ : ∃ ad, p = some ad ∧ ∀ j u, (vals.map u64V)[j]? = some u → W.cell? (ad.add j) = some u := by
        rcases hr with hr | hr
        · simp [hr] at h1
        · exact hr
      have HRD := keepH hrd
      have wm : IntKind.u64.wrap (next : Int) = (next : Int) := u64_lt (by omega)
      have H0 := keepH h
      clear h hr e0 hrd hnx
      go_enter Tryz.func192, Tryz.ntmps192
      go_wp2_with fail
      refine (p_left b most next F cs l _ HB.out).mono ?_
      rintro e w' ⟨rfl, q, rfl⟩
      go_wp2_with fail
      have hB1 : Hid (BankAt ((W.drewN q).setCell ⟨b, 2, none⟩ (.int .i64 (nx : Int))) F b cv av most nx cs l) := (H0.out.kept (W' := W.drewN q) (Nat.le_refl _) (fun _ _ => rfl)).setNext nx ⟨HN1.out.1, HN1.out.2.1⟩
      refine (p_reach b most nx nx F cs l _ ⟨_, _, hB1.out⟩ hnm).mono ?_
      rintro e W2 ⟨rfl, F2, ⟨cv2, av2, B2⟩, G2⟩
      have hlen := padN_length cs nx
      obtain ⟨g, c2', hcv⟩ := B2.len (by have := HN1.out; omega)
      subst hcv
      obtain ⟨m, hm⟩ : ∃ m, m = (padN cs nx).length := ⟨_, rfl⟩
      have HL := keepH hlen
      have HM := keepH hm
      have k0 : W2.cell? ⟨b, 0, none⟩ = some (.slice (some ⟨g, 0, none⟩) m c2') := by rw [hm]; exact cell_of B2.blk 0
      have k2 : W2.cell? ⟨b, 2, none⟩ = some (.int .i64 (nx : Int)) := cell_of B2.blk 2
      obtain ⟨cur, hcur⟩ := row_block B2.row g rfl
      have HC := keepH hcur
      have hcap : Hid (cur.size = c2' ∧ m ≤ c2') := by
        rcases B2.row.2 with ⟨h2, _⟩ | ⟨g2, cap, cur2, h2, hb, hg, hnc, hcm, hcs, htake⟩
        · simp at h2
        · simp only [Value.slice.injEq, Option.some.injEq, Addr.mk.injEq, and_true] at h2
          obtain ⟨rfl, _, rfl⟩ := h2
          rw [hcur] at hg
          simp at hg
          subst hg
          exact ⟨by simpa using hcs, by omega⟩
      have u1 : (next : Int) ≤ (nx : Int) := by have := HNX.out; omega
      have u2 : (nx : Int) ≤ (c2' : Int) := by have := hcap.out; have := HNX.out; omega
      have u3 : ¬ c2' = next := by have := hcap.out; have := HNX.out; omega
      have u4 : ¬ next = c2' := by have := hcap.out; have := HNX.out; omega
      have u5 : nx - next = vals.length := by have := HNX.out; omega
      have u6 : ¬ (next : Int) < 0 := by omega
      have u7 : nx ≤ c2' := by have := hcap.out; have := HNX.out; omega
      have u8 : next ≤ nx := by have := HNX.out; omega
      have HB2 := keepH B2
      clear B2 hlen hm hcur
      have HS : Hid (∀ j u, (vals.map u64V)[j]? = some u → W2.drew.cell? (ad.add j) = some u) := fun j u hj => by
        have e1 := HRD.out j u hj
        have c1 : Chg F W ((W.drewN q).setCell ⟨b, 2, none⟩ (.int .i64 (nx : Int))) := ((Goes.drewN W F q).chg).setCell (fun _ => H0.out.inb) _
        have e2 := cell_chg (c1.trans G2.chg (fun _ _ x => x) (fun _ _ x => x)) e1 (by rw [add_block]; exact hap ad rfl (fun e => by rw [e] at hj; simp at hj))
        exact e2
      have HF : Hid (next + (vals.map u64V).length ≤ cur.size) := by have := hcap.out; have := HN1.out; have := HM.out; have := HL.out; simp only [List.length_map]; show _ ≤ _; omega
      have HMN : Hid ((vals.map u64V).length = Nat.min vals.length vals.length) := by show _ = _; simp
      have HO : Hid (∀ v ∈ vals.map u64V, v.oneCell' = true) := by intro u hu; obtain ⟨x, _, rfl⟩ := List.mem_map.1 hu; rfl
      go_wp2_with fail
      go_region_law (refine step_copy_row rfl (.tmp 44) (.tmp 45) 26 26 rfl 23 Tryz.underlying26 (by kernel_rfl) g next vals.length (c2' - next) ad vals.length c rfl rfl cur 23 HC.out (vals.map u64V) HMN.out HS.out HF.out HO.out ?_)
      all_goals (go_wp2_with fail)
      all_goals go_ret
      all_goals (refine ⟨by simp [alAt, E0.out], F2, ⟨.slice (some ⟨g, 0, none⟩) (padN cs nx).length c2', av2, ?_⟩, ?_⟩)
      all_goals first
        | (have e := (HB2.out.splice cur HC.out next vals (by have := HN1.out; have := HL.out; omega) hv).kept (W' := (W2.setRow g (cur.toList.take next ++ vals.map u64V ++ cur.toList.drop (next + (vals.map u64V).length)).toArray).drew) (Nat.le_refl _) (fun _ _ => rfl)
           have e2 : alNext most next vals.length = nx := by unfold alNext; rw [if_pos E0.out]; exact HNX.out.symm
           have e3 : alN most next cs vals = spliceN (padN cs nx) next vals := by unfold alN; rw [if_pos E0.out, ← HNX.out]
           rw [e2, e3]
           simp only [List.append_assoc, List.length_map] at e
           exact e)
        | (have c1 : Goes W ((W.drewN q).setCell ⟨b, 2, none⟩ (.int .i64 (nx : Int))) F F := ⟨((Goes.drewN W F q).chg).setCell (fun _ => H0.out.inb) _, fun _ h => .inl h⟩
           have c3 : Goes W2 (W2.setRow g (cur.toList.take next ++ (vals.map u64V ++ cur.toList.drop (next + vals.length))).toArray).drew F2 F2 := ⟨⟨rfl, rfl, rfl, by simp [World.setRow], fun k _ hk => setRow_other W2 g k _ (fun e => hk (by rw [e]; exact HB2.out.inc g rfl))⟩, fun _ h => .inl h⟩
           exact (c1.trans G2).trans c3)
end Go.Proofs.YtmmaniolaljjlaaGreatDoor
