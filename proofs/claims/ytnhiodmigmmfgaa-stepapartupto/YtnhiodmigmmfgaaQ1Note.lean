/- Laws of no program: append of so many zeros to a row of one's own; append as a step of a region that draws; blocks by their cells; what has changed. -/
import Derived.Test.YtnhiodmigmmfgaaRows
import Derived.WalkKit
import Derived.ProofKit
import Derived.ArgAppend
import Derived.Maps.AppendAt
import Derived.Laws.OwnMore
import Derived.Laws.CopyOwn
import Derived.WalkLawsBesides
import Derived.Lib.AppendZeros
import Derived.Deep.RegionLaw
import Derived.Deep.RegionWith
import Derived.BigQuiet
import Derived.Below
import Derived.Shelf.Abstract
namespace Go.Proofs.Ytnhiodmigmmfgaa
open Go.RowKit

theorem keepH {p : Prop} (h : p) : Hid p := h

theorem zeroCells_one (z : Value) (m : Nat) : (Builtin.zeroCells #[z] m).toList = List.replicate m z := by
  simp [Builtin.zeroCells]
  apply List.ext_getElem
  · simp
  · intro j h1 h2
    simp [Nat.mod_one]

theorem run_append_own_zeros {P : Program} (w : World) (t tn ty e : TypeId) (i : TypeInfo) (z : Value) (bytes : Nat) (ht : P.underlying t = some (.slice e)) (htn : P.underlying tn = some (.int .i64))
    (hi : P.info? e = some i) (hz : i.zero = some z) (hsize : i.size = 1) (hby : i.bytes = bytes) (hzs : z.cells = #[z]) (hz1 : z.oneCell' = true)
    (v : Value) (n : Nat) (xs : List Value) (hown : w.ownsRow 0 e 1 v n xs) (m : Nat) (hm : 0 < m) (h63 : n + m ≤ 1099511627776) (hbytes : (n + m) * bytes ≤ 140737488355328) :
    ∃ v' w', (Builtin.append_ #[t, tn] ty #[v, .int .i64 m]).run P w = .ok v' w' ∧ w'.ownsRow 0 e 1 v' (n + m) (xs ++ List.replicate m z) ∧ w.grownBy w' v.ownBlock ∧
      (v'.ownBlock = v.ownBlock ∨ v'.ownBlock = some w.heap.size) := by
  subst hby
  have hxl : xs.length = n := by have := hown.1; omega
  have hmm : n + m ≤ maxLen := by unfold maxLen; omega
  have hw : IntKind.i64.wrap (m : Int) = m := by rw [IntKind.wrap_i64]; omega
  have hneg : ¬ ((m : Int) < 0) := by omega
  have hmb : m * i.bytes ≤ 140737488355328 := Nat.le_trans (Nat.mul_le_mul_right _ (by omega)) hbytes
  have h48i : ¬ (281474976710656 < (m : Int) * (i.bytes : Int)) := by rw [← Int.natCast_mul]; omega
  have hm0 : ¬ m = 0 := by omega
  have grown : ∀ (old : Nat), old < n + m → ∀ (row : Option Nat),
      (w.drew.alloc (.cells (xs.toArray ++ Builtin.zeroCells z.cells m ++ Builtin.zeroCells z.cells (grownCap w (n + m) old e - (n + m))) e)).ownsRow 0 e 1
        (.slice (some ⟨w.heap.size, 0, none⟩) (n + m) (grownCap w (n + m) old e)) (n + m) (xs ++ List.replicate m z) ∧
      w.grownBy (w.drew.alloc (.cells (xs.toArray ++ Builtin.zeroCells z.cells m ++ Builtin.zeroCells z.cells (grownCap w (n + m) old e - (n + m))) e)) row := by
    intro old ho row
    have hge := grownCap_ge w (n + m) old e
    have hcm : grownCap w (n + m) old e ≤ maxLen := grownCap_le_maxLen w (n + m) old e hmm
    refine ⟨⟨by simp [hxl], .inr ⟨w.heap.size, _, _, rfl, Nat.zero_le _, heap_alloc_new w.drew _, hge, hcm, ?_, ?_⟩⟩, ⟨rfl, rfl, rfl, by simp, fun k hk _ => heap_alloc_old w.drew _ hk⟩⟩
    · simp only [Array.size_append, List.size_toArray, size_zeroCells, hzs, hxl]
      simp
      omega
    · simp only [Array.toList_append, hzs, zeroCells_one]
      rw [show (n + m) * 1 = (xs ++ List.replicate m z).length by simp [hxl]]
      exact List.take_left
  rcases hown.2 with ⟨rfl, rfl⟩ | ⟨g, cap, cur, rfl, hbg, hg, hnc, hcm, hcs, htake⟩
  · have hx : xs = [] := List.eq_nil_of_length_eq_zero hxl
    subst hx
    have hr := Lib.run_append_nil_zeros (P := P) w t tn ty e i z .i64 .i64 ht htn hi hz m hm (by omega) (by omega) (by omega)
    have hgr := grown 0 (by omega) (Value.ownBlock (.slice none 0 0))
    simp only [Nat.zero_add, List.nil_append, Array.empty_append] at hgr ⊢
    exact ⟨_, _, hr, hgr.1, hgr.2, .inr rfl⟩
  · by_cases hroom : n + m ≤ cap
    · have hst := run_storeCells_at P g n e (List.replicate m z) 0 cur w hg (by simp; omega) (fun u hu => by rw [List.eq_of_mem_replicate hu]; exact hz1)
      have hr : (Builtin.append_ #[t, tn] ty #[.slice (some ⟨g, 0, none⟩) n cap, .int .i64 m]).run P w = .ok (.slice (some ⟨g, 0, none⟩) (n + m) cap) (w.setRow g (cur.toList.take n ++ List.replicate m z ++ cur.toList.drop (n + m)).toArray) := by
        simp only [Nat.add_zero, List.length_replicate] at hst
        simp [Builtin.append_, run_underlying ht, run_underlying htn, sizeOf, typeInfo, zeroValue, hi, hz, hsize, asInt, asIntOf, hw, hneg, h48i, hm0, hroom, hzs, zeroCells_one, Addr.add_lit, hst]
      refine ⟨_, _, hr, ⟨by simp [hxl], .inr ⟨g, cap, _, rfl, hbg, setRow_heap w g cur _ e _ hg, hroom, hcm, ?_, ?_⟩⟩, ⟨rfl, rfl, rfl, by simp, fun k _ hk => setRow_other w g k _ (fun e => hk (by simp [Value.ownBlock, e]))⟩, .inl rfl⟩
      · simp only [List.size_toArray, List.length_append, List.length_take, List.length_drop, Array.length_toList, List.length_replicate]
        omega
      · rw [Nat.mul_one] at htake
        rw [htake, show (n + m) * 1 = (xs ++ List.replicate m z).length by simp [hxl]]
        exact List.take_left
    · have holds : ∀ j u, xs[j]? = some u → w.cell? ((⟨g, 0, none⟩ : Addr).add j) = some u := hown.cells (g := g) rfl
      have hfo := run_firstCells_some (P := P) w.drew 1 n ⟨g, 0, none⟩ n cap xs (by omega) (by simpa using holds)
      have h63' : ¬ (9223372036854775807 < ((n : Int) + (m : Int))) := by omega
      have h48' : ¬ (281474976710656 < Builtin.nextslicecap (n + m) cap * i.bytes) := by have := growslice_fits (need := n + m) (old := cap) (by omega) hbytes; omega
      have hr : (Builtin.append_ #[t, tn] ty #[.slice (some ⟨g, 0, none⟩) n cap, .int .i64 m]).run P w = .ok (.slice (some ⟨w.heap.size, 0, none⟩) (n + m) (grownCap w (n + m) cap e)) (w.drew.alloc (.cells (xs.toArray ++ Builtin.zeroCells z.cells m ++ Builtin.zeroCells z.cells (grownCap w (n + m) cap e - (n + m))) e)) := by
        simp [Builtin.append_, run_underlying ht, run_underlying htn, sizeOf, typeInfo, zeroValue, hi, hz, hsize, asInt, asIntOf, hw, hneg, h48i, hm0, hroom, h63', h48', Question.forced, hfo, newRow, grownCap]
      have hgr := grown cap (by omega) (Value.ownBlock (.slice (some ⟨g, 0, none⟩) n cap))
      exact ⟨_, _, hr, hgr.1, hgr.2, .inr rfl⟩

/-- The operation, for the walk. -/
theorem wpList_append_zeros {P : Program} (w : World) {ops : Array Oper} {rest : List Oper} {o : Oper} {a : Act} {Q : Exit → Act → World → Prop} (hgd : o.guard = none) (s x : Operand) (t tn : TypeId)
    (ho : o.op = .call { callee := .builtin .append, args := #[s, x], argTypes := #[t, tn] }) (e : TypeId) (i : TypeInfo) (z : Value) (bytes : Nat) (ht : P.underlying t = some (.slice e)) (htn : P.underlying tn = some (.int .i64))
    (hi : P.info? e = some i) (hz : i.zero = some z) (hsize : i.size = 1) (hby : i.bytes = bytes) (hzs : z.cells = #[z]) (hz1 : z.oneCell' = true)
    (v : Value) (n : Nat) (xs : List Value) (hs : a.eval s = v) (hown : w.ownsRow 0 e 1 v n xs) (m : Nat) (hx : a.eval x = .int .i64 m) (hm : 0 < m) (h63 : n + m ≤ 1099511627776) (hbytes : (n + m) * bytes ≤ 140737488355328)
    (h : ∀ v' w', w'.ownsRow 0 e 1 v' (n + m) (xs ++ List.replicate m z) → w.grownBy w' v.ownBlock → (v'.ownBlock = v.ownBlock ∨ v'.ownBlock = some w.heap.size) → wpList P ops Q rest (a.put o.dst v') w') : wpList P ops Q (o :: rest) a w := by
  obtain ⟨v', w', hr, h2, h3, h4⟩ := run_append_own_zeros (P := P) w t tn o.type e i z bytes ht htn hi hz hsize hby hzs hz1 v n xs hown m hm h63 hbytes
  exact Lib.wpList_append_run w hgd s x t tn ho v (.int .i64 m) hs hx v' w' hr (h v' w' h2 h3 h4)

/-- append of given cells to a row of one's own, as one step of a region that draws. -/
theorem step_append_own {P : Program} {ops : Array Oper} {o : Oper} {a : Act} {w : World} {K : Act → World → Prop} {Q : Exit → Act → World → Prop} {E : Prop}
    (hgd : o.guard = none) (s x : Operand) (t : TypeId) (ho : o.op = Op.call { callee := Callee.builtin Builtin.append, args := #[s, x], argTypes := #[t, t] })
    (e : TypeId) (i : TypeInfo) (z : Value) (size bytes : Nat) (ht : P.underlying t = some (.slice e)) (hi : P.info? e = some i) (hz : i.zero = some z)
    (hsize : i.size = size) (hby : i.bytes = bytes) (hzs : z.cells.size = size) (hsz : 0 < size)
    (v : Value) (n : Nat) (xs : List Value) (hs : a.eval s = v) (hown : w.ownsRow 0 e size v n xs)
    (ad : Addr) (m c : Nat) (news : List Value) (hx : a.eval x = .slice (some ad) m c) (hl : news.length = m * size) (hnews : ∀ j u, news[j]? = some u → w.cell? (ad.add j) = some u) (h1 : ∀ u ∈ news, u.oneCell' = true)
    (h63 : n + m ≤ maxLen) (hbytes : (n + m) * bytes ≤ 140737488355328)
    (h : ∀ v' w', w'.ownsRow 0 e size v' (n + m) (xs ++ news) → w.grownBy w' v.ownBlock → (v' = .slice none 0 0 ↔ v = .slice none 0 0 ∧ m = 0) → (v'.ownBlock = v.ownBlock ∨ v'.ownBlock = some w.heap.size) → K (a.put o.dst v') w') :
    if Region.wanted o (yielded ops a.tmps) = true then Oper.wp P o a w K Q else E := by
  have hw : Region.wanted o (yielded ops a.tmps) = true := by simp [Region.wanted, hgd]
  rw [if_pos hw]
  obtain ⟨v', w', hr, h2, h3, h4, h5⟩ := run_append_own_at (P := P) w 0 t o.type e i z size bytes ht hi hz hsize hby hzs hsz v n xs hown ad m c news hl hnews h1 h63 hbytes (Nat.zero_le _)
  unfold Oper.wp execOp
  simp only [ho, resolve, invoke, builtin, Sem.run_bind, Sem.run_pure, Result.andThen_ok, List.map_toArray, List.map_cons, List.map_nil, hs, hx, hr]
  exact h v' w' h2 h3 h4 h5

/-- What has changed lies in F, or is new. -/
structure Chg (F : Nat → Prop) (w w' : World) : Prop where
  os : w'.os = w.os
  tape : w'.tape = w.tape
  output : w'.output = w.output
  size : w.heap.size ≤ w'.heap.size
  block : ∀ k, k < w.heap.size → ¬ F k → w'.heap[k]? = w.heap[k]?

theorem Chg.refl (F : Nat → Prop) (w : World) : Chg F w w := ⟨rfl, rfl, rfl, Nat.le_refl _, fun _ _ _ => rfl⟩
theorem Chg.trans {F G H : Nat → Prop} {a b c : World} (h : Chg F a b) (k : Chg G b c) (hF : ∀ i, i < a.heap.size → F i → H i) (hG : ∀ i, i < a.heap.size → G i → H i) : Chg H a c :=
  ⟨k.os.trans h.os, k.tape.trans h.tape, k.output.trans h.output, Nat.le_trans h.size k.size, fun i hi hn =>
    (k.block i (Nat.lt_of_lt_of_le hi h.size) (fun x => hn (hG i hi x))).trans (h.block i hi (fun x => hn (hF i hi x)))⟩
theorem Chg.mono {F G : Nat → Prop} {a b : World} (h : Chg F a b) (hF : ∀ i, i < a.heap.size → F i → G i) : Chg G a b :=
  ⟨h.os, h.tape, h.output, h.size, fun i hi hn => h.block i hi (fun x => hn (hF i hi x))⟩
theorem Chg.drew {F : Nat → Prop} {a b : World} (h : Chg F a b) : Chg F a b.drew := ⟨h.os, h.tape, h.output, h.size, h.block⟩
theorem Chg.alloc {F : Nat → Prop} {a b : World} (h : Chg F a b) (o : Obj) : Chg F a (b.alloc o) :=
  ⟨h.os, h.tape, h.output, by have := h.size; simp; omega, fun i hi hn => (Below.heap_alloc _ _ _ (Nat.lt_of_lt_of_le hi h.size)).trans (h.block i hi hn)⟩
theorem Chg.setCell {F : Nat → Prop} {a b : World} (h : Chg F a b) {p : Addr} (hp : p.block < a.heap.size → F p.block) (u : Value) : Chg F a (b.setCell p u) :=
  ⟨h.os, h.tape, h.output, by have := h.size; simp [World.setCell]; omega, fun i hi hn => (Below.heap_setCell _ _ _ _ (fun e => hn (by subst e; exact hp hi))).trans (h.block i hi hn)⟩
theorem Chg.grown {F : Nat → Prop} {a b c : World} {row : Option Nat} (h : Chg F a b) (hg : b.grownBy c row) (hr : ∀ k, row = some k → k < a.heap.size → F k) : Chg F a c :=
  ⟨hg.os.trans h.os, hg.tape.trans h.tape, hg.output.trans h.output, Nat.le_trans h.size hg.size, fun i hi hn =>
    (hg.block i (Nat.lt_of_lt_of_le hi h.size) (fun e => hn (hr i e.symm hi))).trans (h.block i hi hn)⟩
theorem Chg.below {B : Nat} {a b : World} (h : Chg (fun k => B ≤ k) a b) (hB : B ≤ a.heap.size) : Below B a b := ⟨h.os, h.tape, h.output, h.size, fun k hk => h.block k (by omega) (by omega)⟩
theorem cell_of {W : World} {b : Nat} {cs : Array Value} {t : TypeId} {f : Nat × Nat} (h : W.heap[b]? = some (.cells cs t f)) (k : Nat) : W.cell? ⟨b, k, none⟩ = cs[k]? := by simp [World.cell?, h]
theorem free_of {W : World} {b : Nat} {cs : Array Value} {t : TypeId} (h : W.heap[b]? = some (.cells cs t (0, 0))) (k : Nat) : W.frozen? ⟨b, k, none⟩ = false := by simp [World.frozen?, h]
theorem set_of {W : World} {b : Nat} {cs : Array Value} {t : TypeId} {f : Nat × Nat} (h : W.heap[b]? = some (.cells cs t f)) (k : Nat) (v : Value) : (W.setCell ⟨b, k, none⟩ v).heap[b]? = some (.cells (cs.setIfInBounds k v) t f) := by
  obtain ⟨hlt, hk⟩ := Array.getElem?_eq_some_iff.1 h
  show (W.heap.modify b _)[b]? = _
  rw [Array.getElem?_eq_getElem (by rw [Array.size_modify]; exact hlt), Array.getElem_modify_self, hk]
  rfl
theorem lt_of {W : World} {b : Nat} {o : Obj} (h : W.heap[b]? = some o) : b < W.heap.size := (Array.getElem?_eq_some_iff.1 h).1
theorem other_of {W : World} {b c k : Nat} {o : Obj} (h : W.heap[b]? = some o) (hne : b ≠ c) (v : Value) : (W.setCell ⟨c, k, none⟩ v).heap[b]? = some o := (Below.heap_setCell W ⟨c, k, none⟩ v b hne).trans h
theorem alloc_of {W : World} {b : Nat} {o : Obj} (h : W.heap[b]? = some o) (x : Obj) : (W.alloc x).heap[b]? = some o := (Below.heap_alloc W x b (lt_of h)).trans h

/-- A row stays where its block stays. -/
theorem row_kept {W W' : World} {e : TypeId} {s n : Nat} {v : Value} {xs : List Value} (h : W.ownsRow 0 e s v n xs) (hb : ∀ k, v.ownBlock = some k → W'.heap[k]? = W.heap[k]?) : W'.ownsRow 0 e s v n xs := by
  refine ⟨h.1, ?_⟩
  rcases h.2 with h2 | ⟨g, cap, cur, hv, hg, hh, r⟩
  · exact .inl h2
  · exact .inr ⟨g, cap, cur, hv, hg, (hb g (by subst hv; rfl)).trans hh, r⟩
/-- Rows of unlike elements lie in unlike blocks. -/
theorem rows_apart {W : World} {e e' : TypeId} {s s' n n' : Nat} {v v' : Value} {xs xs' : List Value} (h : W.ownsRow 0 e s v n xs) (h' : W.ownsRow 0 e' s' v' n' xs') (hne : e ≠ e') (k : Nat) (hk : v.ownBlock = some k) : v'.ownBlock ≠ some k := by
  intro hk'
  rcases h.2 with ⟨rfl, _⟩ | ⟨g, cap, cur, rfl, _, hg, _⟩
  · simp [Value.ownBlock] at hk
  · rcases h'.2 with ⟨rfl, _⟩ | ⟨g', cap', cur', rfl, _, hg', _⟩
    · simp [Value.ownBlock] at hk'
    · simp [Value.ownBlock] at hk hk'
      subst hk
      subst hk'
      rw [hg] at hg'
      simp at hg'
      exact hne hg'.2
theorem row_block {W : World} {e : TypeId} {s n : Nat} {v : Value} {xs : List Value} (h : W.ownsRow 0 e s v n xs) (k : Nat) (hk : v.ownBlock = some k) : ∃ cur, W.heap[k]? = some (.cells cur e (0, 0)) := by
  rcases h.2 with ⟨rfl, _⟩ | ⟨g, cap, cur, rfl, _, hg, _⟩
  · simp [Value.ownBlock] at hk
  · simp [Value.ownBlock] at hk
    subst hk
    exact ⟨cur, hg⟩
theorem row_lt {W : World} {e : TypeId} {s n : Nat} {v : Value} {xs : List Value} (h : W.ownsRow 0 e s v n xs) (k : Nat) (hk : v.ownBlock = some k) : k < W.heap.size := (h.lt k hk).2
/-- A block of another kind than a row's is not its block. -/
theorem block_apart {W : World} {e t : TypeId} {s n b : Nat} {v : Value} {xs : List Value} {cs : Array Value} {f : Nat × Nat} (h : W.ownsRow 0 e s v n xs) (hb : W.heap[b]? = some (.cells cs t f)) (hne : e ≠ t) : v.ownBlock ≠ some b := by
  intro hk
  obtain ⟨cur, hc⟩ := row_block h b hk
  rw [hc] at hb
  simp at hb
  exact hne hb.2.1
end Go.Proofs.Ytnhiodmigmmfgaa
/- The bank of a plain memory: what lies where, and what its small calls do. -/
namespace Go.Proofs.Ytnhiodmigmmfgaa
open Go.RowKit

def u64V (x : Nat) : Value := .int .u64 (x : Int)
def cellN (cs : List Nat) (i : Nat) : Nat := cs.getD i 0

/-- An access as the trace has it. -/
structure Acc where
  th : Int
  kind : Nat
  addr : Nat
  a : Nat
  b : Nat
  vs : Value
  vals : List Nat
  got : Nat
  ok : Bool
def Acc.cells (x : Acc) : List Value := [.int .i64 x.th, .int .u8 (x.kind : Int), .int .u64 (x.addr : Int), .int .u64 (x.a : Int), .int .u64 (x.b : Int), x.vs, .int .u64 (x.got : Int), .bool x.ok]
def accRow (l : List Acc) : List Value := l.flatMap Acc.cells

def bankCells (cv av : Value) (most next : Nat) : Array Value := #[cv, .int .i64 (most : Int), .int .i64 (next : Int), av]

structure BankAt (W : World) (F : Nat → Prop) (b : Nat) (cv av : Value) (most next : Nat) (cs : List Nat) (l : List Acc) : Prop where
  blk : W.heap[b]? = some (.cells (bankCells cv av most next) 126 (0, 0))
  row : W.ownsRow 0 30 1 cv cs.length (cs.map u64V)
  acc : W.ownsRow 0 112 8 av l.length (accRow l)
  vals : ∀ x ∈ l, W.ownsRow 0 30 1 x.vs x.vals.length (x.vals.map u64V)
  ne : ∀ x ∈ l, ∀ k, x.vs.ownBlock = some k → cv.ownBlock ≠ some k
  inb : F b
  inc : ∀ k, cv.ownBlock = some k → F k
  ina : ∀ k, av.ownBlock = some k → F k
  inv : ∀ x ∈ l, ∀ k, x.vs.ownBlock = some k → F k
  lt : ∀ k, F k → k < W.heap.size
  most_le : most ≤ 4194304
  next_le : 1 ≤ next ∧ next ≤ most
  len_le : cs.length ≤ most
  small : ∀ c ∈ cs, c < 18446744073709551616

def Bank (W : World) (F : Nat → Prop) (b : Nat) (most next : Nat) (cs : List Nat) (l : List Acc) : Prop := ∃ cv av, BankAt W F b cv av most next cs l

/-- What a bank's blocks hold is all that it is. -/
theorem BankAt.kept {W W' : World} {F : Nat → Prop} {b most next : Nat} {cv av : Value} {cs : List Nat} {l : List Acc} (h : BankAt W F b cv av most next cs l) (hs : W.heap.size ≤ W'.heap.size) (hk : ∀ k, F k → W'.heap[k]? = W.heap[k]?) : BankAt W' F b cv av most next cs l :=
  ⟨(hk b h.inb).trans h.blk, row_kept h.row fun k e => hk k (h.inc k e), row_kept h.acc fun k e => hk k (h.ina k e), fun x hx => row_kept (h.vals x hx) fun k e => hk k (h.inv x hx k e), h.ne, h.inb, h.inc, h.ina, h.inv,
    fun k e => Nat.lt_of_lt_of_le (h.lt k e) hs, h.most_le, h.next_le, h.len_le, h.small⟩
theorem Bank.kept {W W' : World} {F : Nat → Prop} {b most next : Nat} {cs : List Nat} {l : List Acc} (h : Bank W F b most next cs l) (hs : W.heap.size ≤ W'.heap.size) (hk : ∀ k, F k → W'.heap[k]? = W.heap[k]?) : Bank W' F b most next cs l :=
  let ⟨cv, av, h⟩ := h; ⟨cv, av, h.kept hs hk⟩
theorem Bank.chg {W W' : World} {F G : Nat → Prop} {b most next : Nat} {cs : List Nat} {l : List Acc} (h : Bank W F b most next cs l) (hc : Chg G W W') (hd : ∀ k, F k → ¬ G k) : Bank W' F b most next cs l :=
  let ⟨_, _, h0⟩ := h; h.kept hc.size fun k e => hc.block k (h0.lt k e) (hd k e)

theorem u64_lt {x : Nat} (h : x < 18446744073709551616) : IntKind.u64.wrap (x : Int) = (x : Int) := by rw [IntKind.wrap_u64]; omega
theorem i64_lt {x : Nat} (h : x < 9223372036854775808) : IntKind.i64.wrap (x : Int) = (x : Int) := by rw [IntKind.wrap_i64]; omega
theorem slice_of {W : World} {e : TypeId} {s n : Nat} {v : Value} {xs : List Value} (h : W.ownsRow 0 e s v n xs) : ∃ p c, v = .slice p n c := by
  rcases h.2 with ⟨rfl, rfl⟩ | ⟨g, cap, cur, rfl, _⟩
  · exact ⟨_, _, rfl⟩
  · exact ⟨_, _, rfl⟩
theorem slice_pos {W : World} {e : TypeId} {s n : Nat} {v : Value} {xs : List Value} (h : W.ownsRow 0 e s v n xs) (hn : 0 < n) : ∃ g c, v = .slice (some ⟨g, 0, none⟩) n c := by
  rcases h.2 with ⟨rfl, rfl⟩ | ⟨g, cap, cur, rfl, _⟩
  · omega
  · exact ⟨g, cap, rfl⟩
theorem cell_u64 {W : World} {g n c : Nat} {cs : List Nat} (h : W.ownsRow 0 30 1 (.slice (some ⟨g, 0, none⟩) n c) n (cs.map u64V)) (i : Nat) (hi : i < n) : W.cell? ⟨g, i, none⟩ = some (.int .u64 (cellN cs i : Int)) := by
  have hl : cs.length = n := by have := h.1; simpa using this
  rw [World.ownsRow.cellAt h i (by omega)]
  simp [u64V, cellN, List.getElem?_eq_getElem (show i < cs.length by omega)]

set_option maxRecDepth 100000 in
theorem p_load (b most next addr : Nat) (F : Nat → Prop) (cs : List Nat) (l : List Acc) (W : World) (h : Bank W F b most next cs l) (ha : addr < 18446744073709551616) :
    Calls Try.prog 98 #[.pointer (some ⟨b, 0, none⟩), .int .u64 (addr : Int)] W fun e W' => e = .returned (.int .u64 (cellN cs addr : Int)) ∧ W' = W := by
  obtain ⟨cv, av, h⟩ := h
  have c0 : W.cell? ⟨b, 0, none⟩ = some cv := cell_of h.blk 0
  have hml := h.most_le
  have hll := h.len_le
  have wl := u64_lt (show cs.length < 18446744073709551616 by omega)
  by_cases h1 : cs.length ≤ addr
  · have ti : (cs.length : Int) ≤ (addr : Int) := by omega
    have e0 : cellN cs addr = 0 := by simp [cellN, List.getElem?_eq_none h1]
    obtain ⟨p, c, rfl⟩ := slice_of h.row
    clear h
    go_enter Try.func98, Try.ntmps98
    go_wp2_with fail
    go_ret
    exact ⟨by simp [e0], rfl⟩
  · have ti : ¬ (cs.length : Int) ≤ (addr : Int) := by omega
    obtain ⟨g, c, rfl⟩ := slice_pos h.row (by omega)
    have cA := cell_u64 h.row addr (by omega)
    clear h
    go_enter Try.func98, Try.ntmps98
    go_wp2_with fail
    go_ret
    exact ⟨by simp, rfl⟩
end Go.Proofs.Ytnhiodmigmmfgaa
/- The bank of a plain memory: it reaches out, stores, compares and adds. -/
namespace Go.Proofs.Ytnhiodmigmmfgaa
open Go.RowKit Go.Shelf

theorem infoU : (Try.prog.info? 30).map (fun i => (i.zero, i.size, i.bytes)) = some (some (.int .u64 0), 1, 8) := by kernel_rfl

/-- From one footprint to another: what has changed lay in the first, what is new in the second is new. -/
structure Goes (W W' : World) (F F' : Nat → Prop) : Prop where
  chg : Chg F W W'
  new : ∀ k, F' k → F k ∨ W.heap.size ≤ k
theorem Goes.refl (W : World) (F : Nat → Prop) : Goes W W F F := ⟨Chg.refl F W, fun _ h => .inl h⟩
theorem Goes.trans {W W1 W2 : World} {F F1 F2 : Nat → Prop} (h : Goes W W1 F F1) (k : Goes W1 W2 F1 F2) : Goes W W2 F F2 :=
  ⟨h.chg.trans k.chg (fun _ _ x => x) (fun i hi x => (h.new i x).resolve_right (by omega)), fun i x => (k.new i x).elim (h.new i) (fun y => .inr (Nat.le_trans h.chg.size y))⟩

def padN (cs : List Nat) (n : Nat) : List Nat := cs ++ List.replicate (n - cs.length) 0
theorem padN_length (cs : List Nat) (n : Nat) : (padN cs n).length = max cs.length n := by simp [padN]; omega
theorem padN_cell (cs : List Nat) (n i : Nat) : cellN (padN cs n) i = cellN cs i := by
  simp only [cellN, padN, List.getD_eq_getElem?_getD, List.getElem?_append, List.getElem?_replicate]
  split
  · rfl
  · rw [List.getElem?_eq_none (by omega)]
    split <;> rfl
theorem padN_id (cs : List Nat) (n : Nat) (h : n ≤ cs.length) : padN cs n = cs := by simp [padN, show n - cs.length = 0 by omega]
def putN (cs : List Nat) (i v : Nat) : List Nat := (padN cs (i + 1)).set i v
theorem putN_cell (cs : List Nat) (i v j : Nat) : cellN (putN cs i v) j = if j = i then v else cellN cs j := by
  have hl := padN_length cs (i + 1)
  by_cases h : j = i
  · subst h
    simp only [cellN, putN, List.getD_eq_getElem?_getD, List.getElem?_set]
    simp [show j < (padN cs (j + 1)).length by omega]
  · rw [if_neg h, ← padN_cell cs (i + 1) j]
    simp only [cellN, putN, List.getD_eq_getElem?_getD, List.getElem?_set]
    simp [Ne.symm h]

set_option maxRecDepth 100000 in
theorem p_reach (b most next count : Nat) (F : Nat → Prop) (cs : List Nat) (l : List Acc) (W : World) (h : Bank W F b most next cs l) (hc : count ≤ most) :
    Calls Try.prog 104 #[.pointer (some ⟨b, 0, none⟩), .int .i64 (count : Int)] W fun e W' => e = .returned (.tuple #[]) ∧ ∃ F', Bank W' F' b most next (padN cs count) l ∧ Goes W W' F F' := by
  obtain ⟨i0, hi, hz0, hz1, hz2⟩ := info_parts infoU
  obtain ⟨cv, av, h⟩ := h
  have c0 : W.cell? ⟨b, 0, none⟩ = some cv := cell_of h.blk 0
  have f0 := free_of h.blk 0
  have hml := h.most_le
  have hll := h.len_le
  by_cases h1 : count ≤ cs.length
  · have ti : ¬ (0 : Int) < (count : Int) - (cs.length : Int) := by omega
    have wl : IntKind.i64.wrap ((count : Int) - (cs.length : Int)) = (count : Int) - (cs.length : Int) := by rw [IntKind.wrap_i64]; omega
    have H := keepH h
    obtain ⟨p, c, rfl⟩ := slice_of h.row
    clear h
    go_enter Try.func104, Try.ntmps104
    go_wp2_with fail
    go_end0
    exact ⟨rfl, F, ⟨_, _, by rw [padN_id cs count h1]; exact H.out⟩, Goes.refl _ _⟩
  · obtain ⟨m, hmm⟩ : ∃ m, m = count - cs.length := ⟨_, rfl⟩
    have hm : 0 < m := by omega
    have wl : IntKind.i64.wrap ((count : Int) - (cs.length : Int)) = (m : Int) := by rw [IntKind.wrap_i64]; omega
    have ti : (0 : Int) < (m : Int) := by omega
    have h63 : cs.length + m ≤ 1099511627776 := by omega
    have HM := keepH hmm
    have H := keepH h
    have hrow := h.row
    obtain ⟨p, c, hcv⟩ := slice_of h.row
    have HV := keepH hcv
    have hlt := lt_of h.blk
    subst hcv
    clear h h1 hmm
    go_enter Try.func104, Try.ntmps104
    go_wp2_with (at_builtin; refine wpList_append_zeros _ rfl _ _ 31 3 rfl 30 i0 (.int .u64 0) 8 Try.underlying31 Try.underlying3 hi hz0 hz1 hz2 rfl rfl (.slice p cs.length c) cs.length _ rfl hrow m rfl hm h63 (by omega) ?_; intro v' w1 hown hgrow hwhere; obtain ⟨g', c', rfl⟩ := slice_pos hown (by omega); have hb1 := keepH ((hgrow.block b hlt (fun e => block_apart H.out.row H.out.blk (by decide) e.symm)).trans H.out.blk); have c1 := (cell_of hb1.out 0).trans rfl; have f1 := free_of hb1.out 0; have HO := keepH hown; have HW := keepH hwhere; clear hown hwhere)
    go_end0
    have h := H.out
    have hbk := HW.out
    have hg' : g' < w1.heap.size := row_lt HO.out g' rfl
    have epad : padN cs count = cs ++ List.replicate m 0 := by have := HM.out; subst this; rfl
    have en : ∀ k, F k → k ≠ b → (Value.slice p cs.length c).ownBlock ≠ some k → (w1.setCell ⟨b, 0, none⟩ (.slice (some ⟨g', 0, none⟩) (cs.length + m) c')).heap[k]? = W.heap[k]? := fun k hk hb hc => (Below.heap_setCell _ _ _ _ hb).trans (hgrow.block k (h.lt k hk) (fun e => hc e.symm))
    have gb : g' ≠ b := fun e => block_apart HO.out hb1.out (by decide) (by rw [e]; rfl)
    have hsz : (w1.setCell ⟨b, 0, none⟩ (.slice (some ⟨g', 0, none⟩) (cs.length + m) c')).heap.size = w1.heap.size := by simp [World.setCell]
    refine ⟨rfl, fun k => F k ∨ k = g', ⟨.slice (some ⟨g', 0, none⟩) (cs.length + m) c', av, ?_, ?_, ?_, ?_, ?_, .inl h.inb, ?_, fun k e => .inl (h.ina k e), fun x hx k e => .inl (h.inv x hx k e), ?_, h.most_le, h.next_le, ?_, ?_⟩, ⟨?_, ?_⟩⟩
    · have e := set_of hb1.out 0 (.slice (some ⟨g', 0, none⟩) (cs.length + m) c')
      exact e
    · rw [epad]
      have r := row_kept (W' := w1.setCell ⟨b, 0, none⟩ (.slice (some ⟨g', 0, none⟩) (cs.length + m) c')) HO.out fun k e => Below.heap_setCell _ _ _ _ (by simp [Value.ownBlock] at e; rw [← e]; exact gb)
      simpa [u64V] using r
    · exact row_kept h.acc fun k e => en k (h.ina k e) (fun e2 => block_apart h.acc h.blk (by decide) (by rw [e, e2])) (fun e2 => rows_apart h.row h.acc (by decide) k e2 e)
    · intro x hx
      exact row_kept (h.vals x hx) fun k e => en k (h.inv x hx k e) (fun e2 => block_apart (h.vals x hx) h.blk (by decide) (by rw [e, e2])) (fun e2 => h.ne x hx k e e2)
    · intro x hx k e e2
      rcases hbk with hb | hb
      · exact h.ne x hx k e (hb.symm.trans e2)
      · have := row_lt (h.vals x hx) k e
        rw [hb] at e2
        simp at e2
        omega
    · intro k e
      simp [Value.ownBlock] at e
      exact .inr e.symm
    · rw [hsz]
      rintro k (hk | rfl)
      · exact Nat.lt_of_lt_of_le (h.lt k hk) hgrow.size
      · exact hg'
    · rw [padN_length]
      omega
    · rw [epad]
      intro x hx
      rcases List.mem_append.1 hx with hx | hx
      · exact h.small x hx
      · rw [List.eq_of_mem_replicate hx]
        decide
    · exact ((Chg.refl F W).grown hgrow fun k e _ => h.inc k e).setCell (fun _ => h.inb) _
    · rintro k (hk | rfl)
      · exact .inl hk
      · rcases hbk with hb | hb
        · exact .inl (h.inc _ hb.symm)
        · simp [Value.ownBlock] at hb
          exact .inr (by omega)
end Go.Proofs.Ytnhiodmigmmfgaa
/- The bank of a plain memory: it stores, compares, adds, and tells its numbers. -/
namespace Go.Proofs.Ytnhiodmigmmfgaa
open Go.RowKit Go.Shelf

theorem BankAt.put {W : World} {F : Nat → Prop} {b g n c most next : Nat} {av : Value} {cs : List Nat} {l : List Acc} (h : BankAt W F b (.slice (some ⟨g, 0, none⟩) n c) av most next cs l) (i v : Nat) (hv : v < 18446744073709551616) :
    BankAt (W.setCell ⟨g, i, none⟩ (.int .u64 (v : Int))) F b (.slice (some ⟨g, 0, none⟩) n c) av most next (cs.set i v) l := by
  have gb : b ≠ g := fun e => block_apart h.row h.blk (by decide) (by rw [e]; rfl)
  have hn : n = cs.length := by
    rcases h.row.2 with ⟨h2, _⟩ | ⟨_, _, _, h2, _⟩
    · simp at h2
    · simp at h2; exact h2.2.1
  subst hn
  refine ⟨(Below.heap_setCell _ _ _ _ gb).trans h.blk, ?_, row_kept h.acc fun k e => Below.heap_setCell _ _ _ _ (fun e2 => rows_apart h.row h.acc (by decide) g rfl (by rw [e, e2])), fun x hx => row_kept (h.vals x hx) fun k e => Below.heap_setCell _ _ _ _ (fun e2 => h.ne x hx k e (by rw [e2]; rfl)), h.ne, h.inb, h.inc, h.ina, h.inv, fun k e => by simpa [World.setCell] using h.lt k e, h.most_le, h.next_le, by simpa using h.len_le, ?_⟩
  · have r := World.ownsRow.stored h.row i (.int .u64 (v : Int))
    rw [List.length_set]
    rw [List.map_set]
    exact r.1
  · intro x hx
    rcases List.mem_or_eq_of_mem_set hx with hx | hx
    · exact h.small x hx
    · omega
theorem BankAt.len {W : World} {F : Nat → Prop} {b most next : Nat} {cv av : Value} {cs : List Nat} {l : List Acc} (h : BankAt W F b cv av most next cs l) (hp : 0 < cs.length) : ∃ g c, cv = .slice (some ⟨g, 0, none⟩) cs.length c := slice_pos h.row hp
theorem Bank.drewN {W : World} {F : Nat → Prop} {b most next : Nat} {cs : List Nat} {l : List Acc} (h : Bank W F b most next cs l) (q : Nat) : Bank (W.drewN q) F b most next cs l := h.kept (Nat.le_refl _) fun _ _ => rfl
theorem Goes.drewN (W : World) (F : Nat → Prop) (q : Nat) : Goes W (W.drewN q) F F := ⟨⟨rfl, rfl, rfl, Nat.le_refl _, fun _ _ _ => rfl⟩, fun _ h => .inl h⟩

/-- What a store leaves. -/
def stN (most : Nat) (cs : List Nat) (addr v : Nat) : List Nat := if addr < most then putN cs addr v else cs
theorem stN_cell (most : Nat) (cs : List Nat) (addr v j : Nat) : cellN (stN most cs addr v) j = if j = addr ∧ addr < most then v else cellN cs j := by
  unfold stN
  by_cases h : addr < most
  · rw [if_pos h, putN_cell]
    simp [h]
  · simp [h]

set_option maxRecDepth 100000 in
theorem p_store (b most next addr v : Nat) (F : Nat → Prop) (cs : List Nat) (l : List Acc) (W : World) (h : Bank W F b most next cs l) (ha : addr < 18446744073709551616) (hv : v < 18446744073709551616) :
    Calls Try.prog 102 #[.pointer (some ⟨b, 0, none⟩), .int .u64 (addr : Int), .int .u64 (v : Int)] W fun e W' => e = .returned (.tuple #[]) ∧ ∃ F', Bank W' F' b most next (stN most cs addr v) l ∧ Goes W W' F F' := by
  have HB := keepH h
  obtain ⟨cv, av, h⟩ := h
  have c1 : W.cell? ⟨b, 1, none⟩ = some (.int .i64 (most : Int)) := cell_of h.blk 1
  have hml := h.most_le
  have hll := h.len_le
  have wl := u64_lt (show most < 18446744073709551616 by omega)
  by_cases h1 : most ≤ addr
  · have ti : (most : Int) ≤ (addr : Int) := by omega
    have e0 : stN most cs addr v = cs := by simp [stN]; omega
    clear h
    go_enter Try.func102, Try.ntmps102
    go_wp2_with fail
    exact bodyPost_ret (results_none rfl _ _ _) rfl ⟨rfl, F, by rw [e0]; exact HB.out, Goes.refl _ _⟩
  · have ti : ¬ (most : Int) ≤ (addr : Int) := by omega
    have wa : IntKind.i64.wrap (addr : Int) = (addr : Int) := i64_lt (by omega)
    have wb : IntKind.i64.wrap ((addr : Int) + 1) = ((addr + 1 : Nat) : Int) := by rw [IntKind.wrap_i64]; omega
    have hle : addr + 1 ≤ most := by omega
    clear h
    go_enter Try.func102, Try.ntmps102
    go_wp2_with fail
    refine (p_reach b most next (addr + 1) F cs l _ HB.out hle).mono ?_
    rintro e W1 ⟨rfl, F1, ⟨cv1, av1, B1⟩, G1⟩
    have hlen := padN_length cs (addr + 1)
    obtain ⟨g, c, hcv⟩ := B1.len (by omega)
    have HL := keepH hlen
    subst hcv
    have k0 : W1.cell? ⟨b, 0, none⟩ = some (.slice (some ⟨g, 0, none⟩) (padN cs (addr + 1)).length c) := cell_of B1.blk 0
    have kc := cell_u64 B1.row addr (by omega)
    have kf := World.ownsRow.frozenAt B1.row addr
    have lt1 : (addr : Int) < ((padN cs (addr + 1)).length : Int) := by omega
    have HB1 := keepH B1
    clear B1 hlen
    go_wp2_with fail
    go_end0
    refine ⟨rfl, F1, ⟨.slice (some ⟨g, 0, none⟩) (padN cs (addr + 1)).length c, av1, ?_⟩, ?_⟩
    · have e := HB1.out.put addr v hv
      simp only [stN, show addr < most by omega, if_true, putN]
      exact e
    · exact G1.trans ⟨(Chg.refl F1 W1).setCell (fun _ => HB1.out.inc g rfl) _, fun k e => .inl e⟩

def casOk (most : Nat) (cs : List Nat) (addr old : Nat) : Bool := decide (addr < most ∧ cellN cs addr = old)
def casN (most : Nat) (cs : List Nat) (addr old now : Nat) : List Nat := if addr < most ∧ cellN cs addr = old then putN cs addr now else cs

set_option maxRecDepth 100000 in
theorem p_cas (b most next addr old now : Nat) (F : Nat → Prop) (cs : List Nat) (l : List Acc) (W : World) (h : Bank W F b most next cs l) (ha : addr < 18446744073709551616) (hv : now < 18446744073709551616) :
    Calls Try.prog 95 #[.pointer (some ⟨b, 0, none⟩), .int .u64 (addr : Int), .int .u64 (old : Int), .int .u64 (now : Int)] W fun e W' => e = .returned (.bool (casOk most cs addr old)) ∧
      ∃ F', Bank W' F' b most next (casN most cs addr old now) l ∧ Goes W W' F F' := by
  have HB := keepH h
  obtain ⟨cv, av, h⟩ := h
  have c1 : W.cell? ⟨b, 1, none⟩ = some (.int .i64 (most : Int)) := cell_of h.blk 1
  have hml := h.most_le
  have wl := u64_lt (show most < 18446744073709551616 by omega)
  by_cases h1 : most ≤ addr
  · have ti : (most : Int) ≤ (addr : Int) := by omega
    have e0 : ¬ (addr < most ∧ cellN cs addr = old) := by omega
    clear h
    go_enter Try.func95, Try.ntmps95
    go_wp2_with fail
    go_ret
    exact ⟨by simp [casOk, e0], F, by unfold casN; rw [if_neg e0]; exact HB.out, Goes.refl _ _⟩
  · have ti : ¬ (most : Int) ≤ (addr : Int) := by omega
    by_cases h2 : cellN cs addr = old
    · have e0 : (addr < most ∧ cellN cs addr = old) := by omega
      have t2 : (cellN cs addr : Int) = (old : Int) := by omega
      clear h
      go_enter Try.func95, Try.ntmps95
      go_wp2_with fail
      refine (p_load b most next addr F cs l _ HB.out ha).mono ?_
      rintro e w' ⟨rfl, rfl⟩
      go_wp2_with fail
      refine (p_store b most next addr now F cs l _ HB.out ha hv).mono ?_
      rintro e W1 ⟨rfl, F1, B1, G1⟩
      have HB1 := keepH B1
      clear B1
      go_wp2_with fail
      go_ret
      refine ⟨by simp [casOk, e0], F1, ?_, G1⟩
      unfold casN
      rw [if_pos e0]
      have e := HB1.out
      simpa only [stN, show addr < most by omega, if_true] using e
    · have e0 : ¬ (addr < most ∧ cellN cs addr = old) := by omega
      have t2 : ¬ (cellN cs addr : Int) = (old : Int) := by omega
      clear h
      go_enter Try.func95, Try.ntmps95
      go_wp2_with fail
      refine (p_load b most next addr F cs l _ HB.out ha).mono ?_
      rintro e w' ⟨rfl, rfl⟩
      go_wp2_with fail
      go_ret
      exact ⟨by simp [casOk, e0], F, by unfold casN; rw [if_neg e0]; exact HB.out, Goes.refl _ _⟩

def addN (x n : Nat) : Nat := (x + n) % 18446744073709551616
set_option maxRecDepth 100000 in
theorem p_add (b most next addr n : Nat) (F : Nat → Prop) (cs : List Nat) (l : List Acc) (W : World) (h : Bank W F b most next cs l) (ha : addr < 18446744073709551616) :
    Calls Try.prog 93 #[.pointer (some ⟨b, 0, none⟩), .int .u64 (addr : Int), .int .u64 (n : Int)] W fun e W' => e = .returned (.int .u64 (cellN cs addr : Int)) ∧ ∃ F', Bank W' F' b most next (stN most cs addr (addN (cellN cs addr) n)) l ∧ Goes W W' F F' := by
  have HB := keepH h
  have wl : IntKind.u64.wrap ((cellN cs addr : Int) + (n : Int)) = (addN (cellN cs addr) n : Int) := by rw [IntKind.wrap_u64]; simp [addN]
  clear h
  go_enter Try.func93, Try.ntmps93
  go_wp2_with fail
  refine (p_load b most next addr F cs l _ HB.out ha).mono ?_
  rintro e w' ⟨rfl, rfl⟩
  go_wp2_with fail
  refine (p_store b most next addr (addN (cellN cs addr) n) F cs l _ HB.out ha (Nat.mod_lt _ (by decide))).mono ?_
  rintro e W1 ⟨rfl, F1, B1, G1⟩
  have HB1 := keepH B1
  clear B1
  go_wp2_with fail
  go_ret
  exact ⟨by simp, F1, HB1.out, G1⟩

set_option maxRecDepth 100000 in
theorem p_left (b most next : Nat) (F : Nat → Prop) (cs : List Nat) (l : List Acc) (W : World) (h : Bank W F b most next cs l) :
    Calls Try.prog 97 #[.pointer (some ⟨b, 0, none⟩)] W fun e W' => e = .returned (.int .i64 ((most - next : Nat) : Int)) ∧ ∃ q, W' = W.drewN q := by
  obtain ⟨cv, av, h⟩ := h
  have c1 : W.cell? ⟨b, 1, none⟩ = some (.int .i64 (most : Int)) := cell_of h.blk 1
  have c2 : W.cell? ⟨b, 2, none⟩ = some (.int .i64 (next : Int)) := cell_of h.blk 2
  have hml := h.most_le
  have hn := h.next_le
  have wl : IntKind.i64.wrap ((most : Int) - (next : Int)) = ((most - next : Nat) : Int) := by rw [IntKind.wrap_i64]; omega
  clear h
  go_enter Try.func97, Try.ntmps97
  go_wp2_with fail
  go_quiet (fail)
  go_wp2_with fail
  go_ret
  exact ⟨by simp, _, rfl⟩
set_option maxRecDepth 100000 in
theorem p_made (b most next : Nat) (F : Nat → Prop) (cs : List Nat) (l : List Acc) (W : World) (h : Bank W F b most next cs l) :
    Calls Try.prog 99 #[.pointer (some ⟨b, 0, none⟩)] W fun e W' => e = .returned (.int .i64 (l.length : Int)) ∧ W' = W := by
  obtain ⟨cv, av, h⟩ := h
  have c1 : W.cell? ⟨b, 3, none⟩ = some av := cell_of h.blk 3
  obtain ⟨p, c, rfl⟩ := slice_of h.acc
  clear h
  go_enter Try.func99, Try.ntmps99
  go_wp2_with fail
  go_ret
  exact ⟨by simp, rfl⟩
end Go.Proofs.Ytnhiodmigmmfgaa
/- The bank of a plain memory: a copy of values; an access is written down. -/
namespace Go.Proofs.Ytnhiodmigmmfgaa
open Go.RowKit Go.Shelf

/-- A list that came in reads so. -/
def Reads (W : World) (p : Option Addr) (vals : List Nat) : Prop := vals = [] ∨ ∃ ad, p = some ad ∧ ∀ j u, (vals.map u64V)[j]? = some u → W.cell? (ad.add j) = some u
theorem Reads.nil (W : World) (p : Option Addr) : Reads W p [] := .inl rfl
theorem Reads.grown {W W' : World} {p : Option Addr} {vals : List Nat} {row : Option Nat} (h : Reads W p vals) (hg : W.grownBy W' row) (hne : ∀ ad, p = some ad → some ad.block ≠ row) : Reads W' p vals := by
  rcases h with h | ⟨ad, rfl, h⟩
  · exact .inl h
  · exact .inr ⟨ad, rfl, fun j u hj => hg.cell (h j u hj) (by unfold Addr.add; split <;> exact hne ad rfl)⟩

theorem run_append_empty {P : Program} (w : World) (t ty e : TypeId) (i : TypeInfo) (ht : P.underlying t = some (.slice e)) (hi : P.info? e = some i) (p : Option Addr) (c : Nat) :
    (Builtin.append_ #[t, t] ty #[.slice none 0 0, .slice p 0 c]).run P w = .ok (.slice none 0 0) w := by
  cases p <;> simp [Builtin.append_, run_underlying ht, sizeOf, typeInfo, hi, Builtin.lenOf, Builtin.firstCells, loadCells, loadCellsFrom]

set_option maxRecDepth 100000 in
theorem copy_of (p : Option Addr) (c : Nat) (vals : List Nat) (W : World) (hr : Reads W p vals) (hl : vals.length ≤ 17592186043904) :
    Calls Try.prog 105 #[.slice p vals.length c] W fun e W' => ∃ v, e = .returned v ∧ W'.ownsRow 0 30 1 v vals.length (vals.map u64V) ∧ W.grownBy W' none ∧ (v.ownBlock = none ∨ v.ownBlock = some W.heap.size) := by
  obtain ⟨i0, hi, hz0, hz1, hz2⟩ := info_parts infoU
  rcases hr with rfl | ⟨ad, rfl, hr⟩
  · have hrun := fun ty => run_append_empty (P := Try.prog) W 31 ty 30 i0 Try.underlying31 hi p c
    go_enter Try.func105, Try.ntmps105
    go_wp2_with (at_builtin; refine Lib.wpList_append_run _ rfl _ _ 31 31 rfl (.slice none 0 0) (.slice p 0 c) rfl rfl _ _ (hrun _) ?_)
    go_ret
    exact ⟨.slice none 0 0, by simp, World.ownsRow_nil _ _ _ _, ⟨rfl, rfl, rfl, Nat.le_refl _, fun _ _ _ => rfl⟩, .inl rfl⟩
  · have HR := keepH hr
    clear hr
    go_enter Try.func105, Try.ntmps105
    go_wp2_with (at_builtin; refine wpList_append_own_at _ rfl _ _ 31 rfl 0 30 i0 (.int .u64 0) 1 8 Try.underlying31 hi hz0 hz1 hz2 rfl (by decide) (.slice none 0 0) 0 [] rfl (World.ownsRow_nil _ _ _ _) ad vals.length c (vals.map u64V) rfl (by simp) HR.out (by intro u hu; obtain ⟨x, _, rfl⟩ := List.mem_map.1 hu; rfl) (by unfold maxLen; omega) (by omega) (Nat.zero_le _) ?_; intro v w1 h1 h2 h3 h4; have H1 := keepH h1; have H4 := keepH h4; clear h1 h3 h4)
    go_ret
    refine ⟨v, by simp, ?_, h2, H4.out⟩
    have e := H1.out
    simpa using e

def accV (th : Int) (kind addr a b : Nat) (vs : Value) (got : Nat) (ok : Bool) : Value := .agg #[.int .i64 th, .int .u8 (kind : Int), .int .u64 (addr : Int), .int .u64 (a : Int), .int .u64 (b : Int), vs, .int .u64 (got : Int), .bool ok]
theorem infoA : (Try.prog.info? 112).map (fun i => (i.zero, i.size, i.bytes)) = some (some (accV 0 0 0 0 0 (.slice none 0 0) 0 false), 8, 80) := by kernel_rfl

theorem cells_new (w : World) (g : Nat) (hg : w.heap.size = g) (cs : Array Value) (t : TypeId) : ∀ j u, cs.toList[j]? = some u → (w.alloc (.cells cs t)).cell? ((⟨g, 0, none⟩ : Addr).add j) = some u := by
  intro j u h
  subst hg
  have e : (⟨w.heap.size, 0, none⟩ : Addr).add j = ⟨w.heap.size, j, none⟩ := by unfold Addr.add; split <;> simp_all
  rw [e]
  have hh : (w.alloc (.cells cs t)).heap[w.heap.size]? = some (.cells cs t (0, 0)) := heap_alloc_new _ _
  rw [cell_of hh j]
  simpa using h
theorem blk_note {w2 w3 : World} {b B k : Nat} {o ob : Obj} {u : Value} {row : Option Nat} (hb : w2.heap[b]? = some o) (hne : ¬ b = B) (hg : (((w2.setCell ⟨B, k, none⟩ u).drew).alloc ob).grownBy w3 row) (hr : some b ≠ row) : w3.heap[b]? = some o := by
  have h1 : (w2.setCell ⟨B, k, none⟩ u).heap[b]? = some o := other_of hb hne u
  have h2 : ((w2.setCell ⟨B, k, none⟩ u).drew.alloc ob).heap[b]? = some o := alloc_of (W := (w2.setCell ⟨B, k, none⟩ u).drew) h1 ob
  exact (hg.block b (lt_of h2) hr).trans h2
theorem chg_note {w2 w3 : World} {B k : Nat} {ob : Obj} {u : Value} {row : Option Nat} (hg : (((w2.setCell ⟨B, k, none⟩ u).drew).alloc ob).grownBy w3 row) {F : Nat → Prop} {W : World} (h : Chg F W w2) (hB : W.heap.size ≤ B) (hr : ∀ k, row = some k → k < W.heap.size → F k) : Chg F W w3 :=
  ((Chg.setCell h (p := ⟨B, k, none⟩) (fun x => absurd x (Nat.not_lt.2 hB)) u).drew.alloc ob).grown hg hr

theorem note_end {W w2 w3 : World} {F : Nat → Prop} {b most next g' c3 B : Nat} {cv av vs u : Value} {ob : Obj} {cs : List Nat} {l : List Acc} {th : Int} {kind addr x y got : Nat} {ok : Bool} {vals : List Nat}
    (h : BankAt W F b cv av most next cs l) (hB : W.heap.size ≤ B) (hk2 : ∀ k, k < W.heap.size → w2.heap[k]? = W.heap[k]?) (hc2 : Chg F W w2) (hrow : w2.ownsRow 0 30 1 vs vals.length (vals.map u64V)) (hwh : ∀ k, vs.ownBlock = some k → W.heap.size ≤ k ∧ k ≠ B)
    (hb3 : w3.heap[b]? = some (.cells (bankCells cv av most next) 126 (0, 0))) (hg : (((w2.setCell ⟨B, 5, none⟩ u).drew).alloc ob).grownBy w3 av.ownBlock)
    (ho : w3.ownsRow 0 112 8 (.slice (some ⟨g', 0, none⟩) (l.length + 1) c3) (l.length + 1) (accRow l ++ [.int .i64 th, .int .u8 (kind : Int), .int .u64 (addr : Int), .int .u64 (x : Int), .int .u64 (y : Int), vs, .int .u64 (got : Int), .bool ok]))
    (hw2 : av.ownBlock = some g' ∨ W.heap.size ≤ g') :
    ∃ F' vs, Bank (w3.setCell ⟨b, 3, none⟩ (.slice (some ⟨g', 0, none⟩) (l.length + 1) c3)) F' b most next cs (l ++ [⟨th, kind, addr, x, y, vs, vals, got, ok⟩]) ∧ Goes W (w3.setCell ⟨b, 3, none⟩ (.slice (some ⟨g', 0, none⟩) (l.length + 1) c3)) F F' := by
  have hbl := lt_of h.blk
  have k3 : ∀ k, k < w2.heap.size → k ≠ B → k ≠ b → av.ownBlock ≠ some k → (w3.setCell ⟨b, 3, none⟩ (.slice (some ⟨g', 0, none⟩) (l.length + 1) c3)).heap[k]? = w2.heap[k]? := fun k hk h1 h2 h3 => by
    have e1 : (w3.setCell ⟨b, 3, none⟩ (.slice (some ⟨g', 0, none⟩) (l.length + 1) c3)).heap[k]? = w3.heap[k]? := Below.heap_setCell _ _ _ _ h2
    have s1 : (w2.setCell ⟨B, 5, none⟩ u).drew.heap.size = w2.heap.size := by simp [World.setCell]
    have e2 := hg.block k (by rw [World.size_alloc, s1]; omega) (fun e => h3 e.symm)
    have e3 : ((w2.setCell ⟨B, 5, none⟩ u).drew.alloc ob).heap[k]? = (w2.setCell ⟨B, 5, none⟩ u).drew.heap[k]? := Below.heap_alloc _ _ _ (by rw [s1]; exact hk)
    have e4 : (w2.setCell ⟨B, 5, none⟩ u).drew.heap[k]? = w2.heap[k]? := Below.heap_setCell _ _ _ _ h1
    exact e1.trans (e2.trans (e3.trans e4))
  have kF : ∀ k, F k → k ≠ b → av.ownBlock ≠ some k → (w3.setCell ⟨b, 3, none⟩ (.slice (some ⟨g', 0, none⟩) (l.length + 1) c3)).heap[k]? = W.heap[k]? := fun k hk h2 h3 => by
    have hl := h.lt k hk
    exact (k3 k (by have := hc2.size; omega) (by omega) h2 h3).trans (hk2 k hl)
  have gb : g' ≠ b := fun e => block_apart ho hb3 (by decide) (by rw [e]; rfl)
  have sz3 : w2.heap.size ≤ w3.heap.size := by
    have := hg.size
    have s1 : (w2.setCell ⟨B, 5, none⟩ u).drew.heap.size = w2.heap.size := by simp [World.setCell]
    rw [World.size_alloc, s1] at this
    omega
  have szW := hc2.size
  have hsz : (w3.setCell ⟨b, 3, none⟩ (.slice (some ⟨g', 0, none⟩) (l.length + 1) c3)).heap.size = w3.heap.size := by simp [World.setCell]
  have vlt : ∀ k, vs.ownBlock = some k → k < w2.heap.size := row_lt hrow
  refine ⟨fun k => F k ∨ k = g' ∨ vs.ownBlock = some k, vs, ⟨cv, .slice (some ⟨g', 0, none⟩) (l.length + 1) c3, ?_, ?_, ?_, ?_, ?_, .inl h.inb, fun k e => .inl (h.inc k e), ?_, ?_, ?_, h.most_le, h.next_le, h.len_le, h.small⟩, ⟨?_, ?_⟩⟩
  · have e := set_of hb3 3 (.slice (some ⟨g', 0, none⟩) (l.length + 1) c3)
    exact e
  · exact row_kept h.row fun k e => kF k (h.inc k e) (fun e2 => block_apart h.row h.blk (by decide) (by rw [e, e2])) (fun e2 => rows_apart h.row h.acc (by decide) k e e2)
  · have r := row_kept (W' := w3.setCell ⟨b, 3, none⟩ (.slice (some ⟨g', 0, none⟩) (l.length + 1) c3)) ho fun k e => Below.heap_setCell _ _ _ _ (by simp [Value.ownBlock] at e; rw [← e]; exact gb)
    simpa [accRow, Acc.cells] using r
  · intro z hz
    rcases List.mem_append.1 hz with hz | hz
    · exact row_kept (h.vals z hz) fun k e => kF k (h.inv z hz k e) (fun e2 => block_apart (h.vals z hz) h.blk (by decide) (by rw [e, e2])) (fun e2 => rows_apart (h.vals z hz) h.acc (by decide) k e e2)
    · obtain rfl := List.mem_singleton.1 hz
      refine row_kept hrow fun k e => k3 k (vlt k e) (hwh k e).2 (fun e2 => ?_) (fun e2 => ?_)
      · have := (hwh k e).1
        omega
      · have := row_lt h.acc k e2
        have := (hwh k e).1
        omega
  · intro z hz k e e2
    rcases List.mem_append.1 hz with hz | hz
    · exact h.ne z hz k e e2
    · obtain rfl := List.mem_singleton.1 hz
      have := (hwh k e).1
      have := row_lt h.row k e2
      omega
  · intro k e
    simp [Value.ownBlock] at e
    exact .inr (.inl e.symm)
  · intro z hz k e
    rcases List.mem_append.1 hz with hz | hz
    · exact .inl (h.inv z hz k e)
    · obtain rfl := List.mem_singleton.1 hz
      exact .inr (.inr e)
  · rw [hsz]
    rintro k (hk | rfl | hk)
    · have := h.lt k hk
      omega
    · exact row_lt ho k rfl
    · have := vlt k hk
      omega
  · exact (chg_note hg hc2 hB (fun k e _ => h.ina k e)).setCell (fun _ => h.inb) _
  · rintro k (hk | rfl | hk)
    · exact .inl hk
    · rcases hw2 with e | e
      · exact .inl (h.ina k e)
      · exact .inr e
    · exact .inr (hwh k hk).1

set_option maxRecDepth 100000 in
theorem p_note (b most next : Nat) (th : Int) (kind addr x y got : Nat) (ok : Bool) (p : Option Addr) (c : Nat) (vals : List Nat) (F : Nat → Prop) (cs : List Nat) (l : List Acc) (W : World) (h : Bank W F b most next cs l) (hr : Reads W p vals) (hv : vals.length ≤ 17592186043904) (hl : l.length < 1099511627776) :
    Calls Try.prog 100 #[.pointer (some ⟨b, 0, none⟩), accV th kind addr x y (.slice p vals.length c) got ok] W fun e W' => e = .returned (.tuple #[]) ∧ ∃ F' vs, Bank W' F' b most next cs (l ++ [⟨th, kind, addr, x, y, vs, vals, got, ok⟩]) ∧ Goes W W' F F' := by
  obtain ⟨i0, hi, hz0, hz1, hz2⟩ := info_parts infoA
  unfold accV
  have HB := keepH h
  have HR := keepH hr
  clear h hr
  go_enter Try.func100, Try.ntmps100
  go_wp2_with fail
  refine (copy_of p c vals _ (HR.out.grown (World.grownBy_alloc _ _ none) (fun _ _ => by simp)) hv).mono ?_
  rintro e w2 ⟨v, rfl, hrow, hgr, hwh⟩
  obtain ⟨p', c', rfl⟩ := slice_of hrow
  have hB2 : Hid (w2.heap[W.heap.size]? = some (.cells #[.int .i64 th, .int .u8 (kind : Int), .int .u64 (addr : Int), .int .u64 (x : Int), .int .u64 (y : Int), .slice p vals.length c, .int .u64 (got : Int), .bool ok] 112 (0, 0))) := (hgr.block _ (by simp) (by simp)).trans (heap_alloc_new _ _)
  have q0 := (cell_of hB2.out 0).trans rfl
  have q1 := (cell_of hB2.out 1).trans rfl
  have q2 := (cell_of hB2.out 2).trans rfl
  have q3 := (cell_of hB2.out 3).trans rfl
  have q4 := (cell_of hB2.out 4).trans rfl
  have q5 := (cell_of hB2.out 5).trans rfl
  have q6 := (cell_of hB2.out 6).trans rfl
  have q7 := (cell_of hB2.out 7).trans rfl
  have qf := free_of hB2.out 5
  have hk2 : Hid (∀ k, k < W.heap.size → w2.heap[k]? = W.heap[k]?) := fun k hk => (hgr.block k (by simp; omega) (by simp)).trans (Below.heap_alloc _ _ _ hk)
  have hs2 : W.heap.size + 1 ≤ w2.heap.size := by have := hgr.size; simpa using this
  obtain ⟨cv, av, h⟩ := HB.out
  have hbl := lt_of h.blk
  have ne1 : ¬ b = W.heap.size := by omega
  have ne2 : ¬ W.heap.size = b := by omega
  have hb2 : Hid (w2.heap[b]? = some (.cells (bankCells cv av most next) 126 (0, 0))) := (hk2.out b hbl).trans h.blk
  have q8 : w2.cell? ⟨b, 3, none⟩ = some av := cell_of hb2.out 3
  have HA : Hid (∀ u, ((w2.setCell ⟨W.heap.size, 5, none⟩ u).drew).ownsRow 0 112 8 av l.length (accRow l)) := fun u => row_kept (W := W) h.acc fun k e => (Below.heap_setCell _ _ _ _ (by have := row_lt h.acc k e; show ¬ _ = W.heap.size; omega)).trans (hk2.out k (row_lt h.acc k e))
  have H := keepH h
  have HROW := keepH hrow
  have HWH := keepH hwh
  clear h hrow hwh
  obtain ⟨pa, ca, rfl⟩ := slice_of H.out.acc
  have ne3 : ¬ b = w2.heap.size := by omega
  have ne4 : ¬ w2.heap.size = b := by omega
  have qa : ∀ u o, ((w2.setCell ⟨W.heap.size, 5, none⟩ u).alloc o).cell? ⟨b, 3, none⟩ = some (.slice pa l.length ca) := fun u o => cell_of (alloc_of (other_of hb2.out ne1 u) o) 3
  have hsz3 : ∀ u, ((w2.setCell ⟨W.heap.size, 5, none⟩ u).drew).heap.size = w2.heap.size := fun u => by simp [World.setCell]
  go_wp2_with fail
  go_region_law (refine step_append_own rfl (.tmp 12) (.tmp 14) 105 rfl 112 i0 (accV 0 0 0 0 0 (.slice none 0 0) 0 false) 8 80 Try.underlying105 hi hz0 hz1 hz2 rfl (by decide) (.slice pa l.length ca) l.length (accRow l) rfl ((HA.out _).alloc _) ⟨w2.heap.size, 0, none⟩ 1 1 [.int .i64 th, .int .u8 (kind : Int), .int .u64 (addr : Int), .int .u64 (x : Int), .int .u64 (y : Int), .slice p' vals.length c', .int .u64 (got : Int), .bool ok] rfl rfl (cells_new _ _ (hsz3 _) _ _) (by simp [Value.oneCell']) (by unfold maxLen; omega) (by omega) ?_; intro v' w3 hown3 hgr3 _ hwh3; obtain ⟨g', c3, rfl⟩ := slice_pos hown3 (Nat.succ_pos _); have hb3 := keepH (blk_note hb2.out ne1 hgr3 (fun e => block_apart H.out.acc H.out.blk (by decide) e.symm)); have r8 : w3.cell? ⟨b, 3, none⟩ = some (.slice pa l.length ca) := cell_of hb3.out 3; have rf := free_of hb3.out 3; have HO := keepH hown3; have HW3 := keepH hwh3; have HG3 := keepH hgr3; clear hown3 hwh3 hgr3)
  all_goals (go_wp2_with fail)
  all_goals go_end0
  all_goals (refine ⟨rfl, note_end H.out (Nat.le_refl _) hk2.out (((Chg.refl F W).alloc _).grown hgr (fun k e => by simp at e)) HROW.out (fun k e => ?_) hb3.out HG3.out HO.out ?_⟩)
  all_goals first
    | (rcases HWH.out with e2 | e2
       · rw [e2] at e; simp at e
       · rw [e2] at e; simp at e; omega)
    | (rcases HW3.out with e2 | e2
       · exact .inl e2.symm
       · simp [Value.ownBlock] at e2; exact .inr (by omega))
end Go.Proofs.Ytnhiodmigmmfgaa
