/- The bank of a plain memory: what lies where, and what its small calls do. -/
import Derived.Test.YtjodechhnobkhaaGreatDoorFr
namespace Go.Proofs.YtjodechhnobkhaaGreatDoor
open Go.RowKit

def u64V (x : Nat) : Value := .int .u64 (x : Int)
def cellN (cs : List Nat) (i : Nat) : Nat := cs.getD i 0

/-- An access as the trace has it. -/
structure Acc where
  th : Int
  kind : Nat
  addr : Nat
  a : Nat
  b : Nat
  vs : Value
  vals : List Nat
  got : Nat
  ok : Bool
def Acc.cells (x : Acc) : List Value := [.int .i64 x.th, .int .u8 (x.kind : Int), .int .u64 (x.addr : Int), .int .u64 (x.a : Int), .int .u64 (x.b : Int), x.vs, .int .u64 (x.got : Int), .bool x.ok]
def accRow (l : List Acc) : List Value := l.flatMap Acc.cells

def bankCells (cv av : Value) (most next : Nat) : Array Value := #[cv, .int .i64 (most : Int), .int .i64 (next : Int), av]

structure BankAt (W : World) (F : Nat → Prop) (b : Nat) (cv av : Value) (most next : Nat) (cs : List Nat) (l : List Acc) : Prop where
  blk : W.heap[b]? = some (.cells (bankCells cv av most next) 150 (0, 0))
  row : W.ownsRow 0 42 1 cv cs.length (cs.map u64V)
  acc : W.ownsRow 0 44 8 av l.length (accRow l)
  vals : ∀ x ∈ l, W.ownsRow 0 42 1 x.vs x.vals.length (x.vals.map u64V)
  ne : ∀ x ∈ l, ∀ k, x.vs.ownBlock = some k → cv.ownBlock ≠ some k
  inb : F b
  inc : ∀ k, cv.ownBlock = some k → F k
  ina : ∀ k, av.ownBlock = some k → F k
  inv : ∀ x ∈ l, ∀ k, x.vs.ownBlock = some k → F k
  lt : ∀ k, F k → k < W.heap.size
  most_le : most ≤ 4194304
  next_le : 1 ≤ next ∧ next ≤ most
  len_le : cs.length ≤ most
  small : ∀ c ∈ cs, c < 18446744073709551616

def Bank (W : World) (F : Nat → Prop) (b : Nat) (most next : Nat) (cs : List Nat) (l : List Acc) : Prop := ∃ cv av, BankAt W F b cv av most next cs l

/-- What a bank's blocks hold is all that it is. -/
theorem BankAt.kept {W W' : World} {F : Nat → Prop} {b most next : Nat} {cv av : Value} {cs : List Nat} {l : List Acc} (h : BankAt W F b cv av most next cs l) (hs : W.heap.size ≤ W'.heap.size) (hk : ∀ k, F k → W'.heap[k]? = W.heap[k]?) : BankAt W' F b cv av most next cs l :=
  ⟨(hk b h.inb).trans h.blk, row_kept h.row fun k e => hk k (h.inc k e), row_kept h.acc fun k e => hk k (h.ina k e), fun x hx => row_kept (h.vals x hx) fun k e => hk k (h.inv x hx k e), h.ne, h.inb, h.inc, h.ina, h.inv,
    fun k e => Nat.lt_of_lt_of_le (h.lt k e) hs, h.most_le, h.next_le, h.len_le, h.small⟩
theorem Bank.kept {W W' : World} {F : Nat → Prop} {b most next : Nat} {cs : List Nat} {l : List Acc} (h : Bank W F b most next cs l) (hs : W.heap.size ≤ W'.heap.size) (hk : ∀ k, F k → W'.heap[k]? = W.heap[k]?) : Bank W' F b most next cs l :=
  let ⟨cv, av, h⟩ := h; ⟨cv, av, h.kept hs hk⟩
theorem Bank.chg {W W' : World} {F G : Nat → Prop} {b most next : Nat} {cs : List Nat} {l : List Acc} (h : Bank W F b most next cs l) (hc : Chg G W W') (hd : ∀ k, F k → ¬ G k) : Bank W' F b most next cs l :=
  let ⟨_, _, h0⟩ := h; h.kept hc.size fun k e => hc.block k (h0.lt k e) (hd k e)

theorem u64_lt {x : Nat} (h : x < 18446744073709551616) : IntKind.u64.wrap (x : Int) = (x : Int) := by rw [IntKind.wrap_u64]; omega
theorem i64_lt {x : Nat} (h : x < 9223372036854775808) : IntKind.i64.wrap (x : Int) = (x : Int) := by rw [IntKind.wrap_i64]; omega
theorem slice_of {W : World} {e : TypeId} {s n : Nat} {v : Value} {xs : List Value} (h : W.ownsRow 0 e s v n xs) : ∃ p c, v = .slice p n c := by
  rcases h.2 with ⟨rfl, rfl⟩ | ⟨g, cap, cur, rfl, _⟩
  · exact ⟨_, _, rfl⟩
  · exact ⟨_, _, rfl⟩
theorem slice_pos {W : World} {e : TypeId} {s n : Nat} {v : Value} {xs : List Value} (h : W.ownsRow 0 e s v n xs) (hn : 0 < n) : ∃ g c, v = .slice (some ⟨g, 0, none⟩) n c := by
  rcases h.2 with ⟨rfl, rfl⟩ | ⟨g, cap, cur, rfl, _⟩
  · omega
  · exact ⟨g, cap, rfl⟩
theorem cell_u64 {W : World} {g n c : Nat} {cs : List Nat} (h : W.ownsRow 0 42 1 (.slice (some ⟨g, 0, none⟩) n c) n (cs.map u64V)) (i : Nat) (hi : i < n) : W.cell? ⟨g, i, none⟩ = some (.int .u64 (cellN cs i : Int)) := by
  have hl : cs.length = n := by have := h.1; simpa using this
  rw [World.ownsRow.cellAt h i (by omega)]
  simp [u64V, cellN, List.getElem?_eq_getElem (show i < cs.length by omega)]

set_option maxRecDepth 100000 in
theorem p_load (b most next addr : Nat) (F : Nat → Prop) (cs : List Nat) (l : List Acc) (W : World) (h : Bank W F b most next cs l) (ha : addr < 18446744073709551616) :
    Calls Tryz.prog 142 #[.pointer (some ⟨b, 0, none⟩), .int .u64 (addr : Int)] W fun e W' => e = .returned (.int .u64 (cellN cs addr : Int)) ∧ W' = W := by
  obtain ⟨cv, av, h⟩ := h
  have c0 : W.cell? ⟨b, 0, none⟩ = some cv := cell_of h.blk 0
  have hml := h.most_le
  have hll := h.len_le
  have wl := u64_lt (show cs.length < 18446744073709551616 by omega)
  by_cases h1 : cs.length ≤ addr
  · have ti : (cs.length : Int) ≤ (addr : Int) := by omega
    have e0 : cellN cs addr = 0 := by simp [cellN, List.getElem?_eq_none h1]
    obtain ⟨p, c, rfl⟩ := slice_of h.row
    clear h
    go_enter Tryz.func142, Tryz.ntmps142
    go_wp2_with fail
    go_ret
    exact ⟨by simp [e0], rfl⟩
  · have ti : ¬ (cs.length : Int) ≤ (addr : Int) := by omega
    obtain ⟨g, c, rfl⟩ := slice_pos h.row (by omega)
    have cA := cell_u64 h.row addr (by omega)
    clear h
    go_enter Tryz.func142, Tryz.ntmps142
    go_wp2_with fail
    go_ret
    exact ⟨by simp, rfl⟩
end Go.Proofs.YtjodechhnobkhaaGreatDoor
