/- Vcas's procs on a memory: a Cas that is done, a Read of it. -/
import Derived.Test.YtadbgmcfjemkeaaVs
namespace Go.Proofs.Ytadbgmcfjemkeaa
open Go.RowKit Go.Shelf
set_option linter.unusedVariables false

def own2 (D : Nat → Prop) (p : Nat) (q : Option Nat) : Nat → Prop := fun k => D k ∨ (k = p ∨ q = some k)
/-- The memory's state, a proc p, its clock q; all else in D. -/
structure CS (W : World) (m b v most : Nat) (w : World) (next made : Nat) (cs : List Nat) (n : Nat) (D : Nat → Prop) (p : Nat) (t : TypeId) (l : List Value) (q : Option Nat) (cam pos st : Nat) : Prop where
  sr : SR W m b v 0 most w next made cs n (own2 D p q)
  np : ¬ D p
  nq : ∀ k, q = some k → ¬ D k ∧ k ≠ p ∧ IsNow w k cam pos st
  blk : Blk w p t l
theorem CS.dp {D : Nat → Prop} {p : Nat} {q : Option Nat} : own2 D p q p := .inr (.inl rfl)
theorem CS.fin {W : World} {m b v most : Nat} {w : World} {next made : Nat} {cs : List Nat} {n : Nat} {D : Nat → Prop} {p : Nat} {t : TypeId} {l l' : List Value} {q : Option Nat} {cam pos st : Nat} (h : CS W m b v most w next made cs n D p t l q cam pos st) {x w' : World} {next' made' n' : Nat} {cs' : List Nat} (S : SR W m b v 0 most x next' made' cs' n' (own2 D p q)) (K : ∀ k, own2 D p q k → k ≠ p → x.heap[k]? = w.heap[k]?) (c : Chg (fun k => k = p) x w') (B : Blk w' p t l') :
    CS W m b v most w' next' made' cs' n' D p t l' q cam pos st ∧ ∀ k, D k → w'.heap[k]? = w.heap[k]? := by
  have kk : ∀ k, own2 D p q k → k ≠ p → w'.heap[k]? = w.heap[k]? := fun k e ne => (c.block k (S.lt k e) (fun z => ne z)).trans (K k e ne)
  exact ⟨⟨S.put c (fun k e => .inr (.inl e)), h.np, fun k e => ⟨(h.nq k e).1, (h.nq k e).2.1, (kk k (.inr (.inr e)) (h.nq k e).2.1).trans (h.nq k e).2.2⟩, B⟩, fun k e => kk k (.inl e) (fun z => h.np (z ▸ e))⟩

def c0L (cam obj now : Nat) : List Value := fndL cam 0 0 (.pointer none) obj 0 0 (rest0 0 now)
def c1L (cam obj now : Nat) : List Value := fndL cam 0 0 (.pointer none) obj 2 0 [.int .u8 2, .int .u64 0, .int .u64 0, .int .u64 (now : Int), .int .u8 1, .int .u64 0, .bool false, .int .i64 0]
def c2L (cam obj now c : Nat) : List Value := fndL cam 0 0 (.pointer none) obj 2 0 [.int .u8 2, .int .u64 0, .int .u64 0, .int .u64 (now : Int), .int .u8 2, .int .u64 (c : Int), .bool false, .int .i64 0]
def c3L (cam obj now c : Nat) (pos : Nat) (clk : Value) (nx : Nat) (sw : Bool) : List Value := fndL cam c pos clk obj 2 0 [.int .u8 2, .int .u64 0, .int .u64 0, .int .u64 (now : Int), .int .u8 (nx : Int), .int .u64 (c : Int), .bool sw, .int .i64 0]

set_option maxHeartbeats 1000000 in
theorem cs_s1 {W : World} {m b v most : Nat} {w : World} {next made : Nat} {cs : List Nat} {n : Nat} {D : Nat → Prop} {p : Nat} {cam obj now st : Nat} (h : CS W m b v most w next made cs n D p 95 (c0L cam obj now) none cam 0 st) (hc : cellN cs obj = 0) (ho : obj < 18446744073709551616) (hn : now ≠ 0) (h1 : made < 1099511627776) (h2 : n < 1099511627776) :
    Calls Try.prog 81 #[.pointer (some ⟨p, 0, none⟩), .pointer (some ⟨v, 0, none⟩)] w fun e w' => e = .returned (.bool false) ∧ CS W m b v most w' next (made + 1) cs (n + 1) D p 95 (c1L cam obj now) none cam 0 st ∧ ∀ k, D k → w'.heap[k]? = w.heap[k]? := by
  have hL := h.sr.load obj ho h1 h2
  rw [hc] at hL
  have hF := find_load (c := 0) h.blk (.pointer (some ⟨v, 0, none⟩)) _ hL (fun x hx => (hx.2 p CS.dp).trans h.blk)
  have hR := read_find0 h.blk rfl (.pointer (some ⟨v, 0, none⟩)) _ hF (fun y hy => by
    obtain ⟨x, hx, B, C⟩ := hy
    exact ⟨_, B, rfl, rfl⟩)
  refine (cas_readT (x := 0) (now := now) (l2 := fndL cam 0 0 (.pointer none) obj 2 0 [.int .u8 2, .int .u64 0, .int .u64 0, .int .u64 (now : Int), .int .u8 0, .int .u64 0, .bool false, .int .i64 0]) h.blk rfl (.pointer (some ⟨v, 0, none⟩)) _ (Ne.symm hn) hR (fun z hz => by
    obtain ⟨y, ⟨x, hx, B, C⟩, rfl⟩ := hz
    exact (B.set 7 (.int .u8 1)).set 7 (.int .u8 2)) rfl rfl rfl rfl).mono ?_
  rintro e w' ⟨rfl, z, ⟨y, ⟨x, hx, B, C⟩, rfl⟩, C2, B2⟩
  exact ⟨rfl, h.fin hx.1 (fun k e _ => hx.2 k e) (((C.trans (setP _) (fun _ _ x => x) (fun _ _ x => x)).trans (setP _) (fun _ _ x => x) (fun _ _ x => x)).trans C2 (fun _ _ x => x) (fun _ _ x => x)) B2⟩

theorem drewE (w : World) : Chg (fun _ => False) w w.drew := (Chg.refl _ w).drew
set_option maxHeartbeats 1000000 in
theorem cs_s2 {W : World} {m b v most : Nat} {w : World} {next made : Nat} {cs : List Nat} {n : Nat} {D : Nat → Prop} {p : Nat} {cam obj now st c : Nat} (h : CS W m b v most w next made cs n D p 95 (c1L cam obj now) none cam 0 st) (hc : alAt most next 3 = c) (hc0 : c ≠ 0) (hn : now < 18446744073709551616) (h1 : made < 1099511627776) (h2 : n < 1099511627776) :
    Calls Try.prog 81 #[.pointer (some ⟨p, 0, none⟩), .pointer (some ⟨v, 0, none⟩)] w fun e w' => e = .returned (.bool false) ∧ CS W m b v most w' (alNext most next 3) (made + 1) (alN most next cs [now, 0, 0]) (n + 1) D p 95 (c2L cam obj now c) none cam 0 st ∧ ∀ k, D k → w'.heap[k]? = w.heap[k]? := by
  have S1 := (h.sr.put (setP (p := p) (i := 11) (.int .u8 2)) (fun k e => .inr (.inl e))).put (drewE _) (fun k e => e.elim)
  have kk : ∀ k, k ≠ p → ((w.setCell ⟨p, 11, none⟩ (.int .u8 2)).drew).heap[k]? = w.heap[k]? := fun k ne => Below.heap_setCell _ _ _ _ ne
  have hz : ((w.setCell ⟨p, 11, none⟩ (.int .u8 2)).drew).heap.size = w.heap.size := by simp [World.setCell, World.drew]
  have hA := S1.aloc [now, 0, 0] w.heap.size 3 hz (by simp; exact hn) (by simp) h1 h2
  have hG := grow_any (c := c) (head := 0) (now := now) h.blk rfl rfl ⟨_, rfl⟩ ⟨_, rfl⟩ ⟨_, rfl⟩ (.pointer (some ⟨v, 0, none⟩)) _ (fun W1 hW1 => by subst hW1; rw [← hc]; exact hA) (fun x hx => by
    rw [Blk, hx.2 p CS.dp]
    exact h.blk.set 11 _)
  refine (cas_growT h.blk rfl (.pointer (some ⟨v, 0, none⟩)) _ 2 (by decide) hG (fun x hx => by
    obtain ⟨y, hy, C, B⟩ := hx
    rw [if_neg hc0] at B
    exact ⟨_, B, rfl⟩)).mono ?_
  rintro e w' ⟨rfl, y, hy, C, B⟩
  rw [if_neg hc0] at B
  exact ⟨rfl, h.fin hy.1 (fun k e ne => (hy.2 k e).trans (kk k ne)) C B⟩

set_option maxHeartbeats 1000000 in
theorem cs_s3 {W : World} {m b v most : Nat} {w : World} {next made : Nat} {cs : List Nat} {n : Nat} {D : Nat → Prop} {p : Nat} {cam obj now st c : Nat} (h : CS W m b v most w next made cs n D p 95 (c2L cam obj now c) none cam 0 st) (hk : casOk most cs obj 0 = true) (ho : obj < 18446744073709551616) (hc : c < 18446744073709551616) (h1 : made < 1099511627776) (h2 : n < 1099511627776) :
    Calls Try.prog 81 #[.pointer (some ⟨p, 0, none⟩), .pointer (some ⟨v, 0, none⟩)] w fun e w' => e = .returned (.bool false) ∧ CS W m b v most w' next (made + 1) (casN most cs obj 0 c) (n + 1) D p 95 (c3L cam obj now c 0 (.pointer none) 4 false) none cam 0 st ∧ ∀ k, D k → w'.heap[k]? = w.heap[k]? := by
  have S1 := h.sr.put (drewE w) (fun k e => e.elim)
  have hC := S1.cas obj 0 c ho hc h1 h2
  rw [hk] at hC
  have hS := swap_ok (made := c) h.blk rfl ⟨_, rfl⟩ (.pointer (some ⟨v, 0, none⟩)) _ hC (fun x hx => (hx.2 p CS.dp).trans h.blk)
  refine (cas_swapT h.blk rfl (.pointer (some ⟨v, 0, none⟩)) _ 4 (by decide) hS (fun x hx => by
    obtain ⟨y, hy, C, B⟩ := hx
    exact ⟨_, B, rfl⟩)).mono ?_
  rintro e w' ⟨rfl, y, hy, C, B⟩
  exact ⟨rfl, h.fin hy.1 (fun k e ne => hy.2 k e) C B⟩

set_option maxHeartbeats 1000000 in
theorem cs_s4 {W : World} {m b v most : Nat} {w : World} {next made : Nat} {cs : List Nat} {n : Nat} {D : Nat → Prop} {p : Nat} {cam obj now st c a : Nat} {sw : Bool} (h : CS W m b v most w next made cs n D p 95 (c3L cam obj now c 0 (.pointer none) 4 sw) none cam 0 st) (ha : a = (c + 1) % 18446744073709551616) (hc : cellN cs a = 0) (h1 : made < 1099511627776) (h2 : n < 1099511627776) :
    Calls Try.prog 81 #[.pointer (some ⟨p, 0, none⟩), .pointer (some ⟨v, 0, none⟩)] w fun e w' => e = .returned (.bool false) ∧ (∃ q, CS W m b v most w' next (made + 1) cs (n + 1) D p 95 (c3L cam obj now c 1 (.pointer (some ⟨q, 0, none⟩)) 4 true) (some q) cam 0 0) ∧ ∀ k, D k → w'.heap[k]? = w.heap[k]? := by
  have B1 := h.blk.set 13 (.bool true)
  have S1 := h.sr.put (setP (p := p) (i := 13) (.bool true)) (fun k e => .inr (.inl e))
  have S2 := S1.put (setP (p := p) (i := 2) (.int .u8 3)) (fun k e => .inr (.inl e))
  have kk : ∀ k, k ≠ p → ((w.setCell ⟨p, 13, none⟩ (.bool true)).setCell ⟨p, 2, none⟩ (.int .u8 3)).heap[k]? = w.heap[k]? := fun k ne => (Below.heap_setCell _ _ _ _ ne).trans (Below.heap_setCell _ _ _ _ ne)
  have hL := S2.load a (by omega) h1 h2
  rw [hc] at hL
  have B2 := B1.set 2 (.int .u8 3)
  have hT := tell_load0 (cam := cam) (ver := c) (clk := .pointer none) (rest := _) B1 ⟨_, rfl⟩ (.pointer (some ⟨v, 0, none⟩)) a ha (fun x => SR W m b v 0 most x next (made + 1) cs (n + 1) (own2 D p none) ∧ ∀ k, own2 D p none k → x.heap[k]? = ((w.setCell ⟨p, 13, none⟩ (.bool true)).setCell ⟨p, 2, none⟩ (.int .u8 3)).heap[k]?) (fun W1 hW1 => by subst hW1; exact hL) (fun x hx => (hx.2 p CS.dp).trans B2)
  refine (cas_ownF h.blk rfl ⟨_, rfl⟩ (.pointer (some ⟨v, 0, none⟩)) _ (fun W1 hW1 => by subst hW1; exact hT) (fun x hx => by
    obtain ⟨y, hy, rfl⟩ := hx
    have B3 : Blk y p 95 _ := (hy.2 p CS.dp).trans B2
    have B4 : Blk (y.alloc (nowO cam)) p 95 _ := alloc_of B3 _
    exact ⟨_, (B4.set 3 _).set 2 _, rfl⟩)).mono ?_
  rintro e w' ⟨rfl, y, hy, rfl⟩
  have B3 : Blk y p 95 _ := (hy.2 p CS.dp).trans B2
  have B4 : Blk (y.alloc (nowO cam)) p 95 _ := alloc_of B3 _
  have hpy := hy.1.lt p CS.dp
  have N : IsNow (y.alloc (nowO cam)) y.heap.size cam 0 0 := heap_alloc_new _ _
  have C4 : Chg (fun k => k = p) (y.alloc (nowO cam)) (((y.alloc (nowO cam)).setCell ⟨p, 3, none⟩ (.pointer (some ⟨y.heap.size, 0, none⟩))).setCell ⟨p, 2, none⟩ (.int .u8 1)) := (setP _).trans (setP _) (fun _ _ x => x) (fun _ _ x => x)
  refine ⟨rfl, ⟨y.heap.size, ⟨?_, h.np, fun k e => ?_, (B4.set 3 _).set 2 _⟩⟩, fun k e => ?_⟩
  · refine ((hy.1.alloc (nowO cam)).mono (fun k e => ?_)).put C4 (fun k e => .inr (.inl e))
    rcases e with e | e | e
    · exact .inl (.inl e)
    · exact .inl (.inr (.inl e))
    · exact .inr (by simpa using e.symm)
  · simp only [Option.some.injEq] at e
    subst e
    exact ⟨fun z => Nat.lt_irrefl _ (hy.1.lt _ (.inl z)), by omega, (C4.block _ (by simp) (fun z => by omega)).trans N⟩
  · have ne : k ≠ p := fun z => h.np (z ▸ e)
    have kl := hy.1.lt k (.inl e)
    exact (C4.block k (by simp; omega) ne).trans ((Below.heap_alloc _ _ _ kl).trans ((hy.2 k (.inl e)).trans (kk k ne)))

set_option maxHeartbeats 1000000 in
theorem cs_s5 {W : World} {m b v most : Nat} {w : World} {next made : Nat} {cs : List Nat} {n : Nat} {D : Nat → Prop} {p : Nat} {cam obj now c q : Nat} {sw : Bool} (h : CS W m b v most w next made cs n D p 95 (c3L cam obj now c 1 (.pointer (some ⟨q, 0, none⟩)) 4 sw) (some q) cam 0 0) (ha : cam < 18446744073709551616) (h1 : made < 1099511627776) (h2 : n < 1099511627776) :
    Calls Try.prog 81 #[.pointer (some ⟨p, 0, none⟩), .pointer (some ⟨v, 0, none⟩)] w fun e w' => e = .returned (.bool false) ∧ CS W m b v most w' next (made + 1) cs (n + 1) D p 95 (c3L cam obj now c 2 (.pointer (some ⟨q, 0, none⟩)) 4 true) (some q) cam 2 (cellN cs cam) ∧ ∀ k, D k → w'.heap[k]? = w.heap[k]? := by
  have B1 := h.blk.set 13 (.bool true)
  have S1 := h.sr.put (setP (p := p) (i := 13) (.bool true)) (fun k e => .inr (.inl e))
  have kk : ∀ k, k ≠ p → (w.setCell ⟨p, 13, none⟩ (.bool true)).heap[k]? = w.heap[k]? := fun k ne => Below.heap_setCell _ _ _ _ ne
  obtain ⟨nd, nqp, hN⟩ := h.nq q rfl
  have N1 : IsNow (w.setCell ⟨p, 13, none⟩ (.bool true)) q cam 0 0 := (kk q nqp).trans hN
  have hS := S1.now q cam 0 N1 (.inr (.inr rfl)) ha h1 h2
  have hT := tell_now (cam := cam) (ver := c) (rest := _) B1 (.pointer (some ⟨v, 0, none⟩)) _ hS (fun x hx => (hx.2.2 p CS.dp (Ne.symm nqp)).trans B1)
  refine (cas_ownF h.blk rfl ⟨_, rfl⟩ (.pointer (some ⟨v, 0, none⟩)) _ (fun W1 hW1 => by subst hW1; exact hT) (fun x hx => by
    obtain ⟨y, hy, rfl⟩ := hx
    have B3 : Blk y p 95 _ := (hy.2.2 p CS.dp (Ne.symm nqp)).trans B1
    exact ⟨_, B3.set 2 _, rfl⟩)).mono ?_
  rintro e w' ⟨rfl, y, hy, rfl⟩
  have B3 : Blk y p 95 _ := (hy.2.2 p CS.dp (Ne.symm nqp)).trans B1
  refine ⟨rfl, ⟨hy.2.1.put (setP _) (fun k e => .inr (.inl e)), h.np, fun k e => ?_, B3.set 2 _⟩, fun k e => ?_⟩
  · simp only [Option.some.injEq] at e
    subst e
    exact ⟨nd, nqp, (Below.heap_setCell _ _ _ _ nqp).trans hy.1⟩
  · have ne : k ≠ p := fun z => h.np (z ▸ e)
    have nq : k ≠ q := fun z => nd (z ▸ e)
    exact (Below.heap_setCell _ _ _ _ ne).trans ((hy.2.2 k (.inl e) nq).trans (kk k ne))

set_option maxHeartbeats 1000000 in
theorem cs_s6 {W : World} {m b v most : Nat} {w : World} {next made : Nat} {cs : List Nat} {n : Nat} {D : Nat → Prop} {p : Nat} {cam obj now c q st a : Nat} {sw : Bool} (h : CS W m b v most w next made cs n D p 95 (c3L cam obj now c 2 (.pointer (some ⟨q, 0, none⟩)) 4 sw) (some q) cam 2 st) (ha : a = (c + 1) % 18446744073709551616) (hst : st < 18446744073709551616) (h1 : made < 1099511627776) (h2 : n < 1099511627776) :
    Calls Try.prog 81 #[.pointer (some ⟨p, 0, none⟩), .pointer (some ⟨v, 0, none⟩)] w fun e w' => e = .returned (.bool true) ∧ CS W m b v most w' next (made + 1) (casN most cs a 0 st) (n + 1) D p 95 (c3L cam obj now c 3 (.pointer (some ⟨q, 0, none⟩)) 6 true) (some q) cam 2 st ∧ ∀ k, D k → w'.heap[k]? = w.heap[k]? := by
  have B1 := h.blk.set 13 (.bool true)
  have S1 := (h.sr.put (setP (p := p) (i := 13) (.bool true)) (fun k e => .inr (.inl e))).put (drewE _) (fun k e => e.elim)
  have kk : ∀ k, k ≠ p → (w.setCell ⟨p, 13, none⟩ (.bool true)).drew.heap[k]? = w.heap[k]? := fun k ne => Below.heap_setCell _ _ _ _ ne
  obtain ⟨nd, nqp, hN⟩ := h.nq q rfl
  have N1 : IsNow (w.setCell ⟨p, 13, none⟩ (.bool true)) q cam 2 st := (kk q nqp).trans hN
  have hC := (S1.cas a 0 st (by omega) hst h1 h2).mono (R' := fun e x => (∃ bb, e = .returned (.bool bb)) ∧ SR W m b v 0 most x next (made + 1) (casN most cs a 0 st) (n + 1) (own2 D p (some q)) ∧ ∀ k, own2 D p (some q) k → x.heap[k]? = (w.setCell ⟨p, 13, none⟩ (.bool true)).drew.heap[k]?) (by
    rintro e x ⟨rfl, hx⟩
    exact ⟨⟨_, rfl⟩, hx⟩)
  have hT := tell_cas (cam := cam) (ver := c) (st := st) (rest := _) B1 N1 (.pointer (some ⟨v, 0, none⟩)) a ha _ hC (fun x hx => (hx.2 p CS.dp).trans B1)
  refine (cas_ownT h.blk rfl ⟨_, rfl⟩ (.pointer (some ⟨v, 0, none⟩)) _ (fun W1 hW1 => by subst hW1; exact hT) (fun x hx => by
    obtain ⟨y, hy, rfl⟩ := hx
    have B3 : Blk y p 95 _ := (hy.2 p CS.dp).trans B1
    exact ⟨_, B3.set 2 _, rfl⟩)).mono ?_
  rintro e w' ⟨rfl, z, ⟨y, hy, rfl⟩, rfl⟩
  have B3 : Blk y p 95 _ := (hy.2 p CS.dp).trans B1
  exact ⟨rfl, h.fin hy.1 (fun k e ne => (hy.2 k e).trans (kk k ne)) ((setP _).trans (setP _) (fun _ _ x => x) (fun _ _ x => x)) ((B3.set 2 _).set 11 _)⟩

def r0L (cam obj : Nat) : List Value := fndL cam 0 0 (.pointer none) obj 0 0 [.int .u8 0, .int .u64 0]
def r1L (cam obj c : Nat) : List Value := fndL cam c 0 (.pointer none) obj 1 c [.int .u8 0, .int .u64 0]
def r2L (cam obj c : Nat) : List Value := fndL cam c 3 (.pointer none) obj 2 c [.int .u8 1, .int .u64 0]
def r3L (cam obj c x : Nat) : List Value := fndL cam c 3 (.pointer none) obj 2 c [.int .u8 2, .int .u64 (x : Int)]
set_option maxHeartbeats 1000000 in
theorem rd_s1 {W : World} {m b v most : Nat} {w : World} {next made : Nat} {cs : List Nat} {n : Nat} {D : Nat → Prop} {p : Nat} {cam obj st c : Nat} (h : CS W m b v most w next made cs n D p 107 (r0L cam obj) none cam 0 st) (hc : cellN cs obj = c) (hc0 : c ≠ 0) (ho : obj < 18446744073709551616) (h1 : made < 1099511627776) (h2 : n < 1099511627776) :
    Calls Try.prog 72 #[.pointer (some ⟨p, 0, none⟩), .pointer (some ⟨v, 0, none⟩)] w fun e w' => e = .returned (.bool false) ∧ CS W m b v most w' next (made + 1) cs (n + 1) D p 107 (r1L cam obj c) none cam 0 st ∧ ∀ k, D k → w'.heap[k]? = w.heap[k]? := by
  have hL := h.sr.load obj ho h1 h2
  rw [hc] at hL
  have hF := find_load (c := c) h.blk (.pointer (some ⟨v, 0, none⟩)) _ hL (fun x hx => (hx.2 p CS.dp).trans h.blk)
  rw [show decide (c = 0) = false from decide_eq_false hc0, show fpN c = 1 from if_neg hc0] at hF
  have hR := read_findF h.blk rfl (.pointer (some ⟨v, 0, none⟩)) _ hF (fun y hy => by
    obtain ⟨x, hx, B, C⟩ := hy
    exact ⟨_, B, rfl⟩)
  refine (readstep_any (.pointer (some ⟨v, 0, none⟩)) false _ hR).mono ?_
  rintro e w' ⟨rfl, x, hx, B, C⟩
  exact ⟨rfl, h.fin hx.1 (fun k e _ => hx.2 k e) C B⟩
set_option maxHeartbeats 1000000 in
theorem rd_s2 {W : World} {m b v most : Nat} {w : World} {next made : Nat} {cs : List Nat} {n : Nat} {D : Nat → Prop} {p : Nat} {cam obj st c a s : Nat} (h : CS W m b v most w next made cs n D p 107 (r1L cam obj c) none cam 0 st) (ha : a = (c + 1) % 18446744073709551616) (hs : cellN cs a = s) (hs0 : s ≠ 0) (hc0 : c ≠ 0) (h1 : made < 1099511627776) (h2 : n < 1099511627776) :
    Calls Try.prog 72 #[.pointer (some ⟨p, 0, none⟩), .pointer (some ⟨v, 0, none⟩)] w fun e w' => e = .returned (.bool false) ∧ CS W m b v most w' next (made + 1) cs (n + 1) D p 107 (r2L cam obj c) none cam 0 st ∧ ∀ k, D k → w'.heap[k]? = w.heap[k]? := by
  have S2 := h.sr.put (setP (p := p) (i := 2) (.int .u8 3)) (fun k e => .inr (.inl e))
  have kk : ∀ k, k ≠ p → (w.setCell ⟨p, 2, none⟩ (.int .u8 3)).heap[k]? = w.heap[k]? := fun k ne => Below.heap_setCell _ _ _ _ ne
  have B2 := h.blk.set 2 (.int .u8 3)
  have hL := S2.load a (by omega) h1 h2
  rw [hs] at hL
  have hT := tell_load1 (cam := cam) (ver := c) (c := s) (clk := .pointer none) (rest := _) h.blk (.pointer (some ⟨v, 0, none⟩)) a ha hs0 (fun x => SR W m b v 0 most x next (made + 1) cs (n + 1) (own2 D p none) ∧ ∀ k, own2 D p none k → x.heap[k]? = (w.setCell ⟨p, 2, none⟩ (.int .u8 3)).heap[k]?) (fun W1 hW1 => by subst hW1; exact hL) (fun x hx => (hx.2 p CS.dp).trans B2)
  have hF := find_tellT h.blk rfl (.pointer (some ⟨v, 0, none⟩)) _ hT (fun x hx => ⟨_, (hx.2 p CS.dp).trans B2, rfl⟩)
  have hR := read_findT (head := c) h.blk rfl (.pointer (some ⟨v, 0, none⟩)) _ hc0 hF (fun y hy => by
    obtain ⟨x, hx, rfl⟩ := hy
    have B3 : Blk x p 107 _ := (hx.2 p CS.dp).trans B2
    exact ⟨_, B3.set 5 _, rfl, rfl⟩)
  refine (readstep_any (.pointer (some ⟨v, 0, none⟩)) false _ hR).mono ?_
  rintro e w' ⟨rfl, z, ⟨x, hx, rfl⟩, rfl⟩
  have B3 : Blk x p 107 _ := (hx.2 p CS.dp).trans B2
  exact ⟨rfl, h.fin hx.1 (fun k e ne => (hx.2 k e).trans (kk k ne)) ((setP _).trans (setP _) (fun _ _ x => x) (fun _ _ x => x)) ((B3.set 5 _).set 7 _)⟩
set_option maxHeartbeats 1000000 in
theorem rd_s3 {W : World} {m b v most : Nat} {w : World} {next made : Nat} {cs : List Nat} {n : Nat} {D : Nat → Prop} {p : Nat} {cam obj st c x : Nat} (h : CS W m b v most w next made cs n D p 107 (r2L cam obj c) none cam 0 st) (hx0 : cellN cs c = x) (hc : c < 18446744073709551616) (h1 : made < 1099511627776) (h2 : n < 1099511627776) :
    Calls Try.prog 72 #[.pointer (some ⟨p, 0, none⟩), .pointer (some ⟨v, 0, none⟩)] w fun e w' => e = .returned (.bool true) ∧ CS W m b v most w' next (made + 1) cs (n + 1) D p 107 (r3L cam obj c x) none cam 0 st ∧ ∀ k, D k → w'.heap[k]? = w.heap[k]? := by
  have hL := h.sr.load c hc h1 h2
  rw [hx0] at hL
  have hR := read_load (head := c) (c := x) h.blk rfl rfl (.pointer (some ⟨v, 0, none⟩)) _ hL (fun y hy => ⟨_, (hy.2 p CS.dp).trans h.blk, rfl, _, rfl⟩)
  refine (readstep_any (.pointer (some ⟨v, 0, none⟩)) true _ hR).mono ?_
  rintro e w' ⟨rfl, y, hy, rfl⟩
  have B3 : Blk y p 107 _ := (hy.2 p CS.dp).trans h.blk
  exact ⟨rfl, h.fin hy.1 (fun k e _ => hy.2 k e) ((setP _).trans (setP _) (fun _ _ x => x) (fun _ _ x => x)) ((B3.set 8 _).set 7 _)⟩
end Go.Proofs.Ytadbgmcfjemkeaa
