/- A memory with its bare trace; a Cut on it. -/
import Derived.Test.YtbjebnkfecjpnaaKfG
import Derived.Test.YtbjebnkfecjpnaaKs
import Derived.Test.YtbjebnkfecjpnaaGa
namespace Go.Proofs.Ytbjebnkfecjpnaa
open Go.RowKit Go.Shelf
set_option linter.unusedVariables false

/-- The memory's state, its trace without the values' places, with blocks D that lie apart from it. -/
def SB (W : World) (m b v : Nat) (th : Int) (most : Nat) (w : World) (next made : Nat) (cs : List Nat) (t : List Acc) (D : Nat → Prop) : Prop := ∃ F l, St W w m b v F th most next made cs l ∧ l.map Acc.bare = t ∧ ∀ k, D k → ¬ F k ∧ k ≠ v ∧ k ≠ m ∧ W.heap.size ≤ k ∧ k < w.heap.size
section
variable {W : World} {m b v : Nat} {th : Int} {most : Nat} {w : World} {next made : Nat} {cs : List Nat} {t : List Acc} {D : Nat → Prop}
theorem SB.mono {E : Nat → Prop} (h : SB W m b v th most w next made cs t D) (hE : ∀ k, E k → D k) : SB W m b v th most w next made cs t E := by
  obtain ⟨F, l, S, L, A⟩ := h
  exact ⟨F, l, S, L, fun k e => A k (hE k e)⟩
theorem SB.put {w' : World} {G : Nat → Prop} (h : SB W m b v th most w next made cs t D) (c : Chg G w w') (hG : ∀ k, G k → D k) : SB W m b v th most w' next made cs t D := by
  obtain ⟨F, l, S, L, A⟩ := h
  exact ⟨F, l, S.chgG c (fun k hk e => (A k (hG k e)).1 hk) (fun e => (A _ (hG _ e)).2.1 rfl) (fun e => (A _ (hG _ e)).2.2.1 rfl) (fun k hk e => by have := (A k (hG k e)).2.2.2.1; omega), L, fun k e => ⟨(A k e).1, (A k e).2.1, (A k e).2.2.1, (A k e).2.2.2.1, Nat.lt_of_lt_of_le (A k e).2.2.2.2 c.size⟩⟩
theorem SB.quiet {w' : World} (h : SB W m b v th most w next made cs t D) (c : Chg (fun _ => False) w w') : SB W m b v th most w' next made cs t D := h.put c (fun _ e => e.elim)
theorem SB.grow {w' : World} {E : Nat → Prop} (h : SB W m b v th most w next made cs t D) (c : Chg D w w') (hE : ∀ k, E k → D k ∨ w.heap.size ≤ k) (hl : ∀ k, E k → k < w'.heap.size) : SB W m b v th most w' next made cs t E := by
  obtain ⟨F, l, S, L, A⟩ := h
  have z1 := S.view.lt
  have z2 := S.mem.lt
  have z3 := S.chg.size
  refine ⟨F, l, S.chgG c (fun k hk e => (A k e).1 hk) (fun e => (A _ e).2.1 rfl) (fun e => (A _ e).2.2.1 rfl) (fun k hk e => by have := (A k e).2.2.2.1; omega), L, fun k e => ?_⟩
  rcases hE k e with e1 | e1
  · exact ⟨(A k e1).1, (A k e1).2.1, (A k e1).2.2.1, (A k e1).2.2.2.1, hl k e⟩
  · exact ⟨fun x => by have := S.bank.lt' _ x; omega, by omega, by omega, by omega, hl k e⟩
theorem SB.lt (h : SB W m b v th most w next made cs t D) (k : Nat) (hk : D k) : k < w.heap.size := by
  obtain ⟨F, l, S, L, A⟩ := h
  exact (A k hk).2.2.2.2
theorem SB.chg (h : SB W m b v th most w next made cs t D) : Chg (fun _ => False) W w := by
  obtain ⟨F, l, S, L, A⟩ := h
  exact S.chg
theorem SB.mem (h : SB W m b v th most w next made cs t D) : ∃ F l, IsMem w m b ∧ Bank w F b most next cs l ∧ l.map Acc.bare = t ∧ (∀ k, D k → ¬ F k) ∧ most ≤ 4194304 := by
  obtain ⟨F, l, S, L, A⟩ := h
  obtain ⟨cv, av, B⟩ := S.bank
  exact ⟨F, l, S.mem, S.bank, L, fun k e => (A k e).1, B.most_le⟩
theorem SB.small (h : SB W m b v th most w next made cs t D) (i : Nat) : cellN cs i < 18446744073709551616 := by
  obtain ⟨F, l, S, L, A⟩ := h
  obtain ⟨cv, av, h⟩ := S.bank
  unfold cellN
  by_cases c : i < cs.length
  · rw [List.getD_eq_getElem?_getD, List.getElem?_eq_getElem c]
    exact h.small _ (List.getElem_mem c)
  · rw [List.getD_eq_getElem?_getD, List.getElem?_eq_none (by omega)]
    simp
theorem SB.goes {w' : World} {next' made' : Nat} {cs' : List Nat} {t' : List Acc} {F F' : Nat → Prop} {l l' : List Acc} (S : St W w m b v F th most next made cs l) (A : ∀ k, D k → ¬ F k ∧ k ≠ v ∧ k ≠ m ∧ W.heap.size ≤ k ∧ k < w.heap.size) (G : GoesV w w' F F' v) (B : Bank w' F' b most next' cs' l') (V : IsView w' v b th made') (hl : l'.map Acc.bare = t') :
    SB W m b v th most w' next' made' cs' t' D ∧ (∀ k, D k → w'.heap[k]? = w.heap[k]?) ∧ w.heap.size ≤ w'.heap.size :=
  ⟨⟨F', l', S.step G B V, hl, fun k hk => ⟨fun x => (G.new k x).elim (A k hk).1 (fun y => by have := (A k hk).2.2.2.2; omega), (A k hk).2.1, (A k hk).2.2.1, (A k hk).2.2.2.1, Nat.lt_of_lt_of_le (A k hk).2.2.2.2 G.chg.size⟩⟩, fun k hk => G.chg.block k (A k hk).2.2.2.2 (fun e => e.elim (A k hk).1 (A k hk).2.1), G.chg.size⟩
theorem SB.load (h : SB W m b v th most w next made cs t D) (a : Nat) (ha : a < 18446744073709551616) (h1 : made < 1099511627776) (h2 : t.length < 1099511627776) :
    Calls Try.prog 39 #[.pointer (some ⟨v, 0, none⟩), .int .u64 (a : Int)] w fun e w' => e = .returned (.int .u64 (cellN cs a : Int)) ∧ SB W m b v th most w' next (made + 1) cs (t ++ [⟨th, 1, a, 0, 0, .slice none 0 0, [], cellN cs a, false⟩]) D ∧ (∀ k, D k → w'.heap[k]? = w.heap[k]?) ∧ w.heap.size ≤ w'.heap.size := by
  obtain ⟨F, l, S, L, A⟩ := h
  have hl : l.length = t.length := by rw [← L]; simp
  refine (v_load v b most next made th a F cs l w S.view S.bank S.nv h1 (by omega) ha).mono ?_
  rintro e w' ⟨rfl, F', vs, B, V, G⟩
  exact ⟨rfl, SB.goes S A G B V (by simp [L, Acc.bare])⟩
theorem SB.store (h : SB W m b v th most w next made cs t D) (a x : Nat) (ha : a < 18446744073709551616) (hx : x < 18446744073709551616) (h1 : made < 1099511627776) (h2 : t.length < 1099511627776) :
    Calls Try.prog 13 #[.pointer (some ⟨v, 0, none⟩), .int .u64 (a : Int), .int .u64 (x : Int)] w fun e w' => e = .returned (.tuple #[]) ∧ SB W m b v th most w' next (made + 1) (stN most cs a x) (t ++ [⟨th, 2, a, x, 0, .slice none 0 0, [], 0, false⟩]) D ∧ (∀ k, D k → w'.heap[k]? = w.heap[k]?) ∧ w.heap.size ≤ w'.heap.size := by
  obtain ⟨F, l, S, L, A⟩ := h
  have hl : l.length = t.length := by rw [← L]; simp
  refine (v_store v b most next made th a x F cs l w S.view S.bank S.nv h1 (by omega) ha hx).mono ?_
  rintro e w' ⟨rfl, F', vs, B, V, G⟩
  exact ⟨rfl, SB.goes S A G B V (by simp [L, Acc.bare])⟩
theorem SB.aloc (h : SB W m b v th most w next made cs t D) (vals : List Nat) (g c : Nat) (hg : w.heap.size = g) (hv : ∀ x ∈ vals, x < 18446744073709551616) (hvl : vals.length ≤ 17592186043904) (h1 : made < 1099511627776) (h2 : t.length < 1099511627776) :
    Calls Try.prog 27 #[.pointer (some ⟨v, 0, none⟩), .slice (some ⟨g, 0, none⟩) vals.length c] (w.alloc (.cells (vals.map u64V).toArray 22)) fun e w' => e = .returned (.int .u64 (alAt most next vals.length : Int)) ∧ SB W m b v th most w' (alNext most next vals.length) (made + 1) (alN most next cs vals) (t ++ [⟨th, 5, alAt most next vals.length, 0, 0, .slice none 0 0, vals, 0, false⟩]) D ∧ ∀ k, D k → w'.heap[k]? = w.heap[k]? := by
  obtain ⟨F, l, S, L, A⟩ := h
  have hl : l.length = t.length := by rw [← L]; simp
  have S2 := S.chg' ((Chg.refl (fun _ => False) w).alloc (.cells (vals.map u64V).toArray 22))
  have z1 := S.view.lt
  refine (v_alloc v b most next made th (some ⟨g, 0, none⟩) c vals F cs l _ S2.view S2.bank S2.nv h1 (by omega) (reads_new w vals g hg) (fun ad e _ => by cases e; exact fun y => by have := S.bank.lt' _ y; simp only [] at this; omega) (fun ad e _ => by cases e; exact fun y => by simp only [] at y; omega) hv hvl).mono ?_
  rintro e w' ⟨rfl, F', vs, B, V, G⟩
  have A2 : ∀ k, D k → ¬ F k ∧ k ≠ v ∧ k ≠ m ∧ W.heap.size ≤ k ∧ k < (w.alloc (.cells (vals.map u64V).toArray 22)).heap.size := fun k e => ⟨(A k e).1, (A k e).2.1, (A k e).2.2.1, (A k e).2.2.2.1, by have := (A k e).2.2.2.2; simp; omega⟩
  have z := SB.goes (t' := t ++ [⟨th, 5, alAt most next vals.length, 0, 0, .slice none 0 0, vals, 0, false⟩]) S2 A2 G B V (by simp [L, Acc.bare])
  exact ⟨rfl, z.1, fun k hk => (z.2.1 k hk).trans (Below.heap_alloc _ _ _ (A k hk).2.2.2.2)⟩
end

def addP (a k : Nat) : Nat := (a + k) % 18446744073709551616
theorem addP_lt (a k : Nat) : addP a k < 18446744073709551616 := Nat.mod_lt _ (by decide)
theorem wrap_addP (a k : Nat) : IntKind.u64.wrap ((a : Int) + (k : Int)) = (addP a k : Int) := by
  rw [IntKind.wrap_u64]
  unfold addP
  omega
theorem wrap_addP1 (a : Nat) : IntKind.u64.wrap ((a : Int) + 1) = (addP a 1 : Int) := wrap_addP a 1
theorem wrap_addP2 (a : Nat) : IntKind.u64.wrap ((a : Int) + 2) = (addP a 2 : Int) := wrap_addP a 2

/-- A step of a Cut: the cells, the state and the access that it makes. -/
def kstep (th : Int) (F : Nat) (l : List Nat) (most : Nat) (cs : List Nat) (s : CutS) : List Nat × CutS × Acc :=
  if s.nx = 0 then (cs, { s with kept := cellN cs s.obj, nx := if cellN cs s.obj = 0 then 7 else 1 }, ⟨th, 1, s.obj, 0, 0, .slice none 0 0, [], cellN cs s.obj, false⟩)
  else if s.nx = 1 then (cs, { s with kst := if cellN cs (addP s.kept 1) = 0 then 18446744073709551615 else cellN cs (addP s.kept 1), nx := 2 }, ⟨th, 1, addP s.kept 1, 0, 0, .slice none 0 0, [], cellN cs (addP s.kept 1), false⟩)
  else if s.nx = 2 then (cs, { s with head := cellN cs s.kept, nx := 3 }, ⟨th, 1, s.kept, 0, 0, .slice none 0 0, [], cellN cs s.kept, false⟩)
  else if s.nx = 3 then (cs, CutS.ask { s with first := cellN cs (addP s.kept 2) } (cellN cs (addP s.kept 2)), ⟨th, 1, addP s.kept 2, 0, 0, .slice none 0 0, [], cellN cs (addP s.kept 2), false⟩)
  else if s.nx = 4 then (cs, if ndN F l (cellN cs (addP s.asked 1)) s.kst = true then CutS.join { s with ast := cellN cs (addP s.asked 1), nx := 5 } else { s with ast := cellN cs (addP s.asked 1), nx := 5 }, ⟨th, 1, addP s.asked 1, 0, 0, .slice none 0 0, [], cellN cs (addP s.asked 1), false⟩)
  else if s.nx = 5 then (cs, CutS.ask { s with cnt := s.cnt + 1 } (cellN cs (addP s.asked 2)), ⟨th, 1, addP s.asked 2, 0, 0, .slice none 0 0, [], cellN cs (addP s.asked 2), false⟩)
  else (stN most cs (addP s.kept 2) s.asked, s.goOn, ⟨th, 2, addP s.kept 2, s.asked, 0, .slice none 0 0, [], 0, false⟩)

structure CutS.Bd (s : CutS) : Prop where
  obj : s.obj < 18446744073709551616
  kept : s.kept < 18446744073709551616
  asked : s.asked < 18446744073709551616
theorem CutS.Bd.goOn {s : CutS} (h : s.Bd) : s.goOn.Bd := ⟨h.obj, h.asked, h.asked⟩
theorem CutS.Bd.join {s : CutS} (h : s.Bd) : s.join.Bd := by
  unfold CutS.join
  split
  · exact h.goOn
  · exact ⟨h.obj, h.kept, h.asked⟩
theorem CutS.Bd.ask {s : CutS} (h : s.Bd) {x : Nat} (hx : x < 18446744073709551616) : (s.ask x).Bd := by
  unfold CutS.ask
  split
  · exact CutS.Bd.join ⟨h.obj, h.kept, hx⟩
  · exact ⟨h.obj, h.kept, hx⟩

/-- What a Cut has of its own: itself and its stamps. -/
def kD (p : Nat) (q : Option Addr) (l : List Nat) : Nat → Prop := fun k => k = p ∨ (l ≠ [] ∧ ∃ off, q = some ⟨k, off, none⟩)
structure KS (W : World) (m b v : Nat) (th : Int) (most : Nat) (w : World) (next made : Nat) (cs : List Nat) (t : List Acc) (E : Nat → Prop) (p F : Nat) (q : Option Addr) (d : Nat) (l : List Nat) (s : CutS) : Prop where
  sb : SB W m b v th most w next made cs t (fun k => E k ∨ kD p q l k)
  cut : IsCut w p F (.slice q l.length d) s
  row : U64At w q l
  ne : ∀ bk off, q = some ⟨bk, off, none⟩ → l ≠ [] → bk ≠ p
  nE : ∀ k, kD p q l k → ¬ E k
  bd : s.Bd
  len : l.length < 4611686018427387904
section
variable {W : World} {m b v : Nat} {th : Int} {most : Nat} {w : World} {next made : Nat} {cs : List Nat} {t : List Acc} {E : Nat → Prop} {p F : Nat} {q : Option Addr} {d : Nat} {l : List Nat} {s : CutS}
/-- Behind an access the Cut is as it was. -/
theorem KS.went {x : World} {next' made' : Nat} {cs' : List Nat} {t' : List Acc} (h : KS W m b v th most w next made cs t E p F q d l s) (S : SB W m b v th most x next' made' cs' t' (fun k => E k ∨ kD p q l k)) (K : ∀ k, (E k ∨ kD p q l k) → x.heap[k]? = w.heap[k]?) (Z : w.heap.size ≤ x.heap.size) : KS W m b v th most x next' made' cs' t' E p F q d l s := by
  refine ⟨S, (K p (.inr (.inl rfl))).trans h.cut, ?_, h.ne, h.nE, h.bd, h.len⟩
  rcases h.row with e | ⟨bk, off, rfl, hb, hc⟩
  · exact .inl e
  · by_cases e : l = []
    · exact .inl e
    · refine .inr ⟨bk, off, rfl, by omega, fun i y hi => ⟨(hc i y hi).1, ?_⟩⟩
      have := (hc i y hi).2
      unfold World.cell? at this ⊢
      simp only [] at this ⊢
      rw [K bk (.inr (.inr ⟨e, off, rfl⟩))]
      exact this
theorem KS.fin {x y : World} {next' made' : Nat} {cs' : List Nat} {t' : List Acc} {s s' : CutS} (h : KS W m b v th most x next' made' cs' t' E p F q d l s) (c : Chg (fun k => k = p) x y) (hc : IsCut y p F (.slice q l.length d) s') (hb : s'.Bd) : KS W m b v th most y next' made' cs' t' E p F q d l s' ∧ ∀ k, E k → y.heap[k]? = x.heap[k]? :=
  ⟨⟨h.sb.put c (fun k e => .inr (.inl e)), hc, h.row.chg c (fun bk off e hn => h.ne bk off e hn), h.ne, h.nE, hb, h.len⟩, fun k e => c.block k (h.sb.lt k (.inl e)) (fun z => h.nE k (.inl z) e)⟩
theorem ks_step (h : KS W m b v th most w next made cs t E p F q d l s) (h6 : s.nx ≤ 6) (hcn : s.cnt + 1 < 18446744073709551616) (h1 : made < 1099511627776) (h2 : t.length < 1099511627776) :
    Calls Try.prog 16 #[.pointer (some ⟨p, 0, none⟩), .pointer (some ⟨v, 0, none⟩)] w fun e w' => e = .returned (.bool (decide ((kstep th F l most cs s).2.1.nx = 7))) ∧ KS W m b v th most w' next (made + 1) (kstep th F l most cs s).1 (t ++ [(kstep th F l most cs s).2.2]) E p F q d l (kstep th F l most cs s).2.1 ∧ ∀ k, E k → w'.heap[k]? = w.heap[k]? := by
  have hbd := h.bd
  have sm := h.sb.small
  obtain ⟨obj, nx, head, cnt, kept, kst, first, asked, ast⟩ := s
  simp only at h6 hcn
  have b1 : obj < 18446744073709551616 := hbd.obj
  have b2 : kept < 18446744073709551616 := hbd.kept
  have b3 : asked < 18446744073709551616 := hbd.asked
  have hld : ∀ a : Nat, a < 18446744073709551616 → Calls Try.prog 39 #[.pointer (some ⟨v, 0, none⟩), .int .u64 (a : Int)] w fun e w' => e = .returned (.int .u64 (cellN cs a : Int)) ∧ KS W m b v th most w' next (made + 1) cs (t ++ [⟨th, 1, a, 0, 0, .slice none 0 0, [], cellN cs a, false⟩]) E p F q d l ⟨obj, nx, head, cnt, kept, kst, first, asked, ast⟩ ∧ (∀ k, E k → w'.heap[k]? = w.heap[k]?) := fun a ha => by
    refine (h.sb.load a ha h1 h2).mono ?_
    rintro e w' ⟨rfl, S, K, Z⟩
    exact ⟨rfl, h.went S K Z, fun k e => K k (.inl e)⟩
  have hld5 : ∀ a : Nat, a < 18446744073709551616 → Calls Try.prog 39 #[.pointer (some ⟨v, 0, none⟩), .int .u64 (a : Int)] (w.setCell ⟨p, 5, none⟩ (.int .u64 ((cnt + 1 : Nat) : Int))) fun e w' => e = .returned (.int .u64 (cellN cs a : Int)) ∧ KS W m b v th most w' next (made + 1) cs (t ++ [⟨th, 1, a, 0, 0, .slice none 0 0, [], cellN cs a, false⟩]) E p F q d l ⟨obj, nx, head, cnt + 1, kept, kst, first, asked, ast⟩ ∧ (∀ k, E k → w'.heap[k]? = w.heap[k]?) := fun a ha => by
    have h' := h.fin (s' := ⟨obj, nx, head, cnt + 1, kept, kst, first, asked, ast⟩) (setP (i := 5) (.int .u64 ((cnt + 1 : Nat) : Int))) (set_of h.cut 5 _) ⟨hbd.obj, hbd.kept, hbd.asked⟩
    refine (h'.1.sb.load a ha h1 h2).mono ?_
    rintro e w' ⟨rfl, S, K, Z⟩
    exact ⟨rfl, h'.1.went S K Z, fun k e => (K k (.inl e)).trans (h'.2 k e)⟩
  have hst : ∀ a y : Nat, a < 18446744073709551616 → y < 18446744073709551616 → Calls Try.prog 13 #[.pointer (some ⟨v, 0, none⟩), .int .u64 (a : Int), .int .u64 (y : Int)] w.drew fun e w' => e = .returned (.tuple #[]) ∧ KS W m b v th most w' next (made + 1) (stN most cs a y) (t ++ [⟨th, 2, a, y, 0, .slice none 0 0, [], 0, false⟩]) E p F q d l ⟨obj, nx, head, cnt, kept, kst, first, asked, ast⟩ ∧ (∀ k, E k → w'.heap[k]? = w.heap[k]?) := fun a y ha hy => by
    have hd := h.sb.quiet ((Chg.refl (fun _ => False) w).drew)
    refine (hd.store a y ha hy h1 h2).mono ?_
    rintro e w' ⟨rfl, S, K, Z⟩
    exact ⟨rfl, h.went S K Z, fun k e => K k (.inl e)⟩
  rcases (show nx = 0 ∨ nx = 1 ∨ nx = 2 ∨ nx = 3 ∨ nx = 4 ∨ nx = 5 ∨ nx = 6 by omega) with rfl | rfl | rfl | rfl | rfl | rfl | rfl
  · refine (k_s0 p F _ _ obj head cnt kept kst first asked ast w h.cut _ _ (hld obj hbd.obj) (fun x hx => hx.1.cut)).mono ?_
    rintro e w' ⟨rfl, hc, x, ⟨hk, he⟩, c⟩
    have z := hk.fin c hc ⟨b1, sm _, b3⟩
    refine ⟨?_, z.1, fun k e => (z.2 k e).trans (he k e)⟩
    by_cases e : cellN cs obj = 0 <;> simp [kstep, e]
  · refine (k_s1 p F _ _ obj head cnt kept kst first asked ast w h.cut _ _ (wrap_addP1 kept) _ (hld _ (addP_lt _ _)) (fun x hx => hx.1.cut)).mono ?_
    rintro e w' ⟨rfl, hc, x, ⟨hk, he⟩, c⟩
    have z := hk.fin c hc ⟨b1, b2, b3⟩
    exact ⟨by simp [kstep], z.1, fun k e => (z.2 k e).trans (he k e)⟩
  · refine (k_s2 p F _ _ obj head cnt kept kst first asked ast w h.cut _ _ (hld kept hbd.kept) (fun x hx => hx.1.cut)).mono ?_
    rintro e w' ⟨rfl, hc, x, ⟨hk, he⟩, c⟩
    have z := hk.fin c hc ⟨b1, b2, b3⟩
    exact ⟨by simp [kstep], z.1, fun k e => (z.2 k e).trans (he k e)⟩
  · refine (k_s3 p F _ _ obj head cnt kept kst first asked ast w _ h.cut _ _ (wrap_addP2 kept) _ (hld _ (addP_lt _ _)) (fun x hx => hx.1.cut) rfl).mono ?_
    rintro e w' ⟨rfl, hc, x, ⟨hk, he⟩, c⟩
    have z := hk.fin c hc (by refine CutS.Bd.ask ?_ (sm _); exact ⟨b1, b2, b3⟩)
    exact ⟨rfl, z.1, fun k e => (z.2 k e).trans (he k e)⟩
  · by_cases hb : ndN F l (cellN cs (addP asked 1)) kst = true
    · have e0 : (kstep th F l most cs ⟨obj, 4, head, cnt, kept, kst, first, asked, ast⟩).2.1 = CutS.join ⟨obj, 5, head, cnt, kept, kst, first, asked, cellN cs (addP asked 1)⟩ := by simp [kstep, hb]
      rw [e0]
      refine (k_s4T p F q d l _ obj head cnt kept kst first asked ast w h.cut h.len _ _ (wrap_addP1 asked) _ (hld _ (addP_lt _ _)) (fun x hx => ⟨hx.1.cut, hx.1.row, hx.1.ne⟩) hb _ rfl).mono ?_
      rintro e w' ⟨rfl, hc, x, ⟨hk, he⟩, c⟩
      have z := hk.fin c hc (by refine CutS.Bd.join ?_; exact ⟨b1, b2, b3⟩)
      exact ⟨rfl, z.1, fun k e => (z.2 k e).trans (he k e)⟩
    · have e0 : (kstep th F l most cs ⟨obj, 4, head, cnt, kept, kst, first, asked, ast⟩).2.1 = ⟨obj, 5, head, cnt, kept, kst, first, asked, cellN cs (addP asked 1)⟩ := by simp [kstep, hb]
      rw [e0]
      refine (k_s4F p F q d l _ obj head cnt kept kst first asked ast w h.cut h.len _ _ (wrap_addP1 asked) _ (hld _ (addP_lt _ _)) (fun x hx => ⟨hx.1.cut, hx.1.row, hx.1.ne⟩) (by simpa using hb)).mono ?_
      rintro e w' ⟨rfl, hc, x, ⟨hk, he⟩, c⟩
      have z := hk.fin c hc ⟨b1, b2, b3⟩
      exact ⟨rfl, z.1, fun k e => (z.2 k e).trans (he k e)⟩
  · refine (k_s5 p F _ _ obj head cnt kept kst first asked ast w _ h.cut (by rw [IntKind.wrap_u64]; omega) _ _ (wrap_addP2 asked) _ (hld5 _ (addP_lt _ _)) (fun x hx => hx.1.cut) rfl).mono ?_
    rintro e w' ⟨rfl, hc, x, ⟨hk, he⟩, c⟩
    have z := hk.fin c hc (by refine CutS.Bd.ask ?_ (sm _); exact ⟨b1, b2, b3⟩)
    exact ⟨rfl, z.1, fun k e => (z.2 k e).trans (he k e)⟩
  · refine (k_s6 p F _ _ obj head cnt kept kst first asked ast w h.cut _ (wrap_addP2 kept) _ (hst _ _ (addP_lt _ _) hbd.asked) (fun x hx => hx.1.cut) _ rfl).mono ?_
    rintro e w' ⟨rfl, hc, x, ⟨hk, he⟩, c⟩
    have z := hk.fin c hc (by refine CutS.Bd.goOn ?_; exact ⟨b1, b2, b3⟩)
    exact ⟨rfl, z.1, fun k e => (z.2 k e).trans (he k e)⟩
/-- The box of an answer, made and written. -/
theorem KS.box (h : KS W m b v th most w next made cs t E p F q d l s) (o : Obj) : KS W m b v th most (w.alloc o) next made cs t (fun k => E k ∨ k = w.heap.size) p F q d l s := by
  have c : Chg (fun _ => False) w (w.alloc o) := (Chg.refl _ _).alloc _
  refine ⟨(h.sb.grow (E := fun k => (E k ∨ k = w.heap.size) ∨ kD p q l k) (c.mono (fun _ _ x => x.elim)) (fun k e => ?_) (fun k e => ?_)), h.cut.chg c (fun x => x), h.row.chg c (fun _ _ _ _ x => x), h.ne, fun k hk e => e.elim (h.nE k hk) (fun z => ?_), h.bd, h.len⟩
  · rcases e with (e | e) | e
    · exact .inl (.inl e)
    · exact .inr (by omega)
    · exact .inl (.inr e)
  · rw [World.size_alloc]
    rcases e with (e | e) | e
    · have := h.sb.lt k (.inl e); omega
    · omega
    · have := h.sb.lt k (.inr e); omega
  · have := h.sb.lt k (.inr hk); omega
theorem KS.drop {g : Nat} (h : KS W m b v th most w next made cs t (fun k => E k ∨ k = g) p F q d l s) (u : Value) : KS W m b v th most (w.setCell ⟨g, 0, none⟩ u) next made cs t E p F q d l s := by
  have c : Chg (fun k => k = g) w (w.setCell ⟨g, 0, none⟩ u) := setP u
  have hp : ∀ k, kD p q l k → k ≠ g := fun k hk e => h.nE k hk (.inr e)
  refine ⟨(h.sb.put c (fun k e => .inl (.inr e))).mono (fun k e => e.elim (fun e => .inl (.inl e)) .inr), h.cut.chg c (hp p (.inl rfl)), h.row.chg c (fun bk off e hn => hp bk (.inr ⟨hn, off, e⟩)), h.ne, fun k hk e => h.nE k hk (.inl e), h.bd, h.len⟩
theorem so_step (h : KS W m b v th most w next made cs t E p F q d l s) (h6 : s.nx ≤ 6) (hcn : s.cnt + 1 < 18446744073709551616) (h1 : made < 1099511627776) (h2 : t.length < 1099511627776) :
    Calls Try.prog 49 #[.iface 39 (.pointer (some ⟨p, 0, none⟩)), .pointer (some ⟨v, 0, none⟩)] w fun e w' => e = .returned (.bool (decide ((kstep th F l most cs s).2.1.nx = 7))) ∧ KS W m b v th most w' next (made + 1) (kstep th F l most cs s).1 (t ++ [(kstep th F l most cs s).2.2]) E p F q d l (kstep th F l most cs s).2.1 ∧ ∀ k, E k → w'.heap[k]? = w.heap[k]? := by
  have h0 := h.box (.cells #[.bool false] 4)
  have hz : ∀ k, E k → k ≠ w.heap.size := fun k e z => by have := h.sb.lt k (.inl e); omega
  refine (so_cut p (.pointer (some ⟨v, 0, none⟩)) (decide ((kstep th F l most cs s).2.1.nx = 7)) (fun w' => KS W m b v th most w' next (made + 1) (kstep th F l most cs s).1 (t ++ [(kstep th F l most cs s).2.2]) (fun k => E k ∨ k = w.heap.size) p F q d l (kstep th F l most cs s).2.1 ∧ ∀ k, E k → w'.heap[k]? = w.heap[k]?) w ((ks_step h0 h6 hcn h1 h2).mono ?_)).mono ?_
  · rintro e w' ⟨rfl, hk, he⟩
    exact ⟨rfl, ⟨hk, fun k e => (he k (.inl e)).trans (Below.heap_alloc _ _ _ (h.sb.lt k (.inl e)))⟩, he _ (.inr rfl)⟩
  · rintro e w' ⟨rfl, w1, ⟨hk, he⟩, rfl⟩
    exact ⟨rfl, hk.drop _, fun k e => (Below.heap_setCell _ _ _ _ (hz k e)).trans (he k e)⟩
end
end Go.Proofs.Ytbjebnkfecjpnaa
