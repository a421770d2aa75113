/- Runs of procs: a version's stamp told, an object's head found, an object read: each step, whatever is there. -/
import Derived.Test.YtadbgmcfjemkeaaGc
import Derived.Test.YtadbgmcfjemkeaaVz
namespace Go.Proofs.Ytadbgmcfjemkeaa
open Go.RowKit Go.Shelf
set_option linter.unusedVariables false

section
variable {X0 X Y : World} {F0 D0 F D : Nat → Prop} {b v most next : Nat} {th : Int} {made : Nat} {cs : List Nat} {t : List Acc} {p : Nat}
theorem AS.setP (A : AS X0 X F0 D0 F D b v most next th made cs t) (hp : D p) {i : Nat} (u : Value) : AS X0 (X.setCell ⟨p, i, none⟩ u) F0 D0 F D b v most next th made cs t :=
  A.put ((Chg.refl D X).setCell (p := ⟨p, i, none⟩) (fun _ => hp) u)
theorem AS.pchg (A : AS X0 X F0 D0 F D b v most next th made cs t) (hp : D p) (c : Chg (fun k => k = p) X Y) : AS X0 Y F0 D0 F D b v most next th made cs t :=
  A.put (c.mono (fun k _ e => by rw [e]; exact hp))
theorem AS.drew (A : AS X0 X F0 D0 F D b v most next th made cs t) : AS X0 X.drew F0 D0 F D b v most next th made cs t := A.put (Chg.refl D X).drew
theorem AS.goesP {F' : Nat → Prop} {next' made' : Nat} {cs' : List Nat} {l' t' : List Acc} {q : Nat} (h : AS X0 X F0 D0 F D b v most next th made cs t) (hq : D q) (B : Bank Y F' b most next' cs' l') (V : IsView Y v b th made') (G : GoesP X Y F F' v q) (hl : l'.map Acc.bare = t') :
    AS X0 Y F0 D0 F' D b v most next' th made' cs' t' ∧ ∀ k, D k → k ≠ q → Y.heap[k]? = X.heap[k]? := by
  obtain ⟨l, B0, _⟩ := h.bank
  have sz := h.chg.size
  refine ⟨⟨⟨l', B, hl⟩, V, fun x => (G.new v x).elim h.nv (fun y => by have := lt_of h.view; omega), fun k hk => ⟨fun x => (G.new k x).elim (h.dis k hk).1 (fun y => by have := (h.dis k hk).2.2; omega), (h.dis k hk).2.1, Nat.lt_of_lt_of_le (h.dis k hk).2.2 G.chg.size⟩,
    h.chg.trans G.chg (fun _ _ x => x) (fun i hi x => ?_), fun k x => (G.new k x).elim (h.newF k) (fun y => .inr (by omega)), h.newD⟩, fun k hk hn => G.chg.block k (h.dis k hk).2.2 (fun e => e.elim (fun e => e.elim (h.dis k hk).1 (h.dis k hk).2.1) hn)⟩
  rcases x with (y | y) | y
  · exact (h.newF i y).elim .inl (fun z => by omega)
  · exact .inr (.inl y)
  · subst y; exact (h.newD i hq).elim (fun z => .inr (.inr z)) (fun z => by omega)
theorem AS.now (h : AS X0 X F0 D0 F D b v most next th made cs t) {q cam st : Nat} (hq : D q) (hn : IsNow X q cam 0 st) (hcam : cam < 18446744073709551616) (h1 : made < 1099511627776) (h2 : t.length < 1099511627776) :
    Calls Try.prog 78 #[.pointer (some ⟨q, 0, none⟩), .pointer (some ⟨v, 0, none⟩)] X fun e Y => e = .returned (.bool true) ∧ IsNow Y q cam 2 (cellN cs cam) ∧ ∃ F', AS X0 Y F0 D0 F' D b v most next th (made + 1) cs (t ++ [⟨th, 1, cam, 0, 0, .slice none 0 0, [], cellN cs cam, false⟩]) ∧ ∀ k, D k → k ≠ q → Y.heap[k]? = X.heap[k]? := by
  obtain ⟨l, B, L⟩ := h.bank
  have hl : l.length = t.length := by rw [← L]; simp
  refine (n_step q v b most next made cam st th F cs l X hn h.view B h.nv (h.dis q hq).1 (h.dis q hq).2.1 h1 (by omega) hcam).mono ?_
  rintro e Y ⟨rfl, N, F', vs, B', V', G⟩
  exact ⟨rfl, N, F', h.goesP hq B' V' G (by simp [L, Acc.bare])⟩
end

def verS (ver : Nat) : Nat := (ver + 1) % 18446744073709551616
theorem verS_lt (ver : Nat) : verS ver < 18446744073709551616 := Nat.mod_lt _ (by omega)
def tlP (cs : List Nat) (ver pos : Nat) : Nat := if pos = 0 then (if cellN cs (verS ver) = 0 then 1 else 3) else if pos = 1 then 2 else 3
def tlD (cs : List Nat) (ver pos : Nat) : Bool := decide (tlP cs ver pos = 3)
def tlS (cs : List Nat) (cam pos st : Nat) : Nat := if pos = 1 then cellN cs cam else st
def tlC (most : Nat) (cs : List Nat) (ver pos st : Nat) : List Nat := if pos = 2 then casN most cs (verS ver) 0 st else cs
def ldA (th : Int) (cs : List Nat) (a : Nat) : Acc := ⟨th, 1, a, 0, 0, .slice none 0 0, [], cellN cs a, false⟩
def csA (th : Int) (most : Nat) (cs : List Nat) (a old now : Nat) : Acc := ⟨th, 3, a, old, now, .slice none 0 0, [], 0, casOk most cs a old⟩
def tlA (th : Int) (most : Nat) (cs : List Nat) (cam ver pos st : Nat) : Acc := if pos = 0 then ldA th cs (verS ver) else if pos = 1 then ldA th cs cam else csA th most cs (verS ver) 0 st
/-- The clock of a proc that tells a stamp. -/
def Clk (X : World) (D : Nat → Prop) (p cam pos st : Nat) (clk : Value) : Prop := (∃ a, clk = .pointer a) ∧ (pos = 1 ∨ pos = 2 → ∃ q, clk = .pointer (some ⟨q, 0, none⟩) ∧ D q ∧ q ≠ p ∧ IsNow X q cam (if pos = 1 then 0 else 2) (if pos = 1 then 0 else st))
theorem Clk.kept {X Y : World} {D D' : Nat → Prop} {p cam pos st : Nat} {clk : Value} (h : Clk X D p cam pos st clk) (hD : ∀ k, D k → D' k) (hk : ∀ k, D k → k ≠ p → Y.heap[k]? = X.heap[k]?) : Clk Y D' p cam pos st clk :=
  ⟨h.1, fun e => by obtain ⟨q, e1, e2, e3, e4⟩ := h.2 e; exact ⟨q, e1, hD q e2, e3, (hk q e2 e3).trans e4⟩⟩
theorem Clk.none {X : World} {D : Nat → Prop} {p cam pos st : Nat} {clk : Value} (h : ∃ a, clk = .pointer a) (hn : pos ≠ 1 ∧ pos ≠ 2) : Clk X D p cam pos st clk := ⟨h, fun e => by omega⟩
theorem other_set {X : World} {p i k : Nat} (u : Value) (h : k ≠ p) : (X.setCell ⟨p, i, Option.none⟩ u).heap[k]? = X.heap[k]? := Below.heap_setCell _ _ _ _ h

section
variable {X0 X : World} {F0 D0 F D : Nat → Prop} {b v most next : Nat} {th : Int} {made : Nat} {cs : List Nat} {t : List Acc} {p cam ver pos st : Nat} {ty : TypeId} {clk : Value} {rest : List Value}
theorem as_tell (A : AS X0 X F0 D0 F D b v most next th made cs t) (hp : D p) (hB : Blk X p ty (stpL cam ver pos clk rest)) (hC : Clk X D p cam pos st clk) (hpos : pos ≤ 2) (hcam : cam < 18446744073709551616) (hst : st < 18446744073709551616) (h1 : made < 1099511627776) (h2 : t.length < 1099511627776) :
    Calls Try.prog 76 #[.pointer (some ⟨p, 0, none⟩), .pointer (some ⟨v, 0, none⟩)] X fun e Y => e = .returned (.bool (tlD cs ver pos)) ∧ ∃ F' D' clk', AS X0 Y F0 D0 F' D' b v most next th (made + 1) (tlC most cs ver pos st) (t ++ [tlA th most cs cam ver pos st]) ∧ (∀ k, D k → D' k) ∧ Blk Y p ty (stpL cam ver (tlP cs ver pos) clk' rest) ∧ Clk Y D' p cam (tlP cs ver pos) (tlS cs cam pos st) clk' := by
  have ha := verS_lt ver
  obtain rfl | rfl | rfl : pos = 0 ∨ pos = 1 ∨ pos = 2 := by omega
  · have A1 := A.setP (i := 2) hp (.int .u8 3)
    have B1 : Blk (X.setCell ⟨p, 2, none⟩ (.int .u8 3)) p ty (stpL cam ver 3 clk rest) := hB.set 2 _
    by_cases c0 : cellN cs (verS ver) = 0
    · refine (tell_load0 hB hC.1 _ (verS ver) rfl (fun w => ∃ F', AS X0 w F0 D0 F' D b v most next th (made + 1) cs (t ++ [ldA th cs (verS ver)]) ∧ ∀ k, D k → w.heap[k]? = (X.setCell ⟨p, 2, none⟩ (.int .u8 3)).heap[k]?) (fun W1 e => by subst e; exact (A1.load (verS ver) ha h1 h2).mono (fun e w z => by obtain ⟨rfl, z⟩ := z; exact ⟨by rw [c0]; rfl, z⟩)) (fun w hw => by obtain ⟨F', _, hk⟩ := hw; exact (hk p hp).trans B1)).mono ?_
      rintro e Y ⟨rfl, w, ⟨F', Aw, hk⟩, rfl⟩
      have Bw : Blk w p ty (stpL cam ver 3 clk rest) := (hk p hp).trans B1
      have pw : p < w.heap.size := lt_of Bw
      have e1 : tlP cs ver 0 = 1 := by simp [tlP, c0]
      have AA : AS X0 (((w.alloc (nowO cam)).setCell ⟨p, 3, none⟩ (.pointer (some ⟨w.heap.size, 0, none⟩))).setCell ⟨p, 2, none⟩ (.int .u8 1)) F0 D0 F' (fun k => D k ∨ k = w.heap.size) b v most next th (made + 1) cs (t ++ [ldA th cs (verS ver)]) := by
        refine Aw.own ((((Chg.refl D w).alloc (nowO cam)).setCell (p := ⟨p, 3, none⟩) (fun _ => hp) _).setCell (p := ⟨p, 2, none⟩) (fun _ => hp) _) (fun k e => e.elim .inl (fun e => .inr (by omega))) (fun k e => ?_)
        have : (((w.alloc (nowO cam)).setCell ⟨p, 3, none⟩ (.pointer (some ⟨w.heap.size, 0, none⟩))).setCell ⟨p, 2, none⟩ (.int .u8 1)).heap.size = w.heap.size + 1 := by simp [World.setCell]
        rw [this]
        rcases e with e | e
        · have := (Aw.dis k e).2.2; omega
        · omega
      refine ⟨by simp [tlD, e1], F', (fun k => D k ∨ k = w.heap.size), .pointer (some ⟨w.heap.size, 0, none⟩), AA, fun k e => .inl e, ?_, ?_⟩
      · rw [e1]
        exact ((Bw.chg ((Chg.refl (fun _ => False) w).alloc (nowO cam)) (fun e => e)).set 3 _).set 2 _
      · rw [e1]
        refine ⟨⟨_, rfl⟩, fun _ => ⟨w.heap.size, rfl, .inr rfl, by omega, ?_⟩⟩
        show (((w.alloc (nowO cam)).setCell ⟨p, 3, none⟩ _).setCell ⟨p, 2, none⟩ _).heap[w.heap.size]? = _
        rw [other_set _ (by omega), other_set _ (by omega)]
        exact heap_alloc_new w (nowO cam)
    · refine (tell_load1 hB _ (verS ver) rfl c0 (fun w => ∃ F', AS X0 w F0 D0 F' D b v most next th (made + 1) cs (t ++ [ldA th cs (verS ver)]) ∧ ∀ k, D k → w.heap[k]? = (X.setCell ⟨p, 2, none⟩ (.int .u8 3)).heap[k]?) (fun W1 e => by subst e; exact A1.load (verS ver) ha h1 h2) (fun w hw => by obtain ⟨F', _, hk⟩ := hw; exact (hk p hp).trans B1)).mono ?_
      rintro e Y ⟨rfl, F', Aw, hk⟩
      have e1 : tlP cs ver 0 = 3 := by simp [tlP, c0]
      refine ⟨by simp [tlD, e1], F', D, clk, Aw, fun k e => e, ?_, ?_⟩
      · rw [e1]; exact (hk p hp).trans B1
      · rw [e1]; exact Clk.none hC.1 (by omega)
  · obtain ⟨q, rfl, hq, hqp, hn⟩ := hC.2 (.inl rfl)
    refine (tell_now hB _ (fun w => IsNow w q cam 2 (cellN cs cam) ∧ ∃ F', AS X0 w F0 D0 F' D b v most next th (made + 1) cs (t ++ [ldA th cs cam]) ∧ ∀ k, D k → k ≠ q → w.heap[k]? = X.heap[k]?) (A.now hq hn hcam h1 h2) (fun w hw => by obtain ⟨_, F', _, hk⟩ := hw; exact (hk p hp (Ne.symm hqp)).trans hB)).mono ?_
    rintro e Y ⟨rfl, w, ⟨N, F', Aw, hk⟩, rfl⟩
    have Bw : Blk w p ty (stpL cam ver 1 (.pointer (some ⟨q, 0, none⟩)) rest) := (hk p hp (Ne.symm hqp)).trans hB
    refine ⟨by simp [tlD, tlP], F', D, _, Aw.setP hp _, fun k e => e, Bw.set 2 _, ⟨_, rfl⟩, fun _ => ⟨q, rfl, hq, hqp, ?_⟩⟩
    show (w.setCell ⟨p, 2, none⟩ _).heap[q]? = _
    rw [other_set _ hqp]
    simpa [tlP, tlS, IsNow] using N
  · obtain ⟨q, rfl, hq, hqp, hn⟩ := hC.2 (.inr rfl)
    refine (tell_cas hB hn _ (verS ver) rfl (fun w => ∃ F', AS X0 w F0 D0 F' D b v most next th (made + 1) (casN most cs (verS ver) 0 st) (t ++ [csA th most cs (verS ver) 0 st]) ∧ ∀ k, D k → w.heap[k]? = X.heap[k]?) ((A.drew.cas (verS ver) 0 st ha hst h1 h2).mono (fun e w z => by obtain ⟨rfl, F', z⟩ := z; exact ⟨⟨_, rfl⟩, F', z⟩)) (fun w hw => by obtain ⟨F', _, hk⟩ := hw; exact (hk p hp).trans hB)).mono ?_
    rintro e Y ⟨rfl, w, ⟨F', Aw, hk⟩, rfl⟩
    have Bw : Blk w p ty (stpL cam ver 2 (.pointer (some ⟨q, 0, none⟩)) rest) := (hk p hp).trans hB
    exact ⟨by simp [tlD, tlP], F', D, _, Aw.setP hp _, fun k e => e, Bw.set 2 _, Clk.none ⟨_, rfl⟩ (by simp [tlP])⟩
end
end Go.Proofs.Ytadbgmcfjemkeaa
