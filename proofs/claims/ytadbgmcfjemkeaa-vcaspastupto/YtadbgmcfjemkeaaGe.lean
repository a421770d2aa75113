/- Runs of procs: an object's head found, an object read: each step, whatever is there. -/
import Derived.Test.YtadbgmcfjemkeaaGd
namespace Go.Proofs.Ytadbgmcfjemkeaa
open Go.RowKit Go.Shelf
set_option linter.unusedVariables false

structure VS where
  ver : Nat
  pos : Nat
  st : Nat
  fpos : Nat
  head : Nat
/-- What lies in memory of a finder, with what its proc has behind it. -/
def FH (X : World) (D : Nat → Prop) (p : Nat) (ty : TypeId) (cam obj : Nat) (rest : List Value) (s : VS) : Prop := ∃ clk, Blk X p ty (fndL cam s.ver s.pos clk obj s.fpos s.head rest) ∧ Clk X D p cam s.pos s.st clk ∧ D p
section
variable {X Y : World} {D : Nat → Prop} {p : Nat} {ty : TypeId} {cam obj : Nat} {rest : List Value} {s : VS}
theorem FH.kept (h : FH X D p ty cam obj rest s) (hk : ∀ k, D k → Y.heap[k]? = X.heap[k]?) : FH Y D p ty cam obj rest s := by
  obtain ⟨clk, hB, hC, hp⟩ := h
  exact ⟨clk, (hk p hp).trans hB, hC.kept (fun _ e => e) (fun k e _ => hk k e), hp⟩
theorem FH.set (h : FH X D p ty cam obj rest s) (i : Nat) (u : Value) : FH (X.setCell ⟨p, i + 7, none⟩ u) D p ty cam obj (rest.set i u) s := by
  obtain ⟨clk, hB, hC, hp⟩ := h
  exact ⟨clk, hB.set (i + 7) u, hC.kept (fun _ e => e) (fun k _ e => other_set u e), hp⟩
theorem FH.cell (h : FH X D p ty cam obj rest s) : ∃ l, Blk X p ty l ∧ l[6]? = some (.int .u64 (s.head : Int)) ∧ ∀ i, l[i + 7]? = rest[i]? := by
  obtain ⟨clk, hB, hC, hp⟩ := h
  exact ⟨_, hB, rfl, fun i => rfl⟩
end
def fdO (th : Int) (most next : Nat) (cs : List Nat) (cam obj : Nat) (s : VS) : Out VS :=
  if s.fpos = 0 then ⟨decide (cellN cs obj = 0), next, cs, [ldA th cs obj], ⟨cellN cs obj, 0, s.st, fpN (cellN cs obj), cellN cs obj⟩⟩
  else ⟨tlD cs s.ver s.pos, next, tlC most cs s.ver s.pos s.st, [tlA th most cs cam s.ver s.pos s.st], ⟨s.ver, tlP cs s.ver s.pos, tlS cs cam s.pos s.st, if tlD cs s.ver s.pos then 2 else 1, s.head⟩⟩
def VS.fok (s : VS) : Prop := s.fpos = 0 ∨ (s.fpos = 1 ∧ s.pos ≤ 2)
section
variable {X0 X : World} {F0 D0 F D : Nat → Prop} {b v most next : Nat} {th : Int} {made : Nat} {cs : List Nat} {t : List Acc} {p cam obj : Nat} {ty : TypeId} {rest : List Value} {s : VS}
theorem as_find (A : AS X0 X F0 D0 F D b v most next th made cs t) (H : FH X D p ty cam obj rest s) (hf : s.fok) (hcam : cam < 18446744073709551616) (hobj : obj < 18446744073709551616) (hst : s.st < 18446744073709551616) (h1 : made < 1099511627776) (h2 : t.length < 1099511627776) (o : Out VS) (ho : fdO th most next cs cam obj s = o) :
    Calls Try.prog 74 #[.pointer (some ⟨p, 0, none⟩), .pointer (some ⟨v, 0, none⟩)] X fun e Y => e = .returned (.bool o.done) ∧ ∃ F' D', AS X0 Y F0 D0 F' D' b v most o.next th (made + 1) o.cs (t ++ o.acc) ∧ FH Y D' p ty cam obj rest o.s := by
  obtain ⟨clk, hB, hC, hp⟩ := H
  rcases hf with h0 | ⟨h0, hpos⟩
  · have e : fdO th most next cs cam obj s = _ := if_pos h0
    rw [e] at ho
    subst ho
    rw [h0] at hB
    refine (find_load hB _ (fun w => ∃ F', AS X0 w F0 D0 F' D b v most next th (made + 1) cs (t ++ [ldA th cs obj]) ∧ ∀ k, D k → w.heap[k]? = X.heap[k]?) (A.load obj hobj h1 h2) (fun w hw => by obtain ⟨F', _, hk⟩ := hw; exact (hk p hp).trans hB)).mono ?_
    rintro e Y ⟨rfl, w, ⟨F', Aw, hk⟩, BY, CY⟩
    exact ⟨rfl, F', D, Aw.pchg hp CY, clk, BY, Clk.none hC.1 (by simp), hp⟩
  · have e : fdO th most next cs cam obj s = _ := if_neg (by omega)
    rw [e] at ho
    subst ho
    rw [h0] at hB
    have T := as_tell A hp hB hC hpos hcam hst h1 h2
    cases hd : tlD cs s.ver s.pos
    · rw [hd] at T
      refine (find_tellF hB rfl _ _ T (fun w hw => by obtain ⟨F', D', clk', _, _, B', _⟩ := hw; exact ⟨_, B', rfl⟩)).mono ?_
      rintro e Y ⟨rfl, F', D', clk', A', hD, B', C'⟩
      exact ⟨rfl, F', D', A', clk', B', C', hD p hp⟩
    · rw [hd] at T
      refine (find_tellT hB rfl _ _ T (fun w hw => by obtain ⟨F', D', clk', _, _, B', _⟩ := hw; exact ⟨_, B', rfl⟩)).mono ?_
      rintro e Y ⟨rfl, w, ⟨F', D', clk', A', hD, B', C'⟩, rfl⟩
      exact ⟨rfl, F', D', A'.setP (hD p hp) _, clk', B'.set 5 _, C'.kept (fun _ e => e) (fun k _ e => other_set _ e), hD p hp⟩
end

/-- A reader: how far it is, and what it read. -/
structure RS where
  f : VS
  rp : Nat
  val : Nat
def rdO (th : Int) (most next : Nat) (cs : List Nat) (cam obj : Nat) (s : RS) : Out RS :=
  if s.rp = 0 then
    (fun o : Out VS => ⟨o.done && decide (o.s.head = 0), o.next, o.cs, o.acc, ⟨o.s, if o.done then (if o.s.head = 0 then 2 else 1) else 0, s.val⟩⟩) (fdO th most next cs cam obj s.f)
  else ⟨true, next, cs, [ldA th cs s.f.head], ⟨s.f, 2, cellN cs s.f.head⟩⟩
def RS.rok (s : RS) : Prop := (s.rp = 0 ∧ s.f.fok) ∨ s.rp = 1
def rdL (s : RS) (rest : List Value) : List Value := .int .u8 (s.rp : Int) :: .int .u64 (s.val : Int) :: rest
section
variable {X0 X : World} {F0 D0 F D : Nat → Prop} {b v most next : Nat} {th : Int} {made : Nat} {cs : List Nat} {t : List Acc} {p cam obj : Nat} {ty : TypeId} {rest : List Value} {s : RS}
theorem as_read (A : AS X0 X F0 D0 F D b v most next th made cs t) (H : FH X D p ty cam obj (rdL s rest) s.f) (hf : s.rok) (hcam : cam < 18446744073709551616) (hobj : obj < 18446744073709551616) (hst : s.f.st < 18446744073709551616) (hhd : s.f.head < 18446744073709551616) (h1 : made < 1099511627776) (h2 : t.length < 1099511627776) (o : Out RS) (ho : rdO th most next cs cam obj s = o) :
    Calls Try.prog 73 #[.pointer (some ⟨p, 0, none⟩), .pointer (some ⟨v, 0, none⟩)] X fun e Y => e = .returned (.bool o.done) ∧ ∃ F' D', AS X0 Y F0 D0 F' D' b v most o.next th (made + 1) o.cs (t ++ o.acc) ∧ FH Y D' p ty cam obj (rdL o.s rest) o.s.f := by
  rcases hf with ⟨h0, hf⟩ | h0
  · have e : rdO th most next cs cam obj s = _ := if_pos h0
    rw [e] at ho
    obtain ⟨l, hB, l6, l7⟩ := H.cell
    have c7 : l[7]? = some (.int .u8 0) := by rw [l7 0]; simp [rdL, h0]
    obtain ⟨q, hq⟩ : ∃ q, fdO th most next cs cam obj s.f = q := ⟨_, rfl⟩
    rw [hq] at ho
    have T := as_find A H hf hcam hobj hst h1 h2 q hq
    subst ho
    cases hd : q.done
    · rw [hd] at T
      refine (read_findF hB c7 _ _ T (fun w hw => by obtain ⟨F', D', _, H'⟩ := hw; obtain ⟨l', B', _, l7'⟩ := H'.cell; exact ⟨l', B', by rw [l7' 0]; simp [rdL, h0]⟩)).mono ?_
      rintro e Y ⟨rfl, F', D', A', H'⟩
      refine ⟨by simp [hd], F', D', A', ?_⟩
      simpa [rdL, h0, hd] using H'
    · rw [hd] at T
      by_cases hz : q.s.head = 0
      · refine (read_find0 hB c7 _ _ T (fun w hw => by obtain ⟨F', D', _, H'⟩ := hw; obtain ⟨l', B', l6', l7'⟩ := H'.cell; exact ⟨l', B', by rw [l7' 0]; simp [rdL, h0], by rw [l6', hz]; rfl⟩)).mono ?_
        rintro e Y ⟨rfl, w, ⟨F', D', A', H'⟩, rfl⟩
        have hp : D' p := by obtain ⟨_, _, _, hp⟩ := H'; exact hp
        refine ⟨by simp [hz, hd], F', D', (A'.setP hp _).setP hp _, ?_⟩
        simpa [rdL, hz, hd] using (H'.set 0 (.int .u8 1)).set 0 (.int .u8 2)
      · refine (read_findT hB c7 _ _ hz T (fun w hw => by obtain ⟨F', D', _, H'⟩ := hw; obtain ⟨l', B', l6', l7'⟩ := H'.cell; exact ⟨l', B', by rw [l7' 0]; simp [rdL, h0], l6'⟩)).mono ?_
        rintro e Y ⟨rfl, w, ⟨F', D', A', H'⟩, rfl⟩
        have hp : D' p := by obtain ⟨_, _, _, hp⟩ := H'; exact hp
        refine ⟨by simp [hz, hd], F', D', A'.setP hp _, ?_⟩
        simpa [rdL, hz, hd] using H'.set 0 (.int .u8 1)
  · have e : rdO th most next cs cam obj s = _ := if_neg (by omega)
    rw [e] at ho
    subst ho
    obtain ⟨l, hB, l6, l7⟩ := H.cell
    have hp : D p := by obtain ⟨_, _, _, hp⟩ := H; exact hp
    refine (read_load hB (by rw [l7 0]; simp [rdL, h0]) l6 _ (fun w => ∃ F', AS X0 w F0 D0 F' D b v most next th (made + 1) cs (t ++ [ldA th cs s.f.head]) ∧ ∀ k, D k → w.heap[k]? = X.heap[k]?) (A.load s.f.head hhd h1 h2) (fun w hw => by obtain ⟨F', _, hk⟩ := hw; exact ⟨l, (hk p hp).trans hB, by rw [l7 0]; simp [rdL, h0], s.val, by rw [l7 1]; rfl⟩)).mono ?_
    rintro e Y ⟨rfl, w, ⟨F', Aw, hk⟩, rfl⟩
    refine ⟨rfl, F', D, (Aw.setP hp _).setP hp _, ?_⟩
    simpa [rdL] using ((H.kept hk).set 1 (.int .u64 (cellN cs s.f.head : Int))).set 0 (.int .u8 2)
end
end Go.Proofs.Ytadbgmcfjemkeaa
