/- Runs of procs: an At and a Take, step by step, and as kinds. -/
import Derived.Test.YtadbgmcfjemkeaaGj
namespace Go.Proofs.Ytadbgmcfjemkeaa
open Go.RowKit Go.Shelf
set_option linter.unusedVariables false
set_option maxRecDepth 100000 in
theorem at_olderG {W : World} {p : Nat} {t : TypeId} {l : List Value} {head c : Nat} (hc : c ≠ 0) (hp : Blk W p t l) (h8 : l[8]? = some (.int .u8 2)) (h6 : l[6]? = some (.int .u64 (head : Int))) (V : Value) (R : World → Prop) (a : Nat) (ha : a = (head + 2) % 18446744073709551616) (hL : Calls Try.prog 75 #[V, .int .u64 (a : Int)] W fun e w => e = .returned (.int .u64 (c : Int)) ∧ R w) (hK : ∀ w, R w → Blk w p t l) :
    Calls Try.prog 85 #[.pointer (some ⟨p, 0, none⟩), V] W fun e W' => e = .returned (.bool false) ∧ ∃ w, R w ∧ W' = (w.setCell ⟨p, 6, none⟩ (.int .u64 (c : Int))).setCell ⟨p, 8, none⟩ (.int .u8 1) := by
  have c8 : W.cell? ⟨p, 8, none⟩ = some (.int .u8 2) := (hp.cell 8).trans h8
  have c6 : W.cell? ⟨p, 6, none⟩ = some (.int .u64 (head : Int)) := (hp.cell 6).trans h6
  have k1 : IntKind.u64.wrap ((head : Int) + 2) = (a : Int) := by rw [IntKind.wrap_u64]; omega
  have HL := keepH hL
  have HK := keepH hK
  have H8 := keepH h8
  have H6 := keepH h6
  clear hp hL hK h8 h6 ha
  go_enter Try.func85, Try.ntmps85
  go_wp2_with fail
  refine HL.out.mono ?_
  rintro e w ⟨rfl, hr⟩
  have P2 := HK.out w hr
  have HR := keepH hr
  have d6 : w.cell? ⟨p, 6, none⟩ = some (.int .u64 (head : Int)) := (P2.cell 6).trans H6.out
  have f6 := P2.free 6
  have P3 := P2.set 6 (.int .u64 (c : Int))
  have h8' : (l.set 6 (.int .u64 (c : Int)))[8]? = some (.int .u8 2) := by rw [List.getElem?_set_ne (by decide)]; exact H8.out
  have h6' : (l.set 6 (.int .u64 (c : Int)))[6]? = some (.int .u64 (c : Int)) := by rw [List.getElem?_set_self (List.getElem?_eq_some_iff.1 H6.out).1]
  have HA := keepH (ask_go P3 h8' h6' hc)
  have e8 := set_same P3 8 _ (.int .u8 1) h8'
  clear hr P2 P3 c8 c6 h8' h6'
  go_wp2_with fail
  refine HA.out.mono ?_
  rintro e w2 ⟨rfl, rfl⟩
  go_wp2_with fail
  go_ret
  exact ⟨by simp, w, HR.out, rfl⟩

structure AtS where
  f : VS
  stamp : Nat
  nx : Nat
  val : Nat
def atL (s : AtS) : List Value := [.int .u64 (s.stamp : Int), .int .u8 (s.nx : Int), .int .u64 (s.val : Int)]
def verO (ver : Nat) : Nat := (ver + 2) % 18446744073709551616
def atO (th : Int) (most next : Nat) (cs : List Nat) (cam obj : Nat) (s : AtS) : Out AtS :=
  if s.nx = 0 then (fun o : Out VS => ⟨o.done && decide (o.s.head = 0), o.next, o.cs, o.acc, { s with f := o.s, nx := if o.done then (if o.s.head = 0 then 4 else 1) else 0 }⟩) (fdO th most next cs cam obj s.f)
  else if s.nx = 1 then ⟨false, next, cs, [ldA th cs (verS s.f.head)], { s with nx := if cellN cs (verS s.f.head) ≤ s.stamp then 3 else 2 }⟩
  else if s.nx = 2 then ⟨decide (cellN cs (verO s.f.head) = 0), next, cs, [ldA th cs (verO s.f.head)], { s with f := { s.f with head := cellN cs (verO s.f.head) }, nx := if cellN cs (verO s.f.head) = 0 then 4 else 1 }⟩
  else ⟨true, next, cs, [ldA th cs s.f.head], { s with nx := 4, val := cellN cs s.f.head }⟩
def AtS.aok (s : AtS) : Prop := ((s.nx = 0 ∧ s.f.fok) ∨ s.nx = 1 ∨ s.nx = 2 ∨ s.nx = 3) ∧ s.f.st < 18446744073709551616 ∧ s.f.head < 18446744073709551616
section
variable {X0 X : World} {F0 D0 F D : Nat → Prop} {b v most next : Nat} {th : Int} {made : Nat} {cs : List Nat} {t : List Acc} {p cam obj : Nat} {ty : TypeId} {s : AtS}
set_option maxHeartbeats 1000000 in
theorem as_at (A : AS X0 X F0 D0 F D b v most next th made cs t) (H : FH X D p ty cam obj (atL s) s.f) (hf : s.aok) (hcam : cam < 18446744073709551616) (hobj : obj < 18446744073709551616) (h1 : made < 1099511627776) (h2 : t.length < 1099511627776) (o : Out AtS) (ho : atO th most next cs cam obj s = o) :
    Calls Try.prog 85 #[.pointer (some ⟨p, 0, none⟩), .pointer (some ⟨v, 0, none⟩)] X fun e Y => e = .returned (.bool o.done) ∧ ∃ F' D', AS X0 Y F0 D0 F' D' b v most o.next th (made + 1) o.cs (t ++ o.acc) ∧ FH Y D' p ty cam obj (atL o.s) o.s.f := by
  obtain ⟨hf, hst, hhd⟩ := hf
  have hp := H.inD
  obtain ⟨l, hB, l6, l7⟩ := H.cell
  have l8 : l[8]? = some (.int .u8 (s.nx : Int)) := l7 1
  rcases hf with ⟨h0, hr⟩ | h0 | h0 | h0
  · have e : atO th most next cs cam obj s = _ := if_pos h0
    rw [e] at ho
    rw [h0] at l8
    obtain ⟨q, hq⟩ : ∃ q, fdO th most next cs cam obj s.f = q := ⟨_, rfl⟩
    rw [hq] at ho
    have T := as_find A H hr hcam hobj hst h1 h2 q hq
    subst ho
    cases hd : q.done
    · rw [hd] at T
      refine (at_findF hB l8 _ _ T (fun w hw => by obtain ⟨F', D', _, H'⟩ := hw; obtain ⟨l', B', _, l7'⟩ := H'.cell; exact ⟨l', B', by rw [l7' 1]; simp [atL, h0]⟩)).mono ?_
      rintro e Y ⟨rfl, F', D', A', H'⟩
      refine ⟨by simp [hd], F', D', A', ?_⟩
      simpa [atL, h0, hd] using H'
    · rw [hd] at T
      by_cases hz : q.s.head = 0
      · refine (at_head0 hB l8 _ _ T (fun w hw => by obtain ⟨F', D', _, H'⟩ := hw; obtain ⟨l', B', l6', l7'⟩ := H'.cell; exact ⟨l', B', by rw [l7' 1]; simp [atL, h0], by rw [l6', hz]; rfl⟩)).mono ?_
        rintro e Y ⟨rfl, w, ⟨F', D', A', H'⟩, rfl⟩
        refine ⟨by simp [hz, hd], F', D', (A'.setP H'.inD _).setP H'.inD _, ?_⟩
        simpa [atL, hz, hd] using (H'.set 1 (.int .u8 1)).set 1 (.int .u8 4)
      · refine (at_findT hB l8 _ _ hz T (fun w hw => by obtain ⟨F', D', _, H'⟩ := hw; obtain ⟨l', B', l6', l7'⟩ := H'.cell; exact ⟨l', B', by rw [l7' 1]; simp [atL, h0], l6'⟩)).mono ?_
        rintro e Y ⟨rfl, w, ⟨F', D', A', H'⟩, rfl⟩
        refine ⟨by simp [hz, hd], F', D', A'.setP H'.inD _, ?_⟩
        simpa [atL, hz, hd] using H'.set 1 (.int .u8 1)
  · have e : atO th most next cs cam obj s = _ := (if_neg (by omega)).trans (if_pos h0)
    rw [e] at ho
    subst ho
    rw [h0] at l8
    have H1 := H.set 1 (.int .u8 2)
    obtain ⟨clk, B0, C0, _⟩ := H
    have A1 : AS X0 (X.setCell ⟨p, 8, none⟩ (.int .u8 2)).drew F0 D0 F D b v most next th made cs t := (A.setP hp _).drew
    refine (at_stamp (st := s.stamp) (c := cellN cs (verS s.f.head)) B0 (by show some _ = _; simp [h0]) rfl rfl _ (fun w => ∃ F', AS X0 w F0 D0 F' D b v most next th (made + 1) cs (t ++ [ldA th cs (verS s.f.head)]) ∧ ∀ k, D k → w.heap[k]? = (X.setCell ⟨p, 8, none⟩ (.int .u8 2)).heap[k]?) (verS s.f.head) rfl (fun W1 e => by subst e; exact A1.load _ (verS_lt _) h1 h2) (fun w hw => by obtain ⟨F', _, hk⟩ := hw; exact (hk p hp).trans (B0.set 8 _))).mono ?_
    rintro e Y ⟨rfl, w, ⟨F', Aw, hk⟩, CY, B'⟩
    refine ⟨rfl, F', D, Aw.pchg hp CY, clk, ?_, C0.kept (fun _ e => e) (fun k hk' e => (CY.block k (Aw.dis k hk').2.2 e).trans ((hk k hk').trans (other_set _ e))), hp⟩
    by_cases hc : cellN cs (verS s.f.head) ≤ s.stamp
    · rw [if_pos hc] at B'
      simp only [atL, if_pos hc]
      exact B'
    · rw [if_neg hc] at B'
      simp only [atL, if_neg hc]
      exact B'
  · have e : atO th most next cs cam obj s = _ := ((if_neg (by omega)).trans (if_neg (by omega))).trans (if_pos h0)
    rw [e] at ho
    subst ho
    rw [h0] at l8
    obtain ⟨clk, B0, C0, _⟩ := H
    have b8 : (fndL cam s.f.ver s.f.pos clk obj s.f.fpos s.f.head (atL s))[8]? = some (.int .u8 2) := by show some _ = _; simp [h0]
    have hv : verO s.f.head < 18446744073709551616 := Nat.mod_lt _ (by omega)
    have LL := A.load (verO s.f.head) hv h1 h2
    by_cases hc : cellN cs (verO s.f.head) = 0
    · refine (at_older0 B0 b8 rfl _ (fun w => ∃ F', AS X0 w F0 D0 F' D b v most next th (made + 1) cs (t ++ [ldA th cs (verO s.f.head)]) ∧ ∀ k, D k → w.heap[k]? = X.heap[k]?) (verO s.f.head) rfl (LL.mono (fun e w z => by obtain ⟨rfl, z⟩ := z; exact ⟨by rw [hc]; rfl, z⟩)) (fun w hw => by obtain ⟨F', _, hk⟩ := hw; exact (hk p hp).trans B0)).mono ?_
      rintro e Y ⟨rfl, w, ⟨F', Aw, hk⟩, rfl⟩
      have Bw : Blk w p ty _ := (hk p hp).trans B0
      refine ⟨by simp [hc], F', D, ((Aw.setP hp _).setP hp _).setP hp _, clk, ?_, C0.kept (fun _ e => e) (fun k hk' e => (other_set _ e).trans ((other_set _ e).trans ((other_set _ e).trans (hk k hk')))), hp⟩
      simp only [atL, hc, if_true]
      exact ((Bw.set 6 _).set 8 _).set 8 _
    · refine (at_olderG hc B0 b8 rfl _ (fun w => ∃ F', AS X0 w F0 D0 F' D b v most next th (made + 1) cs (t ++ [ldA th cs (verO s.f.head)]) ∧ ∀ k, D k → w.heap[k]? = X.heap[k]?) (verO s.f.head) rfl LL (fun w hw => by obtain ⟨F', _, hk⟩ := hw; exact (hk p hp).trans B0)).mono ?_
      rintro e Y ⟨rfl, w, ⟨F', Aw, hk⟩, rfl⟩
      have Bw : Blk w p ty _ := (hk p hp).trans B0
      refine ⟨by simp [hc], F', D, (Aw.setP hp _).setP hp _, clk, ?_, C0.kept (fun _ e => e) (fun k hk' e => (other_set _ e).trans ((other_set _ e).trans (hk k hk'))), hp⟩
      simp only [atL, if_neg hc]
      exact (Bw.set 6 _).set 8 _
  · have e : atO th most next cs cam obj s = _ := ((if_neg (by omega)).trans (if_neg (by omega))).trans (if_neg (by omega))
    rw [e] at ho
    subst ho
    rw [h0] at l8
    refine (at_valueT hB l8 l6 ⟨_, l7 2⟩ _ (fun w => ∃ F', AS X0 w F0 D0 F' D b v most next th (made + 1) cs (t ++ [ldA th cs s.f.head]) ∧ ∀ k, D k → w.heap[k]? = X.heap[k]?) (A.load s.f.head hhd h1 h2) (fun w hw => by obtain ⟨F', _, hk⟩ := hw; exact (hk p hp).trans hB)).mono ?_
    rintro e Y ⟨rfl, w, ⟨F', Aw, hk⟩, rfl⟩
    refine ⟨rfl, F', D, (Aw.setP hp _).setP hp _, ?_⟩
    simpa [atL] using ((H.kept hk).set 2 (.int .u64 (cellN cs s.f.head : Int))).set 1 (.int .u8 4)
end
structure AtP where
  cam : Nat
  obj : Nat
  s : AtS
theorem atO_ok {th : Int} {most next : Nat} {cs : List Nat} {cam obj : Nat} {s : AtS} (hc : ∀ i, cellN cs i < 18446744073709551616) (h : s.aok) (hd : (atO th most next cs cam obj s).done = false) : (atO th most next cs cam obj s).s.aok := by
  obtain ⟨hf, hst, hhd⟩ := h
  unfold atO at hd ⊢
  by_cases h0 : s.nx = 0
  · simp only [if_pos h0] at hd ⊢
    obtain ⟨h1, h2, h3⟩ := fdO_ok (th := th) (most := most) (next := next) (cam := cam) (obj := obj) hc hst hhd
    refine ⟨?_, h2, h3⟩
    cases hq : (fdO th most next cs cam obj s.f).done
    · exact .inl ⟨by simp, h1 hq⟩
    · simp [hq] at hd
      exact .inr (.inl (by simp [hd]))
  · simp only [if_neg h0] at hd ⊢
    by_cases h1 : s.nx = 1
    · simp only [if_pos h1] at hd ⊢
      refine ⟨?_, hst, hhd⟩
      by_cases c : cellN cs (verS s.f.head) ≤ s.stamp
      · exact .inr (.inr (.inr (by simp [c])))
      · exact .inr (.inr (.inl (by simp [c])))
    · simp only [if_neg h1] at hd ⊢
      by_cases h2 : s.nx = 2
      · simp only [if_pos h2] at hd ⊢
        simp at hd
        exact ⟨.inr (.inl (by simp [hd])), hst, hc _⟩
      · simp [if_neg h2] at hd
theorem atO_few (th : Int) (most next : Nat) (cs : List Nat) (cam obj : Nat) (s : AtS) : (atO th most next cs cam obj s).acc.length ≤ 1 := by
  have hf : ∀ s, (fdO th most next cs cam obj s).acc.length ≤ 1 := fun s => by unfold fdO; split <;> simp
  unfold atO
  split
  · exact hf s.f
  · split
    · simp
    · split <;> simp
def atK : Kind AtP where
  H := fun X D pv s => ∃ p, pv = .iface 54 (.pointer (some ⟨p, 0, none⟩)) ∧ FH X D p 104 s.cam s.obj (atL s.s) s.s.f ∧ ∀ k, D k → k < X.heap.size
  ok := fun _ s => s.s.aok ∧ s.cam < 18446744073709551616 ∧ s.obj < 18446744073709551616
  okM := fun _ _ _ _ h => h
  stp := fun th most next cs s => (fun o : Out AtS => ⟨o.done, o.next, o.cs, o.acc, ⟨s.cam, s.obj, o.s⟩⟩) (atO th most next cs s.cam s.obj s.s)
  kept := fun {X Y D pv s} h hk => by
    obtain ⟨p, e, H, L⟩ := h
    exact ⟨p, e, H.kept hk, kept_lt L hk⟩
  lt := fun {X D pv s k} h hk => by
    obtain ⟨p, e, H, L⟩ := h
    exact L k hk
  few := fun th most next cs s => atO_few th most next cs s.cam s.obj s.s
  okS := fun _ th most next cs s h hc hm hd => ⟨atO_ok hc h.1 hd, h.2⟩
  step := fun _ X F D b v most next th made cs t pv s A h ok hn h1 h2 => by
    obtain ⟨p, rfl, H, L⟩ := h
    refine (as_so (made' := made + 1) (so_Gat p) A (fun Y D' => FH Y D' p 104 s.cam s.obj (atL (atO th most next cs s.cam s.obj s.s).s) (atO th most next cs s.cam s.obj s.s).s.f) (fun Y Y' D' h hk => h.kept hk) (fun X1 hX A1 => as_at A1 (H.kept hX) ok.1 ok.2.1 ok.2.2 (by omega) (by omega) _ rfl)).mono ?_
    rintro e Y ⟨rfl, F', D', A', H'⟩
    exact ⟨rfl, F', D', made + 1, A', Nat.le_refl _, p, rfl, H', fun k e => (A'.dis k e).2.2⟩

structure TkS where
  cell : Nat
  mx : Nat
  pos : Nat
  st : Nat
  err : Nat
  moved : Bool
def tkO (th : Int) (most next : Nat) (cs : List Nat) (s : TkS) : Out TkS :=
  if s.pos = 0 then ⟨decide (s.mx ≤ cellN cs s.cell), next, cs, [ldA th cs s.cell], ⟨s.cell, s.mx, if s.mx ≤ cellN cs s.cell then 2 else 1, cellN cs s.cell, if s.mx ≤ cellN cs s.cell then 31 else 0, false⟩⟩
  else ⟨true, next, casN most cs s.cell s.st (s.st + 1), [csA th most cs s.cell s.st (s.st + 1)], ⟨s.cell, s.mx, 2, s.st, 0, casOk most cs s.cell s.st⟩⟩
def TkS.tok (s : TkS) : Prop := (s.pos = 0 ∨ (s.pos = 1 ∧ s.st < s.mx)) ∧ s.err = 0 ∧ s.moved = false ∧ s.mx < 18446744073709551616 ∧ s.cell < 18446744073709551616
def TkH (X : World) (D : Nat → Prop) (p : Nat) (s : TkS) : Prop := D p ∧ IsTake X p s.cell s.mx s.pos s.st s.err s.moved
theorem as_take {X0 X : World} {F0 D0 F D : Nat → Prop} {b v most next : Nat} {th : Int} {made : Nat} {cs : List Nat} {t : List Acc} {p : Nat} {s : TkS} (A : AS X0 X F0 D0 F D b v most next th made cs t) (H : TkH X D p s) (hf : s.tok) (h1 : made < 1099511627776) (h2 : t.length < 1099511627776) (o : Out TkS) (ho : tkO th most next cs s = o) :
    Calls Try.prog 88 #[.pointer (some ⟨p, 0, none⟩), .pointer (some ⟨v, 0, none⟩)] X fun e Y => e = .returned (.bool o.done) ∧ ∃ F' D', AS X0 Y F0 D0 F' D' b v most o.next th (made + 1) o.cs (t ++ o.acc) ∧ TkH Y D' p o.s := by
  obtain ⟨hp, hT⟩ := H
  obtain ⟨hpos, he, hmv, hmx, hcl⟩ := hf
  rw [he, hmv] at hT
  obtain ⟨l, B, L⟩ := A.bank
  have hl : l.length = t.length := by rw [← L]; simp
  rcases hpos with h0 | ⟨h0, hlt⟩
  · have e : tkO th most next cs s = _ := if_pos h0
    rw [e] at ho
    subst ho
    rw [h0] at hT
    refine (t_load p v b most next made s.cell s.mx s.st th F cs l X hT A.view B A.nv (A.dis p hp).1 (A.dis p hp).2.1 h1 (by omega) hcl _ rfl).mono ?_
    rintro e Y ⟨rfl, T', F', vs, B', V', G⟩
    exact ⟨rfl, F', D, (A.goesP hp B' V' G (by simp [L, Acc.bare, ldA])).1, hp, T'⟩
  · have e : tkO th most next cs s = _ := if_neg (by omega)
    rw [e] at ho
    subst ho
    rw [h0] at hT
    refine (t_cas p v b most next made s.cell s.mx s.st th F cs l X hT A.view B A.nv (A.dis p hp).1 (A.dis p hp).2.1 h1 (by omega) hcl (by omega)).mono ?_
    rintro e Y ⟨rfl, T', F', vs, B', V', G⟩
    exact ⟨rfl, F', D, (A.goesP hp B' V' G (by simp [L, Acc.bare, csA])).1, hp, T'⟩
def takeK : Kind TkS where
  H := fun X D pv s => ∃ p, pv = .iface 55 (.pointer (some ⟨p, 0, none⟩)) ∧ TkH X D p s ∧ ∀ k, D k → k < X.heap.size
  ok := fun _ s => s.tok
  okM := fun _ _ _ _ h => h
  stp := tkO
  kept := fun {X Y D pv s} h hk => by
    obtain ⟨p, e, H, L⟩ := h
    exact ⟨p, e, ⟨H.1, (hk p H.1).trans H.2⟩, kept_lt L hk⟩
  lt := fun {X D pv s k} h hk => by
    obtain ⟨p, e, H, L⟩ := h
    exact L k hk
  few := fun th most next cs s => by unfold tkO; split <;> simp
  okS := fun _ th most next cs s h hc hm hd => by
    obtain ⟨hpos, he, hmv, hmx, hcl⟩ := h
    unfold tkO at hd ⊢
    by_cases h0 : s.pos = 0
    · simp only [if_pos h0] at hd ⊢
      simp at hd
      have c : ¬ s.mx ≤ cellN cs s.cell := by omega
      exact ⟨.inr ⟨by simp [c], hd⟩, by simp [c], rfl, hmx, hcl⟩
    · simp [if_neg h0] at hd
  step := fun _ X F D b v most next th made cs t pv s A h ok hn h1 h2 => by
    obtain ⟨p, rfl, H, L⟩ := h
    refine (as_so (made' := made + 1) (so_Gtake p) A (fun Y D' => TkH Y D' p (tkO th most next cs s).s) (fun Y Y' D' h hk => ⟨h.1, (hk p h.1).trans h.2⟩) (fun X1 hX A1 => as_take A1 ⟨H.1, (hX p H.1).trans H.2⟩ ok (by omega) (by omega) _ rfl)).mono ?_
    rintro e Y ⟨rfl, F', D', A', H'⟩
    exact ⟨rfl, F', D', made + 1, A', Nat.le_refl _, p, rfl, H', fun k e => (A'.dis k e).2.2⟩
end Go.Proofs.Ytadbgmcfjemkeaa
