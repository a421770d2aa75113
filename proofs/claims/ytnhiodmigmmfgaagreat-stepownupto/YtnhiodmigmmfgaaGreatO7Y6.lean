/- stepOf over a plan's proc. -/
import Derived.Test.YtnhiodmigmmfgaaGreatO6Yc
import Derived.Test.YtnhiodmigmmfgaaGreatO3SPick
namespace Go.Proofs.YtnhiodmigmmfgaaGreat
open Go.RowKit Go.Shelf
set_option linter.unusedVariables false

section
variable {X0 X : World} {F0 D0 F D : Nat → Prop} {b v most next : Nat} {th : Int} {made : Nat} {cs : List Nat} {t : List Acc}
theorem AS.base (A : AS X0 X F0 D0 F D b v most next th made cs t) : AS X X F D F D b v most next th made cs t := ⟨A.bank, A.view, A.nv, A.dis, Chg.refl _ _, fun _ e => .inl e, fun _ e => .inl e⟩
theorem AS.wrap {W1 : World} {o : Obj} {F' D' : Nat → Prop} {next' made' : Nat} {cs' : List Nat} {t' : List Acc} (A0 : AS X X F D F D b v most next th made cs t) (A : AS (X.alloc o) W1 F D F' D' b v most next' th made' cs' t') (u : Value) : AS X (W1.setCell ⟨X.heap.size, 0, none⟩ u) F D F' D' b v most next' th made' cs' t' ∧ ∀ k, D' k → (W1.setCell ⟨X.heap.size, 0, none⟩ u).heap[k]? = W1.heap[k]? := by
  obtain ⟨l, B, L⟩ := A.bank
  obtain ⟨l0, B0, _⟩ := A0.bank
  have sz : (X.alloc o).heap.size = X.heap.size + 1 := by simp
  have vl := lt_of A0.view
  have nF : ¬ F' X.heap.size := fun e => (A.newF _ e).elim (fun x => by have := B0.ltF _ x; omega) (fun x => by omega)
  have nD : ¬ D' X.heap.size := fun e => (A.newD _ e).elim (fun x => by have := (A0.dis _ x).2.2; omega) (fun x => by omega)
  have c : Chg (fun k => k = X.heap.size) W1 (W1.setCell ⟨X.heap.size, 0, none⟩ u) := (Chg.refl (fun k => k = X.heap.size) W1).setCell (p := ⟨X.heap.size, 0, none⟩) (fun _ => rfl) u
  refine ⟨⟨⟨l, B.chg c (fun k hk e => nF (e ▸ hk)), L⟩, A.view.chg c (by omega), A.nv, fun k hk => ⟨(A.dis k hk).1, (A.dis k hk).2.1, Nat.lt_of_lt_of_le (A.dis k hk).2.2 c.size⟩, (((Chg.refl (fun k => F k ∨ k = v ∨ D k) X).alloc o).trans A.chg (fun _ _ x => x) (fun _ _ x => x)).trans c (fun _ _ x => x) (fun i hi e => by omega), fun k e => (A.newF k e).elim .inl (fun x => .inr (by omega)), fun k e => (A.newD k e).elim .inl (fun x => .inr (by omega))⟩, fun k hk => Below.heap_setCell _ _ _ k (fun e => nD (by have e2 : k = X.heap.size := e; rw [← e2]; exact hk))⟩

def SoAt (st : Nat) (pv : Value) (p : Nat) : Prop := ∀ (v : Value) (d : Bool) (K : World → Prop) (W : World), (Calls Tryz.prog st #[.pointer (some ⟨p, 0, none⟩), v] (W.alloc (.cells #[.bool false] 4)) fun e W' => e = .returned (.bool d) ∧ K W' ∧ W'.heap[W.heap.size]? = (W.alloc (.cells #[.bool false] 4)).heap[W.heap.size]?) →
    Calls Tryz.prog 35 #[pv, v] W fun e W' => e = .returned (.bool d) ∧ ∃ W1, K W1 ∧ W' = W1.setCell ⟨W.heap.size, 0, none⟩ (.bool d)
theorem as_soY {st p : Nat} {pv : Value} {d : Bool} {next' : Nat} {cs' : List Nat} {t' : List Acc} (so : SoAt st pv p) (A : AS X X F D F D b v most next th made cs t) (Q : World → (Nat → Prop) → Nat → Prop) (keepQ : ∀ Y Y' D' m, Q Y D' m → (∀ k, D' k → Y'.heap[k]? = Y.heap[k]?) → Q Y' D' m)
    (step : ∀ X1, (∀ k, k < X.heap.size → X1.heap[k]? = X.heap[k]?) → X.heap.size ≤ X1.heap.size → AS X1 X1 F D F D b v most next th made cs t → Calls Tryz.prog st #[.pointer (some ⟨p, 0, none⟩), .pointer (some ⟨v, 0, none⟩)] X1 fun e Y => e = .returned (.bool d) ∧ ∃ F' D' made', AS X1 Y F D F' D' b v most next' th made' cs' t' ∧ Q Y D' made') :
    Calls Tryz.prog 35 #[pv, .pointer (some ⟨v, 0, none⟩)] X fun e Y => e = .returned (.bool d) ∧ ∃ F' D' made', AS X Y F D F' D' b v most next' th made' cs' t' ∧ Q Y D' made' := by
  have c : Chg (fun _ => False) X (X.alloc (.cells #[.bool false] 4)) := (Chg.refl _ _).alloc _
  have A1 := (A.own (D' := D) (c.mono (fun _ _ x => x.elim)) (fun k e => .inl e) (fun k e => Nat.lt_of_lt_of_le (A.dis k e).2.2 c.size)).base
  obtain ⟨l0, B0, _⟩ := A.bank
  have vl := lt_of A.view
  refine (so (.pointer (some ⟨v, 0, none⟩)) d (fun Y => ∃ F' D' made', AS (X.alloc (.cells #[.bool false] 4)) Y F D F' D' b v most next' th made' cs' t' ∧ Q Y D' made') X ?_).mono ?_
  · refine (step _ (fun k e => Below.heap_alloc _ _ _ e) c.size A1).mono ?_
    rintro e Y ⟨rfl, F', D', made', A', q⟩
    refine ⟨rfl, ⟨F', D', made', A', q⟩, A'.chg.block _ (by simp) (fun e => ?_)⟩
    rcases e with e | e | e
    · have := B0.ltF _ e; omega
    · omega
    · have := (A.dis _ e).2.2; omega
  · rintro e Y ⟨rfl, W1, ⟨F', D', made', A', q⟩, rfl⟩
    obtain ⟨A2, hk⟩ := A.wrap A' (.bool d)
    exact ⟨rfl, F', D', made', A2, keepQ _ _ _ _ q hk⟩
end
theorem mt_step_pl (a : Addr) (w : World) : (method 326 123 (.pointer (some a)) "Step").run Tryz.prog w = .ok (114, .pointer (some a)) w := by kernel_rfl
set_option maxRecDepth 100000 in
theorem so_pl (p : Nat) : SoAt 114 (.iface 123 (.pointer (some ⟨p, 0, none⟩))) p := by
  intro v d K W hK
  have hmf : ∀ (fn : Fn) (first cap : Array Value) (w : World), (Instr.makeFunc fn first cap).run Tryz.prog w = .ok (.func fn first cap) w := fun _ _ _ _ => rfl
  have hm := mt_step_pl ⟨p, 0, none⟩
  have HK := keepH hK
  clear hK
  go_enter_defers Tryz.func35, Tryz.ntmps35
  go_wp2_with fail
  refine HK.out.mono ?_
  rintro e W1 ⟨rfl, hR, hb0⟩
  have hb : W1.heap[W.heap.size]? = some (.cells #[.bool false] 4 (0, 0)) := hb0.trans (heap_alloc_new _ _)
  have c0 : W1.cell? ⟨W.heap.size, 0, none⟩ = some (.bool false) := cell_of hb 0
  have f0 := free_of hb 0
  have HR := keepH hR
  clear hR hb hb0
  go_wp2_with fail
  refine leaves_cons (f := 81) (args := #[.pointer (some ⟨W.heap.size, 0, none⟩)]) (by simp) (by simp [go_sem]) ?_
  refine (s_catch ⟨W.heap.size, 0, none⟩ _).mono ?_
  rintro e u' w'' ⟨rfl, rfl, rfl⟩
  have r0 := World.cell?_setCell_same' W1 ⟨W.heap.size, 0, none⟩ (.bool d) (by rw [c0]; rfl)
  simp [Leaves, settle, results, Tryz.results35, go_sem, r0]
  exact ⟨W1, HR.out, rfl⟩
set_option maxRecDepth 100000 in
set_option maxHeartbeats 4000000 in
theorem pl_e {X : World} {F D : Nat → Prop} {b v most next : Nat} {th : Int} {made : Nat} {cs : List Nat} {t : List Acc} (A : AS X X F D F D b v most next th made cs t) {pb ln lc at_ : Nat} {lp : Option Addr} {got : List Nat} (hP : PlAt X D pb lp ln lc at_ got) (hn : ln ≤ at_) :
    Calls Tryz.prog 114 #[.pointer (some ⟨pb, 0, none⟩), .pointer (some ⟨v, 0, none⟩)] X fun e Y => e = .returned (.bool true) ∧ ∃ F' D' made', AS X Y F D F' D' b v most next th made' cs t ∧ (made' ≤ made + 1 ∧ PlAt Y D' pb lp ln lc at_ got) := by
  obtain ⟨gv, hpb, hrow, hD⟩ := hP.ex
  have c0 : X.cell? ⟨pb, 0, none⟩ = some (.slice lp ln lc) := cell_of hpb 0
  have c1 : X.cell? ⟨pb, 1, none⟩ = some (.int .i64 (at_ : Int)) := cell_of hpb 1
  have t1 : ¬ (at_ : Int) < (ln : Int) := by omega
  have t2 : decide (at_ < ln) = false := decide_eq_false (by omega)
  have t3 : (ln : Int) ≤ (at_ : Int) := by omega
  have t4 : decide (ln ≤ at_) = true := decide_eq_true hn
  have HA := keepH A
  have HP := keepH hP
  clear A hP
  go_enter Tryz.func114, Tryz.ntmps114
  go_upto_region 1 with fail
  go_quiet (fail)
  obtain ⟨X1, hX1⟩ : ∃ X1, X1 = X.drewN nq := ⟨_, rfl⟩
  rw [← hX1]
  have d0 : X1.cell? ⟨pb, 0, none⟩ = some (.slice lp ln lc) := by rw [hX1]; exact c0
  have d1 : X1.cell? ⟨pb, 1, none⟩ = some (.int .i64 (at_ : Int)) := by rw [hX1]; exact c1
  have HA1 : Hid (AS X X1 F D F D b v most next th made cs t) := by rw [hX1]; exact HA.out.drewN _
  have HP1 : Hid (PlAt X1 D pb lp ln lc at_ got) := by rw [hX1]; exact HP.out.kept (fun k _ => rfl)
  clear hX1 c0 c1
  go_upto_region 19 with fail
  go_quiet (fail)
  (try go_wp2_with fail)
  go_ret
  exact ⟨by simp, F, D, made, HA1.out.drewN _, by omega, HP1.out.kept (fun k _ => rfl)⟩
def nxtM (most : Nat) (m : Mu) (o : Option DoP) : Mu := match o with
  | some d => mkM most m d
  | none => m
def nxtG (most : Nat) (m : Mu) (o : Option DoP) : List Nat := match o with
  | some d => mkG most m d
  | none => []
def nxtT (th : Int) (most : Nat) (m : Mu) (o : Option DoP) : List Acc := match o with
  | some d => mkT th most m d
  | none => []
def nxtA (a : Nat) (o : Option DoP) : Nat := match o with
  | some d => a + 1
  | none => a
theorem pl_any {X : World} {F D : Nat → Prop} {b v most next : Nat} {th : Int} {made : Nat} {cs : List Nat} {t : List Acc} (A : AS X X F D F D b v most next th made cs t) {B pb lc at_ : Nat} {lp : Option Addr} {L : List DoP} {got : List Nat} (hP : PlAt X D pb lp L.length lc at_ got) (hL : DosAt X B lp L) (hB : B ≤ X.heap.size) (hBD : ∀ k, D k → B ≤ k) (hBF : ∀ k, F k → B ≤ k) (hBv : B ≤ v) (hg : got.length ≤ 1099511627776) (h1 : made < 1099511627776) (h2 : t.length < 1099511627776) (hll : L.length ≤ 1099511627776) :
    Calls Tryz.prog 114 #[.pointer (some ⟨pb, 0, none⟩), .pointer (some ⟨v, 0, none⟩)] X fun e Y => e = .returned (.bool (decide (L.length ≤ at_ + 1))) ∧ ∃ F' D' made', AS X Y F D F' D' b v most (nxtM most ⟨next, cs⟩ L[at_]?).next th made' (nxtM most ⟨next, cs⟩ L[at_]?).cs (t ++ nxtT th most ⟨next, cs⟩ L[at_]?) ∧ (made' ≤ made + 1 ∧ PlAt Y D' pb lp L.length lc (nxtA at_ L[at_]?) (got ++ nxtG most ⟨next, cs⟩ L[at_]?)) := by
  cases hd : L[at_]? with
  | none =>
    have hn : L.length ≤ at_ := List.getElem?_eq_none_iff.1 hd
    simp only [nxtM, nxtG, nxtT, nxtA, List.append_nil]
    refine (pl_e A hP hn).mono ?_
    rintro e Y ⟨rfl, r⟩
    exact ⟨by rw [decide_eq_true (show L.length ≤ at_ + 1 by omega)], r⟩
  | some d =>
    simp only [nxtM, nxtG, nxtT, nxtA]
    cases hk : isA d with
    | false => exact pl_k0 A hP hL hB hBD hBF hBv hd hk hg h1 h2 hll
    | true =>
      have h15 : 1 ≤ d.kd ∧ d.kd ≤ 5 := by simpa [isA] using hk
      rcases (show d.kd = 1 ∨ d.kd = 2 ∨ d.kd = 3 ∨ d.kd = 4 ∨ d.kd = 5 by omega) with e | e | e | e | e
      · exact pl_k1 A hP hL hB hBD hBF hBv hd e hg h1 h2 hll
      · exact pl_k2 A hP hL hB hBD hBF hBv hd e hg h1 h2 hll
      · exact pl_k3 A hP hL hB hBD hBF hBv hd e hg h1 h2 hll
      · exact pl_k4 A hP hL hB hBD hBF hBv hd e hg h1 h2 hll
      · exact pl_k5 A hP hL hB hBD hBF hBv hd e hg h1 h2 hll
theorem pl_so {X : World} {F D : Nat → Prop} {b v most next : Nat} {th : Int} {made : Nat} {cs : List Nat} {t : List Acc} (A : AS X X F D F D b v most next th made cs t) {B pb lc at_ : Nat} {lp : Option Addr} {L : List DoP} {got : List Nat} (hP : PlAt X D pb lp L.length lc at_ got) (hL : DosAt X B lp L) (hB : B ≤ X.heap.size) (hBD : ∀ k, D k → B ≤ k) (hBF : ∀ k, F k → B ≤ k) (hBv : B ≤ v) (hg : got.length ≤ 1099511627776) (h1 : made < 1099511627776) (h2 : t.length < 1099511627776) (hll : L.length ≤ 1099511627776) :
    Calls Tryz.prog 35 #[.iface 123 (.pointer (some ⟨pb, 0, none⟩)), .pointer (some ⟨v, 0, none⟩)] X fun e Y => e = .returned (.bool (decide (L.length ≤ at_ + 1))) ∧ ∃ F' D' made', AS X Y F D F' D' b v most (nxtM most ⟨next, cs⟩ L[at_]?).next th made' (nxtM most ⟨next, cs⟩ L[at_]?).cs (t ++ nxtT th most ⟨next, cs⟩ L[at_]?) ∧ (made' ≤ made + 1 ∧ PlAt Y D' pb lp L.length lc (nxtA at_ L[at_]?) (got ++ nxtG most ⟨next, cs⟩ L[at_]?)) :=
  as_soY (so_pl pb) A (fun Y D' m => m ≤ made + 1 ∧ PlAt Y D' pb lp L.length lc (nxtA at_ L[at_]?) (got ++ nxtG most ⟨next, cs⟩ L[at_]?)) (fun Y Y' D' m h hk => ⟨h.1, h.2.kept hk⟩)
    (fun X1 hlo hs A1 => pl_any A1 (hP.kept (fun k e => hlo k (A.dis k e).2.2)) (hL.low (fun k hk => hlo k (by omega))) (by omega) hBD hBF hBv hg h1 h2 hll)
end Go.Proofs.YtnhiodmigmmfgaaGreat
/- Plans' procs as a kind, over a memory whose low part stays. -/
namespace Go.Proofs.YtnhiodmigmmfgaaGreat
open Go.RowKit Go.Shelf
set_option linter.unusedVariables false

/-- A kind of procs that lean on what lies below B and stays as it was in W0. -/
structure KindL (P : Type) (B : Nat) (W0 : World) where
  H : World → (Nat → Prop) → Value → P → Prop
  ok : Nat → P → Prop
  stp : Int → Nat → Nat → List Nat → P → Out P
  kept : ∀ {X Y : World} {D : Nat → Prop} {pv : Value} {s : P}, H X D pv s → (∀ k, D k → Y.heap[k]? = X.heap[k]?) → H Y D pv s
  lt : ∀ {X : World} {D : Nat → Prop} {pv : Value} {s : P} {k : Nat}, H X D pv s → D k → k < X.heap.size
  lo : ∀ {X : World} {D : Nat → Prop} {pv : Value} {s : P} {k : Nat}, H X D pv s → D k → B ≤ k
  few : ∀ th most next cs s, (stp th most next cs s).acc.length ≤ 1
  okM : ∀ n n' s, n ≤ n' → ok n s → ok n' s
  okS : ∀ n th most next cs s, ok n s → (∀ i, cellN cs i < 18446744073709551616) → most ≤ 4194304 → (stp th most next cs s).done = false → ok (n + 1) (stp th most next cs s).s
  step : ∀ (n : Nat) (X : World) (F D : Nat → Prop) (b v most next : Nat) (th : Int) (made : Nat) (cs : List Nat) (t : List Acc) (pv : Value) (s : P), AS X X F D F D b v most next th made cs t → H X D pv s → ok n s → n < 500000000000 → made < 549755813888 → t.length < 549755813888 → (∀ k, k < B → X.heap[k]? = W0.heap[k]?) → (∀ k, F k → B ≤ k) → B ≤ v → B ≤ X.heap.size →
    Calls Tryz.prog 35 #[pv, .pointer (some ⟨v, 0, none⟩)] X fun e Y => e = .returned (.bool (stp th most next cs s).done) ∧ ∃ F' D' made', AS X Y F D F' D' b v most (stp th most next cs s).next th made' (stp th most next cs s).cs (t ++ (stp th most next cs s).acc) ∧ made' ≤ made + 1 ∧ H Y D' pv (stp th most next cs s).s
/-- A plan's proc: the plan, where it lies, how far it is, what it was told. -/
structure PS where
  pl : PlP
  lp : Option Addr
  lc : Nat
  at_ : Nat
  got : List Nat
def psH (B : Nat) (X : World) (D : Nat → Prop) (pv : Value) (s : PS) : Prop := (∀ k, D k → B ≤ k) ∧ if s.pl.none = true then pv = .nilIface ∧ ∀ k, ¬ D k else ∃ pb, pv = .iface 123 (.pointer (some ⟨pb, 0, none⟩)) ∧ PlAt X D pb s.lp s.pl.L.length s.lc s.at_ s.got
def psOk (B : Nat) (W0 : World) (n : Nat) (s : PS) : Prop := DosAt W0 B s.lp s.pl.L ∧ s.pl.L.length ≤ 1048576 ∧ s.got.length ≤ n
def psS (th : Int) (most next : Nat) (cs : List Nat) (s : PS) : Out PS := if s.pl.none = true then ⟨true, next, cs, [], s⟩ else ⟨decide (s.pl.L.length ≤ s.at_ + 1), (nxtM most ⟨next, cs⟩ s.pl.L[s.at_]?).next, (nxtM most ⟨next, cs⟩ s.pl.L[s.at_]?).cs, nxtT th most ⟨next, cs⟩ s.pl.L[s.at_]?, ⟨s.pl, s.lp, s.lc, nxtA s.at_ s.pl.L[s.at_]?, s.got ++ nxtG most ⟨next, cs⟩ s.pl.L[s.at_]?⟩⟩
theorem nxtT_few (th : Int) (most : Nat) (m : Mu) (o : Option DoP) : (nxtT th most m o).length ≤ 1 := by
  unfold nxtT
  split
  · unfold mkT; split <;> simp
  · simp
theorem nxtG_few (most : Nat) (m : Mu) (o : Option DoP) : (nxtG most m o).length ≤ 1 := by
  unfold nxtG
  split
  · unfold mkG; split <;> simp
  · simp
theorem PlAt.lt {X : World} {D : Nat → Prop} {pb : Nat} {lp : Option Addr} {ln lc at_ : Nat} {got : List Nat} (h : PlAt X D pb lp ln lc at_ got) (k : Nat) (hk : D k) : k < X.heap.size := by
  obtain ⟨gv, h1, h2, h3⟩ := h.ex
  rcases (h3 k).1 hk with e | e
  · rw [e]; exact lt_of h1
  · exact row_lt h2 k e
def plK (B : Nat) (W0 : World) : KindL PS B W0 where
  H := psH B
  ok := psOk B W0
  stp := psS
  kept := fun {X Y D pv s} h hk => by
    unfold psH at h ⊢
    refine ⟨h.1, ?_⟩
    split
    · rename_i hn
      have := h.2
      rw [if_pos hn] at this
      exact this
    · rename_i hn
      have := h.2
      rw [if_neg hn] at this
      obtain ⟨pb, e, hp⟩ := this
      exact ⟨pb, e, hp.kept hk⟩
  lt := fun {X D pv s k} h hk => by
    unfold psH at h
    have := h.2
    split at this
    · exact absurd hk (this.2 k)
    · obtain ⟨pb, e, hp⟩ := this
      exact hp.lt k hk
  lo := fun {X D pv s k} h hk => h.1 k hk
  few := fun th most next cs s => by
    unfold psS
    split
    · simp
    · exact nxtT_few _ _ _ _
  okM := fun n n' s h ho => ⟨ho.1, ho.2.1, Nat.le_trans ho.2.2 h⟩
  okS := fun n th most next cs s ho _ _ _ => by
    obtain ⟨h1, h2, h3⟩ := ho
    unfold psS
    split
    · exact ⟨h1, h2, Nat.le_succ_of_le h3⟩
    · refine ⟨h1, h2, ?_⟩
      have := nxtG_few most ⟨next, cs⟩ s.pl.L[s.at_]?
      simp only [List.length_append]
      omega
  step := fun n X F D b v most next th made cs t pv s A hH ho hn h1 h2 hlow hF hv hB => by
    obtain ⟨o1, o2, o3⟩ := ho
    unfold psH at hH
    obtain ⟨hD, hH⟩ := hH
    by_cases hnn : s.pl.none = true
    · rw [if_pos hnn] at hH
      obtain ⟨rfl, hD0⟩ := hH
      refine (s_stepOf_nil _ X).mono ?_
      rintro e Y ⟨rfl, c⟩
      unfold psS
      simp only [if_pos hnn]
      refine ⟨trivial, F, D, made, ?_, by omega, ?_⟩
      · rw [List.append_nil]
        exact A.put (c.mono (fun _ _ x => x.elim))
      · unfold psH
        rw [if_pos hnn]
        exact ⟨hD, rfl, hD0⟩
    · rw [if_neg hnn] at hH
      obtain ⟨pb, rfl, hp⟩ := hH
      refine (pl_so A hp (o1.low (fun k hk => hlow k hk)) hB hD hF hv (by omega) (by omega) (by omega) (by omega)).mono ?_
      rintro e Y ⟨rfl, F', D', made', A', hm, hp'⟩
      unfold psS
      simp only [if_neg hnn]
      refine ⟨trivial, F', D', made', A', hm, ?_⟩
      unfold psH
      simp only [if_neg hnn]
      exact ⟨fun k e => (A'.newD k e).elim (hD k) (fun q => by omega), pb, rfl, hp'⟩
end Go.Proofs.YtnhiodmigmmfgaaGreat
/- Runs of procs that lean on what lies low: all of them, on one memory; a pick, with its events. -/
namespace Go.Proofs.YtnhiodmigmmfgaaGreat
open Go.RowKit Go.Shelf
set_option linter.unusedVariables false

def updN {α : Type} (f : Nat → α) (i : Nat) (x : α) : Nat → α := fun j => if j = i then x else f j
theorem updN_same {α : Type} (f : Nat → α) (i : Nat) (x : α) : updN f i x i = x := if_pos rfl
theorem updN_other {α : Type} (f : Nat → α) (i j : Nat) (x : α) (h : j ≠ i) : updN f i x j = f j := if_neg h
/-- What runs: the cells that were handed out, the cells, the trace, each thread's call, each call's proc. -/
structure Cfg (P : Type) where
  next : Nat
  cs : List Nat
  t : List Acc
  ix : Nat → Nat
  σ : Nat → Nat → P
  st : Nat
  bg : Nat → Bool
  evs : List Ev
  ats : List Int
section
variable {P : Type} {Lo : Nat} {W0 : World} (κ : KindL P Lo W0) (most T : Nat) (cl : Nat → Nat)
def Cfg.out (c : Cfg P) (i : Nat) : Out P := κ.stp (i : Int) most c.next c.cs (c.σ i (c.ix i))
def evsOf (c : Cfg P) (i : Nat) (d : Bool) : List Ev := (if c.bg i = true then c.evs else c.evs ++ [⟨(c.st : Int), (i : Int), (c.ix i : Int), false⟩]) ++ (if d = true then [⟨(c.st : Int), (i : Int), (c.ix i : Int), true⟩] else [])
def Cfg.go (c : Cfg P) (i : Nat) : Cfg P := ⟨(c.out κ most i).next, (c.out κ most i).cs, c.t ++ (c.out κ most i).acc, updN c.ix i (if (c.out κ most i).done then c.ix i + 1 else c.ix i), updN c.σ i (updN (c.σ i) (c.ix i) (c.out κ most i).s), c.st, updN c.bg i (!(c.out κ most i).done), evsOf c i (c.out κ most i).done, extN (extN c.ats c.t.length (-1)) (c.t ++ (c.out κ most i).acc).length (c.st : Int)⟩
def Cfg.tick (c : Cfg P) : Cfg P := { c with st := c.st + 1 }
def Cfg.can (c : Cfg P) (th : Int) : Prop := 0 ≤ th ∧ th < (T : Int) ∧ c.ix th.toNat < cl th.toNat
instance (c : Cfg P) (th : Int) : Decidable (Cfg.can T cl c th) := by unfold Cfg.can; exact inferInstance
def Cfg.pick (c : Cfg P) (th : Int) : Cfg P := if Cfg.can T cl c th then (c.go κ most th.toNat).tick else c.tick
def Cfg.run (c : Cfg P) (picks : List Int) : Cfg P := picks.foldl (fun c th => c.pick κ most T cl th) c
end
inductive Tag where
  | none : Tag
  | mem : Tag
  | main : Tag
  | view : Nat → Tag
  | proc : Nat → Nat → Tag
/-- The memory, its views and all procs, with what they have of their own. -/
structure MAt {P : Type} {Lo : Nat} {W0 : World} (κ : KindL P Lo W0) (most m b T : Nat) (cl : Nat → Nat) (vb : Nat → Nat) (pv : Nat → Nat → Value) (n : Nat) (c : Cfg P) (X : World) (K F : Nat → Prop) (D : Nat → Nat → Nat → Prop) (md : Nat → Nat) (tg : Nat → Tag) : Prop where
  bank : ∃ l, Bank X F b most c.next c.cs l ∧ l.map Acc.bare = c.t
  mem : IsMem X m b
  views : ∀ i, i < T → IsView X (vb i) b (i : Int) (md i) ∧ md i ≤ n
  procs : ∀ i j, i < T → j < cl i → κ.H X (D i j) (pv i j) (c.σ i j)
  oks : ∀ i j, i < T → j < cl i → c.ix i ≤ j → κ.ok n (c.σ i j)
  inF : ∀ k, F k → K k ∧ tg k = .mem
  inM : K m ∧ tg m = .main
  inV : ∀ i, i < T → K (vb i) ∧ tg (vb i) = .view i
  inD : ∀ i j k, i < T → j < cl i → D i j k → K k ∧ tg k = .proc i j
  lt : ∀ k, K k → k < X.heap.size
  tn : c.t.length ≤ n + 16000000
  mo : most ≤ 4194304
  lowK : ∀ k, k < Lo → K k
  low : ∀ k, k < Lo → X.heap[k]? = W0.heap[k]?
  hi : (∀ k, F k → Lo ≤ k) ∧ Lo ≤ m ∧ ∀ i, i < T → Lo ≤ vb i
def MA {P : Type} {Lo : Nat} {W0 : World} (κ : KindL P Lo W0) (most m b T : Nat) (cl : Nat → Nat) (vb : Nat → Nat) (pv : Nat → Nat → Value) (n : Nat) (c : Cfg P) (X : World) (K : Nat → Prop) : Prop := ∃ F D md tg, MAt κ most m b T cl vb pv n c X K F D md tg
section
variable {P : Type} {Lo : Nat} {W0 : World} {κ : KindL P Lo W0} {most m b T : Nat} {cl : Nat → Nat} {vb : Nat → Nat} {pv : Nat → Nat → Value} {n : Nat} {c : Cfg P} {X : World} {K : Nat → Prop}
theorem MA.keep {Y : World} (h : MA κ most m b T cl vb pv n c X K) (hs : X.heap.size ≤ Y.heap.size) (hk : ∀ k, K k → Y.heap[k]? = X.heap[k]?) : MA κ most m b T cl vb pv n c Y K := by
  obtain ⟨F, D, md, tg, h⟩ := h
  obtain ⟨l, B, L⟩ := h.bank
  exact ⟨F, D, md, tg, ⟨l, B.kept hs (fun k e => hk k (h.inF k e).1), L⟩, (hk m h.inM.1).trans h.mem, fun i hi => ⟨(hk _ (h.inV i hi).1).trans (h.views i hi).1, (h.views i hi).2⟩, fun i j hi hj => κ.kept (h.procs i j hi hj) (fun k e => hk k (h.inD i j k hi hj e).1), h.oks, h.inF, h.inM, h.inV, h.inD, fun k e => Nat.lt_of_lt_of_le (h.lt k e) hs, h.tn, h.mo, h.lowK, fun k e => (hk k (h.lowK k e)).trans (h.low k e), h.hi⟩
theorem MA.ltK (h : MA κ most m b T cl vb pv n c X K) (k : Nat) (hk : K k) : k < X.heap.size := by
  obtain ⟨F, D, md, tg, h⟩ := h
  exact h.lt k hk
theorem MA.memK (h : MA κ most m b T cl vb pv n c X K) : ∃ b F most next cs l, IsMem X m b ∧ Bank X F b most next cs l ∧ l.length = c.t.length ∧ (∀ k, F k → K k) ∧ K m := by
  obtain ⟨F, D, md, tg, h⟩ := h
  obtain ⟨l, B, L⟩ := h.bank
  exact ⟨b, F, most, _, _, l, h.mem, B, by rw [← L]; simp, fun k e => (h.inF k e).1, h.inM.1⟩
theorem MA.more (h : MA κ most m b T cl vb pv n c X K) {n' : Nat} (hn : n ≤ n') : MA κ most m b T cl vb pv n' c X K := by
  obtain ⟨F, D, md, tg, h⟩ := h
  exact ⟨F, D, md, tg, { h with views := fun i hi => ⟨(h.views i hi).1, Nat.le_trans (h.views i hi).2 hn⟩, tn := by have := h.tn; omega, oks := fun i j hi hj hle => κ.okM n n' _ hn (h.oks i j hi hj hle) }⟩
/-- A step of a thread's call. -/
theorem MA.step (h : MA κ most m b T cl vb pv n c X K) (i : Nat) (hi : i < T) (hj : c.ix i < cl i) (hn : n < 500000000) :
    Calls Tryz.prog 35 #[pv i (c.ix i), .pointer (some ⟨vb i, 0, none⟩)] X fun e Y => e = .returned (.bool (c.out κ most i).done) ∧ ∃ K', MA κ most m b T cl vb pv (n + 1) (c.go κ most i) Y K' ∧ Goes X Y K K' := by
  obtain ⟨F, D, md, tg, h⟩ := h
  obtain ⟨l, B, L⟩ := h.bank
  obtain ⟨V, hmd⟩ := h.views i hi
  have hp := h.procs i (c.ix i) hi hj
  have tn := h.tn
  have tV := (h.inV i hi).2
  have nF : ∀ k, tg k ≠ .mem → ¬ F k := fun k e x => e (h.inF k x).2
  have A0 : AS X X F (D i (c.ix i)) F (D i (c.ix i)) b (vb i) most c.next (i : Int) (md i) c.cs c.t := by
    refine ⟨⟨l, B, L⟩, V, nF _ (by rw [tV]; simp), fun k e => ?_, Chg.refl _ _, fun _ e => .inl e, fun _ e => .inl e⟩
    have tk := (h.inD i _ k hi hj e).2
    exact ⟨nF k (by rw [tk]; simp), fun x => by rw [x, tV] at tk; simp at tk, κ.lt hp e⟩
  have hLo : Lo ≤ X.heap.size := by
    rcases Nat.eq_zero_or_pos Lo with e | e
    · omega
    · have := h.lt (Lo - 1) (h.lowK (Lo - 1) (by omega)); omega
  refine (κ.step n X F (D i (c.ix i)) b (vb i) most c.next (i : Int) (md i) c.cs c.t (pv i (c.ix i)) (c.σ i (c.ix i)) A0 hp (h.oks i _ hi hj (Nat.le_refl _)) (by omega) (by omega) (by omega) h.low h.hi.1 (h.hi.2.2 i hi) hLo).mono ?_
  rintro e Y ⟨rfl, F', D', md', A, hmd', hH⟩
  have sz := A.chg.size
  have old : ∀ k, K k → tg k ≠ .mem → tg k ≠ .view i → tg k ≠ .proc i (c.ix i) → Y.heap[k]? = X.heap[k]? := fun k hk h1 h2 h3 => A.chg.block k (h.lt k hk) (fun x => by
    rcases x with x | x | x
    · exact h1 (h.inF k x).2
    · rw [x] at h2; exact h2 tV
    · exact h3 (h.inD i _ k hi hj x).2)
  obtain ⟨l', B', L'⟩ := A.bank
  refine ⟨rfl, fun k => k < Y.heap.size ∧ (K k ∨ X.heap.size ≤ k), ⟨F', updN D i (updN (D i) (c.ix i) D'), updN md i md', fun k => open Classical in if k < X.heap.size then tg k else if F' k then .mem else .proc i (c.ix i), ?_⟩, ⟨A.chg.mono (fun k hk x => ?_), fun k e => e.2⟩⟩
  · refine ⟨⟨l', B', L'⟩, (old m h.inM.1 (by rw [h.inM.2]; simp) (by rw [h.inM.2]; simp) (by rw [h.inM.2]; simp)).trans h.mem, fun j hj2 => ?_, fun j q hj2 hq => ?_, fun j q hj2 hq hle => ?_, fun k e => ?_, ⟨⟨Nat.lt_of_lt_of_le (h.lt m h.inM.1) sz, .inl h.inM.1⟩, by simp only [if_pos (h.lt m h.inM.1)]; exact h.inM.2⟩, fun j hj2 => ⟨⟨Nat.lt_of_lt_of_le (h.lt _ (h.inV j hj2).1) sz, .inl (h.inV j hj2).1⟩, by simp only [if_pos (h.lt _ (h.inV j hj2).1)]; exact (h.inV j hj2).2⟩, fun j q k hj2 hq e => ?_, fun k e => e.1, ?_, h.mo, fun k e => ⟨by omega, .inl (h.lowK k e)⟩, fun k e => (A.chg.block k (by omega) (fun x => by
      rcases x with x | x | x
      · have := h.hi.1 k x; omega
      · have := h.hi.2.2 i hi; omega
      · have := κ.lo hp x; omega)).trans (h.low k e), ⟨fun k e => (A.newF k e).elim (h.hi.1 k) (fun q => by omega), h.hi.2⟩⟩
    · by_cases e : j = i
      · subst e
        rw [updN_same]
        exact ⟨A.view, by omega⟩
      · rw [updN_other _ _ _ _ e]
        have tj := (h.inV j hj2).2
        exact ⟨(old _ (h.inV j hj2).1 (by rw [tj]; simp) (by rw [tj]; simp; exact e) (by rw [tj]; simp)).trans (h.views j hj2).1, by have := (h.views j hj2).2; omega⟩
    · show κ.H Y (updN D i (updN (D i) (c.ix i) D') j q) (pv j q) (updN c.σ i (updN (c.σ i) (c.ix i) (c.out κ most i).s) j q)
      by_cases e : j = i
      · subst e
        rw [updN_same, updN_same]
        by_cases e2 : q = c.ix j
        · subst e2
          rw [updN_same, updN_same]
          exact hH
        · rw [updN_other _ _ _ _ e2, updN_other _ _ _ _ e2]
          exact κ.kept (h.procs j q hj2 hq) (fun k hk => by
            have tk := (h.inD j q k hj2 hq hk)
            exact old k tk.1 (by rw [tk.2]; simp) (by rw [tk.2]; simp) (by rw [tk.2]; simp; exact e2))
      · rw [updN_other _ _ _ _ e, updN_other _ _ _ _ e]
        exact κ.kept (h.procs j q hj2 hq) (fun k hk => by
          have tk := (h.inD j q k hj2 hq hk)
          exact old k tk.1 (by rw [tk.2]; simp) (by rw [tk.2]; simp) (by rw [tk.2]; simp; exact fun z => absurd z e))
    · show κ.ok (n + 1) (updN c.σ i (updN (c.σ i) (c.ix i) (c.out κ most i).s) j q)
      have hle' : updN c.ix i (if (c.out κ most i).done then c.ix i + 1 else c.ix i) j ≤ q := hle
      by_cases e : j = i
      · subst e
        rw [updN_same] at hle' ⊢
        by_cases e2 : q = c.ix j
        · subst e2
          rw [updN_same]
          exact κ.okS n _ _ _ _ _ (h.oks j _ hj2 hq (Nat.le_refl _)) B.cells h.mo (by
            have hle2 : (if (c.out κ most j).done then c.ix j + 1 else c.ix j) ≤ c.ix j := hle'
            cases hd : (c.out κ most j).done
            · exact hd
            · rw [hd] at hle2; simp at hle2; omega)
        · rw [updN_other _ _ _ _ e2]
          exact κ.okM n (n + 1) _ (Nat.le_succ n) (h.oks j q hj2 hq (by split at hle' <;> omega))
      · rw [updN_other _ _ _ _ e] at hle' ⊢
        exact κ.okM n (n + 1) _ (Nat.le_succ n) (h.oks j q hj2 hq hle')
    · refine ⟨⟨B'.ltF k e, (A.newF k e).elim (fun x => .inl (h.inF k x).1) .inr⟩, ?_⟩
      by_cases lt : k < X.heap.size
      · simp only [if_pos lt]
        rcases A.newF k e with x | x
        · exact (h.inF k x).2
        · omega
      · simp only [if_neg lt, if_pos e]
    · have e' : updN D i (updN (D i) (c.ix i) D') j q k := e
      by_cases ej : j = i
      · subst ej
        rw [updN_same] at e'
        by_cases e2 : q = c.ix j
        · subst e2
          rw [updN_same] at e'
          have dd := A.dis k e'
          refine ⟨⟨dd.2.2, (A.newD k e').elim (fun x => .inl (h.inD j _ k hj2 hq x).1) .inr⟩, ?_⟩
          by_cases lt : k < X.heap.size
          · simp only [if_pos lt]
            rcases A.newD k e' with x | x
            · exact (h.inD j _ k hj2 hq x).2
            · omega
          · simp only [if_neg lt, if_neg dd.1]
        · rw [updN_other _ _ _ _ e2] at e'
          have z := h.inD j q k hj2 hq e'
          exact ⟨⟨Nat.lt_of_lt_of_le (h.lt k z.1) sz, .inl z.1⟩, by simp only [if_pos (h.lt k z.1)]; exact z.2⟩
      · rw [updN_other _ _ _ _ ej] at e'
        have z := h.inD j q k hj2 hq e'
        exact ⟨⟨Nat.lt_of_lt_of_le (h.lt k z.1) sz, .inl z.1⟩, by simp only [if_pos (h.lt k z.1)]; exact z.2⟩
    · have fw := κ.few (i : Int) most c.next c.cs (c.σ i (c.ix i))
      show (c.t ++ (c.out κ most i).acc).length ≤ n + 1 + 16000000
      rw [List.length_append]
      have fw' : (c.out κ most i).acc.length ≤ 1 := fw
      omega
  · rcases x with x | x | x
    · exact (h.inF k x).1
    · rw [x]; exact (h.inV i hi).1
    · exact (h.inD i _ k hi hj x).1
end
end Go.Proofs.YtnhiodmigmmfgaaGreat
/- The events of any run are a history, in plain words. -/
namespace Go.Proofs.YtnhiodmigmmfgaaGreat
open Go.RowKit Go.Shelf
set_option linter.unusedVariables false

/-- How many calls of a thread there are; is its last one open? -/
def evC (l : List Ev) (t : Int) : Nat := (l.filter (fun e => decide (e.th = t) && !e.ret)).length
def evO (l : List Ev) (t : Int) : Bool := l.foldl (fun o e => if e.th = t then !e.ret else o) false
theorem evC_snoc (l : List Ev) (e : Ev) (t : Int) : evC (l ++ [e]) t = evC l t + (if e.th = t ∧ e.ret = false then 1 else 0) := by
  unfold evC
  rw [List.filter_append, List.length_append]
  congr 1
  by_cases h1 : e.th = t
  · cases h2 : e.ret <;> simp [h1, h2]
  · simp [h1]
theorem evO_snoc (l : List Ev) (e : Ev) (t : Int) : evO (l ++ [e]) t = if e.th = t then !e.ret else evO l t := by
  unfold evO
  rw [List.foldl_append]
  rfl
/-- The event e lies rightly behind the events l. -/
structure EvOk (l : List Ev) (e : Ev) : Prop where
  st : 0 ≤ e.st
  ret : e.ret = evO l e.th
  ix : e.ix = if evO l e.th = true then (evC l e.th : Int) - 1 else (evC l e.th : Int)
  prev : ∀ p, l.getLast? = some p → p.st ≤ e.st ∧ (p.st = e.st → e.ret = true ∧ p.ret = false ∧ p.th = e.th)
def HistOk (l : List Ev) : Prop := ∀ i e, l[i]? = some e → EvOk (l.take i) e
theorem HistOk.snoc {l : List Ev} {e : Ev} (h : HistOk l) (he : EvOk l e) : HistOk (l ++ [e]) := by
  intro i x hx
  by_cases hi : i < l.length
  · rw [List.getElem?_append_left hi] at hx
    rw [List.take_append_of_le_length (by omega)]
    exact h i x hx
  · have hl := (List.getElem?_eq_some_iff.1 hx).1
    simp at hl
    obtain rfl : i = l.length := by omega
    simp at hx
    subst hx
    rw [List.take_left']
    · exact he
    · rfl
structure HInv {P : Type} (c : Cfg P) : Prop where
  ok : HistOk c.evs
  cnt : ∀ t : Nat, evC c.evs (t : Int) = c.ix t + (if c.bg t = true then 1 else 0)
  opn : ∀ t : Nat, evO c.evs (t : Int) = c.bg t
  lt : ∀ e ∈ c.evs, e.st < (c.st : Int)
section
variable {P : Type} {Lo : Nat} {W0 : World} {κ : KindL P Lo W0} {most T : Nat} {cl : Nat → Nat} {c : Cfg P}
theorem last_mem {l : List Ev} {p : Ev} (h : l.getLast? = some p) : p ∈ l := List.mem_of_getLast? h
theorem HInv.go (h : HInv c) (i : Nat) : HInv (c.go κ most i).tick := by
  obtain ⟨d, hd⟩ : ∃ d, d = (c.out κ most i).done := ⟨_, rfl⟩
  obtain ⟨e1, he1⟩ : ∃ e1, e1 = (if c.bg i = true then c.evs else c.evs ++ [⟨(c.st : Int), (i : Int), (c.ix i : Int), false⟩]) := ⟨_, rfl⟩
  have key : HistOk e1 ∧ (∀ t : Nat, evC e1 (t : Int) = if t = i then c.ix i + 1 else c.ix t + (if c.bg t = true then 1 else 0)) ∧ (∀ t : Nat, evO e1 (t : Int) = if t = i then true else c.bg t) ∧ (∀ e ∈ e1, e.st ≤ (c.st : Int)) ∧ ∀ p, e1.getLast? = some p → p.st = (c.st : Int) → p.ret = false ∧ p.th = (i : Int) := by
    cases hb : c.bg i with
    | true =>
      rw [hb] at he1
      simp only [if_true] at he1
      subst he1
      refine ⟨h.ok, fun t => ?_, fun t => ?_, fun e he => by have := h.lt e he; omega, fun p hp e => by have := h.lt p (last_mem hp); omega⟩
      · rw [h.cnt t]
        by_cases e : t = i
        · subst e; rw [hb]; simp
        · rw [if_neg e]
      · rw [h.opn t]
        split
        · rename_i e; subst e; exact hb
        · rfl
    | false =>
      rw [hb] at he1
      simp only [Bool.false_eq_true, if_false] at he1
      subst he1
      refine ⟨h.ok.snoc ⟨by simp only; omega, by simp only; rw [h.opn i, hb], ?_, fun p hp => ?_⟩, fun t => ?_, fun t => ?_, fun e he => ?_, fun p hp _ => ?_⟩
      · simp only
        rw [h.opn i, hb, h.cnt i, hb]
        simp
      · have := h.lt p (last_mem hp)
        exact ⟨by simp only; omega, fun e => by simp only at e; omega⟩
      · rw [evC_snoc, h.cnt t]
        by_cases e : t = i
        · subst e; simp [hb]
        · rw [if_neg e]
          have : ¬ ((i : Int) = (t : Int) ∧ false = false) := fun z => e (by omega)
          simp only at this ⊢
          rw [if_neg this]
          rfl
      · rw [evO_snoc, h.opn t]
        by_cases e : t = i
        · subst e; simp
        · rw [if_neg e, if_neg (show ¬ (i : Int) = (t : Int) from fun z => e (by omega))]
      · rcases List.mem_append.1 he with q | q
        · have := h.lt e q; omega
        · simp at q; subst q; simp
      · rw [List.getLast?_append] at hp
        simp at hp
        subst hp
        exact ⟨rfl, rfl⟩
  obtain ⟨k1, k2, k3, k4, k5⟩ := key
  have hev : (c.go κ most i).tick.evs = e1 ++ (if d = true then [⟨(c.st : Int), (i : Int), (c.ix i : Int), true⟩] else []) := by
    show evsOf c i (c.out κ most i).done = _
    unfold evsOf
    rw [he1, hd]
  have hix : ∀ t, (c.go κ most i).tick.ix t = if t = i then (if d = true then c.ix i + 1 else c.ix i) else c.ix t := fun t => by
    show updN c.ix i _ t = _
    unfold updN
    rw [hd]
  have hbg : ∀ t, (c.go κ most i).tick.bg t = if t = i then !d else c.bg t := fun t => by
    show updN c.bg i _ t = _
    unfold updN
    rw [hd]
  have hst : (c.go κ most i).tick.st = c.st + 1 := rfl
  cases d with
  | true =>
    simp only [if_true] at hev hix
    have hok : HistOk (e1 ++ [⟨(c.st : Int), (i : Int), (c.ix i : Int), true⟩]) := by
      refine k1.snoc ⟨by simp only; omega, by simp only; rw [k3 i]; simp, ?_, fun p hp => ?_⟩
      · simp only
        rw [k3 i, k2 i]
        simp
      · have a1 := k4 p (last_mem hp)
        exact ⟨a1, fun e => ⟨rfl, k5 p hp e⟩⟩
    refine ⟨by rw [hev]; exact hok, fun t => ?_, fun t => ?_, fun e he => ?_⟩
    · rw [hev, evC_snoc, k2 t, hix t, hbg t]
      by_cases e : t = i
      · subst e; simp
      · simp [e]
    · rw [hev, evO_snoc, k3 t, hbg t]
      by_cases e : t = i
      · subst e; simp
      · rw [if_neg e, if_neg e, if_neg (show ¬ (i : Int) = (t : Int) from fun z => e (by omega))]
    · rw [hev] at he
      rw [hst]
      rcases List.mem_append.1 he with q | q
      · have := k4 e q; omega
      · simp at q; subst q; simp only; omega
  | false =>
    simp only [Bool.false_eq_true, if_false, List.append_nil] at hev hix
    refine ⟨by rw [hev]; exact k1, fun t => ?_, fun t => ?_, fun e he => ?_⟩
    · rw [hev, k2 t, hix t, hbg t]
      by_cases e : t = i
      · subst e; simp
      · simp [e]
    · rw [hev, k3 t, hbg t]
      rfl
    · rw [hev] at he
      rw [hst]
      have := k4 e he; omega
theorem HInv.tick (h : HInv c) : HInv c.tick := ⟨h.ok, h.cnt, h.opn, fun e he => by have := h.lt e he; show e.st < ((c.st + 1 : Nat) : Int); omega⟩
theorem HInv.pick (h : HInv c) (th : Int) : HInv (c.pick κ most T cl th) := by
  unfold Cfg.pick
  split
  · exact h.go _
  · exact h.tick
theorem HInv.run (h : HInv c) (l : List Int) : HInv (c.run κ most T cl l) := by
  unfold Cfg.run
  induction l generalizing c with
  | nil => exact h
  | cons th r ih => exact ih (h.pick th)
end
end Go.Proofs.YtnhiodmigmmfgaaGreat
