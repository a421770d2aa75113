/- stepOf over a plan's proc. -/
import Derived.Test.YtnhiodmigmmfgaaQ6Yc
import Derived.Test.YtnhiodmigmmfgaaQ3SPickIn
import Derived.Test.YtnhiodmigmmfgaaQ4Ya
namespace Go.Proofs.Ytnhiodmigmmfgaa
open Go.RowKit Go.Shelf
set_option linter.unusedVariables false

section
variable {X0 X : World} {F0 D0 F D : Nat → Prop} {b v most next : Nat} {th : Int} {made : Nat} {cs : List Nat} {t : List Acc}
theorem AS.base (A : AS X0 X F0 D0 F D b v most next th made cs t) : AS X X F D F D b v most next th made cs t := ⟨A.bank, A.view, A.nv, A.dis, Chg.refl _ _, fun _ e => .inl e, fun _ e => .inl e⟩
theorem AS.wrap {W1 : World} {o : Obj} {F' D' : Nat → Prop} {next' made' : Nat} {cs' : List Nat} {t' : List Acc} (A0 : AS X X F D F D b v most next th made cs t) (A : AS (X.alloc o) W1 F D F' D' b v most next' th made' cs' t') (u : Value) : AS X (W1.setCell ⟨X.heap.size, 0, none⟩ u) F D F' D' b v most next' th made' cs' t' ∧ ∀ k, D' k → (W1.setCell ⟨X.heap.size, 0, none⟩ u).heap[k]? = W1.heap[k]? := by
  obtain ⟨l, B, L⟩ := A.bank
  obtain ⟨l0, B0, _⟩ := A0.bank
  have sz : (X.alloc o).heap.size = X.heap.size + 1 := by simp
  have vl := lt_of A0.view
  have nF : ¬ F' X.heap.size := fun e => (A.newF _ e).elim (fun x => by have := B0.ltF _ x; omega) (fun x => by omega)
  have nD : ¬ D' X.heap.size := fun e => (A.newD _ e).elim (fun x => by have := (A0.dis _ x).2.2; omega) (fun x => by omega)
  have c : Chg (fun k => k = X.heap.size) W1 (W1.setCell ⟨X.heap.size, 0, none⟩ u) := (Chg.refl (fun k => k = X.heap.size) W1).setCell (p := ⟨X.heap.size, 0, none⟩) (fun _ => rfl) u
  refine ⟨⟨⟨l, B.chg c (fun k hk e => nF (e ▸ hk)), L⟩, A.view.chg c (by omega), A.nv, fun k hk => ⟨(A.dis k hk).1, (A.dis k hk).2.1, Nat.lt_of_lt_of_le (A.dis k hk).2.2 c.size⟩, (((Chg.refl (fun k => F k ∨ k = v ∨ D k) X).alloc o).trans A.chg (fun _ _ x => x) (fun _ _ x => x)).trans c (fun _ _ x => x) (fun i hi e => by omega), fun k e => (A.newF k e).elim .inl (fun x => .inr (by omega)), fun k e => (A.newD k e).elim .inl (fun x => .inr (by omega))⟩, fun k hk => Below.heap_setCell _ _ _ k (fun e => nD (by have e2 : k = X.heap.size := e; rw [← e2]; exact hk))⟩

def SoAt (st : Nat) (pv : Value) (p : Nat) : Prop := ∀ (v : Value) (d : Bool) (K : World → Prop) (W : World), (Calls Try.prog st #[.pointer (some ⟨p, 0, none⟩), v] (W.alloc (.cells #[.bool false] 4)) fun e W' => e = .returned (.bool d) ∧ K W' ∧ W'.heap[W.heap.size]? = (W.alloc (.cells #[.bool false] 4)).heap[W.heap.size]?) →
    Calls Try.prog 31 #[pv, v] W fun e W' => e = .returned (.bool d) ∧ ∃ W1, K W1 ∧ W' = W1.setCell ⟨W.heap.size, 0, none⟩ (.bool d)
theorem as_soY {st p : Nat} {pv : Value} {d : Bool} {next' : Nat} {cs' : List Nat} {t' : List Acc} (so : SoAt st pv p) (A : AS X X F D F D b v most next th made cs t) (Q : World → (Nat → Prop) → Nat → Prop) (keepQ : ∀ Y Y' D' m, Q Y D' m → (∀ k, D' k → Y'.heap[k]? = Y.heap[k]?) → Q Y' D' m)
    (step : ∀ X1, (∀ k, k < X.heap.size → X1.heap[k]? = X.heap[k]?) → X.heap.size ≤ X1.heap.size → AS X1 X1 F D F D b v most next th made cs t → Calls Try.prog st #[.pointer (some ⟨p, 0, none⟩), .pointer (some ⟨v, 0, none⟩)] X1 fun e Y => e = .returned (.bool d) ∧ ∃ F' D' made', AS X1 Y F D F' D' b v most next' th made' cs' t' ∧ Q Y D' made') :
    Calls Try.prog 31 #[pv, .pointer (some ⟨v, 0, none⟩)] X fun e Y => e = .returned (.bool d) ∧ ∃ F' D' made', AS X Y F D F' D' b v most next' th made' cs' t' ∧ Q Y D' made' := by
  have c : Chg (fun _ => False) X (X.alloc (.cells #[.bool false] 4)) := (Chg.refl _ _).alloc _
  have A1 := (A.own (D' := D) (c.mono (fun _ _ x => x.elim)) (fun k e => .inl e) (fun k e => Nat.lt_of_lt_of_le (A.dis k e).2.2 c.size)).base
  obtain ⟨l0, B0, _⟩ := A.bank
  have vl := lt_of A.view
  refine (so (.pointer (some ⟨v, 0, none⟩)) d (fun Y => ∃ F' D' made', AS (X.alloc (.cells #[.bool false] 4)) Y F D F' D' b v most next' th made' cs' t' ∧ Q Y D' made') X ?_).mono ?_
  · refine (step _ (fun k e => Below.heap_alloc _ _ _ e) c.size A1).mono ?_
    rintro e Y ⟨rfl, F', D', made', A', q⟩
    refine ⟨rfl, ⟨F', D', made', A', q⟩, A'.chg.block _ (by simp) (fun e => ?_)⟩
    rcases e with e | e | e
    · have := B0.ltF _ e; omega
    · omega
    · have := (A.dis _ e).2.2; omega
  · rintro e Y ⟨rfl, W1, ⟨F', D', made', A', q⟩, rfl⟩
    obtain ⟨A2, hk⟩ := A.wrap A' (.bool d)
    exact ⟨rfl, F', D', made', A2, keepQ _ _ _ _ q hk⟩
end
theorem mt_step_pl (a : Addr) (w : World) : (method 264 50 (.pointer (some a)) "Step").run Try.prog w = .ok (64, .pointer (some a)) w := by kernel_rfl
set_option maxRecDepth 100000 in
theorem so_pl (p : Nat) : SoAt 64 (.iface 50 (.pointer (some ⟨p, 0, none⟩))) p := by
  intro v d K W hK
  have hmf : ∀ (fn : Fn) (first cap : Array Value) (w : World), (Instr.makeFunc fn first cap).run Try.prog w = .ok (.func fn first cap) w := fun _ _ _ _ => rfl
  have hm := mt_step_pl ⟨p, 0, none⟩
  have HK := keepH hK
  clear hK
  go_enter_defers Try.func31, Try.ntmps31
  go_wp2_with fail
  refine HK.out.mono ?_
  rintro e W1 ⟨rfl, hR, hb0⟩
  have hb : W1.heap[W.heap.size]? = some (.cells #[.bool false] 4 (0, 0)) := hb0.trans (heap_alloc_new _ _)
  have c0 : W1.cell? ⟨W.heap.size, 0, none⟩ = some (.bool false) := cell_of hb 0
  have f0 := free_of hb 0
  have HR := keepH hR
  clear hR hb hb0
  go_wp2_with fail
  refine leaves_cons (f := 42) (args := #[.pointer (some ⟨W.heap.size, 0, none⟩)]) (by simp) (by simp [go_sem]) ?_
  refine (s_catch ⟨W.heap.size, 0, none⟩ _).mono ?_
  rintro e u' w'' ⟨rfl, rfl, rfl⟩
  have r0 := World.cell?_setCell_same' W1 ⟨W.heap.size, 0, none⟩ (.bool d) (by rw [c0]; rfl)
  simp [Leaves, settle, results, Try.results31, go_sem, r0]
  exact ⟨W1, HR.out, rfl⟩
set_option maxRecDepth 100000 in
set_option maxHeartbeats 4000000 in
theorem pl_e {X : World} {F D : Nat → Prop} {b v most next : Nat} {th : Int} {made : Nat} {cs : List Nat} {t : List Acc} (A : AS X X F D F D b v most next th made cs t) {pb ln lc at_ : Nat} {lp : Option Addr} {got : List Nat} (hP : PlAt X D pb lp ln lc at_ got) (hn : ln ≤ at_) :
    Calls Try.prog 64 #[.pointer (some ⟨pb, 0, none⟩), .pointer (some ⟨v, 0, none⟩)] X fun e Y => e = .returned (.bool true) ∧ ∃ F' D' made', AS X Y F D F' D' b v most next th made' cs t ∧ (made' ≤ made + 1 ∧ PlAt Y D' pb lp ln lc at_ got) := by
  obtain ⟨gv, hpb, hrow, hD⟩ := hP.ex
  have c0 : X.cell? ⟨pb, 0, none⟩ = some (.slice lp ln lc) := cell_of hpb 0
  have c1 : X.cell? ⟨pb, 1, none⟩ = some (.int .i64 (at_ : Int)) := cell_of hpb 1
  have t1 : ¬ (at_ : Int) < (ln : Int) := by omega
  have t2 : decide (at_ < ln) = false := decide_eq_false (by omega)
  have t3 : (ln : Int) ≤ (at_ : Int) := by omega
  have t4 : decide (ln ≤ at_) = true := decide_eq_true hn
  have HA := keepH A
  have HP := keepH hP
  clear A hP
  go_enter Try.func64, Try.ntmps64
  go_upto_region 1 with fail
  go_quiet (fail)
  obtain ⟨X1, hX1⟩ : ∃ X1, X1 = X.drewN nq := ⟨_, rfl⟩
  rw [← hX1]
  have d0 : X1.cell? ⟨pb, 0, none⟩ = some (.slice lp ln lc) := by rw [hX1]; exact c0
  have d1 : X1.cell? ⟨pb, 1, none⟩ = some (.int .i64 (at_ : Int)) := by rw [hX1]; exact c1
  have HA1 : Hid (AS X X1 F D F D b v most next th made cs t) := by rw [hX1]; exact HA.out.drewN _
  have HP1 : Hid (PlAt X1 D pb lp ln lc at_ got) := by rw [hX1]; exact HP.out.kept (fun k _ => rfl)
  clear hX1 c0 c1
  go_upto_region 19 with fail
  go_quiet (fail)
  (try go_wp2_with fail)
  go_ret
  exact ⟨by simp, F, D, made, HA1.out.drewN _, by omega, HP1.out.kept (fun k _ => rfl)⟩
def nxtM (most : Nat) (m : Mu) (o : Option DoP) : Mu := match o with
  | some d => mkM most m d
  | none => m
def nxtG (most : Nat) (m : Mu) (o : Option DoP) : List Nat := match o with
  | some d => mkG most m d
  | none => []
def nxtT (th : Int) (most : Nat) (m : Mu) (o : Option DoP) : List Acc := match o with
  | some d => mkT th most m d
  | none => []
def nxtA (a : Nat) (o : Option DoP) : Nat := match o with
  | some d => a + 1
  | none => a
theorem pl_any {X : World} {F D : Nat → Prop} {b v most next : Nat} {th : Int} {made : Nat} {cs : List Nat} {t : List Acc} (A : AS X X F D F D b v most next th made cs t) {B pb lc at_ : Nat} {lp : Option Addr} {L : List DoP} {got : List Nat} (hP : PlAt X D pb lp L.length lc at_ got) (hL : DosAt X B lp L) (hB : B ≤ X.heap.size) (hBD : ∀ k, D k → B ≤ k) (hBF : ∀ k, F k → B ≤ k) (hBv : B ≤ v) (hg : got.length ≤ 1099511627776) (h1 : made < 1099511627776) (h2 : t.length < 1099511627776) (hll : L.length ≤ 1099511627776) :
    Calls Try.prog 64 #[.pointer (some ⟨pb, 0, none⟩), .pointer (some ⟨v, 0, none⟩)] X fun e Y => e = .returned (.bool (decide (L.length ≤ at_ + 1))) ∧ ∃ F' D' made', AS X Y F D F' D' b v most (nxtM most ⟨next, cs⟩ L[at_]?).next th made' (nxtM most ⟨next, cs⟩ L[at_]?).cs (t ++ nxtT th most ⟨next, cs⟩ L[at_]?) ∧ (made' ≤ made + 1 ∧ PlAt Y D' pb lp L.length lc (nxtA at_ L[at_]?) (got ++ nxtG most ⟨next, cs⟩ L[at_]?)) := by
  cases hd : L[at_]? with
  | none =>
    have hn : L.length ≤ at_ := List.getElem?_eq_none_iff.1 hd
    simp only [nxtM, nxtG, nxtT, nxtA, List.append_nil]
    refine (pl_e A hP hn).mono ?_
    rintro e Y ⟨rfl, r⟩
    exact ⟨by rw [decide_eq_true (show L.length ≤ at_ + 1 by omega)], r⟩
  | some d =>
    simp only [nxtM, nxtG, nxtT, nxtA]
    cases hk : isA d with
    | false => exact pl_k0 A hP hL hB hBD hBF hBv hd hk hg h1 h2 hll
    | true =>
      have h15 : 1 ≤ d.kd ∧ d.kd ≤ 5 := by simpa [isA] using hk
      rcases (show d.kd = 1 ∨ d.kd = 2 ∨ d.kd = 3 ∨ d.kd = 4 ∨ d.kd = 5 by omega) with e | e | e | e | e
      · exact pl_k1 A hP hL hB hBD hBF hBv hd e hg h1 h2 hll
      · exact pl_k2 A hP hL hB hBD hBF hBv hd e hg h1 h2 hll
      · exact pl_k3 A hP hL hB hBD hBF hBv hd e hg h1 h2 hll
      · exact pl_k4 A hP hL hB hBD hBF hBv hd e hg h1 h2 hll
      · exact pl_k5 A hP hL hB hBD hBF hBv hd e hg h1 h2 hll
theorem pl_so {X : World} {F D : Nat → Prop} {b v most next : Nat} {th : Int} {made : Nat} {cs : List Nat} {t : List Acc} (A : AS X X F D F D b v most next th made cs t) {B pb lc at_ : Nat} {lp : Option Addr} {L : List DoP} {got : List Nat} (hP : PlAt X D pb lp L.length lc at_ got) (hL : DosAt X B lp L) (hB : B ≤ X.heap.size) (hBD : ∀ k, D k → B ≤ k) (hBF : ∀ k, F k → B ≤ k) (hBv : B ≤ v) (hg : got.length ≤ 1099511627776) (h1 : made < 1099511627776) (h2 : t.length < 1099511627776) (hll : L.length ≤ 1099511627776) :
    Calls Try.prog 31 #[.iface 50 (.pointer (some ⟨pb, 0, none⟩)), .pointer (some ⟨v, 0, none⟩)] X fun e Y => e = .returned (.bool (decide (L.length ≤ at_ + 1))) ∧ ∃ F' D' made', AS X Y F D F' D' b v most (nxtM most ⟨next, cs⟩ L[at_]?).next th made' (nxtM most ⟨next, cs⟩ L[at_]?).cs (t ++ nxtT th most ⟨next, cs⟩ L[at_]?) ∧ (made' ≤ made + 1 ∧ PlAt Y D' pb lp L.length lc (nxtA at_ L[at_]?) (got ++ nxtG most ⟨next, cs⟩ L[at_]?)) :=
  as_soY (so_pl pb) A (fun Y D' m => m ≤ made + 1 ∧ PlAt Y D' pb lp L.length lc (nxtA at_ L[at_]?) (got ++ nxtG most ⟨next, cs⟩ L[at_]?)) (fun Y Y' D' m h hk => ⟨h.1, h.2.kept hk⟩)
    (fun X1 hlo hs A1 => pl_any A1 (hP.kept (fun k e => hlo k (A.dis k e).2.2)) (hL.low (fun k hk => hlo k (by omega))) (by omega) hBD hBF hBv hg h1 h2 hll)
end Go.Proofs.Ytnhiodmigmmfgaa
/- Plans' procs as a kind, over a memory whose low part stays. -/
namespace Go.Proofs.Ytnhiodmigmmfgaa
open Go.RowKit Go.Shelf
set_option linter.unusedVariables false

/-- A kind of procs that lean on what lies below B and stays as it was in W0. -/
structure KindL (P : Type) (B : Nat) (W0 : World) where
  H : World → (Nat → Prop) → Value → P → Prop
  ok : Nat → P → Prop
  stp : Int → Nat → Nat → List Nat → P → Out P
  kept : ∀ {X Y : World} {D : Nat → Prop} {pv : Value} {s : P}, H X D pv s → (∀ k, D k → Y.heap[k]? = X.heap[k]?) → H Y D pv s
  lt : ∀ {X : World} {D : Nat → Prop} {pv : Value} {s : P} {k : Nat}, H X D pv s → D k → k < X.heap.size
  lo : ∀ {X : World} {D : Nat → Prop} {pv : Value} {s : P} {k : Nat}, H X D pv s → D k → B ≤ k
  few : ∀ th most next cs s, (stp th most next cs s).acc.length ≤ 1
  okM : ∀ n n' s, n ≤ n' → ok n s → ok n' s
  okS : ∀ n th most next cs s, ok n s → (∀ i, cellN cs i < 18446744073709551616) → most ≤ 4194304 → (stp th most next cs s).done = false → ok (n + 1) (stp th most next cs s).s
  step : ∀ (n : Nat) (X : World) (F D : Nat → Prop) (b v most next : Nat) (th : Int) (made : Nat) (cs : List Nat) (t : List Acc) (pv : Value) (s : P), AS X X F D F D b v most next th made cs t → H X D pv s → ok n s → n < 500000000000 → made < 549755813888 → t.length < 549755813888 → (∀ k, k < B → X.heap[k]? = W0.heap[k]?) → (∀ k, F k → B ≤ k) → B ≤ v → B ≤ X.heap.size →
    Calls Try.prog 31 #[pv, .pointer (some ⟨v, 0, none⟩)] X fun e Y => e = .returned (.bool (stp th most next cs s).done) ∧ ∃ F' D' made', AS X Y F D F' D' b v most (stp th most next cs s).next th made' (stp th most next cs s).cs (t ++ (stp th most next cs s).acc) ∧ made' ≤ made + 1 ∧ H Y D' pv (stp th most next cs s).s
/-- A plan's proc: the plan, where it lies, how far it is, what it was told. -/
structure PS where
  pl : PlP
  lp : Option Addr
  lc : Nat
  at_ : Nat
  got : List Nat
def psH (B : Nat) (X : World) (D : Nat → Prop) (pv : Value) (s : PS) : Prop := (∀ k, D k → B ≤ k) ∧ if s.pl.none = true then pv = .nilIface ∧ ∀ k, ¬ D k else ∃ pb, pv = .iface 50 (.pointer (some ⟨pb, 0, none⟩)) ∧ PlAt X D pb s.lp s.pl.L.length s.lc s.at_ s.got
def psOk (B : Nat) (W0 : World) (n : Nat) (s : PS) : Prop := DosAt W0 B s.lp s.pl.L ∧ s.pl.L.length ≤ 1048576 ∧ s.got.length ≤ n
def psS (th : Int) (most next : Nat) (cs : List Nat) (s : PS) : Out PS := if s.pl.none = true then ⟨true, next, cs, [], s⟩ else ⟨decide (s.pl.L.length ≤ s.at_ + 1), (nxtM most ⟨next, cs⟩ s.pl.L[s.at_]?).next, (nxtM most ⟨next, cs⟩ s.pl.L[s.at_]?).cs, nxtT th most ⟨next, cs⟩ s.pl.L[s.at_]?, ⟨s.pl, s.lp, s.lc, nxtA s.at_ s.pl.L[s.at_]?, s.got ++ nxtG most ⟨next, cs⟩ s.pl.L[s.at_]?⟩⟩
theorem nxtT_few (th : Int) (most : Nat) (m : Mu) (o : Option DoP) : (nxtT th most m o).length ≤ 1 := by
  unfold nxtT
  split
  · unfold mkT; split <;> simp
  · simp
theorem nxtG_few (most : Nat) (m : Mu) (o : Option DoP) : (nxtG most m o).length ≤ 1 := by
  unfold nxtG
  split
  · unfold mkG; split <;> simp
  · simp
theorem PlAt.lt {X : World} {D : Nat → Prop} {pb : Nat} {lp : Option Addr} {ln lc at_ : Nat} {got : List Nat} (h : PlAt X D pb lp ln lc at_ got) (k : Nat) (hk : D k) : k < X.heap.size := by
  obtain ⟨gv, h1, h2, h3⟩ := h.ex
  rcases (h3 k).1 hk with e | e
  · rw [e]; exact lt_of h1
  · exact row_lt h2 k e
def plK (B : Nat) (W0 : World) : KindL PS B W0 where
  H := psH B
  ok := psOk B W0
  stp := psS
  kept := fun {X Y D pv s} h hk => by
    unfold psH at h ⊢
    refine ⟨h.1, ?_⟩
    split
    · rename_i hn
      have := h.2
      rw [if_pos hn] at this
      exact this
    · rename_i hn
      have := h.2
      rw [if_neg hn] at this
      obtain ⟨pb, e, hp⟩ := this
      exact ⟨pb, e, hp.kept hk⟩
  lt := fun {X D pv s k} h hk => by
    unfold psH at h
    have := h.2
    split at this
    · exact absurd hk (this.2 k)
    · obtain ⟨pb, e, hp⟩ := this
      exact hp.lt k hk
  lo := fun {X D pv s k} h hk => h.1 k hk
  few := fun th most next cs s => by
    unfold psS
    split
    · simp
    · exact nxtT_few _ _ _ _
  okM := fun n n' s h ho => ⟨ho.1, ho.2.1, Nat.le_trans ho.2.2 h⟩
  okS := fun n th most next cs s ho _ _ _ => by
    obtain ⟨h1, h2, h3⟩ := ho
    unfold psS
    split
    · exact ⟨h1, h2, Nat.le_succ_of_le h3⟩
    · refine ⟨h1, h2, ?_⟩
      have := nxtG_few most ⟨next, cs⟩ s.pl.L[s.at_]?
      simp only [List.length_append]
      omega
  step := fun n X F D b v most next th made cs t pv s A hH ho hn h1 h2 hlow hF hv hB => by
    obtain ⟨o1, o2, o3⟩ := ho
    unfold psH at hH
    obtain ⟨hD, hH⟩ := hH
    by_cases hnn : s.pl.none = true
    · rw [if_pos hnn] at hH
      obtain ⟨rfl, hD0⟩ := hH
      refine (s_stepOf_nil _ X).mono ?_
      rintro e Y ⟨rfl, c⟩
      unfold psS
      simp only [if_pos hnn]
      refine ⟨trivial, F, D, made, ?_, by omega, ?_⟩
      · rw [List.append_nil]
        exact A.put (c.mono (fun _ _ x => x.elim))
      · unfold psH
        rw [if_pos hnn]
        exact ⟨hD, rfl, hD0⟩
    · rw [if_neg hnn] at hH
      obtain ⟨pb, rfl, hp⟩ := hH
      refine (pl_so A hp (o1.low (fun k hk => hlow k hk)) hB hD hF hv (by omega) (by omega) (by omega) (by omega)).mono ?_
      rintro e Y ⟨rfl, F', D', made', A', hm, hp'⟩
      unfold psS
      simp only [if_neg hnn]
      refine ⟨trivial, F', D', made', A', hm, ?_⟩
      unfold psH
      simp only [if_neg hnn]
      exact ⟨fun k e => (A'.newD k e).elim (hD k) (fun q => by omega), pb, rfl, hp'⟩
end Go.Proofs.Ytnhiodmigmmfgaa
/- Runs of procs that lean on what lies low: all of them, on one memory; a pick, with its events. -/
namespace Go.Proofs.Ytnhiodmigmmfgaa
open Go.RowKit Go.Shelf
set_option linter.unusedVariables false

def updN {α : Type} (f : Nat → α) (i : Nat) (x : α) : Nat → α := fun j => if j = i then x else f j
theorem updN_same {α : Type} (f : Nat → α) (i : Nat) (x : α) : updN f i x i = x := if_pos rfl
theorem updN_other {α : Type} (f : Nat → α) (i j : Nat) (x : α) (h : j ≠ i) : updN f i x j = f j := if_neg h
/-- What runs: the cells that were handed out, the cells, the trace, each thread's call, each call's proc. -/
structure Cfg (P : Type) where
  next : Nat
  cs : List Nat
  t : List Acc
  ix : Nat → Nat
  σ : Nat → Nat → P
  st : Nat
  bg : Nat → Bool
  evs : List Ev
  ats : List Int
section
variable {P : Type} {Lo : Nat} {W0 : World} (κ : KindL P Lo W0) (most T : Nat) (cl : Nat → Nat)
def Cfg.out (c : Cfg P) (i : Nat) : Out P := κ.stp (i : Int) most c.next c.cs (c.σ i (c.ix i))
def evsOf (c : Cfg P) (i : Nat) (d : Bool) : List Ev := (if c.bg i = true then c.evs else c.evs ++ [⟨(c.st : Int), (i : Int), (c.ix i : Int), false⟩]) ++ (if d = true then [⟨(c.st : Int), (i : Int), (c.ix i : Int), true⟩] else [])
def Cfg.go (c : Cfg P) (i : Nat) : Cfg P := ⟨(c.out κ most i).next, (c.out κ most i).cs, c.t ++ (c.out κ most i).acc, updN c.ix i (if (c.out κ most i).done then c.ix i + 1 else c.ix i), updN c.σ i (updN (c.σ i) (c.ix i) (c.out κ most i).s), c.st, updN c.bg i (!(c.out κ most i).done), evsOf c i (c.out κ most i).done, extN (extN c.ats c.t.length (-1)) (c.t ++ (c.out κ most i).acc).length (c.st : Int)⟩
def Cfg.tick (c : Cfg P) : Cfg P := { c with st := c.st + 1 }
def Cfg.can (c : Cfg P) (th : Int) : Prop := 0 ≤ th ∧ th < (T : Int) ∧ c.ix th.toNat < cl th.toNat
instance (c : Cfg P) (th : Int) : Decidable (Cfg.can T cl c th) := by unfold Cfg.can; exact inferInstance
def Cfg.pick (c : Cfg P) (th : Int) : Cfg P := if Cfg.can T cl c th then (c.go κ most th.toNat).tick else c.tick
def Cfg.run (c : Cfg P) (picks : List Int) : Cfg P := picks.foldl (fun c th => c.pick κ most T cl th) c
end
inductive Tag where
  | none : Tag
  | mem : Tag
  | main : Tag
  | view : Nat → Tag
  | proc : Nat → Nat → Tag
/-- The memory, its views and all procs, with what they have of their own. -/
structure MAt {P : Type} {Lo : Nat} {W0 : World} (κ : KindL P Lo W0) (most m b T : Nat) (cl : Nat → Nat) (vb : Nat → Nat) (pv : Nat → Nat → Value) (n : Nat) (c : Cfg P) (X : World) (K F : Nat → Prop) (D : Nat → Nat → Nat → Prop) (md : Nat → Nat) (tg : Nat → Tag) : Prop where
  bank : ∃ l, Bank X F b most c.next c.cs l ∧ l.map Acc.bare = c.t
  mem : IsMem X m b
  views : ∀ i, i < T → IsView X (vb i) b (i : Int) (md i) ∧ md i ≤ n
  procs : ∀ i j, i < T → j < cl i → κ.H X (D i j) (pv i j) (c.σ i j)
  oks : ∀ i j, i < T → j < cl i → c.ix i ≤ j → κ.ok n (c.σ i j)
  inF : ∀ k, F k → K k ∧ tg k = .mem
  inM : K m ∧ tg m = .main
  inV : ∀ i, i < T → K (vb i) ∧ tg (vb i) = .view i
  inD : ∀ i j k, i < T → j < cl i → D i j k → K k ∧ tg k = .proc i j
  lt : ∀ k, K k → k < X.heap.size
  tn : c.t.length ≤ n + 16000000
  mo : most ≤ 4194304
  lowK : ∀ k, k < Lo → K k
  low : ∀ k, k < Lo → X.heap[k]? = W0.heap[k]?
  hi : (∀ k, F k → Lo ≤ k) ∧ Lo ≤ m ∧ ∀ i, i < T → Lo ≤ vb i
def MA {P : Type} {Lo : Nat} {W0 : World} (κ : KindL P Lo W0) (most m b T : Nat) (cl : Nat → Nat) (vb : Nat → Nat) (pv : Nat → Nat → Value) (n : Nat) (c : Cfg P) (X : World) (K : Nat → Prop) : Prop := ∃ F D md tg, MAt κ most m b T cl vb pv n c X K F D md tg
section
variable {P : Type} {Lo : Nat} {W0 : World} {κ : KindL P Lo W0} {most m b T : Nat} {cl : Nat → Nat} {vb : Nat → Nat} {pv : Nat → Nat → Value} {n : Nat} {c : Cfg P} {X : World} {K : Nat → Prop}
theorem MA.keep {Y : World} (h : MA κ most m b T cl vb pv n c X K) (hs : X.heap.size ≤ Y.heap.size) (hk : ∀ k, K k → Y.heap[k]? = X.heap[k]?) : MA κ most m b T cl vb pv n c Y K := by
  obtain ⟨F, D, md, tg, h⟩ := h
  obtain ⟨l, B, L⟩ := h.bank
  exact ⟨F, D, md, tg, ⟨l, B.kept hs (fun k e => hk k (h.inF k e).1), L⟩, (hk m h.inM.1).trans h.mem, fun i hi => ⟨(hk _ (h.inV i hi).1).trans (h.views i hi).1, (h.views i hi).2⟩, fun i j hi hj => κ.kept (h.procs i j hi hj) (fun k e => hk k (h.inD i j k hi hj e).1), h.oks, h.inF, h.inM, h.inV, h.inD, fun k e => Nat.lt_of_lt_of_le (h.lt k e) hs, h.tn, h.mo, h.lowK, fun k e => (hk k (h.lowK k e)).trans (h.low k e), h.hi⟩
theorem MA.ltK (h : MA κ most m b T cl vb pv n c X K) (k : Nat) (hk : K k) : k < X.heap.size := by
  obtain ⟨F, D, md, tg, h⟩ := h
  exact h.lt k hk
theorem MA.memK (h : MA κ most m b T cl vb pv n c X K) : ∃ b F most next cs l, IsMem X m b ∧ Bank X F b most next cs l ∧ l.length = c.t.length ∧ (∀ k, F k → K k) ∧ K m := by
  obtain ⟨F, D, md, tg, h⟩ := h
  obtain ⟨l, B, L⟩ := h.bank
  exact ⟨b, F, most, _, _, l, h.mem, B, by rw [← L]; simp, fun k e => (h.inF k e).1, h.inM.1⟩
theorem MA.more (h : MA κ most m b T cl vb pv n c X K) {n' : Nat} (hn : n ≤ n') : MA κ most m b T cl vb pv n' c X K := by
  obtain ⟨F, D, md, tg, h⟩ := h
  exact ⟨F, D, md, tg, { h with views := fun i hi => ⟨(h.views i hi).1, Nat.le_trans (h.views i hi).2 hn⟩, tn := by have := h.tn; omega, oks := fun i j hi hj hle => κ.okM n n' _ hn (h.oks i j hi hj hle) }⟩
/-- A step of a thread's call. -/
theorem MA.step (h : MA κ most m b T cl vb pv n c X K) (i : Nat) (hi : i < T) (hj : c.ix i < cl i) (hn : n < 500000000) :
    Calls Try.prog 31 #[pv i (c.ix i), .pointer (some ⟨vb i, 0, none⟩)] X fun e Y => e = .returned (.bool (c.out κ most i).done) ∧ ∃ K', MA κ most m b T cl vb pv (n + 1) (c.go κ most i) Y K' ∧ Goes X Y K K' := by
  obtain ⟨F, D, md, tg, h⟩ := h
  obtain ⟨l, B, L⟩ := h.bank
  obtain ⟨V, hmd⟩ := h.views i hi
  have hp := h.procs i (c.ix i) hi hj
  have tn := h.tn
  have tV := (h.inV i hi).2
  have nF : ∀ k, tg k ≠ .mem → ¬ F k := fun k e x => e (h.inF k x).2
  have A0 : AS X X F (D i (c.ix i)) F (D i (c.ix i)) b (vb i) most c.next (i : Int) (md i) c.cs c.t := by
    refine ⟨⟨l, B, L⟩, V, nF _ (by rw [tV]; simp), fun k e => ?_, Chg.refl _ _, fun _ e => .inl e, fun _ e => .inl e⟩
    have tk := (h.inD i _ k hi hj e).2
    exact ⟨nF k (by rw [tk]; simp), fun x => by rw [x, tV] at tk; simp at tk, κ.lt hp e⟩
  have hLo : Lo ≤ X.heap.size := by
    rcases Nat.eq_zero_or_pos Lo with e | e
    · omega
    · have := h.lt (Lo - 1) (h.lowK (Lo - 1) (by omega)); omega
  refine (κ.step n X F (D i (c.ix i)) b (vb i) most c.next (i : Int) (md i) c.cs c.t (pv i (c.ix i)) (c.σ i (c.ix i)) A0 hp (h.oks i _ hi hj (Nat.le_refl _)) (by omega) (by omega) (by omega) h.low h.hi.1 (h.hi.2.2 i hi) hLo).mono ?_
  rintro e Y ⟨rfl, F', D', md', A, hmd', hH⟩
  have sz := A.chg.size
  have old : ∀ k, K k → tg k ≠ .mem → tg k ≠ .view i → tg k ≠ .proc i (c.ix i) → Y.heap[k]? = X.heap[k]? := fun k hk h1 h2 h3 => A.chg.block k (h.lt k hk) (fun x => by
    rcases x with x | x | x
    · exact h1 (h.inF k x).2
    · rw [x] at h2; exact h2 tV
    · exact h3 (h.inD i _ k hi hj x).2)
  obtain ⟨l', B', L'⟩ := A.bank
  refine ⟨rfl, fun k => k < Y.heap.size ∧ (K k ∨ X.heap.size ≤ k), ⟨F', updN D i (updN (D i) (c.ix i) D'), updN md i md', fun k => open Classical in if k < X.heap.size then tg k else if F' k then .mem else .proc i (c.ix i), ?_⟩, ⟨A.chg.mono (fun k hk x => ?_), fun k e => e.2⟩⟩
  · refine ⟨⟨l', B', L'⟩, (old m h.inM.1 (by rw [h.inM.2]; simp) (by rw [h.inM.2]; simp) (by rw [h.inM.2]; simp)).trans h.mem, fun j hj2 => ?_, fun j q hj2 hq => ?_, fun j q hj2 hq hle => ?_, fun k e => ?_, ⟨⟨Nat.lt_of_lt_of_le (h.lt m h.inM.1) sz, .inl h.inM.1⟩, by simp only [if_pos (h.lt m h.inM.1)]; exact h.inM.2⟩, fun j hj2 => ⟨⟨Nat.lt_of_lt_of_le (h.lt _ (h.inV j hj2).1) sz, .inl (h.inV j hj2).1⟩, by simp only [if_pos (h.lt _ (h.inV j hj2).1)]; exact (h.inV j hj2).2⟩, fun j q k hj2 hq e => ?_, fun k e => e.1, ?_, h.mo, fun k e => ⟨by omega, .inl (h.lowK k e)⟩, fun k e => (A.chg.block k (by omega) (fun x => by
      rcases x with x | x | x
      · have := h.hi.1 k x; omega
      · have := h.hi.2.2 i hi; omega
      · have := κ.lo hp x; omega)).trans (h.low k e), ⟨fun k e => (A.newF k e).elim (h.hi.1 k) (fun q => by omega), h.hi.2⟩⟩
    · by_cases e : j = i
      · subst e
        rw [updN_same]
        exact ⟨A.view, by omega⟩
      · rw [updN_other _ _ _ _ e]
        have tj := (h.inV j hj2).2
        exact ⟨(old _ (h.inV j hj2).1 (by rw [tj]; simp) (by rw [tj]; simp; exact e) (by rw [tj]; simp)).trans (h.views j hj2).1, by have := (h.views j hj2).2; omega⟩
    · show κ.H Y (updN D i (updN (D i) (c.ix i) D') j q) (pv j q) (updN c.σ i (updN (c.σ i) (c.ix i) (c.out κ most i).s) j q)
      by_cases e : j = i
      · subst e
        rw [updN_same, updN_same]
        by_cases e2 : q = c.ix j
        · subst e2
          rw [updN_same, updN_same]
          exact hH
        · rw [updN_other _ _ _ _ e2, updN_other _ _ _ _ e2]
          exact κ.kept (h.procs j q hj2 hq) (fun k hk => by
            have tk := (h.inD j q k hj2 hq hk)
            exact old k tk.1 (by rw [tk.2]; simp) (by rw [tk.2]; simp) (by rw [tk.2]; simp; exact e2))
      · rw [updN_other _ _ _ _ e, updN_other _ _ _ _ e]
        exact κ.kept (h.procs j q hj2 hq) (fun k hk => by
          have tk := (h.inD j q k hj2 hq hk)
          exact old k tk.1 (by rw [tk.2]; simp) (by rw [tk.2]; simp) (by rw [tk.2]; simp; exact fun z => absurd z e))
    · show κ.ok (n + 1) (updN c.σ i (updN (c.σ i) (c.ix i) (c.out κ most i).s) j q)
      have hle' : updN c.ix i (if (c.out κ most i).done then c.ix i + 1 else c.ix i) j ≤ q := hle
      by_cases e : j = i
      · subst e
        rw [updN_same] at hle' ⊢
        by_cases e2 : q = c.ix j
        · subst e2
          rw [updN_same]
          exact κ.okS n _ _ _ _ _ (h.oks j _ hj2 hq (Nat.le_refl _)) B.cells h.mo (by
            have hle2 : (if (c.out κ most j).done then c.ix j + 1 else c.ix j) ≤ c.ix j := hle'
            cases hd : (c.out κ most j).done
            · exact hd
            · rw [hd] at hle2; simp at hle2; omega)
        · rw [updN_other _ _ _ _ e2]
          exact κ.okM n (n + 1) _ (Nat.le_succ n) (h.oks j q hj2 hq (by split at hle' <;> omega))
      · rw [updN_other _ _ _ _ e] at hle' ⊢
        exact κ.okM n (n + 1) _ (Nat.le_succ n) (h.oks j q hj2 hq hle')
    · refine ⟨⟨B'.ltF k e, (A.newF k e).elim (fun x => .inl (h.inF k x).1) .inr⟩, ?_⟩
      by_cases lt : k < X.heap.size
      · simp only [if_pos lt]
        rcases A.newF k e with x | x
        · exact (h.inF k x).2
        · omega
      · simp only [if_neg lt, if_pos e]
    · have e' : updN D i (updN (D i) (c.ix i) D') j q k := e
      by_cases ej : j = i
      · subst ej
        rw [updN_same] at e'
        by_cases e2 : q = c.ix j
        · subst e2
          rw [updN_same] at e'
          have dd := A.dis k e'
          refine ⟨⟨dd.2.2, (A.newD k e').elim (fun x => .inl (h.inD j _ k hj2 hq x).1) .inr⟩, ?_⟩
          by_cases lt : k < X.heap.size
          · simp only [if_pos lt]
            rcases A.newD k e' with x | x
            · exact (h.inD j _ k hj2 hq x).2
            · omega
          · simp only [if_neg lt, if_neg dd.1]
        · rw [updN_other _ _ _ _ e2] at e'
          have z := h.inD j q k hj2 hq e'
          exact ⟨⟨Nat.lt_of_lt_of_le (h.lt k z.1) sz, .inl z.1⟩, by simp only [if_pos (h.lt k z.1)]; exact z.2⟩
      · rw [updN_other _ _ _ _ ej] at e'
        have z := h.inD j q k hj2 hq e'
        exact ⟨⟨Nat.lt_of_lt_of_le (h.lt k z.1) sz, .inl z.1⟩, by simp only [if_pos (h.lt k z.1)]; exact z.2⟩
    · have fw := κ.few (i : Int) most c.next c.cs (c.σ i (c.ix i))
      show (c.t ++ (c.out κ most i).acc).length ≤ n + 1 + 16000000
      rw [List.length_append]
      have fw' : (c.out κ most i).acc.length ≤ 1 := fw
      omega
  · rcases x with x | x | x
    · exact (h.inF k x).1
    · rw [x]; exact (h.inV i hi).1
    · exact (h.inD i _ k hi hj x).1
end
end Go.Proofs.Ytnhiodmigmmfgaa
/- Runs of plans' procs: a pick, with its events. -/
namespace Go.Proofs.Ytnhiodmigmmfgaa
open Go.RowKit Go.Shelf
set_option linter.unusedVariables false

/-- A runner with its procs, where the pure run has come to c. -/
structure GRAt {P : Type} {Lo : Nat} {W0 : World} (κ : KindL P Lo W0) (most m b T : Nat) (cl : Nat → Nat) (vb : Nat → Nat) (pv : Nat → Nat → Value) (c : Cfg P) (W Z X : World) (S G K : Nat → Prop) (r : Nat) (vw : List Value) (tv ev av : Value) (ths : List Thr) : Prop where
  run : RunAt X G r m vw tv ev av ths c.st c.evs c.ats
  ma : MA κ most m b T cl vb pv c.st c X K
  apart : ∀ j, G j → ¬ K j
  len : ths.length = T
  thr : ∀ (j : Nat) (t : Thr), ths[j]? = some t → t.calls.length = cl j ∧ (∀ q, q < cl j → t.calls[q]? = some (pv j q)) ∧ t.next = c.ix j ∧ t.begun = c.bg j
  vws : ∀ j, j < T → vw[j]? = some (.pointer (some ⟨vb j, 0, none⟩))
  evl : c.evs.length ≤ 2 * c.st
  inW : ∀ j, G j ∨ (K j ∧ Lo ≤ j) → W.heap.size ≤ j
  lo : Lo ≤ W.heap.size
  chg : Chg (fun _ => False) W X
  zs : Z.heap.size ≤ X.heap.size
  keep : ∀ j, S j → j < X.heap.size ∧ X.heap[j]? = Z.heap[j]? ∧ ¬ G j ∧ ¬ K j
def GR {P : Type} {Lo : Nat} {W0 : World} (κ : KindL P Lo W0) (most m b T : Nat) (cl : Nat → Nat) (vb : Nat → Nat) (pv : Nat → Nat → Value) (c : Cfg P) (W Z X : World) (S : Nat → Prop) (r : Nat) : Prop := ∃ G K vw tv ev av ths, GRAt κ most m b T cl vb pv c W Z X S G K r vw tv ev av ths
section
variable {P : Type} {Lo : Nat} {W0 : World} {κ : KindL P Lo W0} {most m b T : Nat} {cl : Nat → Nat} {vb : Nat → Nat} {pv : Nat → Nat → Value} {c : Cfg P} {W Z X : World} {S : Nat → Prop} {r : Nat}
theorem MA.goes {n : Nat} {Y : World} {G K : Nat → Prop} (h : MA κ most m b T cl vb pv n c X K) (hg : Goes X Y G G) (ha : ∀ j, G j → ¬ K j) : MA κ most m b T cl vb pv n c Y K :=
  h.keep hg.chg.size (fun j hj => hg.chg.block j (h.ltK j hj) (fun e => ha j e hj))
theorem MA.tlen {n : Nat} {K : Nat → Prop} (h : MA κ most m b T cl vb pv n c X K) : c.t.length ≤ n + 16000000 := by
  obtain ⟨F, D, md, tg, h⟩ := h
  exact h.tn
theorem MA.lows {n : Nat} {K : Nat → Prop} (h : MA κ most m b T cl vb pv n c X K) (k : Nat) (hk : k < Lo) : X.heap[k]? = W0.heap[k]? := by
  obtain ⟨F, D, md, tg, h⟩ := h
  exact h.low k hk
theorem MA.tick {n : Nat} {K : Nat → Prop} (h : MA κ most m b T cl vb pv n c X K) : MA κ most m b T cl vb pv n c.tick X K := by
  obtain ⟨F, D, md, tg, h⟩ := h
  exact ⟨F, D, md, tg, ⟨h.bank, h.mem, h.views, h.procs, h.oks, h.inF, h.inM, h.inV, h.inD, h.lt, h.tn, h.mo, h.lowK, h.low, h.hi⟩⟩
theorem chg_low {W X Y : World} {Lo : Nat} {H : Nat → Prop} (h : Chg (fun _ => False) W X) (c : Chg H X Y) (hl : ∀ k, k < Lo → Y.heap[k]? = X.heap[k]?) (hH : ∀ k, k < W.heap.size → H k → k < Lo) : Chg (fun _ => False) W Y := by
  have z : Chg (fun k => k < Lo) W Y := h.trans c (fun _ _ x => x.elim) hH
  refine ⟨z.os, z.tape, z.output, z.size, fun k hk _ => ?_⟩
  by_cases e : k < Lo
  · exact (hl k e).trans (h.block k hk (fun x => x))
  · exact z.block k hk e
set_option maxRecDepth 100000 in
theorem gr_pick (h : GR κ most m b T cl vb pv c W Z X S r) (th : Int) (hk : c.st ≤ 16777216) :
    Calls Try.prog 13 #[.pointer (some ⟨r, 0, none⟩), .int .i64 th] X fun e X' => e = .returned (.bool (decide (Cfg.can T cl c th))) ∧ GR κ most m b T cl vb pv (c.pick κ most T cl th) W Z X' S r := by
  obtain ⟨G, K, vw, tv, ev, av, ths, h⟩ := h
  have hl := h.len
  have hma := h.ma
  have hthr := h.thr
  have htl := hma.tlen
  have idle : c.pick κ most T cl th = c.tick → ∀ X', RunAt X' G r m vw tv ev av ths (c.st + 1) c.evs c.ats → Goes X X' G G → GR κ most m b T cl vb pv (c.pick κ most T cl th) W Z X' S r := fun e X' R' GG => by
    rw [e]
    exact ⟨G, K, vw, tv, ev, av, ths, R', ((hma.goes GG h.apart).more (Nat.le_succ c.st)).tick, h.apart, hl, hthr, h.vws, by have := h.evl; show c.evs.length ≤ 2 * (c.st + 1); omega, h.inW, h.lo, h.chg.trans GG.chg (fun _ _ x => x) (fun j hj e => by have := h.inW j (.inl e); omega), Nat.le_trans h.zs GG.chg.size, fun j hj => ⟨Nat.lt_of_lt_of_le (h.keep j hj).1 GG.chg.size, (GG.chg.block j (h.keep j hj).1 (h.keep j hj).2.2.1).trans (h.keep j hj).2.1, (h.keep j hj).2.2⟩⟩
  by_cases hin : 0 ≤ th ∧ th < (T : Int)
  · obtain ⟨i, rfl⟩ : ∃ i : Nat, th = (i : Int) := ⟨th.toNat, by omega⟩
    have hi : i < T := by omega
    have hlt : i < ths.length := by omega
    obtain ⟨x, hx⟩ : ∃ x, ths[i]? = some x := ⟨ths[i], List.getElem?_eq_getElem hlt⟩
    obtain ⟨hxl, hxc, hxn, hxb⟩ := hthr i x hx
    obtain ⟨g, cc, htv⟩ := slice_pos h.run.tr (by omega)
    have hr := h.run
    rw [htv] at hr
    by_cases hn0 : c.ix i < cl i
    · have hn : x.next < x.calls.length := by omega
      have hp : x.calls[x.next]? = some (pv i (c.ix i)) := by rw [hxn]; exact hxc _ hn0
      have hcan : Cfg.can T cl c (i : Int) := ⟨by omega, by omega, by simpa using hn0⟩
      have hgo : c.pick κ most T cl (i : Int) = (c.go κ most i).tick := by
        unfold Cfg.pick
        rw [if_pos hcan]
        simp
      have few : (c.go κ most i).t.length ≤ c.t.length + 1 := by
        have fw : (c.out κ most i).acc.length ≤ 1 := κ.few (i : Int) most c.next c.cs (c.σ i (c.ix i))
        show (c.t ++ (c.out κ most i).acc).length ≤ _
        rw [List.length_append]
        omega
      refine (r_pick_in (vb := vb i) (fun X K => MA κ most m b T cl vb pv c.st c X K) (fun d X K => d = (c.out κ most i).done ∧ MA κ most m b T cl vb pv (c.st + 1) (c.go κ most i) X K) c.t.length (fun _ => (c.go κ most i).t.length) i x (pv i (c.ix i)) X hr hx hn hp (h.vws i hi) hma h.apart (fun X Y K h hs hk => h.keep hs hk) (fun X K h => h.ltK) (fun X K h => h.memK)
        (fun d X Y K h hs hk => ⟨h.1, h.2.keep hs hk⟩) (fun d X K h => h.2.ltK) (fun d Y K hh => hh.2.memK)
        (fun X K hI => (hI.step i hi hn0 (by omega)).mono (fun e Y z => by obtain ⟨rfl, K', M, GG⟩ := z; exact ⟨_, K', rfl, ⟨rfl, M⟩, GG⟩)) (by omega) (by have := h.evl; omega) (by omega) (fun _ => by omega)).mono ?_
      rintro e X' ⟨d, G', K', ev', av', rfl, R', ⟨rfl, M'⟩, A', GG⟩
      have hev : pickEvs c.evs x c.st i (c.out κ most i).done = evsOf c i (c.out κ most i).done := by unfold pickEvs evsOf; rw [hxn, hxb]
      rw [hev] at R'
      refine ⟨by rw [decide_eq_true hcan], ?_⟩
      rw [hgo]
      refine ⟨G', K', vw, _, ev', av', _, R', M'.tick, A', by simp [hl], fun j t ht => ?_, h.vws, ?_, fun j e => ?_, h.lo, chg_low h.chg GG.chg (fun k hk => (M'.lows k hk).trans (hma.lows k hk).symm) (fun j hj e => ?_), Nat.le_trans h.zs GG.chg.size, fun j hj => ⟨Nat.lt_of_lt_of_le (h.keep j hj).1 GG.chg.size, (GG.chg.block j (h.keep j hj).1 (fun e => e.elim (h.keep j hj).2.2.1 (h.keep j hj).2.2.2)).trans (h.keep j hj).2.1, fun e => (GG.new j (.inl e)).elim (fun e => e.elim (h.keep j hj).2.2.1 (h.keep j hj).2.2.2) (fun e => by have := (h.keep j hj).1; omega), fun e => (GG.new j (.inr e)).elim (fun e => e.elim (h.keep j hj).2.2.1 (h.keep j hj).2.2.2) (fun e => by have := (h.keep j hj).1; omega)⟩⟩
      · show _ ∧ _ ∧ t.next = updN c.ix i (if (c.out κ most i).done then c.ix i + 1 else c.ix i) j ∧ t.begun = updN c.bg i (!(c.out κ most i).done) j
        by_cases hji : j = i
        · subst hji
          simp [hlt] at ht
          subst ht
          rw [updN_same, updN_same]
          refine ⟨hxl, hxc, ?_, rfl⟩
          simp only [pickThr, hxn]
          split <;> simp_all
        · rw [List.getElem?_set_ne (by omega)] at ht
          rw [updN_other _ _ _ _ hji, updN_other _ _ _ _ hji]
          exact hthr j t ht
      · have := h.evl
        show (evsOf c i (c.out κ most i).done).length ≤ 2 * (c.st + 1)
        unfold evsOf
        split <;> split <;> simp <;> omega
      · rcases e with e | ⟨e, q⟩
        · rcases GG.new j (.inl e) with (w | w) | w
          · exact h.inW j (.inl w)
          · by_cases z : Lo ≤ j
            · exact h.inW j (.inr ⟨w, z⟩)
            · have hK' : K' j := by obtain ⟨F, D, md, tg, M'⟩ := M'; exact M'.lowK j (by omega)
              exact absurd hK' (A' j e)
          · exact Nat.le_trans h.chg.size w
        · rcases GG.new j (.inr e) with (w | w) | w
          · exact h.inW j (.inl w)
          · exact h.inW j (.inr ⟨w, q⟩)
          · exact Nat.le_trans h.chg.size w
      · rcases e with e | e
        · have := h.inW j (.inl e); omega
        · rcases Nat.lt_or_ge j Lo with z | z
          · exact z
          · have := h.inW j (.inr ⟨e, z⟩); omega
    · have hcan : ¬ Cfg.can T cl c (i : Int) := fun e => hn0 (by simpa using e.2.2)
      have hid : c.pick κ most T cl (i : Int) = c.tick := by
        unfold Cfg.pick
        rw [if_neg hcan]
      refine (r_pick_done i x X hr hx (by omega) (by omega)).mono ?_
      rintro e X' ⟨rfl, R', GG⟩
      rw [← htv] at R'
      exact ⟨by rw [decide_eq_false hcan], idle hid X' R' GG⟩
  · have hcan : ¬ Cfg.can T cl c th := fun e => hin ⟨e.1, e.2.1⟩
    have hid : c.pick κ most T cl th = c.tick := by
      unfold Cfg.pick
      rw [if_neg hcan]
    refine (r_pick_out th X h.run (by omega) (by omega)).mono ?_
    rintro e X' ⟨rfl, R', GG⟩
    exact ⟨by rw [decide_eq_false hcan], idle hid X' R' GG⟩
end
end Go.Proofs.Ytnhiodmigmmfgaa
/- What a runner tells. -/
namespace Go.Proofs.Ytnhiodmigmmfgaa
open Go.RowKit Go.Shelf

set_option maxRecDepth 100000 in
theorem clone_e (v : Value) (n : Nat) (xs : List Value) (W : World) (h : W.ownsRow 0 99 4 v n xs) (hn : n ≤ 1099511627776) (h1 : ∀ u ∈ xs, u.oneCell' = true) :
    Calls Try.prog 34 #[v] W fun e W' => ∃ v', e = .returned v' ∧ W'.ownsRow 0 99 4 v' n xs ∧ Chg (fun _ => False) W W' ∧ ∀ k, v'.ownBlock = some k → W.heap.size ≤ k := by
  obtain ⟨i0, hi, hz0, hz1, hz2⟩ := info_parts infoE
  have q1 : ∀ (w : World) (a : Option Addr) (n c n' c' : Nat), (binOp .eql 62 (.slice a n c) (.slice none n' c')).run Try.prog w = .ok (.bool a.isNone) w := fun w a n c n' c' => Lib.run_eql_slice_nil w _ _ a n c n' c' Try.underlying62
  rcases h.2 with ⟨rfl, rfl⟩ | ⟨g, cap, cur, rfl, _⟩
  · have hx : xs = [] := List.eq_nil_of_length_eq_zero (by simpa using h.1)
    subst hx
    clear h h1
    go_enter Try.func34, Try.ntmps34
    go_wp2_with fail
    go_ret
    exact ⟨.slice none 0 0, by simp, World.ownsRow_nil _ _ _ _, Chg.refl _ _, fun k e => by simp [Value.ownBlock] at e⟩
  · have H := keepH h
    have H1 := keepH h1
    have hxl := h.1
    clear h h1
    go_enter Try.func34, Try.ntmps34
    go_wp2_with (at_builtin; refine wpList_append_own_at _ rfl _ _ 62 rfl 0 99 i0 (evV 0 0 0 false) 4 32 Try.underlying62 hi hz0 hz1 hz2 rfl (by decide) (.slice (some ⟨W.heap.size, 0, none⟩) 0 0) 0 [] rfl ⟨rfl, .inr ⟨W.heap.size, 0, #[], rfl, Nat.zero_le _, heap_alloc_new _ _, Nat.le_refl _, by unfold maxLen; omega, rfl, rfl⟩⟩ ⟨g, 0, none⟩ n cap xs rfl hxl (fun j u hj => ((H.out.alloc _).cells (g := g) rfl j u hj)) H1.out (by unfold maxLen; omega) (by omega) (Nat.zero_le _) ?_; intro v' w1 r1 r2 r3 r4; have R1 := keepH r1; have R4 := keepH r4; clear r1 r3 r4)
    go_ret
    refine ⟨v', by simp, ?_, ((Chg.refl _ W).alloc _).grown r2 (fun k e hk => by simp [Value.ownBlock] at e; omega), fun k e => ?_⟩
    · have e := R1.out
      simpa using e
    · rcases R4.out with e2 | e2
      · rw [e2] at e
        simp [Value.ownBlock] at e
        omega
      · rw [e2] at e
        simp at e
        omega

set_option maxRecDepth 100000 in
theorem clone_i (v : Value) (n : Nat) (xs : List Value) (W : World) (h : W.ownsRow 0 3 1 v n xs) (hn : n ≤ 1099511627776) (h1 : ∀ u ∈ xs, u.oneCell' = true) :
    Calls Try.prog 36 #[v] W fun e W' => ∃ v', e = .returned v' ∧ W'.ownsRow 0 3 1 v' n xs ∧ Chg (fun _ => False) W W' ∧ ∀ k, v'.ownBlock = some k → W.heap.size ≤ k := by
  obtain ⟨i0, hi, hz0, hz1, hz2⟩ := info_parts infoInt
  have q1 : ∀ (w : World) (a : Option Addr) (n c n' c' : Nat), (binOp .eql 23 (.slice a n c) (.slice none n' c')).run Try.prog w = .ok (.bool a.isNone) w := fun w a n c n' c' => Lib.run_eql_slice_nil w _ _ a n c n' c' Try.underlying23
  rcases h.2 with ⟨rfl, rfl⟩ | ⟨g, cap, cur, rfl, _⟩
  · have hx : xs = [] := List.eq_nil_of_length_eq_zero (by simpa using h.1)
    subst hx
    clear h h1
    go_enter Try.func36, Try.ntmps36
    go_wp2_with fail
    go_ret
    exact ⟨.slice none 0 0, by simp, World.ownsRow_nil _ _ _ _, Chg.refl _ _, fun k e => by simp [Value.ownBlock] at e⟩
  · have H := keepH h
    have H1 := keepH h1
    have hxl := h.1
    clear h h1
    go_enter Try.func36, Try.ntmps36
    go_wp2_with (at_builtin; refine wpList_append_own_at _ rfl _ _ 23 rfl 0 3 i0 (.int .i64 0) 1 8 Try.underlying23 hi hz0 hz1 hz2 rfl (by decide) (.slice (some ⟨W.heap.size, 0, none⟩) 0 0) 0 [] rfl ⟨rfl, .inr ⟨W.heap.size, 0, #[], rfl, Nat.zero_le _, heap_alloc_new _ _, Nat.le_refl _, by unfold maxLen; omega, rfl, rfl⟩⟩ ⟨g, 0, none⟩ n cap xs rfl hxl (fun j u hj => ((H.out.alloc _).cells (g := g) rfl j u hj)) H1.out (by unfold maxLen; omega) (by omega) (Nat.zero_le _) ?_; intro v' w1 r1 r2 r3 r4; have R1 := keepH r1; have R4 := keepH r4; clear r1 r3 r4)
    go_ret
    refine ⟨v', by simp, ?_, ((Chg.refl _ W).alloc _).grown r2 (fun k e hk => by simp [Value.ownBlock] at e; omega), fun k e => ?_⟩
    · have e := R1.out
      simpa using e
    · rcases R4.out with e2 | e2
      · rw [e2] at e
        simp [Value.ownBlock] at e
        omega
      · rw [e2] at e
        simp at e
        omega

theorem evRow_one (l : List Ev) : ∀ u ∈ evRow l, u.oneCell' = true := by
  intro u hu
  obtain ⟨x, _, hu⟩ := List.mem_flatMap.1 hu
  simp only [Ev.cells, List.mem_cons, List.not_mem_nil, or_false] at hu
  rcases hu with rfl | rfl | rfl | rfl <;> rfl
theorem i64_one (l : List Int) : ∀ u ∈ l.map i64V, u.oneCell' = true := by
  intro u hu
  obtain ⟨x, _, rfl⟩ := List.mem_map.1 hu
  rfl

section
variable {r m : Nat} {vw : List Value} {tv ev av : Value} {ths : List Thr} {steps : Nat} {evs : List Ev} {ats : List Int} {G : Nat → Prop}
set_option maxRecDepth 100000 in
theorem r_steps (W : World) (h : RunAt W G r m vw tv ev av ths steps evs ats) : Calls Try.prog 15 #[.pointer (some ⟨r, 0, none⟩)] W fun e W' => e = .returned (.int .i64 (steps : Int)) ∧ W' = W := by
  have c1 : W.cell? ⟨r, 66, none⟩ = some (.int .i64 (steps : Int)) := h.cellk 1
  clear h
  go_enter Try.func15, Try.ntmps15
  go_wp2_with fail
  go_ret
  exact ⟨by simp, rfl⟩
set_option maxRecDepth 100000 in
theorem r_events (W : World) (h : RunAt W G r m vw tv ev av ths steps evs ats) (hl : evs.length ≤ 1099511627776) : Calls Try.prog 16 #[.pointer (some ⟨r, 0, none⟩)] W fun e W' => ∃ p c, e = .returned (.slice p evs.length c) ∧ W'.ownsRow 0 99 4 (.slice p evs.length c) evs.length (evRow evs) ∧ Chg (fun _ => False) W W' ∧ ∀ k, (Value.slice p evs.length c).ownBlock = some k → W.heap.size ≤ k := by
  have c2 : W.cell? ⟨r, 67, none⟩ = some ev := h.cellk 2
  have H := keepH h
  clear h
  go_enter Try.func16, Try.ntmps16
  go_wp2_with fail
  refine (clone_e ev evs.length (evRow evs) _ H.out.er hl (evRow_one evs)).mono ?_
  rintro e w' ⟨v, rfl, R, C, B⟩
  have HR := keepH R
  have HC := keepH C
  have HB := keepH B
  obtain ⟨p, c, rfl⟩ := slice_of R
  clear R C B
  go_wp2_with fail
  go_ret
  exact ⟨p, c, by simp, HR.out, HC.out, HB.out⟩
def allDone (ths : List Thr) : Bool := ths.all fun x => decide (x.calls.length ≤ x.next)
set_option maxRecDepth 100000 in
set_option maxHeartbeats 1000000 in
theorem r_done (W : World) (h : RunAt W G r m vw tv ev av ths steps evs ats) : Calls Try.prog 14 #[.pointer (some ⟨r, 0, none⟩)] W fun e W' => e = .returned (.bool (allDone ths)) ∧ ∃ q, W' = W.drewN q := by
  have c0 : W.cell? ⟨r, 65, none⟩ = some tv := h.cellk 0
  have H := keepH h
  obtain ⟨p, c, hv⟩ := slice_of h.tr
  have hth := h.thl
  subst hv
  clear h
  go_enter Try.func14, Try.ntmps14
  go_wp2_with fail
  go_loopw [11] (fun s wr => ∃ (k q : Nat), k ≤ ths.length ∧ s = .int .i64 (k : Int) ∧ wr = W.drewN q ∧ Hid (∀ j x, j < k → ths[j]? = some x → x.calls.length ≤ x.next)) (fun s _ => ths.length - (intOf s).toNat)
  case atStart => exact ⟨0, 0, by omega, rfl, rfl, fun j x hj => absurd hj (Nat.not_lt_zero _)⟩
  case round =>
    obtain ⟨k, q, hk, rfl, rfl, HK⟩ := hrel
    by_cases hlt : k < ths.length
    · have t2 : (k : Int) < (ths.length : Int) := by omega
      obtain ⟨x, hx⟩ : ∃ x, ths[k]? = some x := ⟨ths[k], List.getElem?_eq_getElem hlt⟩
      obtain ⟨g, c', hg⟩ := slice_pos H.out.tr (by omega)
      simp only [Value.slice.injEq, true_and] at hg
      obtain ⟨rfl, rfl⟩ := hg
      have HX := keepH hx
      have d0 := keepH (H.out.thrCell k 0 (by omega) x hx)
      have d1 := keepH (H.out.thrCell k 1 (by omega) x hx)
      have dc := keepH (H.out.calls x (List.mem_of_getElem? hx))
      clear hx
      by_cases hd : x.calls.length ≤ x.next
      · go_wp2_with fail
        refine (s_isDone g k x (W.drewN q) d0.out d1.out (row_kept (W := W) dc.out fun _ _ => rfl)).mono ?_
        rintro e w' ⟨rfl, q2, rfl⟩
        go_wp2_with fail
        go_roundw
        case rel => exact ⟨k + 1, _, by omega, by go_num, rfl, fun j y hj hy => by
            by_cases e : j = k
            · subst e
              have e2 := HX.out
              rw [e2] at hy
              simp at hy
              subst hy
              exact hd
            · exact HK.out j y (by omega) hy⟩
        case measure => simp [intOf]; omega
      · have hd' : decide (x.calls.length ≤ x.next) = false := by simpa using hd
        go_wp2_with fail
        refine (s_isDone g k x (W.drewN q) d0.out d1.out (row_kept (W := W) dc.out fun _ _ => rfl)).mono ?_
        rintro e w' ⟨rfl, q2, rfl⟩
        go_wp2_with fail
        go_ret
        refine ⟨?_, _, rfl⟩
        have e : allDone ths = false := by
          rw [allDone, List.all_eq_false]
          exact ⟨x, List.mem_of_getElem? HX.out, by simpa using hd⟩
        simp [e]
    · obtain rfl : k = ths.length := by omega
      go_wp2_with fail
      go_ret
      refine ⟨?_, _, rfl⟩
      have e : allDone ths = true := by
        rw [allDone, List.all_eq_true]
        intro x hx
        obtain ⟨j, hj⟩ := List.getElem?_of_mem hx
        simpa using HK.out j x (List.getElem?_eq_some_iff.1 hj).1 hj
      simp [e]
set_option maxRecDepth 100000 in
set_option maxHeartbeats 4000000 in
theorem r_at {b most next : Nat} {F : Nat → Prop} {cs : List Nat} {l : List Acc} (W : World) (h : RunAt W G r m vw tv ev av ths steps evs ats) (hm : IsMem W m b) (hb : Bank W F b most next cs l) (ha : ats.length ≤ 1099511627776) (hl : l.length ≤ 1099511627776) :
    Calls Try.prog 17 #[.pointer (some ⟨r, 0, none⟩)] W fun e W' => ∃ p c, e = .returned (.slice p (extN ats l.length (-1)).length c) ∧ W'.ownsRow 0 3 1 (.slice p (extN ats l.length (-1)).length c) (extN ats l.length (-1)).length ((extN ats l.length (-1)).map i64V) ∧ Chg (fun _ => False) W W' ∧ ∀ k, (Value.slice p (extN ats l.length (-1)).length c).ownBlock = some k → W.heap.size ≤ k := by
  have c3 : W.cell? ⟨r, 68, none⟩ = some av := h.cellk 3
  have c0 : W.cell? ⟨r, 0, none⟩ = some (.pointer (some ⟨m, 0, none⟩)) := h.cell0
  have H := keepH h
  have HM := keepH hm
  have HB := keepH hb
  have hrl := lt_of h.blk
  clear h hm hb
  go_enter Try.func17, Try.ntmps17
  go_wp2_with fail
  go_region_with (first
    | (go_at_call 36; refine (clone_i av ats.length (ats.map i64V) W.drew (row_kept (W := W) H.out.ar fun k _ => rfl) ha (i64_one ats)).mono ?_; rintro e w1 ⟨v1, rfl, R1, C1, B1⟩; have HR1 := keepH R1; have HC1 : Hid (Chg (fun _ => False) W w1) := ⟨C1.os, C1.tape, C1.output, C1.size, C1.block⟩; have HB1 := keepH B1; have d0 : w1.cell? ⟨r, 0, none⟩ = some (.pointer (some ⟨m, 0, none⟩)) := cell_chg HC1.out c0 (fun h => h); clear R1 C1 B1)
    | (go_at_call 30; refine (m_made m b most next F cs l _ (HM.out.chg HC1.out (fun h => h)) (HB.out.chg HC1.out (fun _ _ h => h))).mono ?_; rintro e w2 ⟨rfl, rfl⟩)
    | (go_at_call 30; refine (m_made m b most next F cs l W.drew (HM.out.chg (W' := W.drew) (Goes.drewN W (fun _ => False) 1).chg (fun h => h)) (HB.out.chg (W' := W.drew) (Goes.drewN W (fun _ => False) 1).chg (fun _ _ h => h))).mono ?_; rintro e w2 ⟨rfl, rfl⟩)
    | (go_at_call 35; refine (s_extend _ ats l.length (-1) _ HR1.out hl).mono ?_; rintro e w3 ⟨v3, rfl, R3, C3, B3⟩; have HR3 := keepH R3; have HC3 := keepH C3; have HB3 := keepH B3; clear R3 C3 B3))
  all_goals (obtain ⟨p3, q3, hv3⟩ := slice_of HR3.out; subst hv3)
  all_goals (try go_wp2_with fail)
  all_goals go_ret
  all_goals
    refine ⟨p3, q3, by simp [Act.put], HR3.out, HC1.out.trans HC3.out (fun _ _ x => x) (fun k hk e => by have : W.heap.size ≤ k := HB1.out k e; omega), fun k e => ?_⟩
    rcases HB3.out k e with e | e
    · exact HB1.out k e
    · exact Nat.le_trans HC1.out.size e
end
end Go.Proofs.Ytnhiodmigmmfgaa
