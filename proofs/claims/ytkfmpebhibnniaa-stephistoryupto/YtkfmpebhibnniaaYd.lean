/- stepOf over a plan's proc. -/
import Derived.Test.YtkfmpebhibnniaaYc
namespace Go.Proofs.Ytkfmpebhibnniaa
open Go.RowKit Go.Shelf
set_option linter.unusedVariables false

section
variable {X0 X : World} {F0 D0 F D : Nat → Prop} {b v most next : Nat} {th : Int} {made : Nat} {cs : List Nat} {t : List Acc}
theorem AS.base (A : AS X0 X F0 D0 F D b v most next th made cs t) : AS X X F D F D b v most next th made cs t := ⟨A.bank, A.view, A.nv, A.dis, Chg.refl _ _, fun _ e => .inl e, fun _ e => .inl e⟩
theorem AS.wrap {W1 : World} {o : Obj} {F' D' : Nat → Prop} {next' made' : Nat} {cs' : List Nat} {t' : List Acc} (A0 : AS X X F D F D b v most next th made cs t) (A : AS (X.alloc o) W1 F D F' D' b v most next' th made' cs' t') (u : Value) : AS X (W1.setCell ⟨X.heap.size, 0, none⟩ u) F D F' D' b v most next' th made' cs' t' ∧ ∀ k, D' k → (W1.setCell ⟨X.heap.size, 0, none⟩ u).heap[k]? = W1.heap[k]? := by
  obtain ⟨l, B, L⟩ := A.bank
  obtain ⟨l0, B0, _⟩ := A0.bank
  have sz : (X.alloc o).heap.size = X.heap.size + 1 := by simp
  have vl := lt_of A0.view
  have nF : ¬ F' X.heap.size := fun e => (A.newF _ e).elim (fun x => by have := B0.ltF _ x; omega) (fun x => by omega)
  have nD : ¬ D' X.heap.size := fun e => (A.newD _ e).elim (fun x => by have := (A0.dis _ x).2.2; omega) (fun x => by omega)
  have c : Chg (fun k => k = X.heap.size) W1 (W1.setCell ⟨X.heap.size, 0, none⟩ u) := (Chg.refl (fun k => k = X.heap.size) W1).setCell (p := ⟨X.heap.size, 0, none⟩) (fun _ => rfl) u
  refine ⟨⟨⟨l, B.chg c (fun k hk e => nF (e ▸ hk)), L⟩, A.view.chg c (by omega), A.nv, fun k hk => ⟨(A.dis k hk).1, (A.dis k hk).2.1, Nat.lt_of_lt_of_le (A.dis k hk).2.2 c.size⟩, (((Chg.refl (fun k => F k ∨ k = v ∨ D k) X).alloc o).trans A.chg (fun _ _ x => x) (fun _ _ x => x)).trans c (fun _ _ x => x) (fun i hi e => by omega), fun k e => (A.newF k e).elim .inl (fun x => .inr (by omega)), fun k e => (A.newD k e).elim .inl (fun x => .inr (by omega))⟩, fun k hk => Below.heap_setCell _ _ _ k (fun e => nD (by have e2 : k = X.heap.size := e; rw [← e2]; exact hk))⟩

def SoAt (st : Nat) (pv : Value) (p : Nat) : Prop := ∀ (v : Value) (d : Bool) (K : World → Prop) (W : World), (Calls Try.prog st #[.pointer (some ⟨p, 0, none⟩), v] (W.alloc (.cells #[.bool false] 4)) fun e W' => e = .returned (.bool d) ∧ K W' ∧ W'.heap[W.heap.size]? = (W.alloc (.cells #[.bool false] 4)).heap[W.heap.size]?) →
    Calls Try.prog 37 #[pv, v] W fun e W' => e = .returned (.bool d) ∧ ∃ W1, K W1 ∧ W' = W1.setCell ⟨W.heap.size, 0, none⟩ (.bool d)
theorem as_soY {st p : Nat} {pv : Value} {d : Bool} {next' : Nat} {cs' : List Nat} {t' : List Acc} (so : SoAt st pv p) (A : AS X X F D F D b v most next th made cs t) (Q : World → (Nat → Prop) → Nat → Prop) (keepQ : ∀ Y Y' D' m, Q Y D' m → (∀ k, D' k → Y'.heap[k]? = Y.heap[k]?) → Q Y' D' m)
    (step : ∀ X1, (∀ k, k < X.heap.size → X1.heap[k]? = X.heap[k]?) → X.heap.size ≤ X1.heap.size → AS X1 X1 F D F D b v most next th made cs t → Calls Try.prog st #[.pointer (some ⟨p, 0, none⟩), .pointer (some ⟨v, 0, none⟩)] X1 fun e Y => e = .returned (.bool d) ∧ ∃ F' D' made', AS X1 Y F D F' D' b v most next' th made' cs' t' ∧ Q Y D' made') :
    Calls Try.prog 37 #[pv, .pointer (some ⟨v, 0, none⟩)] X fun e Y => e = .returned (.bool d) ∧ ∃ F' D' made', AS X Y F D F' D' b v most next' th made' cs' t' ∧ Q Y D' made' := by
  have c : Chg (fun _ => False) X (X.alloc (.cells #[.bool false] 4)) := (Chg.refl _ _).alloc _
  have A1 := (A.own (D' := D) (c.mono (fun _ _ x => x.elim)) (fun k e => .inl e) (fun k e => Nat.lt_of_lt_of_le (A.dis k e).2.2 c.size)).base
  obtain ⟨l0, B0, _⟩ := A.bank
  have vl := lt_of A.view
  refine (so (.pointer (some ⟨v, 0, none⟩)) d (fun Y => ∃ F' D' made', AS (X.alloc (.cells #[.bool false] 4)) Y F D F' D' b v most next' th made' cs' t' ∧ Q Y D' made') X ?_).mono ?_
  · refine (step _ (fun k e => Below.heap_alloc _ _ _ e) c.size A1).mono ?_
    rintro e Y ⟨rfl, F', D', made', A', q⟩
    refine ⟨rfl, ⟨F', D', made', A', q⟩, A'.chg.block _ (by simp) (fun e => ?_)⟩
    rcases e with e | e | e
    · have := B0.ltF _ e; omega
    · omega
    · have := (A.dis _ e).2.2; omega
  · rintro e Y ⟨rfl, W1, ⟨F', D', made', A', q⟩, rfl⟩
    obtain ⟨A2, hk⟩ := A.wrap A' (.bool d)
    exact ⟨rfl, F', D', made', A2, keepQ _ _ _ _ q hk⟩
end
theorem mt_step_pl (a : Addr) (w : World) : (method 279 59 (.pointer (some a)) "Step").run Try.prog w = .ok (82, .pointer (some a)) w := by kernel_rfl
theorem mt_step_row (a : Addr) (w : World) : (method 279 36 (.pointer (some a)) "Step").run Try.prog w = .ok (14, .pointer (some a)) w := by kernel_rfl
set_option maxRecDepth 100000 in
theorem so_pl (p : Nat) : SoAt 82 (.iface 59 (.pointer (some ⟨p, 0, none⟩))) p := by
  intro v d K W hK
  have hmf : ∀ (fn : Fn) (first cap : Array Value) (w : World), (Instr.makeFunc fn first cap).run Try.prog w = .ok (.func fn first cap) w := fun _ _ _ _ => rfl
  have hm := mt_step_pl ⟨p, 0, none⟩
  have HK := keepH hK
  clear hK
  go_enter_defers Try.func37, Try.ntmps37
  go_wp2_with fail
  refine HK.out.mono ?_
  rintro e W1 ⟨rfl, hR, hb0⟩
  have hb : W1.heap[W.heap.size]? = some (.cells #[.bool false] 4 (0, 0)) := hb0.trans (heap_alloc_new _ _)
  have c0 : W1.cell? ⟨W.heap.size, 0, none⟩ = some (.bool false) := cell_of hb 0
  have f0 := free_of hb 0
  have HR := keepH hR
  clear hR hb hb0
  go_wp2_with fail
  refine leaves_cons (f := 57) (args := #[.pointer (some ⟨W.heap.size, 0, none⟩)]) (by simp) (by simp [go_sem]) ?_
  refine (s_catch ⟨W.heap.size, 0, none⟩ _).mono ?_
  rintro e u' w'' ⟨rfl, rfl, rfl⟩
  have r0 := World.cell?_setCell_same' W1 ⟨W.heap.size, 0, none⟩ (.bool d) (by rw [c0]; rfl)
  simp [Leaves, settle, results, Try.results37, go_sem, r0]
  exact ⟨W1, HR.out, rfl⟩
set_option maxRecDepth 100000 in
theorem so_row (p : Nat) : SoAt 14 (.iface 36 (.pointer (some ⟨p, 0, none⟩))) p := by
  intro v d K W hK
  have hmf : ∀ (fn : Fn) (first cap : Array Value) (w : World), (Instr.makeFunc fn first cap).run Try.prog w = .ok (.func fn first cap) w := fun _ _ _ _ => rfl
  have hm := mt_step_row ⟨p, 0, none⟩
  have HK := keepH hK
  clear hK
  go_enter_defers Try.func37, Try.ntmps37
  go_wp2_with fail
  refine HK.out.mono ?_
  rintro e W1 ⟨rfl, hR, hb0⟩
  have hb : W1.heap[W.heap.size]? = some (.cells #[.bool false] 4 (0, 0)) := hb0.trans (heap_alloc_new _ _)
  have c0 : W1.cell? ⟨W.heap.size, 0, none⟩ = some (.bool false) := cell_of hb 0
  have f0 := free_of hb 0
  have HR := keepH hR
  clear hR hb hb0
  go_wp2_with fail
  refine leaves_cons (f := 57) (args := #[.pointer (some ⟨W.heap.size, 0, none⟩)]) (by simp) (by simp [go_sem]) ?_
  refine (s_catch ⟨W.heap.size, 0, none⟩ _).mono ?_
  rintro e u' w'' ⟨rfl, rfl, rfl⟩
  have r0 := World.cell?_setCell_same' W1 ⟨W.heap.size, 0, none⟩ (.bool d) (by rw [c0]; rfl)
  simp [Leaves, settle, results, Try.results37, go_sem, r0]
  exact ⟨W1, HR.out, rfl⟩
set_option maxRecDepth 100000 in
set_option maxHeartbeats 4000000 in
theorem pl_e {X : World} {F D : Nat → Prop} {b v most next : Nat} {th : Int} {made : Nat} {cs : List Nat} {t : List Acc} (A : AS X X F D F D b v most next th made cs t) {pb ln lc at_ : Nat} {lp : Option Addr} {got : List Nat} (hP : PlAt X D pb lp ln lc at_ got) (hn : ln ≤ at_) :
    Calls Try.prog 82 #[.pointer (some ⟨pb, 0, none⟩), .pointer (some ⟨v, 0, none⟩)] X fun e Y => e = .returned (.bool true) ∧ ∃ F' D' made', AS X Y F D F' D' b v most next th made' cs t ∧ (made' ≤ made + 1 ∧ PlAt Y D' pb lp ln lc at_ got) := by
  obtain ⟨gv, hpb, hrow, hD⟩ := hP.ex
  have c0 : X.cell? ⟨pb, 0, none⟩ = some (.slice lp ln lc) := cell_of hpb 0
  have c1 : X.cell? ⟨pb, 1, none⟩ = some (.int .i64 (at_ : Int)) := cell_of hpb 1
  have t1 : ¬ (at_ : Int) < (ln : Int) := by omega
  have t2 : decide (at_ < ln) = false := decide_eq_false (by omega)
  have t3 : (ln : Int) ≤ (at_ : Int) := by omega
  have t4 : decide (ln ≤ at_) = true := decide_eq_true hn
  have HA := keepH A
  have HP := keepH hP
  clear A hP
  go_enter Try.func82, Try.ntmps82
  go_upto_region 1 with fail
  go_quiet (fail)
  obtain ⟨X1, hX1⟩ : ∃ X1, X1 = X.drewN nq := ⟨_, rfl⟩
  rw [← hX1]
  have d0 : X1.cell? ⟨pb, 0, none⟩ = some (.slice lp ln lc) := by rw [hX1]; exact c0
  have d1 : X1.cell? ⟨pb, 1, none⟩ = some (.int .i64 (at_ : Int)) := by rw [hX1]; exact c1
  have HA1 : Hid (AS X X1 F D F D b v most next th made cs t) := by rw [hX1]; exact HA.out.drewN _
  have HP1 : Hid (PlAt X1 D pb lp ln lc at_ got) := by rw [hX1]; exact HP.out.kept (fun k _ => rfl)
  clear hX1 c0 c1
  go_upto_region 19 with fail
  go_quiet (fail)
  (try go_wp2_with fail)
  go_ret
  exact ⟨by simp, F, D, made, HA1.out.drewN _, by omega, HP1.out.kept (fun k _ => rfl)⟩
def nxtM (most : Nat) (m : Mu) (o : Option DoP) : Mu := match o with
  | some d => mkM most m d
  | none => m
def nxtG (most : Nat) (m : Mu) (o : Option DoP) : List Nat := match o with
  | some d => mkG most m d
  | none => []
def nxtT (th : Int) (most : Nat) (m : Mu) (o : Option DoP) : List Acc := match o with
  | some d => mkT th most m d
  | none => []
def nxtA (a : Nat) (o : Option DoP) : Nat := match o with
  | some d => a + 1
  | none => a
theorem pl_any {X : World} {F D : Nat → Prop} {b v most next : Nat} {th : Int} {made : Nat} {cs : List Nat} {t : List Acc} (A : AS X X F D F D b v most next th made cs t) {B pb lc at_ : Nat} {lp : Option Addr} {L : List DoP} {got : List Nat} (hP : PlAt X D pb lp L.length lc at_ got) (hL : DosAt X B lp L) (hB : B ≤ X.heap.size) (hBD : ∀ k, D k → B ≤ k) (hBF : ∀ k, F k → B ≤ k) (hBv : B ≤ v) (hg : got.length ≤ 1099511627776) (h1 : made < 1099511627776) (h2 : t.length < 1099511627776) (hll : L.length ≤ 1099511627776) :
    Calls Try.prog 82 #[.pointer (some ⟨pb, 0, none⟩), .pointer (some ⟨v, 0, none⟩)] X fun e Y => e = .returned (.bool (decide (L.length ≤ at_ + 1))) ∧ ∃ F' D' made', AS X Y F D F' D' b v most (nxtM most ⟨next, cs⟩ L[at_]?).next th made' (nxtM most ⟨next, cs⟩ L[at_]?).cs (t ++ nxtT th most ⟨next, cs⟩ L[at_]?) ∧ (made' ≤ made + 1 ∧ PlAt Y D' pb lp L.length lc (nxtA at_ L[at_]?) (got ++ nxtG most ⟨next, cs⟩ L[at_]?)) := by
  cases hd : L[at_]? with
  | none =>
    have hn : L.length ≤ at_ := List.getElem?_eq_none_iff.1 hd
    simp only [nxtM, nxtG, nxtT, nxtA, List.append_nil]
    refine (pl_e A hP hn).mono ?_
    rintro e Y ⟨rfl, r⟩
    exact ⟨by rw [decide_eq_true (show L.length ≤ at_ + 1 by omega)], r⟩
  | some d =>
    simp only [nxtM, nxtG, nxtT, nxtA]
    cases hk : isA d with
    | false => exact pl_k0 A hP hL hB hBD hBF hBv hd hk hg h1 h2 hll
    | true =>
      have h15 : 1 ≤ d.kd ∧ d.kd ≤ 5 := by simpa [isA] using hk
      rcases (show d.kd = 1 ∨ d.kd = 2 ∨ d.kd = 3 ∨ d.kd = 4 ∨ d.kd = 5 by omega) with e | e | e | e | e
      · exact pl_k1 A hP hL hB hBD hBF hBv hd e hg h1 h2 hll
      · exact pl_k2 A hP hL hB hBD hBF hBv hd e hg h1 h2 hll
      · exact pl_k3 A hP hL hB hBD hBF hBv hd e hg h1 h2 hll
      · exact pl_k4 A hP hL hB hBD hBF hBv hd e hg h1 h2 hll
      · exact pl_k5 A hP hL hB hBD hBF hBv hd e hg h1 h2 hll
theorem pl_so {X : World} {F D : Nat → Prop} {b v most next : Nat} {th : Int} {made : Nat} {cs : List Nat} {t : List Acc} (A : AS X X F D F D b v most next th made cs t) {B pb lc at_ : Nat} {lp : Option Addr} {L : List DoP} {got : List Nat} (hP : PlAt X D pb lp L.length lc at_ got) (hL : DosAt X B lp L) (hB : B ≤ X.heap.size) (hBD : ∀ k, D k → B ≤ k) (hBF : ∀ k, F k → B ≤ k) (hBv : B ≤ v) (hg : got.length ≤ 1099511627776) (h1 : made < 1099511627776) (h2 : t.length < 1099511627776) (hll : L.length ≤ 1099511627776) :
    Calls Try.prog 37 #[.iface 59 (.pointer (some ⟨pb, 0, none⟩)), .pointer (some ⟨v, 0, none⟩)] X fun e Y => e = .returned (.bool (decide (L.length ≤ at_ + 1))) ∧ ∃ F' D' made', AS X Y F D F' D' b v most (nxtM most ⟨next, cs⟩ L[at_]?).next th made' (nxtM most ⟨next, cs⟩ L[at_]?).cs (t ++ nxtT th most ⟨next, cs⟩ L[at_]?) ∧ (made' ≤ made + 1 ∧ PlAt Y D' pb lp L.length lc (nxtA at_ L[at_]?) (got ++ nxtG most ⟨next, cs⟩ L[at_]?)) :=
  as_soY (so_pl pb) A (fun Y D' m => m ≤ made + 1 ∧ PlAt Y D' pb lp L.length lc (nxtA at_ L[at_]?) (got ++ nxtG most ⟨next, cs⟩ L[at_]?)) (fun Y Y' D' m h hk => ⟨h.1, h.2.kept hk⟩)
    (fun X1 hlo hs A1 => pl_any A1 (hP.kept (fun k e => hlo k (A.dis k e).2.2)) (hL.low (fun k hk => hlo k (by omega))) (by omega) hBD hBF hBv hg h1 h2 hll)
end Go.Proofs.Ytkfmpebhibnniaa
