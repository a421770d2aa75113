/- A plan's proc: one step of it, over a memory with one view. -/
import Derived.Test.YtkfmpebhibnniaaGa
import Derived.Test.YtkfmpebhibnniaaYp
import Derived.Deep.RegionHeld
import Derived.Deep.RegionHeld3
namespace Go.Proofs.Ytkfmpebhibnniaa
open Go.RowKit Go.Shelf
set_option linter.unusedVariables false

theorem step_append_base {P : Program} {ops : Array Oper} {o : Oper} {a : Act} {w : World} {K : Act → World → Prop} {Q : Exit → Act → World → Prop} {E : Prop}
    (hgd : o.guard = none) (s x : Operand) (t : TypeId) (ho : o.op = Op.call { callee := Callee.builtin Builtin.append, args := #[s, x], argTypes := #[t, t] })
    (B : Nat) (e : TypeId) (i : TypeInfo) (z : Value) (size bytes : Nat) (ht : P.underlying t = some (.slice e)) (hi : P.info? e = some i) (hz : i.zero = some z)
    (hsize : i.size = size) (hby : i.bytes = bytes) (hzs : z.cells.size = size) (hsz : 0 < size)
    (v : Value) (n : Nat) (xs : List Value) (hs : a.eval s = v) (hown : w.ownsRow B e size v n xs)
    (ad : Addr) (m c : Nat) (news : List Value) (hx : a.eval x = .slice (some ad) m c) (hl : news.length = m * size) (hnews : ∀ j u, news[j]? = some u → w.cell? (ad.add j) = some u) (h1 : ∀ u ∈ news, u.oneCell' = true)
    (h63 : n + m ≤ maxLen) (hbytes : (n + m) * bytes ≤ 140737488355328) (hB : B ≤ w.heap.size)
    (h : ∀ v' w', w'.ownsRow B e size v' (n + m) (xs ++ news) → w.grownBy w' v.ownBlock → (v'.ownBlock = v.ownBlock ∨ v'.ownBlock = some w.heap.size) → K (a.put o.dst v') w') :
    if Region.wanted o (yielded ops a.tmps) = true then Oper.wp P o a w K Q else E := by
  have hw : Region.wanted o (yielded ops a.tmps) = true := by simp [Region.wanted, hgd]
  rw [if_pos hw]
  obtain ⟨v', w', hr, h2, h3, h4, h5⟩ := run_append_own_at (P := P) w B t o.type e i z size bytes ht hi hz hsize hby hzs hsz v n xs hown ad m c news hl hnews h1 h63 hbytes hB
  unfold Oper.wp execOp
  simp only [ho, resolve, invoke, builtin, Sem.run_bind, Sem.run_pure, Result.andThen_ok, List.map_toArray, List.map_cons, List.map_nil, hs, hx, hr]
  exact h v' w' h2 h3 h5
section
variable {X0 X : World} {F0 D0 F D : Nat → Prop} {b v most next : Nat} {th : Int} {made : Nat} {cs : List Nat} {t : List Acc}
theorem AS.add (h : AS X0 X F0 D0 F D b v most next th made cs t) (a n : Nat) (ha : a < 18446744073709551616) (h1 : made < 1099511627776) (h2 : t.length < 1099511627776) :
    Calls Try.prog 85 #[.pointer (some ⟨v, 0, none⟩), .int .u64 (a : Int), .int .u64 (n : Int)] X fun e Y => e = .returned (.int .u64 (cellN cs a : Int)) ∧ ∃ F', AS X0 Y F0 D0 F' D b v most next th (made + 1) (stN most cs a (addN (cellN cs a) n)) (t ++ [⟨th, 4, a, n, 0, .slice none 0 0, [], cellN cs a, false⟩]) ∧ ∀ k, D k → Y.heap[k]? = X.heap[k]? := by
  obtain ⟨l, B, L⟩ := h.bank
  have hl : l.length = t.length := by rw [← L]; simp
  refine (v_add v b most next made th a n F cs l X h.view B h.nv h1 (by omega) ha).mono ?_
  rintro e Y ⟨rfl, F', vs, B', V', G⟩
  refine ⟨rfl, F', h.goes B' V' G ?_⟩
  rw [List.map_append, L]
  rfl
theorem AS.alocR (h : AS X0 X F0 D0 F D b v most next th made cs t) (p : Option Addr) (c : Nat) (vals : List Nat) (hr : Reads X p vals) (hap : ∀ ad, p = some ad → vals ≠ [] → ¬ F ad.block ∧ ad.block ≠ v) (hv : ∀ x ∈ vals, x < 18446744073709551616) (hvl : vals.length ≤ 17592186043904) (h1 : made < 1099511627776) (h2 : t.length < 1099511627776) :
    Calls Try.prog 86 #[.pointer (some ⟨v, 0, none⟩), .slice p vals.length c] X fun e Y => e = .returned (.int .u64 (alAt most next vals.length : Int)) ∧ ∃ F', AS X0 Y F0 D0 F' D b v most (alNext most next vals.length) th (made + 1) (alN most next cs vals) (t ++ [⟨th, 5, alAt most next vals.length, 0, 0, .slice none 0 0, vals, 0, false⟩]) ∧ ∀ k, D k → Y.heap[k]? = X.heap[k]? := by
  obtain ⟨l, B, L⟩ := h.bank
  have hl : l.length = t.length := by rw [← L]; simp
  refine (v_alloc v b most next made th p c vals F cs l X h.view B h.nv h1 (by omega) hr (fun ad e n => (hap ad e n).1) (fun ad e n => (hap ad e n).2) hv hvl).mono ?_
  rintro e Y ⟨rfl, F', vs, B', V', G⟩
  refine ⟨rfl, F', h.goes B' V' G ?_⟩
  rw [List.map_append, L]
  rfl
end
/-- A plan's list, all of it below B. -/
def DosAt (X : World) (B : Nat) (lp : Option Addr) (L : List DoP) : Prop := ∀ i d, L[i]? = some d → d.Ok ∧ ∃ bk off vp vc, lp = some ⟨bk, off, none⟩ ∧ bk < B ∧ X.cell? ⟨bk, off + i * 5, none⟩ = some (.int .u8 d.kd) ∧ X.cell? ⟨bk, off + i * 5 + 1, none⟩ = some (.int .u64 (d.ad : Int)) ∧ X.cell? ⟨bk, off + i * 5 + 2, none⟩ = some (.int .u64 (d.a : Int)) ∧ X.cell? ⟨bk, off + i * 5 + 3, none⟩ = some (.int .u64 (d.b : Int)) ∧ X.cell? ⟨bk, off + i * 5 + 4, none⟩ = some (.slice vp d.vals.length vc) ∧ Reads X vp d.vals ∧ ∀ ad, vp = some ad → d.vals ≠ [] → ad.block < B
theorem cell_low {X Y : World} {B : Nat} (h : ∀ k, k < B → Y.heap[k]? = X.heap[k]?) {a : Addr} {u : Value} (ha : a.block < B) (hc : X.cell? a = some u) : Y.cell? a = some u := (World.cell?_of_block (w := X) (h _ ha)).trans hc
theorem reads_low {X Y : World} {B : Nat} (h : ∀ k, k < B → Y.heap[k]? = X.heap[k]?) {p : Option Addr} {vals : List Nat} (hr : Reads X p vals) (hp : ∀ ad, p = some ad → vals ≠ [] → ad.block < B) : Reads Y p vals := by
  by_cases e : vals = []
  · exact .inl e
  · obtain ⟨ad, rfl, hx⟩ := hr.resolve_left e
    refine .inr ⟨ad, rfl, fun j u hj => cell_low h ?_ (hx j u hj)⟩
    have := hp ad rfl e
    show (ad.add j).block < B
    unfold Addr.add
    split <;> exact this
theorem DosAt.low {X Y : World} {B : Nat} {lp : Option Addr} {L : List DoP} (h : DosAt X B lp L) (hl : ∀ k, k < B → Y.heap[k]? = X.heap[k]?) : DosAt Y B lp L := fun i d hd => by
  obtain ⟨ho, bk, off, vp, vc, rfl, hb, c0, c1, c2, c3, c4, hr, hp⟩ := h i d hd
  exact ⟨ho, bk, off, vp, vc, rfl, hb, cell_low hl hb c0, cell_low hl hb c1, cell_low hl hb c2, cell_low hl hb c3, cell_low hl hb c4, reads_low hl hr hp, hp⟩
/-- A plan's proc in memory. -/
structure PlAt (X : World) (D : Nat → Prop) (pb : Nat) (lp : Option Addr) (ln lc at_ : Nat) (got : List Nat) : Prop where
  ex : ∃ gv, X.heap[pb]? = some (.cells #[.slice lp ln lc, .int .i64 (at_ : Int), gv] 58 (0, 0)) ∧ X.ownsRow 0 51 1 gv got.length (got.map u64V) ∧ ∀ k, D k ↔ k = pb ∨ gv.ownBlock = some k
theorem PlAt.kept {X Y : World} {D : Nat → Prop} {pb : Nat} {lp : Option Addr} {ln lc at_ : Nat} {got : List Nat} (h : PlAt X D pb lp ln lc at_ got) (hk : ∀ k, D k → Y.heap[k]? = X.heap[k]?) : PlAt Y D pb lp ln lc at_ got := by
  obtain ⟨gv, h1, h2, h3⟩ := h.ex
  exact ⟨gv, (hk pb ((h3 pb).2 (.inl rfl))).trans h1, row_kept h2 (fun k e => hk k ((h3 k).2 (.inr e))), h3⟩
end Go.Proofs.Ytkfmpebhibnniaa
