/- Changes held against each other; changes turned about. -/
import Derived.Test.YtbmfjcdafjknaabEi
namespace Go.Proofs.Ytbmfjcdafjknaab
open Go.RowKit Go.Joins Go.ChangeShapes Go.WideShapes
set_option linter.unusedVariables false

def Ch.small (c : Ch) : Prop := c.k < 18446744073709551616 ∧ c.old < 18446744073709551616 ∧ c.new < 18446744073709551616
theorem coB : Try.prog.cellsOf 4 = 1 := by kernel_rfl
theorem ch_key (c : Ch) (h : c.small) (w : World) : ∃ l, keyOf Try.prog 79 c.val = some l := by
  obtain ⟨k, had, has, old, new⟩ := c
  obtain ⟨h1, h2, h3⟩ := h
  have w1 := wf_u64 h1
  have w2 := wf_u64 h2
  have w3 := wf_u64 h3
  dsimp only at w1 w2 w3
  have ts := trod_struct_mk (H := Unit) (enc := fun _ => ()) (P := Try.prog) (w := w) (base := 0) (spare := fun _ => true) (held := true) (n := 1) (cs := [.int .u64 (k : Int), .bool had, .bool has, .int .u64 (old : Int), .int .u64 (new : Int)])
    (xs := [(.lit (.int .u64 (k : Int)), []), (.lit (.bool had), []), (.lit (.bool has), []), (.lit (.int .u64 (old : Int)), []), (.lit (.int .u64 (new : Int)), [])]) Try.underlying79 (by kernel_rfl)
    (by simp [DataW.trod, Try.underlying57, Try.underlying4, w1, w2, w3, coU, coB])
  have t : DataW.Trod (fun _ => ()) Try.prog w 0 (fun _ => true) true 79 (Ch.val ⟨k, had, has, old, new⟩) _ _ := ⟨_, ts⟩
  exact ⟨_, (keyOf_asKey (by kernel_rfl) (by kernel_rfl) (by kernel_rfl) t).1⟩
set_option maxRecDepth 100000 in
theorem ch_neq (c : Ch) (h : c.small) (w : World) : (binOp .neq 79 c.val c.val).run Try.prog w = .ok (.bool false) w := by
  obtain ⟨l, hl⟩ := ch_key c h w
  obtain ⟨r, hr, hi⟩ := run_equal_deep (P := Try.prog) w (m := 4) (by omega) (by kernel_rfl) (by kernel_rfl) hl hl
  have e : r = true := hi.2 rfl
  subst e
  simp only [Ch.val] at hr ⊢
  simp [binOp, go_sem, hr]
def Ch.turn (c : Ch) : Ch := ⟨c.k, c.has, c.had, c.new, c.old⟩
theorem turn_right (c : Ch) : c.turn.right = c.right := by
  obtain ⟨k, had, has, old, new⟩ := c
  unfold Ch.turn Ch.right
  cases had <;> cases has <;> simp
  exact eq_comm
def kP : Nat × Nat → Nat := fun y => y.1
theorem mrg_turn (n : Nat) : ∀ (a b : List (Nat × Nat)), a.length + b.length ≤ n → (mrg (fun y : Nat × Nat => y.1) b a).map chOf = ((mrg (fun y : Nat × Nat => y.1) a b).map chOf).map Ch.turn := by
  induction n with
  | zero =>
    intro a b h
    have ea : a = [] := List.length_eq_zero_iff.1 (by omega)
    have eb : b = [] := List.length_eq_zero_iff.1 (by omega)
    subst ea eb
    simp [mrg_nil]
  | succ n ih =>
    intro a b h
    cases a with
    | nil =>
      cases b with
      | nil => simp [mrg_nil]
      | cons y b =>
        rw [mrg_left, mrg_right]
        simp only [List.map_cons]
        rw [ih [] b (by simp at h ⊢; omega)]
        simp [chOf, Ch.turn]
    | cons x a =>
      cases b with
      | nil =>
        rw [mrg_left, mrg_right]
        simp only [List.map_cons]
        rw [ih a [] (by simp at h ⊢; omega)]
        simp [chOf, Ch.turn]
      | cons y b =>
        rcases Nat.lt_trichotomy x.1 y.1 with t | t | t
        · rw [mrg_lt _ t, mrg_gt _ t]
          simp only [List.map_cons]
          rw [ih a (y :: b) (by simp at h ⊢; omega)]
          simp [chOf, Ch.turn]
        · rw [mrg_eq _ t, mrg_eq _ t.symm]
          simp only [List.map_cons]
          rw [ih a b (by simp at h ⊢; omega)]
          simp [chOf, Ch.turn, t]
        · rw [mrg_gt _ t, mrg_lt _ t]
          simp only [List.map_cons]
          rw [ih (x :: a) b (by simp at h ⊢; omega)]
          simp [chOf, Ch.turn]
theorem diff_turn (a b : List (Nat × Nat)) : diffL b a = (diffL a b).map Ch.turn := by
  unfold diffL diffX
  rw [mrg_turn _ a b (Nat.le_refl _)]
  generalize (mrg (fun y : Nat × Nat => y.1) a b).map chOf = l
  induction l with
  | nil => rfl
  | cons c l ih =>
    simp only [List.map_cons, List.filter_cons, turn_right]
    rw [ih]
    split <;> simp
theorem mem_mrg {β : Type} (kb : β → Nat) (n : Nat) : ∀ (a : List (Nat × Nat)) (b : List β), a.length + b.length ≤ n → ∀ p ∈ mrg kb a b, (∀ x, p.1 = some x → x ∈ a) ∧ (∀ y, p.2 = some y → y ∈ b) := by
  induction n with
  | zero =>
    intro a b h
    have ea : a = [] := List.length_eq_zero_iff.1 (by omega)
    have eb : b = [] := List.length_eq_zero_iff.1 (by omega)
    subst ea eb
    intro p hp
    rw [mrg_nil] at hp
    simp at hp
  | succ n ih =>
    intro a b h p hp
    have sub : ∀ {a' : List (Nat × Nat)} {b' : List β}, a'.length + b'.length ≤ n → p ∈ mrg kb a' b' → (∀ x ∈ a', x ∈ a) → (∀ y ∈ b', y ∈ b) → (∀ x, p.1 = some x → x ∈ a) ∧ (∀ y, p.2 = some y → y ∈ b) := fun hl hm ha hb => ⟨fun x e => ha x ((ih _ _ hl p hm).1 x e), fun y e => hb y ((ih _ _ hl p hm).2 y e)⟩
    cases a with
    | nil =>
      cases b with
      | nil => rw [mrg_nil] at hp; simp at hp
      | cons y b =>
        rw [mrg_right] at hp
        rcases List.mem_cons.1 hp with rfl | hp
        · exact ⟨fun x e => (by cases e), fun z e => by cases e; simp⟩
        · exact sub (by simp at h ⊢; omega) hp (fun x hx => hx) (fun z hz => List.mem_cons_of_mem _ hz)
    | cons x a =>
      cases b with
      | nil =>
        rw [mrg_left] at hp
        rcases List.mem_cons.1 hp with rfl | hp
        · exact ⟨fun x e => (by cases e; simp), fun z e => by cases e⟩
        · exact sub (by simp at h ⊢; omega) hp (fun x hx => List.mem_cons_of_mem _ hx) (fun z hz => hz)
      | cons y b =>
        rcases Nat.lt_trichotomy x.1 (kb y) with t | t | t
        · rw [mrg_lt _ t] at hp
          rcases List.mem_cons.1 hp with rfl | hp
          · exact ⟨fun x e => (by cases e; simp), fun z e => by cases e⟩
          · exact sub (by simp at h ⊢; omega) hp (fun x hx => List.mem_cons_of_mem _ hx) (fun z hz => hz)
        · rw [mrg_eq _ t] at hp
          rcases List.mem_cons.1 hp with rfl | hp
          · exact ⟨fun x e => (by cases e; simp), fun z e => by cases e; simp⟩
          · exact sub (by simp at h ⊢; omega) hp (fun x hx => List.mem_cons_of_mem _ hx) (fun z hz => List.mem_cons_of_mem _ hz)
        · rw [mrg_gt _ t] at hp
          rcases List.mem_cons.1 hp with rfl | hp
          · exact ⟨fun x e => (by cases e), fun z e => by cases e; simp⟩
          · exact sub (by simp at h ⊢; omega) hp (fun x hx => hx) (fun z hz => List.mem_cons_of_mem _ hz)
theorem diff_small {a b : List (Nat × Nat)} (ha : small64 a) (hb : small64 b) : ∀ c ∈ diffL a b, c.small := by
  intro c hc
  unfold diffL diffX at hc
  obtain ⟨hc, _⟩ := List.mem_filter.1 hc
  obtain ⟨p, hp, rfl⟩ := List.mem_map.1 hc
  obtain ⟨h1, h2⟩ := mem_mrg _ _ a b (Nat.le_refl _) p hp
  obtain ⟨px, py⟩ := p
  cases px with
  | none =>
    cases py with
    | none => exact ⟨by simp [chOf], by simp [chOf], by simp [chOf]⟩
    | some y => have := hb y (h2 y rfl); exact ⟨this.1, by simp [chOf], this.2⟩
  | some x =>
    have h := ha x (h1 x rfl)
    cases py with
    | none => exact ⟨h.1, h.2, by simp [chOf]⟩
    | some y => have := hb y (h2 y rfl); exact ⟨this.1, h.2, this.2⟩
theorem diff_len (a b : List (Nat × Nat)) (hl : (mrg (fun y : Nat × Nat => y.1) a b).length ≤ a.length + b.length) : (diffL a b).length ≤ a.length + b.length := Nat.le_trans (diffX_len _) hl
/-- Changes that lie somewhere. -/
def ChAt (W : World) (p : Option Addr) (l : List Ch) : Prop := l = [] ∨ ∃ bk off, p = some ⟨bk, off, none⟩ ∧ bk < W.heap.size ∧ ∀ (i : Nat) (c : Ch), l[i]? = some c → W.cell? ⟨bk, off + i * 5, none⟩ = some (.int .u64 (c.k : Int)) ∧ W.cell? ⟨bk, off + i * 5 + 1, none⟩ = some (.bool c.had) ∧ W.cell? ⟨bk, off + i * 5 + 2, none⟩ = some (.bool c.has) ∧ W.cell? ⟨bk, off + i * 5 + 3, none⟩ = some (.int .u64 (c.old : Int)) ∧ W.cell? ⟨bk, off + i * 5 + 4, none⟩ = some (.int .u64 (c.new : Int))
theorem ChAt.below {W W' : World} {p : Option Addr} {l : List Ch} (h : ChAt W p l) (b : Below W.heap.size W W') : ChAt W' p l := by
  rcases h with h | ⟨bk, off, rfl, hb, h⟩
  · exact .inl h
  · have c := below_chgE b
    refine .inr ⟨bk, off, rfl, Nat.lt_of_lt_of_le hb b.size, fun i x e => ?_⟩
    obtain ⟨h0, h1, h2, h3, h4⟩ := h i x e
    exact ⟨cell_chg c h0 (fun x => x), cell_chg c h1 (fun x => x), cell_chg c h2 (fun x => x), cell_chg c h3 (fun x => x), cell_chg c h4 (fun x => x)⟩
theorem chRow_get (l : List Ch) : ∀ (i : Nat) (c : Ch), l[i]? = some c → ∀ j, j < 5 → (chRow l)[i * 5 + j]? = c.cells[j]? := by
  induction l with
  | nil => intro i c h; simp at h
  | cons y l ih =>
    intro i c h j hj
    have e : chRow (y :: l) = y.cells ++ chRow l := rfl
    rw [e]
    have hy : y.cells.length = 5 := rfl
    cases i with
    | zero =>
      simp at h
      subst h
      rw [List.getElem?_append_left (by omega)]
      simp
    | succ i =>
      rw [List.getElem?_append_right (by omega), hy, show (i + 1) * 5 + j - 5 = i * 5 + j by omega]
      exact ih i c (by simpa using h) j hj
theorem row_ch {W : World} {B : Nat} {T : TypeId} {v : Value} {l : List Ch} (h : W.ownsRow B T 5 v l.length (chRow l)) : ∃ p c, v = .slice p l.length c ∧ ChAt W p l ∧ l.length ≤ c := by
  obtain ⟨hl, h⟩ := h
  rcases h with ⟨rfl, e⟩ | ⟨g, cap, cur, rfl, hB, hg, hcap, _, _, ht⟩
  · obtain rfl := List.length_eq_zero_iff.1 e
    exact ⟨none, 0, rfl, .inl rfl, Nat.le_refl _⟩
  · refine ⟨_, cap, rfl, .inr ⟨g, 0, rfl, lt_of hg, fun i c hc => ?_⟩, hcap⟩
    have hi := (List.getElem?_eq_some_iff.1 hc).1
    have cell : ∀ j, j < 5 → W.cell? ⟨g, 0 + i * 5 + j, none⟩ = c.cells[j]? := fun j hj => by
      rw [← chRow_get l i c hc j hj, cell_of hg, ← ht, List.getElem?_take_of_lt (by omega), Nat.zero_add]
      simp
    exact ⟨cell 0 (by omega), cell 1 (by omega), cell 2 (by omega), cell 3 (by omega), cell 4 (by omega)⟩
end Go.Proofs.Ytbmfjcdafjknaab
