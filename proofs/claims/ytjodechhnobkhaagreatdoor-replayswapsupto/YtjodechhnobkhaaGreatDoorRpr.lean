/- The law ReplayBack, walked. -/
import Derived.Test.YtjodechhnobkhaaGreatDoorRpq
namespace Go.Proofs.YtjodechhnobkhaaGreatDoor
open Go.RowKit Go.Shelf
set_option linter.unusedVariables false

theorem noB_cut {a b r r' : List UInt8} (ha : noB 10 a) (hb : noB 10 b) (e : a ++ 10 :: r = b ++ 10 :: r') : a = b ∧ r = r' := by
  have h1 := ix_at (r := r) ha
  rw [e, ix_at hb] at h1
  have hl : b.length = a.length := by omega
  have := List.append_inj e hl.symm
  exact ⟨this.1, by injection this.2⟩
theorem line_inj {x y : Ax} (hx : RightA x ∧ x.Ok) (hy : RightA y ∧ y.Ok) (e : lineA x = lineA y) : x = y := by
  have h1 := lineP_line hx.1 hx.2
  rw [e, lineP_line hy.1 hy.2] at h1
  injection h1 with h1
  exact h1.symm
theorem Good.head {x : Ax} {l : List Ax} (h : Good (x :: l)) : RightA x ∧ x.Ok := h x (by simp)
theorem Good.tail {x : Ax} {l : List Ax} (h : Good (x :: l)) : Good l := fun y hy => h y (by simp [hy])
theorem printA_split : ∀ {ys l : List Ax} {r : List UInt8}, Good ys → Good l → printA l = printA ys ++ r → ∃ l', l = ys ++ l' ∧ r = printA l'
  | [], l, r, _, _, e => ⟨l, rfl, by simpa [printA] using e.symm⟩
  | y :: ys, [], r, _, _, e => by
    exfalso
    rw [printA_cons] at e
    have := congrArg List.length e
    simp [printA] at this
  | y :: ys, x :: l, r, hy, hl, e => by
    rw [printA_cons, printA_cons] at e
    have e' : lineA x ++ 10 :: printA l = lineA y ++ 10 :: (printA ys ++ r) := by simpa using e
    obtain ⟨e1, e2⟩ := noB_cut (line_no x) (line_no y) e'
    obtain rfl := line_inj hl.head hy.head e1
    obtain ⟨l', e3, e4⟩ := printA_split hy.tail hl.tail e2
    exact ⟨l', by rw [e3]; rfl, e4⟩
theorem bad_print {l : List Ax} {r : List UInt8} (hl : Good l) (hr : Bad r) : r ≠ printA l := by
  intro e
  obtain ⟨h0, h⟩ := hr
  cases l with
  | nil => exact h0 (by rw [e]; rfl)
  | cons x l =>
    rw [printA_cons] at e
    rcases h with h | ⟨a, r', ha, e2, hn⟩
    · exact h 10 (by rw [e]; simp) rfl
    · rw [e2] at e
      obtain ⟨e3, _⟩ := noB_cut ha (line_no x) e
      rw [e3, lineP_line hl.head.1 hl.head.2] at hn
      cases hn
theorem ph_right {l xs : List Ax} {er ln : Nat} (h : PH (printA l) xs er ln) (hl : Good l) : xs = l ∧ er = 0 ∧ ln = 0 := by
  rcases h with ⟨e1, e2, e3, e4⟩ | ⟨_, _, ys, r, _, e, hy, hb⟩
  · obtain ⟨l', e5, e6⟩ := printA_split e4 hl (show printA l = printA xs ++ [] by simpa using e3)
    have : l' = [] := by
      cases l' with
      | nil => rfl
      | cons x l' =>
        have := congrArg List.length e6
        rw [printA_cons] at this
        simp at this
    rw [this] at e5
    exact ⟨by simpa using e5.symm, e1, e2⟩
  · exfalso
    obtain ⟨l', e5, e6⟩ := printA_split hy hl e
    exact bad_print (fun x hx => hl x (by rw [e5]; simp [hx])) hb e6
theorem wt_mem {x : Ax} {l : List Ax} (h : x ∈ l) : 6 + x.vals.length ≤ wtA l := by
  induction l with
  | nil => simp at h
  | cons y l ih =>
    rw [wtA]
    rcases List.mem_cons.mp h with rfl | h
    · omega
    · have := ih h
      omega
theorem wt_len (l : List Ax) : l.length ≤ wtA l := by
  induction l with
  | nil => simp
  | cons y l ih => rw [wtA, List.length_cons]; omega
theorem lineA_ge (x : Ax) : x.vals.length ≤ (lineA x).length := by
  have key : ∀ (fs : List (List UInt8)), fs.length ≤ (Lib.join fs [32]).length + 1 := by
    intro fs
    induction fs with
    | nil => simp
    | cons a r ih =>
      cases r with
      | nil => simp
      | cons b r =>
        rw [join_cc, List.length_append, List.length_cons]
        simp only [List.length_cons] at ih ⊢
        omega
  have := key (partsL x)
  have h2 : x.vals.length + 2 ≤ (partsL x).length := by unfold partsL; simp; omega
  unfold lineA
  omega
theorem print_vals {l : List Ax} {x : Ax} (h : x ∈ l) : x.vals.length ≤ (printA l).length := by
  induction l with
  | nil => simp at h
  | cons y l ih =>
    rw [printA_cons, List.length_append, List.length_cons]
    rcases List.mem_cons.mp h with rfl | h
    · have := lineA_ge x; omega
    · have := ih h; omega

/-- what comes in -/
structure In (W : World) (p : Option Addr) (l : List Ax) : Prop where
  rd : ARd W p l
  ok : ∀ x ∈ l, x.Ok
  wt : wtA l ≤ 1048576
theorem In.on {W X : World} {p : Option Addr} {l : List Ax} (h : In W p l) (hb : Below W.heap.size W X) : In X p l := ⟨h.rd.on hb, h.ok, h.wt⟩
theorem In.len {W : World} {p : Option Addr} {l : List Ax} (h : In W p l) : l.length ≤ 1048576 := Nat.le_trans (wt_len l) h.wt
theorem In.vl {W : World} {p : Option Addr} {l : List Ax} (h : In W p l) : ∀ x ∈ l, x.vals.length ≤ 1048576 := fun x hx => by have := wt_mem hx; have := h.wt; omega
theorem In.pl {W : World} {p : Option Addr} {l : List Ax} (h : In W p l) : (printA l).length ≤ 100000000 := by have := printA_len h.ok; have := h.wt; omega

def TailP (W : World) (s : ByteArray) (e : Ending) (w8 : World) : Prop := ∃ (pm : Option Addr) (cm k er ln : Nat), e = .returned (.tuple #[.slice pm k cm, .int .i64 (er : Int), .int .i64 (ln : Int)]) ∧ Below W.heap.size W w8 ∧
    ((er = 0 ∧ ∀ w', Below w8.heap.size w8 w' → Calls Tryz.prog 20 #[.slice pm k cm] w' fun e W' => e = .returned (.tuple #[.string s, .int .i64 0]) ∧ Below w'.heap.size w' W') ∨ (er = 52 ∧ k = 0 ∧ 0 < ln ∧ ln ≤ 2000000))
end Go.Proofs.YtjodechhnobkhaaGreatDoor
