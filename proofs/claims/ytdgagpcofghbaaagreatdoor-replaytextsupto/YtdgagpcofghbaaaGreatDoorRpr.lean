/- The law ReplayBack, walked. -/
import Derived.Test.YtdgagpcofghbaaaGreatDoorRpq
namespace Go.Proofs.YtdgagpcofghbaaaGreatDoor
open Go.RowKit Go.Shelf
set_option linter.unusedVariables false

theorem noB_cut {a b r r' : List UInt8} (ha : noB 10 a) (hb : noB 10 b) (e : a ++ 10 :: r = b ++ 10 :: r') : a = b ∧ r = r' := by
  have h1 := ix_at (r := r) ha
  rw [e, ix_at hb] at h1
  have hl : b.length = a.length := by omega
  have := List.append_inj e hl.symm
  exact ⟨this.1, by injection this.2⟩
theorem line_inj {x y : Ax} (hx : RightA x ∧ x.Ok) (hy : RightA y ∧ y.Ok) (e : lineA x = lineA y) : x = y := by
  have h1 := lineP_line hx.1 hx.2
  rw [e, lineP_line hy.1 hy.2] at h1
  injection h1 with h1
  exact h1.symm
theorem Good.head {x : Ax} {l : List Ax} (h : Good (x :: l)) : RightA x ∧ x.Ok := h x (by simp)
theorem Good.tail {x : Ax} {l : List Ax} (h : Good (x :: l)) : Good l := fun y hy => h y (by simp [hy])
theorem printA_split : ∀ {ys l : List Ax} {r : List UInt8}, Good ys → Good l → printA l = printA ys ++ r → ∃ l', l = ys ++ l' ∧ r = printA l'
  | [], l, r, _, _, e => ⟨l, rfl, by simpa [printA] using e.symm⟩
  | y :: ys, [], r, _, _, e => by
    exfalso
    rw [printA_cons] at e
    have := congrArg List.length e
    simp [printA] at this
  | y :: ys, x :: l, r, hy, hl, e => by
    rw [printA_cons, printA_cons] at e
    have e' : lineA x ++ 10 :: printA l = lineA y ++ 10 :: (printA ys ++ r) := by simpa using e
    obtain ⟨e1, e2⟩ := noB_cut (line_no x) (line_no y) e'
    obtain rfl := line_inj hl.head hy.head e1
    obtain ⟨l', e3, e4⟩ := printA_split hy.tail hl.tail e2
    exact ⟨l', by rw [e3]; rfl, e4⟩
theorem bad_print {l : List Ax} {r : List UInt8} (hl : Good l) (hr : Bad r) : r ≠ printA l := by
  intro e
  obtain ⟨h0, h⟩ := hr
  cases l with
  | nil => exact h0 (by rw [e]; rfl)
  | cons x l =>
    rw [printA_cons] at e
    rcases h with h | ⟨a, r', ha, e2, hn⟩
    · exact h 10 (by rw [e]; simp) rfl
    · rw [e2] at e
      obtain ⟨e3, _⟩ := noB_cut ha (line_no x) e
      rw [e3, lineP_line hl.head.1 hl.head.2] at hn
      cases hn
theorem ph_right {l xs : List Ax} {er ln : Nat} (h : PH (printA l) xs er ln) (hl : Good l) : xs = l ∧ er = 0 ∧ ln = 0 := by
  rcases h with ⟨e1, e2, e3, e4⟩ | ⟨_, _, ys, r, _, e, hy, hb⟩
  · obtain ⟨l', e5, e6⟩ := printA_split e4 hl (show printA l = printA xs ++ [] by simpa using e3)
    have : l' = [] := by
      cases l' with
      | nil => rfl
      | cons x l' =>
        have := congrArg List.length e6
        rw [printA_cons] at this
        simp at this
    rw [this] at e5
    exact ⟨by simpa using e5.symm, e1, e2⟩
  · exfalso
    obtain ⟨l', e5, e6⟩ := printA_split hy hl e
    exact bad_print (fun x hx => hl x (by rw [e5]; simp [hx])) hb e6
theorem wt_mem {x : Ax} {l : List Ax} (h : x ∈ l) : 6 + x.vals.length ≤ wtA l := by
  induction l with
  | nil => simp at h
  | cons y l ih =>
    rw [wtA]
    rcases List.mem_cons.mp h with rfl | h
    · omega
    · have := ih h
      omega
theorem wt_len (l : List Ax) : l.length ≤ wtA l := by
  induction l with
  | nil => simp
  | cons y l ih => rw [wtA, List.length_cons]; omega
theorem lineA_ge (x : Ax) : x.vals.length ≤ (lineA x).length := by
  have key : ∀ (fs : List (List UInt8)), fs.length ≤ (Lib.join fs [32]).length + 1 := by
    intro fs
    induction fs with
    | nil => simp
    | cons a r ih =>
      cases r with
      | nil => simp
      | cons b r =>
        rw [join_cc, List.length_append, List.length_cons]
        simp only [List.length_cons] at ih ⊢
        omega
  have := key (partsL x)
  have h2 : x.vals.length + 2 ≤ (partsL x).length := by unfold partsL; simp; omega
  unfold lineA
  omega
theorem print_vals {l : List Ax} {x : Ax} (h : x ∈ l) : x.vals.length ≤ (printA l).length := by
  induction l with
  | nil => simp at h
  | cons y l ih =>
    rw [printA_cons, List.length_append, List.length_cons]
    rcases List.mem_cons.mp h with rfl | h
    · have := lineA_ge x; omega
    · have := ih h; omega

/-- what comes in -/
structure In (W : World) (p : Option Addr) (l : List Ax) : Prop where
  rd : ARd W p l
  ok : ∀ x ∈ l, x.Ok
  wt : wtA l ≤ 1048576
theorem In.on {W X : World} {p : Option Addr} {l : List Ax} (h : In W p l) (hb : Below W.heap.size W X) : In X p l := ⟨h.rd.on hb, h.ok, h.wt⟩
theorem In.len {W : World} {p : Option Addr} {l : List Ax} (h : In W p l) : l.length ≤ 1048576 := Nat.le_trans (wt_len l) h.wt
theorem In.vl {W : World} {p : Option Addr} {l : List Ax} (h : In W p l) : ∀ x ∈ l, x.vals.length ≤ 1048576 := fun x hx => by have := wt_mem hx; have := h.wt; omega
theorem In.pl {W : World} {p : Option Addr} {l : List Ax} (h : In W p l) : (printA l).length ≤ 100000000 := by have := printA_len h.ok; have := h.wt; omega

def TailP (W : World) (s : ByteArray) (e : Ending) (w8 : World) : Prop := ∃ (pm : Option Addr) (cm k er ln : Nat), e = .returned (.tuple #[.slice pm k cm, .int .i64 (er : Int), .int .i64 (ln : Int)]) ∧ Below W.heap.size W w8 ∧
    ((er = 0 ∧ ∀ w', Below w8.heap.size w8 w' → Calls Tryz.prog 6 #[.slice pm k cm] w' fun e W' => e = .returned (.tuple #[.string s, .int .i64 0]) ∧ Below w'.heap.size w' W') ∨ (er = 52 ∧ k = 0 ∧ 0 < ln ∧ ln ≤ 2000000))
theorem back_tail (t : List UInt8) (ht : t.length ≤ 1048576) (W w5 : World) (B5 : Below W.heap.size W w5) (T : Tb W) : Calls Tryz.prog 8 #[.string (mkS t)] w5 (TailP W (mkS t)) := by
  refine (parse_any t (by omega) w5 (T.on B5)).mono ?_
  rintro e w8 ⟨v, er, ln, ys, rfl, hA, hP⟩
  obtain ⟨pm, cm, rfl⟩ := row_a_slice hA.row
  have B8 := below_chain B5 hA.bel
  refine ⟨pm, cm, ys.length, er, ln, rfl, B8, ?_⟩
  rcases hP with ⟨rfl, rfl, e3, e4⟩ | ⟨rfl, e2, ys', r, rfl, e3, hy, hb⟩
  · refine Or.inl ⟨rfl, fun w' hb => ?_⟩
    have hl : (ys.map Prod.fst).length ≤ 1048576 := by have := printA_ge (ys.map Prod.fst); rw [← e3] at this; omega
    have h := print_yes pm cm (ys.map Prod.fst) w' (hA.reads.on hb) (fun x hx => (e4 x hx).2) hl (fun x hx => by have := print_vals hx; rw [← e3] at this; omega) (by rw [← e3]; omega) (T.on (below_chain B8 hb)) (fun x hx => (e4 x hx).1)
    rw [← e3, List.length_map] at h
    exact h
  · refine Or.inr ⟨rfl, ?_, by omega, ?_⟩
    · have := congrArg List.length e2
      simpa using this
    · have := printA_ge ys'
      have h2 := congrArg List.length e3
      rw [List.length_append] at h2
      omega

set_option maxRecDepth 100000 in
set_option maxHeartbeats 4000000 in
theorem back_walk (p : Option Addr) (c : Nat) (l : List Ax) (t : List UInt8) (W : World) (h : In W p l) (ht : t.length ≤ 1048576) (T : Tb W) :
    Calls Tryz.prog 4 #[.slice p l.length c, .string (mkS t)] W fun e W' => e = .returned (.bool true) ∧ Below W.heap.size W W' := by
  have HTL : Hid (∀ w5, Below W.heap.size W w5 → Calls Tryz.prog 8 #[.string (mkS t)] w5 (TailP W (mkS t))) := keepH (fun w5 hb => back_tail t ht W w5 hb T)
  obtain ⟨s, hs⟩ : ∃ s, s = mkS t := ⟨_, rfl⟩
  have HT := keepH T
  rw [← hs] at HTL ⊢
  clear hs T
  obtain ⟨n, hn⟩ : ∃ n, n = l.length := ⟨_, rfl⟩
  have HN := keepH hn
  by_cases hr : ∀ x ∈ l, RightA x
  · have hg : Good l := fun x hx => ⟨hr x hx, h.ok x hx⟩
    have hpr := print_yes p c l W h.rd h.ok h.len h.vl (by have := h.pl; omega) HT.out hr
    obtain ⟨sp, hsp⟩ : ∃ x, x = mkS (printA l) := ⟨_, rfl⟩
    have hpp := fun w' (hb : Below W.heap.size W w') => parse_any (printA l) h.pl w' (HT.out.on hb)
    have hsm := fun (q : Option Addr) (d : Nat) (w' : World) (hb : Below W.heap.size W w') (hq : ARd w' q l) => s_trace q p d c l w' hq (h.rd.on hb) (by have := h.len; omega) h.vl
    rw [← hsp] at hpr hpp
    rw [← hn] at hpr hsm ⊢
    have HPP := keepH hpp
    have HSM := keepH hsm
    have HG := keepH hg
    clear hsp hn h hr hpp hsm hg
    go_enter Tryz.func4, Tryz.ntmps4
    go_wp2_with fail
    refine hpr.mono ?_
    rintro e w1 ⟨rfl, B1⟩
    go_wp2_with fail
    refine (HPP.out w1 B1).mono ?_
    rintro e w2 ⟨v, er, ln, ys, rfl, hA, hph⟩
    obtain ⟨hys, rfl, rfl⟩ := ph_right hph HG.out
    have B2 := below_chain B1 hA.bel
    obtain ⟨pm, cm, rfl⟩ := row_a_slice hA.row
    have hrd := hA.reads
    rw [hys] at hrd
    have hyl : ys.length = n := by rw [HN.out, ← hys, List.length_map]
    have hsm := HSM.out pm cm w2 B2 hrd
    rw [hyl]
    clear hph hA B1 hrd hys hyl hpr
    go_wp2_with fail
    refine hsm.mono ?_
    rintro e w5 ⟨rfl, C5⟩
    have B5 := below_chain B2 C5
    have hp2 := HTL.out w5 B5
    clear C5 hsm
    go_wp2_with fail
    refine hp2.mono ?_
    rintro e w8 ⟨pm, cm, k, er, ln, rfl, B8, hor⟩
    rcases hor with ⟨rfl, hpr2⟩ | ⟨rfl, rfl, hln, hln2⟩
    · have hpr3 := hpr2 w8 (Below.refl _ _)
      clear hpr2 hp2
      go_wp2_with fail
      refine hpr3.mono ?_
      rintro e w9 ⟨rfl, C9⟩
      have B9 := below_chain B8 C9
      clear hpr3 C9
      go_wp2_with fail
      refine (live_21 w9 (HT.out.on B9)).mono ?_
      rintro e w10 ⟨rfl, C10⟩
      have B10 := below_chain B9 C10
      clear C10
      go_wp2_with fail
      go_ret
      exact ⟨by first | rfl | simp, B10⟩
    · have q1 : (0 : Int) < (ln : Int) := by omega
      clear hp2
      go_wp2_with fail
      refine (live_21 w8 (HT.out.on B8)).mono ?_
      rintro e w9 ⟨rfl, C9⟩
      have B9 := below_chain B8 C9
      clear C9
      go_wp2_with fail
      go_ret
      exact ⟨by first | rfl | simp, B9⟩
  · have hpr := print_no p c l W h.rd h.ok h.len hr
    rw [← hn] at hpr ⊢
    clear h hr hn
    go_enter Tryz.func4, Tryz.ntmps4
    go_wp2_with fail
    refine hpr.mono ?_
    rintro e w5 ⟨rfl, B5⟩
    have hp2 := HTL.out w5 B5
    go_wp2_with fail
    refine hp2.mono ?_
    rintro e w8 ⟨pm, cm, k, er, ln, rfl, B8, hor⟩
    rcases hor with ⟨rfl, hpr2⟩ | ⟨rfl, rfl, hln, hln2⟩
    · have hpr3 := hpr2 w8 (Below.refl _ _)
      clear hpr2 hp2
      go_wp2_with fail
      refine hpr3.mono ?_
      rintro e w9 ⟨rfl, C9⟩
      have B9 := below_chain B8 C9
      clear hpr3 C9
      go_wp2_with fail
      refine (live_21 w9 (HT.out.on B9)).mono ?_
      rintro e w10 ⟨rfl, C10⟩
      have B10 := below_chain B9 C10
      clear C10
      go_wp2_with fail
      go_ret
      exact ⟨by first | rfl | simp, B10⟩
    · have q1 : (0 : Int) < (ln : Int) := by omega
      clear hp2
      go_wp2_with fail
      refine (live_21 w8 (HT.out.on B8)).mono ?_
      rintro e w9 ⟨rfl, C9⟩
      have B9 := below_chain B8 C9
      clear C9
      go_wp2_with fail
      go_ret
      exact ⟨by first | rfl | simp, B9⟩
end Go.Proofs.YtdgagpcofghbaaaGreatDoor
