/- The document's Lines and Words. -/
import Derived.Test.YtjodechhnobkhaaGreatDoorRuc
namespace Go.Proofs.YtjodechhnobkhaaGreatDoor
open Go.RowKit Go.Shelf
set_option linter.unusedVariables false

def joinL (ls : List (List UInt8)) : List UInt8 := (ls.map (fun x => x ++ [10])).flatten
theorem joinL_snoc (ls : List (List UInt8)) (r : List UInt8) : joinL (ls ++ [r]) = joinL ls ++ (r ++ [10]) := by simp [joinL]
theorem joinL_cons (ls : List (List UInt8)) (r : List UInt8) : joinL (r :: ls) = r ++ 10 :: joinL ls := by simp [joinL]
def LnR (t : List UInt8) (i f : Nat) (ls : List (List UInt8)) : Prop := ∃ r, t.take i = joinL ls ++ r ∧ f = (joinL ls).length ∧ noB 10 r ∧ (∀ x ∈ ls, noB 10 x)
theorem LnR.no {t : List UInt8} {i f : Nat} {ls : List (List UInt8)} (h : LnR t i f ls) (hi : i < t.length) (hb : ¬ t[i]? = some 10) : LnR t (i + 1) f ls := by
  obtain ⟨r, e, hf, hr, hx⟩ := h
  refine ⟨r ++ [t[i]], ?_, hf, hr.append ?_, hx⟩
  · rw [List.take_add_one, List.getElem?_eq_getElem hi, e]; simp
  · intro x hx' q
    simp at hx'
    exact hb (by rw [List.getElem?_eq_getElem hi, ← hx', q])
theorem LnR.yes {t : List UInt8} {i f : Nat} {ls : List (List UInt8)} (h : LnR t i f ls) (hi : i < t.length) (hb : t[i]? = some 10) : f ≤ i ∧ LnR t (i + 1) (i + 1) (ls ++ [(t.drop f).take (i - f)]) := by
  obtain ⟨r, e, hf, hr, hx⟩ := h
  have hl : (t.take i).length = i := by simp; omega
  have hl2 : i = (joinL ls).length + r.length := by rw [e] at hl; simp at hl; omega
  have hq : (t.drop f).take (i - f) = r := by rw [← List.drop_take, e, hf, List.drop_left]
  rw [hq]
  refine ⟨by omega, [], ?_, ?_, noB_nil _, ?_⟩
  · rw [List.take_add_one, hb, e, joinL_snoc]; simp
  · rw [joinL_snoc]; simp; omega
  · intro x hx'
    rcases List.mem_append.1 hx' with q | q
    · exact hx x q
    · simp at q
      subst q
      exact hr
theorem idx_str (l : List UInt8) (n : Nat) (hn : n < l.length) (c : UInt8) : ∃ x : Nat, (∀ W, (Instr.index 9 (.string (mkS l)) (.int .i64 (n : Int))).run Tryz.prog W = .ok (.int .u8 (x : Int)) W) ∧ (x = c.toNat ↔ l[n]? = some c) := by
  have hs : n < (mkS l).size := by rw [mkS_size]; exact hn
  refine ⟨((mkS l)[n]'hs).toNat, fun W => ?_, ?_⟩
  · rw [run_index_string W 9 (mkS l) .i64 (n : Int) Tryz.underlying9, dif_pos ⟨by omega, by omega⟩]
    rfl
  · have e : (mkS l)[n]'hs = l[n]'hn := by rfl
    rw [e, List.getElem?_eq_getElem hn]
    constructor
    · intro h
      congr 1
      exact UInt8.toNat_inj.mp h
    · intro h
      injection h with h
      rw [h]
theorem cut_m (t : List UInt8) (f i : Nat) (h : f ≤ i) (hi : i ≤ t.length) (w : World) : (Instr.slice 9 (.string (mkS t)) (some (.int .i64 (f : Int))) (some (.int .i64 (i : Int))) none).run Tryz.prog w = .ok (.string (mkS ((t.drop f).take (i - f)))) w := by
  have hs := mkS_size t
  rw [run_slice_string w 9 (mkS t) .i64 .i64 (f : Int) (i : Int) Tryz.underlying9 (by omega) (by omega) (by omega), mkS_extract]
  rfl
structure RowI (W wr : World) (v : Value) (ls : List (List UInt8)) : Prop where
  row : wr.ownsRow 0 9 1 v ls.length (strsRow ls)
  chg : Chg (fun _ => False) W wr
  new : ∀ b, v.ownBlock = some b → W.heap.size ≤ b
theorem RowI.more {W wr w2 : World} {v v' : Value} {ls : List (List UInt8)} {r : List UInt8} {o : Obj} (h : RowI W wr v ls)
    (hr : w2.ownsRow 0 9 1 v' (ls.length + 1) (strsRow ls ++ [.string (mkS r)])) (hg : (wr.alloc o).grownBy w2 v.ownBlock) (hw : v'.ownBlock = v.ownBlock ∨ v'.ownBlock = some (wr.alloc o).heap.size) : RowI W w2 v' (ls ++ [r]) := by
  have c2 : Chg (fun b => v.ownBlock = some b) wr w2 := ((Chg.refl (fun b => v.ownBlock = some b) wr).alloc o).grown hg (fun k e _ => e)
  have hz := h.chg.size
  refine ⟨by rw [strsRow_snoc, List.length_append]; exact hr, h.chg.trans c2 (fun _ _ x => x) (fun i hi x => by have := h.new _ x; omega), ?_⟩
  intro b hb
  rcases hw with e1 | e1
  · rw [e1] at hb
    exact h.new b hb
  · rw [e1] at hb
    simp at hb
    omega

def frontL (ls : List (List UInt8)) : List UInt8 := (ls.map (fun x => x ++ [32])).flatten
theorem frontL_snoc (ls : List (List UInt8)) (r : List UInt8) : frontL (ls ++ [r]) = frontL ls ++ (r ++ [32]) := by simp [frontL]
theorem frontL_cons (ls : List (List UInt8)) (r : List UInt8) : frontL (r :: ls) = r ++ 32 :: frontL ls := by simp [frontL]
def WdR (t : List UInt8) (i : Nat) (fs : List (List UInt8)) (r : List UInt8) : Prop := t.take i = frontL fs ++ r ∧ noB 32 r ∧ (∀ x ∈ fs, noB 32 x)
theorem WdR.no {t : List UInt8} {i : Nat} {fs : List (List UInt8)} {r : List UInt8} (h : WdR t i fs r) (hi : i < t.length) (hb : ¬ t[i]? = some 32) : WdR t (i + 1) fs (r ++ [t[i]]) := by
  obtain ⟨e, hr, hx⟩ := h
  refine ⟨?_, hr.append ?_, hx⟩
  · rw [List.take_add_one, List.getElem?_eq_getElem hi, e]; simp
  · intro x hx' q
    simp at hx'
    exact hb (by rw [List.getElem?_eq_getElem hi, ← hx', q])
theorem WdR.yes {t : List UInt8} {i : Nat} {fs : List (List UInt8)} {r : List UInt8} (h : WdR t i fs r) (hb : t[i]? = some 32) : WdR t (i + 1) (fs ++ [r]) [] := by
  obtain ⟨e, hr, hx⟩ := h
  refine ⟨?_, noB_nil _, ?_⟩
  · rw [List.take_add_one, hb, e, frontL_snoc]; simp
  · intro x hx'
    rcases List.mem_append.1 hx' with q | q
    · exact hx x q
    · simp at q
      subst q
      exact hr
theorem WdR.len {t : List UInt8} {i : Nat} {fs : List (List UInt8)} {r : List UInt8} (h : WdR t i fs r) : r.length ≤ i := by
  have q := congrArg List.length h.1
  simp at q
  omega
theorem RowI.set {W wr : World} {g m cap : Nat} {fs : List (List UInt8)} {r r' : List UInt8} (hm : fs.length = m) (h : RowI W wr (.slice (some ⟨g, 0, none⟩) (m + 1) cap) (fs ++ [r])) : RowI W (wr.setCell ⟨g, m, none⟩ (.string (mkS r'))) (.slice (some ⟨g, 0, none⟩) (m + 1) cap) (fs ++ [r']) := by
  have hl : ∀ r, (fs ++ [r]).length = m + 1 := fun r => by simp [hm]
  have h0 := h.row
  rw [hl] at h0
  obtain ⟨k1, k2⟩ := World.ownsRow.stored h0 m (.string (mkS r'))
  refine ⟨?_, h.chg.grown k2 (fun k e hk => by injection e with e; subst e; have := h.new g rfl; omega), h.new⟩
  rw [hl, strsRow_snoc]
  rw [strsRow_snoc, List.set_append_right _ _ (by simp [strsRow, hm])] at k1
  have : m - (strsRow fs).length = 0 := by simp [strsRow, hm]
  rw [this] at k1
  exact k1
theorem RowI.cell {W wr : World} {g m cap : Nat} {fs : List (List UInt8)} {r : List UInt8} (hm : fs.length = m) (h : RowI W wr (.slice (some ⟨g, 0, none⟩) (m + 1) cap) (fs ++ [r])) : wr.cell? ⟨g, m, none⟩ = some (.string (mkS r)) ∧ wr.frozen? ⟨g, m, none⟩ = false := by
  have h0 := h.row
  rw [show (fs ++ [r]).length = m + 1 by simp [hm]] at h0
  refine ⟨?_, World.ownsRow.frozenAt h0 m⟩
  rw [World.ownsRow.cellAt h0 m (by omega), strsRow_snoc, List.getElem?_append_right (by simp [strsRow, hm])]
  simp [strsRow, hm]
theorem RowI.form {W wr : World} {v : Value} {fs : List (List UInt8)} {r : List UInt8} (h : RowI W wr v (fs ++ [r])) : ∃ g cap, v = .slice (some ⟨g, 0, none⟩) (fs.length + 1) cap := by
  have h0 := h.row
  rw [show (fs ++ [r]).length = fs.length + 1 by simp] at h0
  rcases h0.2 with ⟨_, e⟩ | ⟨g, cap, cur, e, _⟩
  · omega
  · exact ⟨g, cap, e⟩

theorem noB_cutG {c : UInt8} {a b r r' : List UInt8} (ha : noB c a) (hb : noB c b) (e : a ++ c :: r = b ++ c :: r') : a = b ∧ r = r' := by
  have h1 := ix_at (r := r) ha
  rw [e, ix_at hb] at h1
  have hl : b.length = a.length := by omega
  have := List.append_inj e hl.symm
  exact ⟨this.1, by injection this.2⟩
theorem joinL_one : ∀ (ls ms : List (List UInt8)) (r : List UInt8), (∀ x ∈ ls, noB 10 x) → (∀ x ∈ ms, noB 10 x) → noB 10 r → joinL ls ++ r = joinL ms → ls = ms
  | [], [], _, _, _, _, _ => rfl
  | [], y :: ms, r, _, _, hr, e => by
    rw [joinL_cons] at e
    have e : r = y ++ 10 :: joinL ms := e
    rw [e] at hr
    exact absurd rfl (hr 10 (by simp))
  | x :: ls, [], r, _, _, _, e => by
    rw [joinL_cons] at e
    simp [joinL] at e
  | x :: ls, y :: ms, r, h1, h2, hr, e => by
    rw [joinL_cons, joinL_cons] at e
    have e' : x ++ 10 :: (joinL ls ++ r) = y ++ 10 :: joinL ms := by simpa using e
    obtain ⟨rfl, e2⟩ := noB_cutG (h1 x (by simp)) (h2 y (by simp)) e'
    rw [joinL_one ls ms r (fun z hz => h1 z (by simp [hz])) (fun z hz => h2 z (by simp [hz])) hr e2]
theorem front_one : ∀ (fs gs : List (List UInt8)) (r q : List UInt8), (∀ x ∈ fs, noB 32 x) → (∀ x ∈ gs, noB 32 x) → noB 32 r → noB 32 q → frontL fs ++ r = frontL gs ++ q → fs = gs ∧ r = q
  | [], [], _, _, _, _, _, _, e => ⟨rfl, e⟩
  | [], y :: gs, r, q, _, _, hr, _, e => by
    rw [frontL_cons] at e
    have e : r = (y ++ 32 :: frontL gs) ++ q := e
    rw [e] at hr
    exact absurd rfl (hr 32 (by simp))
  | x :: fs, [], r, q, _, _, _, hq, e => by
    rw [frontL_cons] at e
    have e : (x ++ 32 :: frontL fs) ++ r = q := e
    rw [← e] at hq
    exact absurd rfl (hq 32 (by simp))
  | x :: fs, y :: gs, r, q, h1, h2, hr, hq, e => by
    rw [frontL_cons, frontL_cons] at e
    have e' : x ++ 32 :: (frontL fs ++ r) = y ++ 32 :: (frontL gs ++ q) := by simpa using e
    obtain ⟨rfl, e2⟩ := noB_cutG (h1 x (by simp)) (h2 y (by simp)) e'
    obtain ⟨rfl, rfl⟩ := front_one fs gs r q (fun z hz => h1 z (by simp [hz])) (fun z hz => h2 z (by simp [hz])) hr hq e2
    exact ⟨rfl, rfl⟩
theorem ln_len {t : List UInt8} {ls : List (List UInt8)} (h : ∃ f, LnR t t.length f ls) : ls.length ≤ t.length ∧ ∀ x ∈ ls, x.length ≤ t.length := by
  obtain ⟨f, r, e1, _, _, _⟩ := h
  rw [List.take_length] at e1
  have q : ∀ ls : List (List UInt8), ls.length ≤ (joinL ls).length ∧ ∀ x ∈ ls, x.length ≤ (joinL ls).length := by
    intro ls
    induction ls with
    | nil => exact ⟨by simp, fun x hx => by simp at hx⟩
    | cons y ys ih =>
      rw [joinL_cons]
      refine ⟨by simp; omega, fun x hx => ?_⟩
      rcases List.mem_cons.1 hx with rfl | hx
      · simp
      · have := ih.2 x hx
        simp
        omega
  have h2 := q ls
  have h3 : t.length = (joinL ls).length + r.length := by rw [e1]; simp
  exact ⟨by omega, fun x hx => by have := h2.2 x hx; omega⟩
theorem wd_split {t : List UInt8} {fs : List (List UInt8)} {r : List UInt8} (h : WdR t t.length fs r) : Lib.split t [32] = fs ++ [r] := by
  obtain ⟨e, hr, hx⟩ := h
  rw [List.take_length] at e
  have key : ∀ (fs : List (List UInt8)) (r : List UInt8), Lib.join (fs ++ [r]) [32] = frontL fs ++ r := by
    intro fs
    induction fs with
    | nil => intro r; simp [Lib.join_one, frontL]
    | cons x l ih =>
      intro r
      cases l with
      | nil => simp [join_cc, Lib.join_one, frontL]
      | cons y l =>
        have := ih r
        rw [List.cons_append, List.cons_append, join_cc, ← List.cons_append, this]
        simp [frontL_cons]
  rw [e, ← key fs r]
  refine split_join _ (by simp) (fun f hf => ?_)
  rcases List.mem_append.mp hf with q | q
  · exact hx f q
  · simp at q; subst q; exact hr
end Go.Proofs.YtjodechhnobkhaaGreatDoor
