/- What holds of the slots; what an operation under the lock leaves. -/
import Derived.Test.YtgaincicbgojjaaKA
namespace Go.Proofs.Ytgaincicbgojjaa
open Go.RowKit Go.Maps
set_option linter.unusedVariables false

theorem hdl_inj {i j g g' : Nat} (hi : i < 256) (hj : j < 256) (h : hdl i g = hdl j g') : i = j ∧ g = g' := by
  unfold hdl at h
  omega
structure SlInv (sl : List (Bool × Nat)) (hc lf : Nat) (pc : Nat → Option (Nat → Option Nat)) : Prop where
  len : sl.length ≤ 256
  cnt : hc = sl.countP (fun x => x.1)
  gen : ∀ (i : Nat) (b : Bool) (g : Nat), sl[i]? = some (b, g) → g ≤ 1048575 ∧ (b = true → g < 1048575)
  pcs : ∀ k, (pc k).isSome = true ↔ ∃ i g, sl[i]? = some (true, g) ∧ k = hdl i g
  lf64 : lf < 18446744073709551616
theorem SlInv.start (N lf : Nat) (hN : N ≤ 256) (hl : lf < 18446744073709551616) : SlInv (List.replicate N (false, 0)) 0 lf (fun _ => none) := by
  refine ⟨by simpa using hN, by rw [List.countP_replicate]; simp, fun i b g h => ?_, fun k => ⟨fun h => by simp at h, ?_⟩, hl⟩
  · rw [List.getElem?_replicate] at h
    split at h
    · simp at h; obtain ⟨rfl, rfl⟩ := h; simp
    · simp at h
  · rintro ⟨i, g, h, _⟩
    rw [List.getElem?_replicate] at h
    split at h <;> simp at h
theorem SlInv.idx {sl : List (Bool × Nat)} {hc lf : Nat} {pc : Nat → Option (Nat → Option Nat)} (I : SlInv sl hc lf pc) {i : Nat} {x : Bool × Nat} (h : sl[i]? = some x) : i < 256 := by
  have := (List.getElem?_eq_some_iff.1 h).1
  have := I.len
  omega
theorem SlInv.le {sl : List (Bool × Nat)} {hc lf : Nat} {pc : Nat → Option (Nat → Option Nat)} (I : SlInv sl hc lf pc) : hc ≤ sl.length := by
  rw [I.cnt]
  exact List.countP_le_length
theorem SlInv.free {sl : List (Bool × Nat)} {hc lf : Nat} {pc : Nat → Option (Nat → Option Nat)} (I : SlInv sl hc lf pc) {i g : Nat} (h : sl[i]? = some (false, g)) : pc (hdl i g) = none := by
  cases hp : pc (hdl i g) with
  | none => rfl
  | some x =>
    obtain ⟨j, g', hj, e⟩ := (I.pcs (hdl i g)).1 (by rw [hp]; rfl)
    obtain ⟨rfl, rfl⟩ := hdl_inj (I.idx h) (I.idx hj) e
    rw [h] at hj
    simp at hj
theorem SlInv.take {sl : List (Bool × Nat)} {hc lf : Nat} {pc : Nat → Option (Nat → Option Nat)} (I : SlInv sl hc lf pc) {i g : Nat} (h : sl[i]? = some (false, g)) (hg : g < 1048575) (f : Nat → Option Nat) : SlInv (sl.set i (true, g)) (hc + 1) (lf - 1) (fun k => if k = hdl i g then some f else pc k) := by
  obtain ⟨hil, hie⟩ := List.getElem?_eq_some_iff.1 h
  refine ⟨by rw [List.length_set]; exact I.len, ?_, fun j b g' hj => ?_, fun k => ?_, by have := I.lf64; omega⟩
  · rw [List.countP_set hil, hie, I.cnt]
    simp
  · by_cases e : j = i
    · subst e
      rw [List.getElem?_set_self hil] at hj
      simp at hj
      obtain ⟨rfl, rfl⟩ := hj
      exact ⟨by omega, fun _ => hg⟩
    · rw [List.getElem?_set_ne (Ne.symm e)] at hj
      exact I.gen j b g' hj
  · by_cases e : k = hdl i g
    · rw [if_pos e]
      exact ⟨fun _ => ⟨i, g, List.getElem?_set_self hil, e⟩, fun _ => rfl⟩
    · rw [if_neg e, I.pcs k]
      constructor
      · rintro ⟨j, g', hj, ek⟩
        refine ⟨j, g', ?_, ek⟩
        by_cases q : j = i
        · subst q; rw [h] at hj; simp at hj
        · rw [List.getElem?_set_ne (Ne.symm q)]; exact hj
      · rintro ⟨j, g', hj, ek⟩
        by_cases q : j = i
        · subst q
          rw [List.getElem?_set_self hil] at hj
          simp at hj
          subst hj
          exact absurd ek e
        · rw [List.getElem?_set_ne (Ne.symm q)] at hj
          exact ⟨j, g', hj, ek⟩
theorem SlInv.go {sl : List (Bool × Nat)} {hc lf : Nat} {pc : Nat → Option (Nat → Option Nat)} (I : SlInv sl hc lf pc) {i g : Nat} (h : sl[i]? = some (true, g)) : 1 ≤ hc ∧ SlInv (sl.set i (false, g + 1)) (hc - 1) lf (fun k => if k = hdl i g then none else pc k) := by
  obtain ⟨hil, hie⟩ := List.getElem?_eq_some_iff.1 h
  have hg := (I.gen i true g h).2 rfl
  have h1 : 1 ≤ hc := by
    rw [I.cnt]
    exact List.countP_pos_iff.2 ⟨(true, g), List.mem_of_getElem? h, rfl⟩
  refine ⟨h1, by rw [List.length_set]; exact I.len, ?_, fun j b g' hj => ?_, fun k => ?_, I.lf64⟩
  · rw [List.countP_set hil, hie, I.cnt]
    simp
  · by_cases e : j = i
    · subst e
      rw [List.getElem?_set_self hil] at hj
      simp at hj
      obtain ⟨rfl, rfl⟩ := hj
      exact ⟨by omega, fun h => by cases h⟩
    · rw [List.getElem?_set_ne (Ne.symm e)] at hj
      exact I.gen j b g' hj
  · by_cases e : k = hdl i g
    · rw [if_pos e]
      refine ⟨fun x => by simp at x, ?_⟩
      rintro ⟨j, g', hj, ek⟩
      by_cases q : j = i
      · subst q
        rw [List.getElem?_set_self hil] at hj
        simp at hj
      · rw [List.getElem?_set_ne (Ne.symm q)] at hj
        exact absurd (hdl_inj (I.idx h) (I.idx hj) (e.symm.trans ek)).1.symm q
    · rw [if_neg e, I.pcs k]
      constructor
      · rintro ⟨j, g', hj, ek⟩
        refine ⟨j, g', ?_, ek⟩
        by_cases q : j = i
        · subst q; rw [h] at hj; simp at hj; subst hj; exact absurd ek e
        · rw [List.getElem?_set_ne (Ne.symm q)]; exact hj
      · rintro ⟨j, g', hj, ek⟩
        by_cases q : j = i
        · subst q
          rw [List.getElem?_set_self hil] at hj
          simp at hj
        · rw [List.getElem?_set_ne (Ne.symm q)] at hj
          exact ⟨j, g', hj, ek⟩
/-- What an operation under the lock tells and leaves. -/
def LStep (mu : Nat) (o : OpP) (f : Nat → Option Nat) (pc : Nat → Option (Nat → Option Nat)) (A : Ans) (f' : Nat → Option Nat) (pc' : Nat → Option (Nat → Option Nat)) : Prop :=
  (o.kd = 5 ∧ (A = errA 31 ∨ A = errA 32) ∧ f' = f ∧ pc' = pc) ∨ (∃ th, th < 18446744073709551616 ∧ (o.kd = 5 → th ≠ 0) ∧ A = tellP mu f pc o th ∧ f' = doF o A f ∧ pc' = doP o A f pc)
structure Outs (mu : Nat) (o : OpP) (n s sb m nw hd lk dn N : Nat) (f : Nat → Option Nat) (pc : Nat → Option (Nat → Option Nat)) (Z B0 B : Nat) (w : World) (A : Ans) (p : Option Addr) (hc lf : Nat) (sl : List (Bool × Nat)) (f' h' : Nat → Option Nat) (g' : Nat → Nat → Option Nat) : Prop where
  sa : SlAt w s sb m lk hc lf dn sl
  mo : MoAt w m nw hd mu f' h' g' (n + 1)
  inv : SlInv sl hc lf (pcs h' g')
  stp : LStep mu o f pc A f' (pcs h' g')
  len : sl.length = N
  new : ∀ k b, h' k = some b → (Z ≤ b ∧ b < B0) ∨ B ≤ b
  prs : PairsAt w p A.l
  pnew : ∀ bk off, p = some ⟨bk, off, none⟩ → B ≤ bk
  plen : A.l.length ≤ 8796093022000
def Out (mu : Nat) (o : OpP) (n s sb m nw hd lk dn N : Nat) (f : Nat → Option Nat) (pc : Nat → Option (Nat → Option Nat)) (Z B0 B : Nat) (w : World) (A : Ans) (p : Option Addr) : Prop := ∃ hc lf sl f' h' g', Outs mu o n s sb m nw hd lk dn N f pc Z B0 B w A p hc lf sl f' h' g'
theorem Outs.chg {mu : Nat} {o : OpP} {n s sb m nw hd lk dn N : Nat} {f : Nat → Option Nat} {pc : Nat → Option (Nat → Option Nat)} {Z B0 B : Nat} {w w' : World} {A : Ans} {p : Option Addr} {hc lf : Nat} {sl : List (Bool × Nat)} {f' h' : Nat → Option Nat} {g' : Nat → Nat → Option Nat} (H : Outs mu o n s sb m nw hd lk dn N f pc Z B0 B w A p hc lf sl f' h' g') {F : Nat → Prop} (c : Chg F w w') (hF : ∀ i, F i → B0 ≤ i ∧ i < B) (hb : s < B0 ∧ sb < B0 ∧ m < B0 ∧ nw < B0 ∧ hd < B0) : Outs mu o n s sb m nw hd lk dn N f pc Z B0 B w' A p hc lf sl f' h' g' := by
  have nf : ∀ i, i < B0 → ¬ F i := fun i hi x => by have := hF i x; omega
  exact ⟨H.sa.chg c (nf _ hb.1) (nf _ hb.2.1), H.mo.chg c (nf _ hb.2.2.1) (nf _ hb.2.2.2.1) (nf _ hb.2.2.2.2) (fun k b hk x => by have := hF b x; rcases H.new k b hk with q | q; (have := q.2; omega); omega), H.inv, H.stp, H.len, H.new, H.prs.chgF c (fun bk off e x => by have := hF bk x; have := H.pnew bk off e; omega), H.pnew, H.plen⟩
theorem Outs.mono {mu : Nat} {o : OpP} {n s sb m nw hd lk dn N : Nat} {f : Nat → Option Nat} {pc : Nat → Option (Nat → Option Nat)} {Z B0 B B1 : Nat} {w : World} {A : Ans} {p : Option Addr} {hc lf : Nat} {sl : List (Bool × Nat)} {f' h' : Nat → Option Nat} {g' : Nat → Nat → Option Nat} (H : Outs mu o n s sb m nw hd lk dn N f pc Z B0 B w A p hc lf sl f' h' g') (h : B1 ≤ B) : Outs mu o n s sb m nw hd lk dn N f pc Z B0 B1 w A p hc lf sl f' h' g' :=
  ⟨H.sa, H.mo, H.inv, H.stp, H.len, fun k b hk => (H.new k b hk).imp id (fun q => by omega), H.prs, fun bk off e => by have := H.pnew bk off e; omega, H.plen⟩
/-- The store's own blocks lie apart from the model's. -/
theorem st_ap {W : World} {s sb m lk hc lf dn : Nat} {sl : List (Bool × Nat)} (S : SlAt W s sb m lk hc lf dn sl) {nw hd mu : Nat} {f h : Nat → Option Nat} {g : Nat → Nat → Option Nat} {n : Nat} (M : MoAt W m nw hd mu f h g n) : (s ≠ m ∧ s ≠ nw ∧ s ≠ hd) ∧ (sb ≠ m ∧ sb ≠ nw ∧ sb ≠ hd) ∧ ∀ k b, h k = some b → b ≠ s ∧ b ≠ sb := by
  obtain ⟨e1, c1, n1⟩ := MapR.is M.now
  obtain ⟨e2, c2, n2⟩ := MapR.is M.held
  refine ⟨⟨?_, ?_, ?_⟩, ⟨?_, ?_, ?_⟩, fun k b hk => ?_⟩
  · rintro rfl; have := S.st.symm.trans M.md; simp at this
  · rintro rfl; have := S.st.symm.trans n1; simp at this
  · rintro rfl; have := S.st.symm.trans n2; simp at this
  · rintro rfl; have := S.row.symm.trans M.md; simp at this
  · rintro rfl; have := S.row.symm.trans n1; simp at this
  · rintro rfl; have := S.row.symm.trans n2; simp at this
  · obtain ⟨e3, c3, n3⟩ := MapR.is (M.pic k b hk)
    refine ⟨?_, ?_⟩
    · rintro rfl; have := S.st.symm.trans n3; simp at this
    · rintro rfl; have := S.row.symm.trans n3; simp at this
theorem doH_new {o : OpP} {A : Ans} {cl : Nat} {h : Nat → Option Nat} {k b : Nat} (hk : doH o A cl h k = some b) : h k = some b ∨ b = cl := by
  unfold doH at hk
  split at hk
  · by_cases e : k = A.h
    · subst e; rw [updO_same] at hk; injection hk with hk; exact .inr hk.symm
    · rw [updO_other _ _ e] at hk; exact .inl hk
  · split at hk
    · by_cases e : k = o.hk
      · subst e; rw [updO_same] at hk; cases hk
      · rw [updO_other _ _ e] at hk; exact .inl hk
    · exact .inl hk
end Go.Proofs.Ytgaincicbgojjaa
/- Any operation under the lock. -/
namespace Go.Proofs.Ytgaincicbgojjaa
open Go.RowKit Go.Maps
set_option linter.unusedVariables false

theorem KeysAt.chgE {F : Nat → Prop} {W W' : World} {p : Option Addr} {l : List Nat} (h : KeysAt W p l) (c : Chg F W W') (hn : ∀ bk off, p = some ⟨bk, off, none⟩ → l ≠ [] → ¬ F bk) : KeysAt W' p l := by
  by_cases e : l = []
  · exact .inl e
  · exact h.chg c (fun bk off q => hn bk off q e)
theorem doP_else {o : OpP} (k5 : ¬ o.kd = 5) (k6 : ¬ o.kd = 6) (A : Ans) (f : Nat → Option Nat) (pc : Nat → Option (Nat → Option Nat)) : doP o A f pc = pc := by
  funext k
  unfold doP
  rw [if_neg (fun x => k5 x.2.1), if_neg (fun x => k6 x.2)]
def MD (mu : Nat) (o : OpP) (n m nw hd th : Nat) (f h : Nat → Option Nat) (g : Nat → Nat → Option Nat) (w w1 : World) (A : Ans) (p : Option Addr) : Prop := ∃ cl, w.heap.size ≤ cl ∧ MoAt w1 m nw hd mu (doF o A f) (doH o A cl h) (setG g cl f) (n + 1) ∧ A = tellP mu f (pcs h g) o th ∧ PairsAt w1 p A.l ∧ (∀ bk off, p = some ⟨bk, off, none⟩ → w.heap.size ≤ bk) ∧ A.l.length ≤ 8796093022000
theorem m_do {o : OpP} (ho : o.Ok) {r5 : Bool} {r6 r7 : Int} {kp : Option Addr} {kc th : Nat} (hth : th < 18446744073709551616) {W : World} {m nw hd mu : Nat} {f h : Nat → Option Nat} {g : Nat → Nat → Option Nat} {n : Nat} (H : MoAt W m nw hd mu f h g n) (hmu : mu ≤ 1024) (hn : n ≤ 8796093022000) (hks : KeysAt W kp o.ks) :
    Calls Try.prog 39 #[.pointer (some ⟨m, 0, none⟩), .agg #[.int .u8 o.kd, .int .u64 (o.k : Int), .int .u64 (o.v : Int), .int .u64 (o.od : Int), .int .u64 (o.hk : Int), .bool r5, .int .i64 r6, .int .i64 r7, .slice kp o.ks.length kc, .int .u64 (o.lo : Int), .int .u64 (o.hi : Int)], .int .u64 (th : Int)] W fun e W' => ∃ A p c, e = .returned (.agg #[.int .i64 A.e, .bool A.f, .int .u64 (A.x : Int), .bool A.d, .int .u64 (A.h : Int), .slice p A.l.length c, .int .u64 (A.n : Int)]) ∧ MD mu o n m nw hd th f h g W W' A p ∧ Chg (fun i => i = nw ∨ i = hd) W W' := by
  refine (Do_all ho hth H hmu hn hks rfl).mono ?_
  rintro e W' ⟨⟨p, c, rfl, h1, h2, h3⟩, ⟨cl, hcl, hM⟩, hc⟩
  exact ⟨_, p, c, rfl, ⟨cl, hcl, hM, rfl, h1, h2, h3⟩, hc⟩
theorem MD.new {mu : Nat} {o : OpP} {n m nw hd th : Nat} {f h : Nat → Option Nat} {g : Nat → Nat → Option Nat} {w w1 : World} {A : Ans} {p : Option Addr} (hb : ∀ k b, h k = some b → b < w.heap.size) (H : MD mu o n m nw hd th f h g w w1 A p) : ∃ h' g', MoAt w1 m nw hd mu (doF o A f) h' g' (n + 1) ∧ pcs h' g' = doP o A f (pcs h g) ∧ (∀ k b, h' k = some b → h k = some b ∨ w.heap.size ≤ b) ∧ A = tellP mu f (pcs h g) o th ∧ PairsAt w1 p A.l ∧ (∀ bk off, p = some ⟨bk, off, none⟩ → w.heap.size ≤ bk) ∧ A.l.length ≤ 8796093022000 := by
  obtain ⟨cl, hcl, hM, hA, h1, h2, h3⟩ := H
  refine ⟨_, _, hM, pcs_do o A (fun k b hk => by have := hb k b hk; omega), fun k b hk => ?_, hA, h1, h2, h3⟩
  rcases doH_new hk with q | q
  · exact .inl q
  · exact .inr (by omega)
theorem err_out {o : OpP} {er : Int} (k5 : o.kd = 5) (her : er = 31 ∨ er = 32) {W : World} {s sb m nw hd mu hc lf dn : Nat} {sl : List (Bool × Nat)} {f h : Nat → Option Nat} {g : Nat → Nat → Option Nat} {n : Nat} {lk : Nat} (S : SlAt W s sb m lk hc lf dn sl) (M : MoAt W m nw hd mu f h g n) (I : SlInv sl hc lf (pcs h g)) {Z B0 B : Nat} (hBh : ∀ k b, h k = some b → Z ≤ b ∧ b < B0) : Out mu o n s sb m nw hd lk dn sl.length f (pcs h g) Z B0 B W (errA er) none := by
  refine ⟨hc, lf, sl, f, h, g, S, M.mono (Nat.le_succ n), I, .inl ⟨k5, ?_, rfl, rfl⟩, rfl, fun k b hk => .inl (hBh k b hk), .inl rfl, (fun bk off e => by cases e), (by simp [errA])⟩
  rcases her with rfl | rfl
  · exact .inl rfl
  · exact .inr rfl
theorem k_snap {o : OpP} {r5 : Bool} {r6 r7 : Int} {kp : Option Addr} {kc : Nat} (ho : o.Ok) (k5 : o.kd = 5) {W : World} {s sb m nw hd mu hc lf dn : Nat} {sl : List (Bool × Nat)} {f h : Nat → Option Nat} {g : Nat → Nat → Option Nat} {n : Nat} (S : SlAt W s sb m 1 hc lf dn sl) (M : MoAt W m nw hd mu f h g n) (I : SlInv sl hc lf (pcs h g)) (hmu : mu ≤ 1024) (hn : n ≤ 8796093022000) (hks : KeysAt W kp o.ks) (hkb : ∀ bk off, kp = some ⟨bk, off, none⟩ → o.ks ≠ [] → bk ≠ s ∧ bk ≠ sb) {Z B0 : Nat} (hB : s < B0 ∧ sb < B0 ∧ m < B0 ∧ nw < B0 ∧ hd < B0) (hBh : ∀ k b, h k = some b → Z ≤ b ∧ b < B0) (hBW : B0 ≤ W.heap.size) :
    Calls Try.prog 37 #[.pointer (some ⟨s, 0, none⟩), .agg #[.int .u8 o.kd, .int .u64 (o.k : Int), .int .u64 (o.v : Int), .int .u64 (o.od : Int), .int .u64 (o.hk : Int), .bool r5, .int .i64 r6, .int .i64 r7, .slice kp o.ks.length kc, .int .u64 (o.lo : Int), .int .u64 (o.hi : Int)]] W fun e W' => ∃ A p c, e = .returned (.agg #[.int .i64 A.e, .bool A.f, .int .u64 (A.x : Int), .bool A.d, .int .u64 (A.h : Int), .slice p A.l.length c, .int .u64 (A.n : Int)]) ∧ Out mu o n s sb m nw hd 1 dn sl.length f (pcs h g) Z B0 (W.heap.size + 2) W' A p ∧ Chg (fun k => k = s ∨ k = sb ∨ k = nw ∨ k = hd) W W' := by
  obtain ⟨⟨a1, a2, a3⟩, ⟨a4, a5, a6⟩, a7⟩ := st_ap S M
  have ne := S.ne
  have hG : ∀ k, k = nw ∨ k = hd → k < W.heap.size ∧ k ≠ s := by
    have b1 := M.blk.2.1
    have b2 := M.blk.2.2.1
    intro k x
    omega
  have err : ∀ er : Int, er = 31 ∨ er = 32 → (∀ w, Chg (fun _ => False) W w → Calls Try.prog 63 #[.pointer (some ⟨s, 3, none⟩)] w fun e w' => e = .returned (.tuple #[.int .u64 0, .int .i64 er]) ∧ Chg (fun _ => False) w w') → Calls Try.prog 37 #[.pointer (some ⟨s, 0, none⟩), .agg #[.int .u8 o.kd, .int .u64 (o.k : Int), .int .u64 (o.v : Int), .int .u64 (o.od : Int), .int .u64 (o.hk : Int), .bool r5, .int .i64 r6, .int .i64 r7, .slice kp o.ks.length kc, .int .u64 (o.lo : Int), .int .u64 (o.hi : Int)]] W fun e W' => ∃ A p c, e = .returned (.agg #[.int .i64 A.e, .bool A.f, .int .u64 (A.x : Int), .bool A.d, .int .u64 (A.h : Int), .slice p A.l.length c, .int .u64 (A.n : Int)]) ∧ Out mu o n s sb m nw hd 1 dn sl.length f (pcs h g) Z B0 (W.heap.size + 2) W' A p ∧ Chg (fun k => k = s ∨ k = sb ∨ k = nw ∨ k = hd) W W' := by
    intro er her hT
    refine (snap_err (by omega) hT).mono ?_
    rintro e W' ⟨rfl, c⟩
    exact ⟨errA er, none, 0, rfl, err_out k5 her (S.chg c (fun x => x) (fun x => x)) (M.quiet c) I hBh, c.mono (fun _ _ x => x.elim)⟩
  by_cases c1 : hc = sl.length
  · exact err 32 (.inr rfl) (fun w cw => take_full (S.chg cw (fun x => x) (fun x => x)) c1)
  by_cases c2 : lf = 0
  · exact err 31 (.inl rfl) (fun w cw => take_out (S.chg cw (fun x => x) (fun x => x)) c1 c2)
  cases hi : idxS sl with
  | none => exact err 32 (.inr rfl) (fun w cw => take_worn (S.chg cw (fun x => x) (fun x => x)) c1 c2 hi)
  | some i =>
    obtain ⟨g0, hx, hg⟩ := idxS_spec hi
    have hi256 := I.idx hx
    have hth : hdl i g0 < 18446744073709551616 := by unfold hdl; omega
    have hth0 : hdl i g0 ≠ 0 := by unfold hdl; omega
    refine (snap_go (th := hdl i g0) (sb := sb) (m := m) (lt_of S.st) (lt_of S.row) (T := fun w w' => SlAt w' s sb m 1 (hc + 1) (lf - 1) dn (sl.set i (true, g0))) (fun w cw => take_ok (S.chg cw (fun x => x) (fun x => x)) c1 I.le c2 I.lf64 hi hx hg) (fun w w' hT => ⟨_, hT.st, rfl⟩) (G := fun k => k = nw ∨ k = hd) hG (Q := MD mu o n m nw hd (hdl i g0) f h g)
      (fun w w' w2 cw hT ct c2 => m_do ho hth ((((M.quiet cw).chg ct (by omega) (by omega) (by omega) (fun k b hk => by have := a7 k b hk; omega))).quiet c2) hmu hn ((((hks.chg cw (fun _ _ _ x => x)).chgE ct (fun bk off e e2 => ?_))).chg c2 (fun _ _ _ x => x)))).mono ?_
    · have := hkb bk off e e2; omega
    · rintro e W' ⟨A, p, c, w, w', w2, w1, rfl, cw, hz, hT, ct, cc2, hQ, cG, c9⟩
      have z1 := cw.size
      have z2 := ct.size
      have z3 := cc2.size
      obtain ⟨h', g', hM, hpc, hnew, hA, hP, hPB, hPL⟩ := hQ.new (fun k b hk => by have := hBh k b hk; omega)
      have e5 := tellP_5 mu f (pcs h g) o (hdl i g0) k5
      rw [I.free hx] at e5
      simp only [Option.isSome_none, Bool.false_eq_true, if_false] at e5
      have eA : A = ⟨0, false, 0, false, hdl i g0, [], 0⟩ := hA.trans e5
      have hpc2 : pcs h' g' = fun k => if k = hdl i g0 then some f else pcs h g k := by
        rw [hpc, eA]
        funext k
        unfold doP
        rw [if_pos ⟨rfl, k5, hth0⟩]
      have H1 : Outs mu o n s sb m nw hd 1 dn sl.length f (pcs h g) Z B0 (W.heap.size + 2) w1 A p (hc + 1) (lf - 1) (sl.set i (true, g0)) (doF o A f) h' g' :=
        ⟨(SlAt.chg hT cc2 (fun x => x) (fun x => x)).chg cG (by omega) (by omega), hM, by rw [hpc2]; exact I.take hx hg f, .inr ⟨hdl i g0, hth, fun _ => hth0, hA, rfl, hpc⟩, by rw [List.length_set], fun k b hk => (hnew k b hk).imp (hBh k b) (fun q => by omega), hP, fun bk off e => by have := hPB bk off e; omega, hPL⟩
      refine ⟨A, p, c, rfl, ⟨_, _, _, _, _, _, H1.chg c9 (fun i hi => by omega) hB⟩, ?_⟩
      exact ((((cw.trans ct (H := fun k => k = s ∨ k = sb ∨ k = nw ∨ k = hd) (fun _ _ x => x.elim) (fun _ _ x => x.elim .inl (fun y => .inr (.inl y)))).trans cc2 (H := fun k => k = s ∨ k = sb ∨ k = nw ∨ k = hd) (fun _ _ x => x) (fun _ _ x => x.elim)).trans cG (H := fun k => k = s ∨ k = sb ∨ k = nw ∨ k = hd) (fun _ _ x => x) (fun _ _ x => .inr (.inr x))).trans c9 (fun _ _ x => x) (fun i hi x => by omega))
end Go.Proofs.Ytgaincicbgojjaa
/- A release, any operation: tell, Do. -/
namespace Go.Proofs.Ytgaincicbgojjaa
open Go.RowKit Go.Maps
set_option linter.unusedVariables false

theorem tellP_6 (mu : Nat) (f : Nat → Option Nat) (pc : Nat → Option (Nat → Option Nat)) (o : OpP) (th : Nat) (h : o.kd = 6) : tellP mu f pc o th = if (pc o.hk).isSome then errA 0 else errA 33 := by
  unfold tellP
  rw [if_neg (by omega), if_neg (by omega), if_neg (by omega), if_pos h]
theorem MoAt.nm {W w1 w2 : World} {m nw hd mu : Nat} {f h : Nat → Option Nat} {g : Nat → Nat → Option Nat} {n : Nat} (H : MoAt w1 m nw hd mu f h g n) (c : Chg (NM W w1) w1 w2) (h1 : m < W.heap.size) (h2 : nw < W.heap.size) (h3 : hd < W.heap.size) : MoAt w2 m nw hd mu f h g n :=
  H.chg c (fun x => by have := x.1; omega) (fun x => by have := x.1; omega) (fun x => by have := x.1; omega) (fun k b hk x => by
    obtain ⟨es, cc, e⟩ := MapR.is (H.pic k b hk)
    exact x.2 es cc e)
theorem k_rel {o : OpP} {r5 : Bool} {r6 r7 : Int} {kp : Option Addr} {kc : Nat} (ho : o.Ok) (k6 : o.kd = 6) {W : World} {s sb m nw hd mu hc lf dn : Nat} {sl : List (Bool × Nat)} {f h : Nat → Option Nat} {g : Nat → Nat → Option Nat} {n : Nat} (S : SlAt W s sb m 1 hc lf dn sl) (M : MoAt W m nw hd mu f h g n) (I : SlInv sl hc lf (pcs h g)) (hmu : mu ≤ 1024) (hn : n ≤ 8796093022000) (hks : KeysAt W kp o.ks) (hkb : ∀ bk off, kp = some ⟨bk, off, none⟩ → o.ks ≠ [] → bk ≠ s ∧ bk ≠ sb) {Z B0 : Nat} (hB : s < B0 ∧ sb < B0 ∧ m < B0 ∧ nw < B0 ∧ hd < B0) (hBh : ∀ k b, h k = some b → Z ≤ b ∧ b < B0) (hBW : B0 ≤ W.heap.size) :
    Calls Try.prog 38 #[.pointer (some ⟨s, 0, none⟩), .agg #[.int .u8 o.kd, .int .u64 (o.k : Int), .int .u64 (o.v : Int), .int .u64 (o.od : Int), .int .u64 (o.hk : Int), .bool r5, .int .i64 r6, .int .i64 r7, .slice kp o.ks.length kc, .int .u64 (o.lo : Int), .int .u64 (o.hi : Int)]] W fun e W' => ∃ A p c, e = .returned (.agg #[.int .i64 A.e, .bool A.f, .int .u64 (A.x : Int), .bool A.d, .int .u64 (A.h : Int), .slice p A.l.length c, .int .u64 (A.n : Int)]) ∧ Out mu o n s sb m nw hd 1 dn sl.length f (pcs h g) Z B0 (W.heap.size + 2) W' A p ∧ Chg (fun k => k = s ∨ k = sb ∨ k = nw ∨ k = hd) W W' := by
  obtain ⟨⟨a1, a2, a3⟩, ⟨a4, a5, a6⟩, a7⟩ := st_ap S M
  have ne := S.ne
  have hG : ∀ k, k = nw ∨ k = hd → k < W.heap.size ∧ k ≠ s := by
    have b1 := M.blk.2.1
    have b2 := M.blk.2.2.1
    intro k x
    omega
  have nmS : ∀ {w1 w2 : World}, SlAt w1 s sb m 1 hc lf dn sl → Chg (NM W w1) w1 w2 → SlAt w2 s sb m 1 hc lf dn sl := fun h c => h.chg c (fun x => by have := x.1; omega) (fun x => by have := x.1; omega)
  refine (rel_go S.st (lt_of S.row) hG (Q := fun w w1 A p => MD mu o n m nw hd 0 f h g w w1 A p ∧ SlAt w1 s sb m 1 hc lf dn sl) (fun w cw => ?_) (L := fun w2 w3 => ∀ i g0, sl[i]? = some (true, g0) → o.hk = hdl i g0 → SlAt w3 s sb m 1 (hc - 1) lf dn (sl.set i (false, g0 + 1))) (fun w w1 A p w2 hQ c12 he => ?_)).mono ?_
  · refine (m_do ho (th := 0) (by omega) (M.quiet cw) hmu hn (hks.chg cw (fun _ _ _ x => x))).mono ?_
    rintro e w1 ⟨A, p, c, rfl, hM, c1⟩
    exact ⟨A, p, c, rfl, ⟨hM, (S.chg cw (fun x => x) (fun x => x)).chg c1 (by omega) (by omega)⟩, c1⟩
  · obtain ⟨cl, hcl, hM, hA, _⟩ := hQ.1
    rw [tellP_6 mu f (pcs h g) o 0 k6] at hA
    have hp : (pcs h g o.hk).isSome = true := by
      cases hq : (pcs h g o.hk).isSome
      · rw [hq] at hA
        simp only [Bool.false_eq_true, if_false] at hA
        rw [hA] at he
        simp [errA] at he
      · rfl
    obtain ⟨i, g0, hx, ek⟩ := (I.pcs o.hk).1 hp
    have hg := (I.gen i true g0 hx).2 rfl
    have S2 := nmS hQ.2 c12
    rw [ek]
    refine (let_go S2 hx hg (I.go hx).1 (Nat.le_trans I.le I.len)).mono ?_
    rintro e w3 ⟨rfl, h3, c3⟩
    refine ⟨rfl, fun j g1 hj ej => ?_, c3⟩
    obtain ⟨e1, e2⟩ := hdl_inj (I.idx hx) (I.idx hj) ej
    subst e1
    subst e2
    exact h3
  · rintro e W' ⟨A, p, c, w, w1, w2, w3, rfl, cw, hz, ⟨hQ, S1⟩, cG, c12, hor, c9⟩
    have z1 := cw.size
    obtain ⟨h', g', hM, hpc, hnew, hA, hP, hPB, hPL⟩ := hQ.new (fun k b hk => by have := hBh k b hk; omega)
    have S2 := nmS S1 c12
    have M2 := hM.nm c12 (by omega) (by omega) (by omega)
    have hA6 := hA.trans (tellP_6 mu f (pcs h g) o 0 k6)
    have hl : A.l = [] := by rw [hA6]; split <;> rfl
    have nw' : ∀ k b, h' k = some b → (Z ≤ b ∧ b < B0) ∨ W.heap.size + 2 ≤ b := fun k b hk => (hnew k b hk).imp (hBh k b) (fun q => by omega)
    have pn : ∀ bk off, p = some ⟨bk, off, none⟩ → W.heap.size + 2 ≤ bk := fun bk off e => by have := hPB bk off e; omega
    have stp : LStep mu o f (pcs h g) A (doF o A f) (pcs h' g') := .inr ⟨0, by omega, fun x => by omega, hA, rfl, hpc⟩
    have chW : ∀ {w3 : World}, Chg (fun k => k = s ∨ k = sb) w2 w3 → Chg (NM W w3) w3 W' → Chg (fun k => k = s ∨ k = sb ∨ k = nw ∨ k = hd) W W' := fun {w3} c23 c9 =>
      ((((cw.trans cG (H := fun k => k = s ∨ k = sb ∨ k = nw ∨ k = hd) (fun _ _ x => x.elim) (fun _ _ x => .inr (.inr x))).trans c12 (H := fun k => k = s ∨ k = sb ∨ k = nw ∨ k = hd) (fun _ _ x => x) (fun i hi x => by have := x.1; omega)).trans c23 (H := fun k => k = s ∨ k = sb ∨ k = nw ∨ k = hd) (fun _ _ x => x) (fun _ _ x => x.elim .inl (fun y => .inr (.inl y)))).trans c9 (fun _ _ x => x) (fun i hi x => by have := x.1; omega))
    rcases hor with ⟨he, hL, c23⟩ | ⟨he, rfl⟩
    · have hp : (pcs h g o.hk).isSome = true := by
        cases hq : (pcs h g o.hk).isSome
        · rw [hq] at hA6
          simp only [Bool.false_eq_true, if_false] at hA6
          rw [hA6] at he
          simp [errA] at he
        · rfl
      obtain ⟨i, g0, hx, ek⟩ := (I.pcs o.hk).1 hp
      have S3 := hL i g0 hx ek
      obtain ⟨b1, b2, b3⟩ := st_ap S2 M2
      have M3 := M2.chg c23 (by omega) (by omega) (by omega) (fun k b hk => by have := b3 k b hk; omega)
      have M9 := M3.nm c9 (by omega) (by omega) (by omega)
      have S9 := S3.chg c9 (fun x => by have := x.1; omega) (fun x => by have := x.1; omega)
      have hpc2 : pcs h' g' = fun k => if k = hdl i g0 then none else pcs h g k := by
        rw [hpc]
        funext k
        unfold doP
        rw [if_neg (fun x => by omega), if_pos ⟨he, k6⟩, ek]
      exact ⟨A, p, c, rfl, ⟨_, _, _, _, _, _, S9, M9, by rw [hpc2]; exact (I.go hx).2, stp, by rw [List.length_set], nw', .inl hl, pn, hPL⟩, chW c23 c9⟩
    · have M9 := M2.nm c9 (by omega) (by omega) (by omega)
      have S9 := nmS S2 c9
      have hpc2 : pcs h' g' = pcs h g := by
        rw [hpc]
        funext k
        unfold doP
        rw [if_neg (fun x => by omega), if_neg (fun x => he x.1)]
      exact ⟨A, p, c, rfl, ⟨_, _, _, _, _, _, S9, M9, by rw [hpc2]; exact I, stp, rfl, nw', .inl hl, pn, hPL⟩, chW (Chg.refl _ _) c9⟩
theorem k_tell {o : OpP} {r5 : Bool} {r6 r7 : Int} {kp : Option Addr} {kc : Nat} (ho : o.Ok) {W : World} {s sb m nw hd mu hc lf dn : Nat} {sl : List (Bool × Nat)} {f h : Nat → Option Nat} {g : Nat → Nat → Option Nat} {n : Nat} (S : SlAt W s sb m 1 hc lf dn sl) (M : MoAt W m nw hd mu f h g n) (I : SlInv sl hc lf (pcs h g)) (hmu : mu ≤ 1024) (hn : n ≤ 8796093022000) (hks : KeysAt W kp o.ks) (hkb : ∀ bk off, kp = some ⟨bk, off, none⟩ → o.ks ≠ [] → bk ≠ s ∧ bk ≠ sb) {Z B0 : Nat} (hB : s < B0 ∧ sb < B0 ∧ m < B0 ∧ nw < B0 ∧ hd < B0) (hBh : ∀ k b, h k = some b → Z ≤ b ∧ b < B0) (hBW : B0 ≤ W.heap.size) :
    Calls Try.prog 21 #[.pointer (some ⟨s, 0, none⟩), .agg #[.int .u8 o.kd, .int .u64 (o.k : Int), .int .u64 (o.v : Int), .int .u64 (o.od : Int), .int .u64 (o.hk : Int), .bool r5, .int .i64 r6, .int .i64 r7, .slice kp o.ks.length kc, .int .u64 (o.lo : Int), .int .u64 (o.hi : Int)]] W fun e W' => ∃ A p c, e = .returned (.agg #[.int .i64 A.e, .bool A.f, .int .u64 (A.x : Int), .bool A.d, .int .u64 (A.h : Int), .slice p A.l.length c, .int .u64 (A.n : Int)]) ∧ Out mu o n s sb m nw hd 1 dn sl.length f (pcs h g) Z B0 (W.heap.size + 2) W' A p ∧ Chg (fun k => k = s ∨ k = sb ∨ k = nw ∨ k = hd) W W' := by
  obtain ⟨⟨a1, a2, a3⟩, ⟨a4, a5, a6⟩, a7⟩ := st_ap S M
  have bl := M.blk
  have hB2 : s < W.heap.size ∧ sb < W.heap.size ∧ m < W.heap.size ∧ nw < W.heap.size ∧ hd < W.heap.size := ⟨lt_of S.st, lt_of S.row, bl.1, bl.2.1, bl.2.2.1⟩
  have fin : ∀ {A : Ans} {p : Option Addr} {w w1 W' : World}, Chg (fun _ => False) W w → W.heap.size + 2 ≤ w.heap.size → Out mu o n s sb m nw hd 1 dn sl.length f (pcs h g) Z B0 (w.heap.size + 2) w1 A p → Chg (fun k => k = s ∨ k = sb ∨ k = nw ∨ k = hd) w w1 → Chg (fun i => i = W.heap.size + 1) w1 W' → Out mu o n s sb m nw hd 1 dn sl.length f (pcs h g) Z B0 (W.heap.size + 2) W' A p ∧ Chg (fun k => k = s ∨ k = sb ∨ k = nw ∨ k = hd) W W' := by
    rintro A p w w1 W' cw hz ⟨hc', lf', sl', f', h', g', H⟩ cG c9
    exact ⟨⟨hc', lf', sl', f', h', g', (H.mono (by omega)).chg c9 (fun i hi => by omega) hB⟩, (cw.trans cG (H := fun k => k = s ∨ k = sb ∨ k = nw ∨ k = hd) (fun _ _ x => x.elim) (fun _ _ x => x)).trans c9 (fun _ _ x => x) (fun i hi x => by omega)⟩
  have hG4 : ∀ k, k = s ∨ k = sb ∨ k = nw ∨ k = hd → k < W.heap.size := by intro k x; omega
  by_cases k5 : o.kd = 5
  · refine (tell_5 k5 hG4 (R := fun w w1 A p => Out mu o n s sb m nw hd 1 dn sl.length f (pcs h g) Z B0 (w.heap.size + 2) w1 A p) (fun w cw => ?_)).mono ?_
    · exact (k_snap ho k5 (S.chg cw (fun x => x) (fun x => x)) (M.quiet cw) I hmu hn (hks.chg cw (fun _ _ _ x => x)) hkb hB hBh (Nat.le_trans hBW cw.size))
    · rintro e W' ⟨A, p, c, w, w1, rfl, cw, hz, hO, cG, c9⟩
      exact ⟨A, p, c, rfl, fin cw hz hO cG c9⟩
  by_cases k6 : o.kd = 6
  · refine (tell_6 k6 hG4 (R := fun w w1 A p => Out mu o n s sb m nw hd 1 dn sl.length f (pcs h g) Z B0 (w.heap.size + 2) w1 A p) (fun w cw => ?_)).mono ?_
    · exact (k_rel ho k6 (S.chg cw (fun x => x) (fun x => x)) (M.quiet cw) I hmu hn (hks.chg cw (fun _ _ _ x => x)) hkb hB hBh (Nat.le_trans hBW cw.size))
    · rintro e W' ⟨A, p, c, w, w1, rfl, cw, hz, hO, cG, c9⟩
      exact ⟨A, p, c, rfl, fin cw hz hO cG c9⟩
  refine (tell_else k5 k6 S.st (G := fun k => k = nw ∨ k = hd) (by intro k x; omega) (Q := MD mu o n m nw hd 0 f h g) (fun w cw => m_do ho (th := 0) (by omega) (M.quiet cw) hmu hn (hks.chg cw (fun _ _ _ x => x)))).mono ?_
  rintro e W' ⟨A, p, c, w, w1, rfl, cw, hz, hQ, cG, c9⟩
  obtain ⟨h', g', hM, hpc, hnew, hA, hP, hPB, hPL⟩ := hQ.new (fun k b hk => by have := bl.2.2.2 k b hk; omega)
  have H1 : Outs mu o n s sb m nw hd 1 dn sl.length f (pcs h g) Z B0 (W.heap.size + 2) w1 A p hc lf sl (doF o A f) h' g' :=
    ⟨(S.chg cw (fun x => x) (fun x => x)).chg cG (by omega) (by omega), hM, by rw [hpc, doP_else k5 k6]; exact I, .inr ⟨0, by omega, fun x => absurd x k5, hA, rfl, hpc⟩, rfl, fun k b hk => (hnew k b hk).imp (hBh k b) (fun q => by omega), hP, fun bk off e => by have := hPB bk off e; omega, hPL⟩
  exact ⟨A, p, c, rfl, ⟨_, _, _, _, _, _, H1.chg c9 (fun i hi => by omega) hB⟩, (cw.trans cG (H := fun k => k = s ∨ k = sb ∨ k = nw ∨ k = hd) (fun _ _ x => x.elim) (fun _ _ x => .inr (.inr x))).trans c9 (fun _ _ x => x) (fun i hi x => by omega)⟩
/-- Do. -/
theorem k_do {o : OpP} {r5 : Bool} {r6 r7 : Int} {kp : Option Addr} {kc : Nat} (ho : o.Ok) {W : World} {s sb m nw hd mu hc lf dn : Nat} {sl : List (Bool × Nat)} {f h : Nat → Option Nat} {g : Nat → Nat → Option Nat} {n : Nat} (S : SlAt W s sb m 0 hc lf dn sl) (M : MoAt W m nw hd mu f h g n) (I : SlInv sl hc lf (pcs h g)) (hmu : mu ≤ 1024) (hn : n ≤ 8796093022000) (hks : KeysAt W kp o.ks) (hkb : ∀ bk off, kp = some ⟨bk, off, none⟩ → o.ks ≠ [] → bk ≠ s ∧ bk ≠ sb) (hdn : dn ≤ 4000000000000000000) {Z : Nat} (hZ : ∀ k b, h k = some b → Z ≤ b) :
    Calls Try.prog 6 #[.pointer (some ⟨s, 0, none⟩), .agg #[.int .u8 o.kd, .int .u64 (o.k : Int), .int .u64 (o.v : Int), .int .u64 (o.od : Int), .int .u64 (o.hk : Int), .bool r5, .int .i64 r6, .int .i64 r7, .slice kp o.ks.length kc, .int .u64 (o.lo : Int), .int .u64 (o.hi : Int)]] W fun e W' => ∃ A p c, e = .returned (.tuple #[.agg #[.int .i64 A.e, .bool A.f, .int .u64 (A.x : Int), .bool A.d, .int .u64 (A.h : Int), .slice p A.l.length c, .int .u64 (A.n : Int)], .int .i64 (dn : Int)]) ∧ Out mu o n s sb m nw hd 0 (dn + 1) sl.length f (pcs h g) Z W.heap.size (W.heap.size + 2) W' A p ∧ Chg (fun k => k = s ∨ k = sb ∨ k = nw ∨ k = hd) W W' := by
  obtain ⟨⟨a1, a2, a3⟩, ⟨a4, a5, a6⟩, a7⟩ := st_ap S M
  have ne := S.ne
  have bl := M.blk
  have ls := lt_of S.st
  have lsb := lt_of S.row
  have hG4 : ∀ k, k = s ∨ k = sb ∨ k = nw ∨ k = hd → k < W.heap.size := by intro k x; omega
  refine (do_go S.st hdn hG4 (R := fun w w1 A p => Out mu o n s sb m nw hd 1 (dn + 1) sl.length f (pcs h g) Z W.heap.size (w.heap.size + 2) w1 A p) (fun w cw hs => ?_)).mono ?_
  · have S1 : SlAt w s sb m 1 hc lf (dn + 1) sl := ⟨hs, (cw.block sb lsb (Ne.symm ne)).trans S.row, S.len⟩
    have M1 := M.chg cw (Ne.symm a1) (Ne.symm a2) (Ne.symm a3) (fun k b hk => (a7 k b hk).1)
    refine (k_tell ho S1 M1 I hmu hn (hks.chgE cw (fun bk off e e2 => (hkb bk off e e2).1)) hkb ⟨ls, lsb, bl.1, bl.2.1, bl.2.2.1⟩ (fun k b hk => ⟨hZ k b hk, bl.2.2.2 k b hk⟩) cw.size).mono ?_
    rintro e w1 ⟨A, p, c, rfl, hO, c1⟩
    obtain ⟨hc', lf', sl', f', h', g', H⟩ := hO
    refine ⟨A, p, c, rfl, ⟨⟨hc', lf', sl', f', h', g', H⟩, hc', lf', ?_⟩, c1⟩
    have := H.sa.st
    rw [H.len] at this
    exact this
  · rintro e W' ⟨A, p, c, w, w1, hc1, lf1, rfl, cw, hz, ⟨hc', lf', sl', f', h', g', H⟩, cG, s9, s1, c9⟩
    obtain ⟨⟨b1, b2, b3⟩, ⟨b4, b5, b6⟩, b7⟩ := st_ap H.sa H.mo
    have es := H.sa.st
    rw [H.len] at es
    have eq := s1.symm.trans es
    simp [stC] at eq
    obtain ⟨e1, e2⟩ := eq
    have e1' : hc1 = hc' := by omega
    have e2' : lf1 = lf' := by omega
    subst e1'
    subst e2'
    have S9 : SlAt W' s sb m 0 hc1 lf1 (dn + 1) sl' := ⟨by rw [H.len]; exact s9, (c9.block sb (lt_of H.sa.row) (by omega)).trans H.sa.row, H.sa.len⟩
    have M9 := H.mo.chg c9 (by omega) (by omega) (by omega) (fun k b hk => by
      have q1 := b7 k b hk
      have q2 := H.new k b hk
      omega)
    refine ⟨A, p, c, rfl, ⟨hc1, lf1, sl', f', h', g', S9, M9, H.inv, H.stp, H.len, fun k b hk => (H.new k b hk).imp id (fun q => by omega), H.prs.chgF c9 (fun bk off e => by have := H.pnew bk off e; omega), fun bk off e => by have := H.pnew bk off e; omega, H.plen⟩, ?_⟩
    exact (cw.trans cG (H := fun k => k = s ∨ k = sb ∨ k = nw ∨ k = hd) (fun _ _ x => .inl x) (fun _ _ x => x)).trans c9 (fun _ _ x => x) (fun i hi x => by omega)
end Go.Proofs.Ytgaincicbgojjaa
/- New; Content under the lock. -/
namespace Go.Proofs.Ytgaincicbgojjaa
open Go.RowKit Go.Maps Go.MuLone
set_option linter.unusedVariables false

set_option maxRecDepth 100000 in
theorem new_gg (mu : Nat) (h1 : 1 ≤ mu) (h2 : mu ≤ 1024) (W : World) : Calls Try.prog 11 #[.int .i64 (mu : Int)] W fun e W' => e = .returned (.tuple #[.pointer (some ⟨W.heap.size + 2, 0, none⟩), .int .i64 0]) ∧ MoAt W' (W.heap.size + 2) W.heap.size (W.heap.size + 1) mu (fun _ => none) (fun _ => none) (fun _ _ => none) 0 ∧ Chg (fun _ => False) W W' := by
  have hmm := @run_makeMap Try.prog
  have q1 : ¬ (mu : Int) < 1 := by omega
  have q2 : ¬ (mu : Int) > 1024 := by omega
  have q3 : ¬ (1024 : Int) < (mu : Int) := by omega
  go_enter Try.func11, Try.ntmps11
  go_wp2_with fail
  go_ret2
  refine ⟨by simp, ⟨?_, ?_, ?_, fun k b hb => by simp at hb, by omega, by omega, by omega, fun k b hb => by simp at hb⟩, (((Chg.refl _ _).alloc _).alloc _).alloc _⟩
  · have e := heap_alloc_new ((W.alloc (.map #[] 0)).alloc (.map #[] 0)) (.cells #[.int .i64 (mu : Int), .map (some W.heap.size), .map (some (W.heap.size + 1))] 83)
    rw [World.size_alloc, World.size_alloc] at e
    simpa using e
  · exact MapR.chg (F := fun _ => False) (MapR.made _ _ _ W) (((Chg.refl _ _).alloc _).alloc _) (fun x => x)
  · have e := MapR.made heldM elH (fun _ => True) (W.alloc (.map #[] 0))
    rw [World.size_alloc] at e
    exact MapR.chg (F := fun _ => False) e ((Chg.refl _ _).alloc _) (fun x => x)
set_option maxRecDepth 100000 in
theorem new_no (mu : Int) (h : mu < 1 ∨ 1024 < mu) (W : World) : Calls Try.prog 11 #[.int .i64 mu] W fun e W' => e = .returned (.tuple #[.pointer none, .int .i64 2]) ∧ W' = W := by
  by_cases h1 : mu < 1
  · go_enter Try.func11, Try.ntmps11
    go_wp2_with fail
    (try simp only [Exit.inBlock, Exit.then])
    go_ret2
    exact ⟨rfl, rfl⟩
  · have h2 : 1024 < mu := by omega
    clear h
    go_enter Try.func11, Try.ntmps11
    go_wp2_with fail
    (try simp only [Exit.inBlock, Exit.then])
    go_ret2
    exact ⟨rfl, rfl⟩
set_option maxRecDepth 100000 in
theorem k_new_no (a b c d : Int) (h : takesP a b c = false ∨ d < 1 ∨ 1024 < d) (W : World) : Calls Try.prog 9 #[.agg #[.int .i64 a, .int .i64 b, .int .u64 c, .int .i64 d]] W fun e W' => e = .returned (.tuple #[.pointer none, .int .i64 2]) ∧ Chg (fun _ => False) W W' := by
  obtain ⟨w0, hw0⟩ : ∃ w0, w0 = W.alloc (.cells #[.int .i64 a, .int .i64 b, .int .u64 c, .int .i64 d] 40) := ⟨_, rfl⟩
  have C0 : Chg (fun _ => False) W w0 := by rw [hw0]; exact (Chg.refl _ _).alloc _
  have o0 : w0.heap[W.heap.size]? = some (.cells #[.int .i64 a, .int .i64 b, .int .u64 c, .int .i64 d] 40 (0, 0)) := by rw [hw0]; exact heap_alloc_new _ _
  have c0 := cell_of o0 0
  have c1 := cell_of o0 1
  have c2 := cell_of o0 2
  have c3 := cell_of o0 3
  have HO := keepH o0
  have HC := keepH C0
  have HT := keepH (k_takes a b c d w0)
  have HH := keepH h
  obtain ⟨t, ht⟩ : ∃ t, t = takesP a b c := ⟨_, rfl⟩
  rw [← ht] at HT HH
  clear o0 C0 h ht
  go_enter Try.func9, Try.ntmps9
  go_upto_region 1 with fail
  rw [← hw0]
  clear hw0
  go_wp2_with fail
  refine HT.out.mono ?_
  rintro e w1 ⟨rfl, C1⟩
  have d3 : w1.cell? ⟨W.heap.size, 3, none⟩ = some (.int .i64 d) := by
    rw [cell_of ((C1.block _ (lt_of HO.out) (fun x => x)).trans HO.out)]
    rfl
  have HC1 := keepH (HC.out.trans C1 (H := fun _ => False) (fun _ _ x => x) (fun _ _ x => x))
  clear C1 c0 c1 c2 c3
  cases t
  · go_wp2_with fail
    (try simp only [Exit.inBlock, Exit.then])
    go_ret2
    exact ⟨rfl, HC1.out⟩
  · have HD : Hid (d < 1 ∨ 1024 < d) := by rcases HH.out with q | q; (cases q); exact q
    go_wp2_with fail
    refine (new_no d HD.out _).mono ?_
    rintro e w2 ⟨rfl, rfl⟩
    go_wp2_with fail
    (try simp only [Exit.inBlock, Exit.then])
    go_ret2
    exact ⟨rfl, HC1.out⟩
structure Fresh (B : Nat) (s sb m nw hd : Nat) : Prop where
  s : B ≤ s
  sb : B ≤ sb
  m : B ≤ m
  nw : B ≤ nw
  hd : B ≤ hd
set_option maxRecDepth 100000 in
set_option maxHeartbeats 1000000 in
theorem k_new (a : Int) (N st mu : Nat) (h : takesP a (N : Int) (st : Int) = true) (m1 : 1 ≤ mu) (m2 : mu ≤ 1024) (W : World) : Calls Try.prog 9 #[.agg #[.int .i64 a, .int .i64 (N : Int), .int .u64 (st : Int), .int .i64 (mu : Int)]] W fun e W' => ∃ s sb m nw hd, e = .returned (.tuple #[.pointer (some ⟨s, 0, none⟩), .int .i64 0]) ∧ SlAt W' s sb m 0 0 (st - 1) 0 (List.replicate N (false, 0)) ∧ MoAt W' m nw hd mu (fun _ => none) (fun _ => none) (fun _ _ => none) 0 ∧ Fresh W.heap.size s sb m nw hd ∧ Chg (fun _ => False) W W' := by
  have hb : N ≤ 256 ∧ 1 ≤ st ∧ st ≤ 1099511627776 := by
    unfold takesP at h
    simp at h
    omega
  obtain ⟨w0, hw0⟩ : ∃ w0, w0 = W.alloc (.cells #[.int .i64 a, .int .i64 (N : Int), .int .u64 (st : Int), .int .i64 (mu : Int)] 40) := ⟨_, rfl⟩
  have C0 : Chg (fun _ => False) W w0 := by rw [hw0]; exact (Chg.refl _ _).alloc _
  have o0 : w0.heap[W.heap.size]? = some (.cells #[.int .i64 a, .int .i64 (N : Int), .int .u64 (st : Int), .int .i64 (mu : Int)] 40 (0, 0)) := by rw [hw0]; exact heap_alloc_new _ _
  have c0 := cell_of o0 0
  have c1 := cell_of o0 1
  have c2 := cell_of o0 2
  have c3 := cell_of o0 3
  have HO := keepH o0
  have HC := keepH C0
  have HT := keepH (k_takes a (N : Int) (st : Int) (mu : Int) w0)
  rw [h] at HT
  have HB := keepH hb
  have HM : Hid (1 ≤ mu ∧ mu ≤ 1024) := ⟨m1, m2⟩
  clear o0 C0 h hb m1 m2
  go_enter Try.func9, Try.ntmps9
  go_upto_region 1 with fail
  rw [← hw0]
  clear hw0
  go_wp2_with fail
  refine HT.out.mono ?_
  rintro e w1 ⟨rfl, C1⟩
  have HO1 := keepH ((C1.block _ (lt_of HO.out) (fun x => x)).trans HO.out)
  have d3 : w1.cell? ⟨W.heap.size, 3, none⟩ = some (.int .i64 (mu : Int)) := by rw [cell_of HO1.out]; rfl
  have HC1 := keepH (HC.out.trans C1 (H := fun _ => False) (fun _ _ x => x) (fun _ _ x => x))
  clear C1 c0 c1 c2 c3
  go_wp2_with fail
  refine (new_gg mu HM.out.1 HM.out.2 _).mono ?_
  rintro e w2 ⟨rfl, M2, C2⟩
  have HO2 := keepH ((C2.block _ (lt_of HO1.out) (fun x => x)).trans HO1.out)
  have HC2 := keepH (HC1.out.trans C2 (H := fun _ => False) (fun _ _ x => x) (fun _ _ x => x))
  have HM2 := keepH M2
  have HZ1 : Hid (W.heap.size ≤ w1.heap.size) := HC1.out.size
  obtain ⟨m, hm⟩ : ∃ m, m = w1.heap.size + 2 := ⟨_, rfl⟩
  have HMM := keepH hm
  rw [← hm] at HM2 ⊢
  clear C2 M2 d3 hm
  have c0 := cell_of HO2.out 0
  have c1 := cell_of HO2.out 1
  have c2 := cell_of HO2.out 2
  have c3 := cell_of HO2.out 3
  go_wp2_with fail
  refine (k_slots HB.out.1 HB.out.2.1 HB.out.2.2 _).mono ?_
  rintro e w3 ⟨sb, rfl, hsb, r3, C3⟩
  obtain ⟨w4, hw4⟩ : ∃ w4, w4 = w3.alloc (.cells (stC 0 m sb N 0 (st - 1) 0) 69) := ⟨_, rfl⟩
  have HE : Hid (SlAt w4 w3.heap.size sb m 0 0 (st - 1) 0 (List.replicate N (false, 0)) ∧ MoAt w4 m w1.heap.size (w1.heap.size + 1) mu (fun _ => none) (fun _ => none) (fun _ _ => none) 0 ∧ Fresh W.heap.size w3.heap.size sb m w1.heap.size (w1.heap.size + 1) ∧ Chg (fun _ => False) W w4) := by
    have z1 := HZ1.out
    have z2 := HMM.out
    have z3 := HC2.out.size
    have z4 := C3.size
    refine ⟨⟨?_, ?_, by have := HB.out; simpa using this.1⟩, ?_, ⟨by omega, by omega, by omega, by omega, by omega⟩, ?_⟩
    · rw [hw4, List.length_replicate]; exact heap_alloc_new _ _
    · rw [hw4]; exact alloc_of r3 _
    · rw [hw4]; exact (HM2.out.quiet C3).quiet ((Chg.refl _ _).alloc _)
    · rw [hw4]; exact (HC2.out.trans C3 (H := fun _ => False) (fun _ _ x => x) (fun _ _ x => x)).alloc _
  have HW4 := keepH hw4
  clear hsb r3 C3 hw4 c0 c1 c2 c3
  go_wp2_with fail
  go_ret2
  have q := HE.out
  rw [HW4.out] at q
  exact ⟨w3.heap.size, sb, m, w1.heap.size, w1.heap.size + 1, rfl, q.1, q.2.1, q.2.2.1, q.2.2.2⟩
set_option maxRecDepth 100000 in
set_option maxHeartbeats 1000000 in
theorem k_content {W : World} {s sb m nw hd mu hc lf dn : Nat} {sl : List (Bool × Nat)} {f h : Nat → Option Nat} {g : Nat → Nat → Option Nat} {n : Nat} (S : SlAt W s sb m 0 hc lf dn sl) (M : MoAt W m nw hd mu f h g n) (hn : n ≤ 8796093022000) :
    Calls Try.prog 8 #[.pointer (some ⟨s, 0, none⟩)] W fun e W' => (∃ p c l, e = .returned (.slice p l.length c) ∧ Lists f 0 18446744073709551615 l ∧ PairsAt W' p l ∧ (∀ bk off, p = some ⟨bk, off, none⟩ → W.heap.size ≤ bk) ∧ l.length ≤ n) ∧ SlAt W' s sb m 0 hc lf dn sl ∧ MoAt W' m nw hd mu f h g n ∧ Chg (fun k => k = s) W W' := by
  obtain ⟨⟨a1, a2, a3⟩, ⟨a4, a5, a6⟩, a7⟩ := st_ap S M
  have ne := S.ne
  have ls := lt_of S.st
  obtain ⟨w1, hw1⟩ : ∃ w1, w1 = W.setCell ⟨s, 0, none⟩ (.int .i32 1) := ⟨_, rfl⟩
  have s1 : w1.heap[s]? = some (.cells (stC 1 m sb sl.length hc lf dn) 69 (0, 0)) := by rw [hw1]; exact set_of S.st 0 _
  have C1 : Chg (fun k => k = s) W w1 := by rw [hw1]; exact (Chg.refl (fun k => k = s) W).setCell (p := ⟨s, 0, none⟩) (fun _ => rfl) _
  have M1 := M.chg C1 (Ne.symm a1) (Ne.symm a2) (Ne.symm a3) (fun k b hk => (a7 k b hk).1)
  have HE : Hid (∀ z p l, Chg (fun _ => False) w1 z → PairsAt z p l → (∀ bk off, p = some ⟨bk, off, none⟩ → w1.heap.size ≤ bk) → z.cell? ⟨s, 0, none⟩ = some (.int .i32 1) ∧ z.frozen? ⟨s, 0, none⟩ = false ∧ Hid (PairsAt (z.setCell ⟨s, 0, none⟩ (.int .i32 0)) p l ∧ (∀ bk off, p = some ⟨bk, off, none⟩ → W.heap.size ≤ bk) ∧ SlAt (z.setCell ⟨s, 0, none⟩ (.int .i32 0)) s sb m 0 hc lf dn sl ∧ MoAt (z.setCell ⟨s, 0, none⟩ (.int .i32 0)) m nw hd mu f h g n ∧ Chg (fun k => k = s) W (z.setCell ⟨s, 0, none⟩ (.int .i32 0)))) := by
    intro z p l cz hp hpb
    have sz := (cz.block s (lt_of s1) (fun x => x)).trans s1
    have c9 : Chg (fun k => k = s) z (z.setCell ⟨s, 0, none⟩ (.int .i32 0)) := (Chg.refl (fun k => k = s) z).setCell (p := ⟨s, 0, none⟩) (fun _ => rfl) _
    have z1 := C1.size
    have ls1 := lt_of s1
    refine ⟨cell_of sz 0, free_of sz 0, hp.chgF c9 (fun bk off e => by have := hpb bk off e; omega), fun bk off e => by have := hpb bk off e; omega, ⟨set_of sz 0 _, ?_, S.len⟩, ?_, ?_⟩
    · exact other_of ((cz.block sb (Nat.lt_of_lt_of_le (lt_of S.row) z1) (fun x => x)).trans ((C1.block sb (lt_of S.row) (Ne.symm ne)).trans S.row)) (Ne.symm ne) _
    · exact (M1.quiet cz).chg c9 (Ne.symm a1) (Ne.symm a2) (Ne.symm a3) (fun k b hk => (a7 k b hk).1)
    · exact (C1.trans cz (H := fun k => k = s) (fun _ _ x => x) (fun _ _ x => x.elim)).trans c9 (fun _ _ x => x) (fun _ _ x => x)
  have HLK := keepH (lock_free muLib ⟨s, 0, none⟩ W (cell_of S.st 0) (free_of S.st 0))
  have HMC := keepH (m_content M1 hn)
  have c2 : w1.cell? ⟨s, 2, none⟩ = some (.pointer (some ⟨m, 0, none⟩)) := cell_of s1 2
  have HW1 := keepH hw1
  clear S M s1 C1 M1 hw1 ls
  go_enter_defers Try.func8, Try.ntmps8
  go_upto_region 5 with (go_at_call 19; refine HLK.out.mono ?_; rintro e w' ⟨rfl, hw'⟩; rw [← HW1.out] at hw'; subst hw')
  go_wp2_with fail
  refine HMC.out.mono ?_
  rintro e z ⟨⟨p, c, l, rfl, hL, hP, hPB, hPL⟩, cz⟩
  obtain ⟨l0, lz, HZ⟩ := HE.out z p l cz hP hPB
  have HUL := keepH (unlock_deferred muLib ⟨s, 0, none⟩ .returning z l0 lz)
  have HL : Hid (Lists f 0 18446744073709551615 l ∧ l.length ≤ n) := ⟨hL, hPL⟩
  clear hL hP hPB hPL cz c2 l0 lz
  go_wp2_with fail
  refine leaves_cons (f := 20) (args := #[.pointer (some ⟨s, 0, none⟩)]) (by simp) (by simp [go_sem]) ?_
  refine HUL.out.mono ?_
  rintro e u' w'' ⟨rfl, rfl, rfl⟩
  exact ⟨_, results_tmp rfl _ _ _, ⟨p, c, l, rfl, HL.out.1, HZ.out.1, HZ.out.2.1, HL.out.2⟩, HZ.out.2.2.1, HZ.out.2.2.2.1, HZ.out.2.2.2.2⟩
end Go.Proofs.Ytgaincicbgojjaa
/- What must be whatever is asked (layer 25). -/
namespace Go.Proofs.Ytgaincicbgojjaa
open Go.RowKit Go.Maps
set_option linter.unusedVariables false

def oPut : OpP := ⟨2, 7, 1, 0, 0, [], 0, 0⟩
def oGet : OpP := ⟨1, 7, 0, 0, 0, [], 0, 0⟩
theorem oPut_ok : oPut.Ok := ⟨by decide, by decide, by decide, by decide, by decide, by decide⟩
theorem oGet_ok : oGet.Ok := ⟨by decide, by decide, by decide, by decide, by decide, by decide⟩
structure Live (W0 W : World) (s sb m nw hd dn : Nat) (f : Nat → Option Nat) : Prop where
  st : ∃ hc lf sl h g n, SlAt W s sb m 0 hc lf dn sl ∧ MoAt W m nw hd 4 f h g n ∧ SlInv sl hc lf (pcs h g) ∧ n ≤ dn
  fr : Fresh W0.heap.size s sb m nw hd
  ch : Chg (fun _ => False) W0 W
theorem Live.alloc {W0 W : World} {s sb m nw hd dn : Nat} {f : Nat → Option Nat} (h : Live W0 W s sb m nw hd dn f) (x : Obj) : Live W0 (W.alloc x) s sb m nw hd dn f := by
  obtain ⟨⟨hc, lf, sl, h1, g, n, a, b, c, d⟩, e, i⟩ := h
  exact ⟨⟨hc, lf, sl, h1, g, n, a.chg ((Chg.refl (fun _ => False) W).alloc _) (fun x => x) (fun x => x), b.quiet ((Chg.refl (fun _ => False) W).alloc _), c, d⟩, e, i.alloc _⟩
theorem live_put {W0 W : World} {s sb m nw hd dn : Nat} {f : Nat → Option Nat} (H : Live W0 W s sb m nw hd dn f) (hdn : dn ≤ 5) :
    Calls Try.prog 6 #[.pointer (some ⟨s, 0, none⟩), .agg #[.int .u8 2, .int .u64 7, .int .u64 1, .int .u64 0, .int .u64 0, .bool false, .int .i64 0, .int .i64 0, .slice none 0 0, .int .u64 0, .int .u64 0]] W fun e W' => (∃ (b : Bool) (x : Nat) (p : Option Addr) (c : Nat), e = .returned (.tuple #[.agg #[.int .i64 0, .bool b, .int .u64 (x : Int), .bool false, .int .u64 0, .slice p 0 c, .int .u64 0], .int .i64 (dn : Int)])) ∧ ∃ f', Live W0 W' s sb m nw hd (dn + 1) f' ∧ f' 7 = some 1 := by
  obtain ⟨⟨hc, lf, sl, h1, g, n, S, M, I, hn⟩, fr, ch⟩ := H
  refine (k_do (o := oPut) (r5 := false) (r6 := 0) (r7 := 0) (kp := none) (kc := 0) oPut_ok S M I (by omega) (by omega) (.inl rfl) (fun bk off e _ => by cases e) (by omega) (Z := 0) (fun _ _ _ => Nat.zero_le _)).mono ?_
  rintro e W' ⟨A, p, c, rfl, ⟨hc', lf', sl', f', h', g', O⟩, cc⟩
  have hA : A = ⟨0, (f 7).isSome, (f 7).getD 0, false, 0, [], 0⟩ ∧ f' = updO f 7 (some 1) := by
    rcases O.stp with ⟨k5, _⟩ | ⟨th, _, _, hA, hf, _⟩
    · exact absurd k5 (by decide)
    · have e : tellP 4 f (pcs h1 g) oPut th = ⟨0, (f 7).isSome, (f 7).getD 0, false, 0, [], 0⟩ := by simp [tellP, oPut]
      refine ⟨hA.trans e, ?_⟩
      rw [hf, hA.trans e]
      simp [doF, oPut]
  obtain ⟨eA, ef⟩ := hA
  subst eA
  refine ⟨⟨(f 7).isSome, (f 7).getD 0, p, c, rfl⟩, f', ⟨⟨hc', lf', sl', h', g', n + 1, O.sa, O.mo, O.inv, ?_⟩, fr, ch.trans cc (fun _ _ x => x) (fun i hi x => ?_)⟩, by rw [ef, updO_same]⟩
  · omega
  · have := fr.s; have := fr.sb; have := fr.nw; have := fr.hd; omega
theorem live_get {W0 W : World} {s sb m nw hd dn : Nat} {f : Nat → Option Nat} (H : Live W0 W s sb m nw hd dn f) (hf : f 7 = some 1) (hdn : dn ≤ 5) :
    Calls Try.prog 6 #[.pointer (some ⟨s, 0, none⟩), .agg #[.int .u8 1, .int .u64 7, .int .u64 0, .int .u64 0, .int .u64 0, .bool false, .int .i64 0, .int .i64 0, .slice none 0 0, .int .u64 0, .int .u64 0]] W fun e W' => (∃ (p : Option Addr) (c : Nat), e = .returned (.tuple #[.agg #[.int .i64 0, .bool true, .int .u64 1, .bool false, .int .u64 0, .slice p 0 c, .int .u64 0], .int .i64 (dn : Int)])) ∧ ∃ f', Live W0 W' s sb m nw hd (dn + 1) f' := by
  obtain ⟨⟨hc, lf, sl, h1, g, n, S, M, I, hn⟩, fr, ch⟩ := H
  refine (k_do (o := oGet) (r5 := false) (r6 := 0) (r7 := 0) (kp := none) (kc := 0) oGet_ok S M I (by omega) (by omega) (.inl rfl) (fun bk off e _ => by cases e) (by omega) (Z := 0) (fun _ _ _ => Nat.zero_le _)).mono ?_
  rintro e W' ⟨A, p, c, rfl, ⟨hc', lf', sl', f', h', g', O⟩, cc⟩
  have hA : A = ⟨0, true, 1, false, 0, [], 0⟩ := by
    rcases O.stp with ⟨k5, _⟩ | ⟨th, _, _, hA, hf', _⟩
    · exact absurd k5 (by decide)
    · rw [hA]
      simp [tellP, oGet, hf]
  subst hA
  refine ⟨⟨p, c, rfl⟩, f', ⟨⟨hc', lf', sl', h', g', n + 1, O.sa, O.mo, O.inv, ?_⟩, fr, ch.trans cc (fun _ _ x => x) (fun i hi x => ?_)⟩⟩
  · omega
  · have := fr.s; have := fr.sb; have := fr.nw; have := fr.hd; omega
set_option maxRecDepth 100000 in
theorem cfg_25 (W : World) : Calls Try.prog 16 #[] W fun e W' => e = .returned (.agg #[.int .i64 2000, .int .i64 2, .int .u64 100, .int .i64 4]) ∧ Chg (fun _ => False) W W' := by
  have h0 : (W.alloc (.cells #[.int .i64 2000, .int .i64 2, .int .u64 100, .int .i64 4] 40)).heap[W.heap.size]? = some (.cells #[.int .i64 2000, .int .i64 2, .int .u64 100, .int .i64 4] 40 (0, 0)) := heap_alloc_new _ _
  have c0 := cell_of h0 0
  have c1 := cell_of h0 1
  have c2 := cell_of h0 2
  have c3 := cell_of h0 3
  clear h0
  go_enter Try.func16, Try.ntmps16
  go_wp2_with fail
  refine bodyPost_ret (v := .agg #[.int .i64 2000, .int .i64 2, .int .u64 100, .int .i64 4]) (by simp [results, Try.results16, go_sem, c0, c1, c2, c3]) rfl ?_
  exact ⟨rfl, (Chg.refl _ _).alloc _⟩
set_option maxRecDepth 100000 in
set_option maxHeartbeats 1000000 in
theorem live_25 (W : World) : Calls Try.prog 7 #[] W fun e W' => e = .returned (.bool true) ∧ Chg (fun _ => False) W W' := by
  go_enter Try.func7, Try.ntmps7
  go_wp2_with fail
  refine (cfg_25 W).mono ?_
  rintro e w0 ⟨rfl, C0⟩
  have HC0 := keepH C0
  have HN := keepH (k_new 2000 2 100 4 (by decide) (by omega) (by omega) w0)
  clear C0
  go_wp2_with fail
  refine HN.out.mono ?_
  rintro e w1 ⟨s, sb, m, nw, hd, rfl, S, M, fr, C1⟩
  have HL1 : Hid (Live w0 w1 s sb m nw hd 0 (fun _ => none)) := ⟨⟨_, _, _, _, _, 0, S, M, SlInv.start 2 99 (by omega) (by omega), Nat.le_refl _⟩, fr, C1⟩
  clear S M fr C1 HN
  go_wp2_with fail
  refine (live_put HL1.out (by omega)).mono ?_
  rintro e w2 ⟨⟨b, x, p, c, rfl⟩, f2, L2, hf2⟩
  have HL2 := keepH L2
  have HF2 := keepH hf2
  clear L2 hf2 HL1
  go_wp2_with fail
  refine (live_get (HL2.out.alloc _) HF2.out (by omega)).mono ?_
  rintro e w3 ⟨⟨p3, c3, rfl⟩, f3, L3⟩
  have HC3 : Hid (Chg (fun _ => False) W w3) := HC0.out.trans L3.ch (fun _ _ x => x) (fun _ _ x => x)
  clear L3 HL2 HF2 HC0
  go_wp2_with fail
  go_ret
  exact ⟨by simp, HC3.out.alloc _⟩
set_option maxRecDepth 100000 in
set_option maxHeartbeats 1000000 in
theorem do_nil {o : OpP} {r5 : Bool} {r6 r7 : Int} {kp : Option Addr} {kc : Nat} (W : World) : Calls Try.prog 6 #[.pointer none, .agg #[.int .u8 o.kd, .int .u64 (o.k : Int), .int .u64 (o.v : Int), .int .u64 (o.od : Int), .int .u64 (o.hk : Int), .bool r5, .int .i64 r6, .int .i64 r7, .slice kp o.ks.length kc, .int .u64 (o.lo : Int), .int .u64 (o.hi : Int)]] W fun e W' => e = .returned (.tuple #[.agg #[.int .i64 1, .bool false, .int .u64 0, .bool false, .int .u64 0, .slice none 0 0, .int .u64 0], .int .i64 (-1)]) ∧ Chg (fun _ => False) W W' := by
  obtain ⟨w0, hw0⟩ : ∃ w0, w0 = (W.alloc (.cells #[.int .u8 o.kd, .int .u64 (o.k : Int), .int .u64 (o.v : Int), .int .u64 (o.od : Int), .int .u64 (o.hk : Int), .bool r5, .int .i64 r6, .int .i64 r7, .slice kp o.ks.length kc, .int .u64 (o.lo : Int), .int .u64 (o.hi : Int)] 28)).alloc (.cells #[.int .i64 0, .bool false, .int .u64 0, .bool false, .int .u64 0, .slice none 0 0, .int .u64 0] 33) := ⟨_, rfl⟩
  have C0 : Chg (fun _ => False) W w0 := by rw [hw0]; exact ((Chg.refl _ _).alloc _).alloc _
  have o0 : w0.heap[W.heap.size]? = some (.cells #[.int .u8 o.kd, .int .u64 (o.k : Int), .int .u64 (o.v : Int), .int .u64 (o.od : Int), .int .u64 (o.hk : Int), .bool r5, .int .i64 r6, .int .i64 r7, .slice kp o.ks.length kc, .int .u64 (o.lo : Int), .int .u64 (o.hi : Int)] 28 (0, 0)) := by rw [hw0]; exact alloc_of (heap_alloc_new _ _) _
  have a0 : w0.heap[W.heap.size + 1]? = some (.cells #[.int .i64 0, .bool false, .int .u64 0, .bool false, .int .u64 0, .slice none 0 0, .int .u64 0] 33 (0, 0)) := by
    have e := heap_alloc_new (W.alloc (.cells #[.int .u8 o.kd, .int .u64 (o.k : Int), .int .u64 (o.v : Int), .int .u64 (o.od : Int), .int .u64 (o.hk : Int), .bool r5, .int .i64 r6, .int .i64 r7, .slice kp o.ks.length kc, .int .u64 (o.lo : Int), .int .u64 (o.hi : Int)] 28)) (.cells #[.int .i64 0, .bool false, .int .u64 0, .bool false, .int .u64 0, .slice none 0 0, .int .u64 0] 33)
    rw [World.size_alloc] at e
    rw [hw0]
    exact e
  have HSZ : Hid (w0.heap.size = W.heap.size + 2) := by rw [hw0]; show _ = _; simp
  obtain ⟨w9, hw9⟩ : ∃ w9, w9 = (((((((w0.setCell ⟨W.heap.size + 1, 0, none⟩ (.int .i64 1)).setCell ⟨W.heap.size + 1, 1, none⟩ (.bool false)).setCell ⟨W.heap.size + 1, 2, none⟩ (.int .u64 0)).setCell ⟨W.heap.size + 1, 3, none⟩ (.bool false)).setCell ⟨W.heap.size + 1, 4, none⟩ (.int .u64 0)).setCell ⟨W.heap.size + 1, 5, none⟩ (.slice none 0 0)).setCell ⟨W.heap.size + 1, 6, none⟩ (.int .u64 0)) := ⟨_, rfl⟩
  have a9 : w9.heap[W.heap.size + 1]? = some (.cells #[.int .i64 1, .bool false, .int .u64 0, .bool false, .int .u64 0, .slice none 0 0, .int .u64 0] 33 (0, 0)) := by rw [hw9]; exact set_of (set_of (set_of (set_of (set_of (set_of (set_of (a0) 0 _) 1 _) 2 _) 3 _) 4 _) 5 _) 6 _
  have c9 : Chg (fun i => i = W.heap.size + 1) W w9 := by rw [hw9]; exact ((((((((C0.mono (G := fun i => i = W.heap.size + 1) (fun _ _ x => x.elim))).setCell (fun _ => rfl) _).setCell (fun _ => rfl) _).setCell (fun _ => rfl) _).setCell (fun _ => rfl) _).setCell (fun _ => rfl) _).setCell (fun _ => rfl) _).setCell (fun _ => rfl) _
  have HC9 : Hid (Chg (fun _ => False) W w9) := c9.mono (fun i hi e => by omega)
  have g0 := cell_of a0 0
  have f0 := free_of a0 0
  have e0 := cell_of a9 0
  have g1 := cell_of a0 1
  have f1 := free_of a0 1
  have e1 := cell_of a9 1
  have g2 := cell_of a0 2
  have f2 := free_of a0 2
  have e2 := cell_of a9 2
  have g3 := cell_of a0 3
  have f3 := free_of a0 3
  have e3 := cell_of a9 3
  have g4 := cell_of a0 4
  have f4 := free_of a0 4
  have e4 := cell_of a9 4
  have g5 := cell_of a0 5
  have f5 := free_of a0 5
  have e5 := cell_of a9 5
  have g6 := cell_of a0 6
  have f6 := free_of a0 6
  have e6 := cell_of a9 6
  have HW9 := keepH hw9
  clear hw9 a9 c9 o0 a0 C0
  go_enter_defers Try.func6, Try.ntmps6
  go_upto_region 1 with fail
  rw [← hw0]
  clear hw0
  go_wp2_with fail
  rw [← HW9.out]
  refine ⟨.tuple #[.agg #[.int .i64 1, .bool false, .int .u64 0, .bool false, .int .u64 0, .slice none 0 0, .int .u64 0], .int .i64 (-1)], by simp [results, Try.results6, go_sem, e0, e1, e2, e3, e4, e5, e6], ?_⟩
  exact ⟨rfl, HC9.out⟩
set_option maxRecDepth 100000 in
theorem content_nil (W : World) : Calls Try.prog 8 #[.pointer none] W fun e W' => e = .returned (.slice none 0 0) ∧ W' = W := by
  go_enter_defers Try.func8, Try.ntmps8
  go_wp2_with fail
  exact ⟨_, results_tmp rfl _ _ _, rfl, rfl⟩
end Go.Proofs.Ytgaincicbgojjaa
