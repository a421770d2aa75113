/- Changes as the document's; the document's held against each other. -/
import Derived.Test.YtbmfjcdafjknaaaEm
import Derived.Deep.RegionHeld
namespace Go.Proofs.Ytbmfjcdafjknaaa
open Go.RowKit Go.Joins Go.ChangeShapes Go.WideShapes
set_option linter.unusedVariables false

theorem infoChr : (Try.prog.info? 89).map (fun i => (i.zero, i.size, i.bytes)) = some (some (.agg #[.int .u64 0, .bool false, .bool false, .int .u64 0, .int .u64 0]), 5, 32) := by kernel_rfl
set_option maxRecDepth 100000 in
theorem chr_key (c : Ch) (h : c.small) (w : World) : ∃ l, keyOf Try.prog 89 c.val = some l := by
  obtain ⟨k, had, has, old, new⟩ := c
  obtain ⟨h1, h2, h3⟩ := h
  have w1 := wf_u64 h1
  have w2 := wf_u64 h2
  have w3 := wf_u64 h3
  dsimp only at w1 w2 w3
  have ts := trod_struct_mk (H := Unit) (enc := fun _ => ()) (P := Try.prog) (w := w) (base := 0) (spare := fun _ => true) (held := true) (n := 1) (cs := [.int .u64 (k : Int), .bool had, .bool has, .int .u64 (old : Int), .int .u64 (new : Int)])
    (xs := [(.lit (.int .u64 (k : Int)), []), (.lit (.bool had), []), (.lit (.bool has), []), (.lit (.int .u64 (old : Int)), []), (.lit (.int .u64 (new : Int)), [])]) Try.underlying89 (by kernel_rfl)
    (by simp [DataW.trod, Try.underlying57, Try.underlying4, w1, w2, w3, coU, coB])
  have t : DataW.Trod (fun _ => ()) Try.prog w 0 (fun _ => true) true 89 (Ch.val ⟨k, had, has, old, new⟩) _ _ := ⟨_, ts⟩
  exact ⟨_, (keyOf_asKey (by kernel_rfl) (by kernel_rfl) (by kernel_rfl) t).1⟩
set_option maxRecDepth 100000 in
theorem chr_neq (c : Ch) (h : c.small) (w : World) : (binOp .neq 89 c.val c.val).run Try.prog w = .ok (.bool false) w := by
  obtain ⟨l, hl⟩ := chr_key c h w
  obtain ⟨r, hr, hi⟩ := run_equal_deep (P := Try.prog) w (m := 4) (by omega) (by kernel_rfl) (by kernel_rfl) hl hl
  have e : r = true := hi.2 rfl
  subst e
  simp only [Ch.val] at hr ⊢
  simp [binOp, go_sem, hr]
set_option maxRecDepth 100000 in
set_option maxHeartbeats 4000000 in
theorem same_chr {W : World} {pa pb : Option Addr} {l : List Ch} (HA : ChAt W pa l) (HB : ChAt W pb l) (hs : ∀ c ∈ l, c.small) (ca cb : Nat) (hl : l.length ≤ 1000000000) :
    Calls Try.prog 26 #[.slice pa l.length ca, .slice pb l.length cb] W fun e W' => e = .returned (.bool true) ∧ Below W.heap.size W W' := by
  have HAA := keepH HA
  have HBB := keepH HB
  have HS := keepH hs
  clear HA HB hs
  go_enter Try.func26, Try.ntmps26
  go_wp2_with fail
  go_loopw [5] (fun q wr => ∃ i : Nat, i ≤ l.length ∧ q = .int .i64 (i : Int) ∧ Hid (Below W.heap.size W wr)) (fun q _ => l.length - (intOf q).toNat)
  case atStart => exact ⟨0, Nat.zero_le _, rfl, keepH (Below.refl _ _)⟩
  case round =>
    obtain ⟨i, hil, rfl, HX⟩ := hrel
    by_cases hlt : i < l.length
    · have q1 : (i : Int) < (l.length : Int) := by omega
      obtain ⟨⟨k, had, has, old, new⟩, hc⟩ : ∃ c, l[i]? = some c := ⟨l[i], List.getElem?_eq_getElem hlt⟩
      have hn := fun w => chr_neq ⟨k, had, has, old, new⟩ (HS.out _ (List.mem_of_getElem? hc)) w
      obtain ⟨bk, off, rfl, hbk, hcs⟩ := (HAA.out.below HX.out).resolve_left (by intro e; subst e; simp at hc)
      obtain ⟨bk2, off2, rfl, hbk2, hcs2⟩ := (HBB.out.below HX.out).resolve_left (by intro e; subst e; simp at hc)
      obtain ⟨c0, c1, c2, c3, c4⟩ := hcs i _ hc
      obtain ⟨d0, d1, d2, d3, d4⟩ := hcs2 i _ hc
      simp only [Ch.val] at hn c0 c1 c2 c3 c4 d0 d1 d2 d3 d4
      have HI := keepH (below_drew HX.out)
      clear hc hcs hcs2 HX
      go_wp2_with fail
      go_quiet (fail)
      go_wp2_with fail
      go_roundw
      case rel => exact ⟨i + 1, by omega, by first | rfl | go_num, keepH (HI.out _)⟩
      case measure => simp [intOf]; omega
    · have q1 : ¬ (i : Int) < (l.length : Int) := by omega
      go_wp2_with fail
      go_ret
      exact ⟨rfl, HX.out⟩
theorem row_chg0 {wr Y : World} {B : Nat} {e : TypeId} {s n : Nat} {v : Value} {xs : List Value} (h : wr.ownsRow B e s v n xs) (c : Chg (fun _ => False) wr Y) : Y.ownsRow B e s v n xs :=
  row_kept' h (fun k e => c.block k (h.lt k e).2 (fun x => x))
theorem step_append_baseE {P : Program} {ops : Array Oper} {o : Oper} {a : Act} {w : World} {K : Act → World → Prop} {Q : Exit → Act → World → Prop} {E : Prop}
    (hgd : o.guard = none) (s x : Operand) (t : TypeId) (ho : o.op = Op.call { callee := Callee.builtin Builtin.append, args := #[s, x], argTypes := #[t, t] })
    (B : Nat) (e : TypeId) (i : TypeInfo) (z : Value) (size bytes : Nat) (ht : P.underlying t = some (.slice e)) (hi : P.info? e = some i) (hz : i.zero = some z)
    (hsize : i.size = size) (hby : i.bytes = bytes) (hzs : z.cells.size = size) (hsz : 0 < size)
    (v : Value) (n : Nat) (xs : List Value) (hs : a.eval s = v) (hown : w.ownsRow B e size v n xs)
    (ad : Addr) (m c : Nat) (news : List Value) (hx : a.eval x = .slice (some ad) m c) (hl : news.length = m * size) (hnews : ∀ j u, news[j]? = some u → w.cell? (ad.add j) = some u) (h1 : ∀ u ∈ news, u.oneCell' = true)
    (h63 : n + m ≤ maxLen) (hbytes : (n + m) * bytes ≤ 140737488355328) (hB : B ≤ w.heap.size)
    (h : ∀ v' w', w'.ownsRow B e size v' (n + m) (xs ++ news) → w.grownBy w' v.ownBlock → (v'.ownBlock = v.ownBlock ∨ v'.ownBlock = some w.heap.size) → K (a.put o.dst v') w') :
    if Region.wanted o (yielded ops a.tmps) = true then Oper.wp P o a w K Q else E := by
  have hw : Region.wanted o (yielded ops a.tmps) = true := by simp [Region.wanted, hgd]
  rw [if_pos hw]
  obtain ⟨v', w', hr, h2, h3, h4, h5⟩ := run_append_own_at (P := P) w B t o.type e i z size bytes ht hi hz hsize hby hzs hsz v n xs hown ad m c news hl hnews h1 h63 hbytes hB
  unfold Oper.wp execOp
  simp only [ho, resolve, invoke, builtin, Sem.run_bind, Sem.run_pure, Result.andThen_ok, List.map_toArray, List.map_cons, List.map_nil, hs, hx, hr]
  exact h v' w' h2 h3 h5
theorem five_chg {wr Y : World} {b o : Nat} {u0 u1 u2 u3 u4 : Value} (h : wr.cell? ⟨b, o, none⟩ = some u0 ∧ wr.cell? ⟨b, o + 1, none⟩ = some u1 ∧ wr.cell? ⟨b, o + 2, none⟩ = some u2 ∧ wr.cell? ⟨b, o + 3, none⟩ = some u3 ∧ wr.cell? ⟨b, o + 4, none⟩ = some u4) (c : Chg (fun _ => False) wr Y) :
    Y.cell? ⟨b, o, none⟩ = some u0 ∧ Y.cell? ⟨b, o + 1, none⟩ = some u1 ∧ Y.cell? ⟨b, o + 2, none⟩ = some u2 ∧ Y.cell? ⟨b, o + 3, none⟩ = some u3 ∧ Y.cell? ⟨b, o + 4, none⟩ = some u4 :=
  ⟨cell_chg c h.1 (fun x => x), cell_chg c h.2.1 (fun x => x), cell_chg c h.2.2.1 (fun x => x), cell_chg c h.2.2.2.1 (fun x => x), cell_chg c h.2.2.2.2 (fun x => x)⟩
theorem turn_end {W wr Y w3 : World} {e : TypeId} {s n : Nat} {v : Value} {xs : List Value} (hb : Below W.heap.size W wr) (h : wr.ownsRow W.heap.size e s v n xs) (c : Chg (fun _ => False) wr Y) (g : Y.grownBy w3 v.ownBlock) : Below W.heap.size W w3 :=
  chg_belowE (((below_chgE hb).trans c (H := fun _ => False) (fun _ _ x => x) (fun _ _ x => x)).trans (grown_chgE (F := fun j => W.heap.size ≤ j) g (fun j e => (h.lt j e).1)) (fun _ _ x => x.elim) (fun _ _ x => x))
theorem five_chg2 {W wr Y w3 : World} {b o : Nat} {u0 u1 u2 u3 u4 : Value} {e : TypeId} {s n : Nat} {v : Value} {xs : List Value} (h : wr.cell? ⟨b, o, none⟩ = some u0 ∧ wr.cell? ⟨b, o + 1, none⟩ = some u1 ∧ wr.cell? ⟨b, o + 2, none⟩ = some u2 ∧ wr.cell? ⟨b, o + 3, none⟩ = some u3 ∧ wr.cell? ⟨b, o + 4, none⟩ = some u4) (hr : wr.ownsRow W.heap.size e s v n xs ∧ Below W.heap.size W wr) (c : Chg (fun _ => False) wr Y) (g : Y.grownBy w3 v.ownBlock) (hbW : b < W.heap.size) :
    w3.cell? ⟨b, o, none⟩ = some u0 ∧ w3.cell? ⟨b, o + 1, none⟩ = some u1 ∧ w3.cell? ⟨b, o + 2, none⟩ = some u2 ∧ w3.cell? ⟨b, o + 3, none⟩ = some u3 ∧ w3.cell? ⟨b, o + 4, none⟩ = some u4 := by
  have cc : Chg (fun j => W.heap.size ≤ j) wr w3 := c.trans (grown_chgE (F := fun j => W.heap.size ≤ j) g (fun j e => (hr.1.lt j e).1)) (fun _ _ x => x.elim) (fun _ _ x => x)
  have hn : ¬ W.heap.size ≤ b := by omega
  exact ⟨cell_chg cc h.1 hn, cell_chg cc h.2.1 hn, cell_chg cc h.2.2.1 hn, cell_chg cc h.2.2.2.1 hn, cell_chg cc h.2.2.2.2 hn⟩
theorem row_up {W : World} {B C : Nat} {e : TypeId} {s n : Nat} {v : Value} {xs : List Value} (h : W.ownsRow B e s v n xs) (hC : ∀ k, v.ownBlock = some k → C ≤ k) : W.ownsRow C e s v n xs := by
  refine ⟨h.1, ?_⟩
  rcases h.2 with h2 | ⟨g, cap, cur, hv, hg, r⟩
  · exact .inl h2
  · exact .inr ⟨g, cap, cur, hv, hC g (by subst hv; rfl), r⟩
set_option maxRecDepth 100000 in
set_option maxHeartbeats 4000000 in
theorem turn_any {W : World} {p : Option Addr} {l : List Ch} (HA : ChAt W p l) (c : Nat) (hl : l.length ≤ 100000000) :
    Calls Try.prog 27 #[.slice p l.length c] W fun e W' => (∃ v, e = .returned v ∧ W'.ownsRow W.heap.size 89 5 v l.length (chRow l)) ∧ Below W.heap.size W W' := by
  obtain ⟨i0, hi, hz0, hz1, hz2⟩ := info_parts infoChr
  have HAA := keepH HA
  clear HA
  go_enter Try.func27, Try.ntmps27
  go_wp2_with fail
  go_loopw [3, 4] (fun s q wr => ∃ i : Nat, i ≤ l.length ∧ q = .int .i64 (i : Int) ∧ Hid (wr.ownsRow W.heap.size 89 5 s (l.take i).length (chRow (l.take i)) ∧ Below W.heap.size W wr)) (fun _ q _ => l.length - (intOf q).toNat)
  case atStart => exact ⟨0, Nat.zero_le _, rfl, keepH ⟨World.ownsRow_nil _ _ _ _, Below.refl _ _⟩⟩
  case round =>
    obtain ⟨i, hil, rfl, HX⟩ := hrel
    by_cases hlt : i < l.length
    · have q1 : (i : Int) < (l.length : Int) := by omega
      obtain ⟨⟨k, had, has, old, new⟩, hc⟩ : ∃ c, l[i]? = some c := ⟨l[i], List.getElem?_eq_getElem hlt⟩
      obtain ⟨bk, off, rfl, hbk, hcs⟩ := (HAA.out.below HX.out.2).resolve_left (by intro e; subst e; simp at hc)
      obtain ⟨c0, c1, c2, c3, c4⟩ := hcs i _ hc
      simp only at c0 c1 c2 c3 c4
      have hbW : bk < W.heap.size := by
        obtain ⟨bk', off', e, hb, _⟩ := HAA.out.resolve_left (by intro e; subst e; simp at hc)
        injection e with e
        injection e with e
        omega
      have HC5 := keepH (And.intro c0 (And.intro c1 (And.intro c2 (And.intro c3 c4))))
      have HE : Hid (l.take (i + 1) = l.take i ++ [⟨k, had, has, old, new⟩]) := keepH (by rw [List.take_add_one, hc]; rfl)
      have HLN : Hid ((l.take i).length < 100000000) := keepH (by simp; omega)
      clear hc hcs c0 c1 c2 c3 c4
      -- WALK
      go_wp2_with fail
      refine wp_region_held_drew (S := (fun w => w.cell? ⟨bk, off + i * 5, none⟩ = some (.int .u64 (k : Int)) ∧ w.cell? ⟨bk, off + i * 5 + 1, none⟩ = some (.bool had) ∧ w.cell? ⟨bk, off + i * 5 + 2, none⟩ = some (.bool has) ∧ w.cell? ⟨bk, off + i * 5 + 3, none⟩ = some (.int .u64 (old : Int)) ∧ w.cell? ⟨bk, off + i * 5 + 4, none⟩ = some (.int .u64 (new : Int)))) (by kernel_rfl) (HC5.out) ?_
      intro hHeld
      refine wpAnyH_take (i := 0) (v := ?_) rfl (by kernel_rfl) (by kernel_rfl) (by kernel_rfl) (fun _ _ _ h => h) (Or.inl ⟨by rfl, ?_⟩) hHeld ?_
      rotate_left
      · intro w hSw
        obtain ⟨y0, y1, y2, y3, y4⟩ := hSw
        go_simp
        try with_reducible rfl
      (try simp only [Act.put]); (try simp only [List.setIfInBounds_toArray]); (repeat (first | simp only [List.set_cons_succ] | simp only [List.set_cons_zero]))
      refine wpAnyH_take (i := 1) (v := ?_) rfl (by kernel_rfl) (by kernel_rfl) (by kernel_rfl) (fun _ _ _ h => h) (Or.inl ⟨by rfl, ?_⟩) hHeld ?_
      rotate_left
      · intro w hSw
        obtain ⟨y0, y1, y2, y3, y4⟩ := hSw
        go_simp
        try with_reducible rfl
      (try simp only [Act.put]); (try simp only [List.setIfInBounds_toArray]); (repeat (first | simp only [List.set_cons_succ] | simp only [List.set_cons_zero]))
      refine wpAnyH_take (i := 2) (v := ?_) rfl (by kernel_rfl) (by kernel_rfl) (by kernel_rfl) (fun _ _ _ h => h) (Or.inl ⟨by rfl, ?_⟩) hHeld ?_
      rotate_left
      · intro w hSw
        obtain ⟨y0, y1, y2, y3, y4⟩ := hSw
        go_simp
        try with_reducible rfl
      (try simp only [Act.put]); (try simp only [List.setIfInBounds_toArray]); (repeat (first | simp only [List.set_cons_succ] | simp only [List.set_cons_zero]))
      refine wpAnyH_take (i := 3) (v := ?_) rfl (by kernel_rfl) (by kernel_rfl) (by kernel_rfl) (fun _ _ _ h => h) (Or.inl ⟨by rfl, ?_⟩) hHeld ?_
      rotate_left
      · intro w hSw
        obtain ⟨y0, y1, y2, y3, y4⟩ := hSw
        go_simp
        try with_reducible rfl
      (try simp only [Act.put]); (try simp only [List.setIfInBounds_toArray]); (repeat (first | simp only [List.set_cons_succ] | simp only [List.set_cons_zero]))
      refine wpAnyH_take (i := 4) (v := ?_) rfl (by kernel_rfl) (by kernel_rfl) (by kernel_rfl) (fun _ _ _ h => h) (Or.inl ⟨by rfl, ?_⟩) hHeld ?_
      rotate_left
      · intro w hSw
        obtain ⟨y0, y1, y2, y3, y4⟩ := hSw
        go_simp
        try with_reducible rfl
      (try simp only [Act.put]); (try simp only [List.setIfInBounds_toArray]); (repeat (first | simp only [List.set_cons_succ] | simp only [List.set_cons_zero]))
      refine wpAnyH_take (i := 5) (v := ?_) rfl (by kernel_rfl) (by kernel_rfl) (by kernel_rfl) (fun _ _ _ h => h) (Or.inl ⟨by rfl, ?_⟩) hHeld ?_
      rotate_left
      · intro w hSw
        obtain ⟨y0, y1, y2, y3, y4⟩ := hSw
        go_simp
        try with_reducible rfl
      (try simp only [Act.put]); (try simp only [List.setIfInBounds_toArray]); (repeat (first | simp only [List.set_cons_succ] | simp only [List.set_cons_zero]))
      refine wpAnyH_take (i := 6) (v := ?_) rfl (by kernel_rfl) (by kernel_rfl) (by kernel_rfl) (fun _ _ _ h => h) (Or.inl ⟨by rfl, ?_⟩) hHeld ?_
      rotate_left
      · intro w hSw
        obtain ⟨y0, y1, y2, y3, y4⟩ := hSw
        go_simp
        try with_reducible rfl
      (try simp only [Act.put]); (try simp only [List.setIfInBounds_toArray]); (repeat (first | simp only [List.set_cons_succ] | simp only [List.set_cons_zero]))
      refine wpAnyH_take (i := 7) (v := ?_) rfl (by kernel_rfl) (by kernel_rfl) (by kernel_rfl) (fun _ _ _ h => h) (Or.inl ⟨by rfl, ?_⟩) hHeld ?_
      rotate_left
      · intro w hSw
        obtain ⟨y0, y1, y2, y3, y4⟩ := hSw
        go_simp
        try with_reducible rfl
      (try simp only [Act.put]); (try simp only [List.setIfInBounds_toArray]); (repeat (first | simp only [List.set_cons_succ] | simp only [List.set_cons_zero]))
      refine wpAnyH_take (i := 8) (v := ?_) rfl (by kernel_rfl) (by kernel_rfl) (by kernel_rfl) (fun _ _ _ h => h) (Or.inl ⟨by rfl, ?_⟩) hHeld ?_
      rotate_left
      · intro w hSw
        obtain ⟨y0, y1, y2, y3, y4⟩ := hSw
        go_simp
        try with_reducible rfl
      (try simp only [Act.put]); (try simp only [List.setIfInBounds_toArray]); (repeat (first | simp only [List.set_cons_succ] | simp only [List.set_cons_zero]))
      refine wpAnyH_take (i := 9) (v := ?_) rfl (by kernel_rfl) (by kernel_rfl) (by kernel_rfl) (fun _ _ _ h => h) (Or.inl ⟨by rfl, ?_⟩) hHeld ?_
      rotate_left
      · intro w hSw
        obtain ⟨y0, y1, y2, y3, y4⟩ := hSw
        go_simp
        try with_reducible rfl
      (try simp only [Act.put]); (try simp only [List.setIfInBounds_toArray]); (repeat (first | simp only [List.set_cons_succ] | simp only [List.set_cons_zero]))
      refine wpAnyH_take (i := 10) (v := ?_) rfl (by kernel_rfl) (by kernel_rfl) (by kernel_rfl) (fun _ _ _ h => h) (Or.inl ⟨by rfl, ?_⟩) hHeld ?_
      rotate_left
      · intro w hSw
        obtain ⟨y0, y1, y2, y3, y4⟩ := hSw
        go_simp
        try with_reducible rfl
      (try simp only [Act.put]); (try simp only [List.setIfInBounds_toArray]); (repeat (first | simp only [List.set_cons_succ] | simp only [List.set_cons_zero]))
      refine wpAnyH_take (i := 11) (v := ?_) rfl (by kernel_rfl) (by kernel_rfl) (by kernel_rfl) (fun _ _ _ h => h) (Or.inl ⟨by rfl, ?_⟩) hHeld ?_
      rotate_left
      · intro w hSw
        obtain ⟨y0, y1, y2, y3, y4⟩ := hSw
        go_simp
        try with_reducible rfl
      (try simp only [Act.put]); (try simp only [List.setIfInBounds_toArray]); (repeat (first | simp only [List.set_cons_succ] | simp only [List.set_cons_zero]))
      refine wpAnyH_take (i := 12) (v := ?_) rfl (by kernel_rfl) (by kernel_rfl) (by kernel_rfl) (fun _ _ _ h => h) (Or.inl ⟨by rfl, ?_⟩) hHeld ?_
      rotate_left
      · intro w hSw
        obtain ⟨y0, y1, y2, y3, y4⟩ := hSw
        go_simp
        try with_reducible rfl
      (try simp only [Act.put]); (try simp only [List.setIfInBounds_toArray]); (repeat (first | simp only [List.set_cons_succ] | simp only [List.set_cons_zero]))
      refine wpAnyH_take (i := 13) (v := ?_) rfl (by kernel_rfl) (by kernel_rfl) (by kernel_rfl) (fun _ _ _ h => h) (Or.inl ⟨by rfl, ?_⟩) hHeld ?_
      rotate_left
      · intro w hSw
        obtain ⟨y0, y1, y2, y3, y4⟩ := hSw
        go_simp
        try with_reducible rfl
      (try simp only [Act.put]); (try simp only [List.setIfInBounds_toArray]); (repeat (first | simp only [List.set_cons_succ] | simp only [List.set_cons_zero]))
      refine wpAnyH_take (i := 14) (v := ?_) rfl (by kernel_rfl) (by kernel_rfl) (by kernel_rfl) (fun _ _ _ h => h) (Or.inl ⟨by rfl, ?_⟩) hHeld ?_
      rotate_left
      · intro w hSw
        obtain ⟨y0, y1, y2, y3, y4⟩ := hSw
        go_simp
        try with_reducible rfl
      (try simp only [Act.put]); (try simp only [List.setIfInBounds_toArray]); (repeat (first | simp only [List.set_cons_succ] | simp only [List.set_cons_zero]))
      refine wpAnyH_take (i := 15) (v := ?_) rfl (by kernel_rfl) (by kernel_rfl) (by kernel_rfl) (fun _ _ _ h => h) (Or.inl ⟨by rfl, ?_⟩) hHeld ?_
      rotate_left
      · intro w hSw
        obtain ⟨y0, y1, y2, y3, y4⟩ := hSw
        go_simp
        try with_reducible rfl
      (try simp only [Act.put]); (try simp only [List.setIfInBounds_toArray]); (repeat (first | simp only [List.set_cons_succ] | simp only [List.set_cons_zero]))
      refine wpAnyH_take (i := 16) (v := ?_) rfl (by kernel_rfl) (by kernel_rfl) (by kernel_rfl) (fun _ _ _ h => h) (Or.inl ⟨by rfl, ?_⟩) hHeld ?_
      rotate_left
      · intro w hSw
        obtain ⟨y0, y1, y2, y3, y4⟩ := hSw
        go_simp
        try with_reducible rfl
      (try simp only [Act.put]); (try simp only [List.setIfInBounds_toArray]); (repeat (first | simp only [List.set_cons_succ] | simp only [List.set_cons_zero]))
      refine wpAnyH_take (i := 17) (v := ?_) rfl (by kernel_rfl) (by kernel_rfl) (by kernel_rfl) (fun _ _ _ h => h) (Or.inl ⟨by rfl, ?_⟩) hHeld ?_
      rotate_left
      · intro w hSw
        obtain ⟨y0, y1, y2, y3, y4⟩ := hSw
        go_simp
        try with_reducible rfl
      (try simp only [Act.put]); (try simp only [List.setIfInBounds_toArray]); (repeat (first | simp only [List.set_cons_succ] | simp only [List.set_cons_zero]))
      refine wpAnyH_take (i := 18) (v := ?_) rfl (by kernel_rfl) (by kernel_rfl) (by kernel_rfl) (fun _ _ _ h => h) (Or.inl ⟨by rfl, ?_⟩) hHeld ?_
      rotate_left
      · intro w hSw
        obtain ⟨y0, y1, y2, y3, y4⟩ := hSw
        go_simp
        try with_reducible rfl
      (try simp only [Act.put]); (try simp only [List.setIfInBounds_toArray]); (repeat (first | simp only [List.set_cons_succ] | simp only [List.set_cons_zero]))
      refine wpAnyH_take (i := 19) (v := ?_) rfl (by kernel_rfl) (by kernel_rfl) (by kernel_rfl) (fun _ _ _ h => h) (Or.inl ⟨by rfl, ?_⟩) hHeld ?_
      rotate_left
      · intro w hSw
        obtain ⟨y0, y1, y2, y3, y4⟩ := hSw
        go_simp
        try with_reducible rfl
      (try simp only [Act.put]); (try simp only [List.setIfInBounds_toArray]); (repeat (first | simp only [List.set_cons_succ] | simp only [List.set_cons_zero]))
      refine wpAnyH_take (i := 20) (v := ?_) rfl (by kernel_rfl) (by kernel_rfl) (by kernel_rfl) (fun _ _ _ h => h) (Or.inl ⟨by rfl, ?_⟩) hHeld ?_
      rotate_left
      · intro w hSw
        obtain ⟨y0, y1, y2, y3, y4⟩ := hSw
        go_simp
        try with_reducible rfl
      (try simp only [Act.put]); (try simp only [List.setIfInBounds_toArray]); (repeat (first | simp only [List.set_cons_succ] | simp only [List.set_cons_zero]))
      refine wpAnyH_take (i := 21) (v := ?_) rfl (by kernel_rfl) (by kernel_rfl) (by kernel_rfl) (fun _ _ _ h => h) (Or.inl ⟨by rfl, ?_⟩) hHeld ?_
      rotate_left
      · intro w hSw
        obtain ⟨y0, y1, y2, y3, y4⟩ := hSw
        go_simp
        try with_reducible rfl
      (try simp only [Act.put]); (try simp only [List.setIfInBounds_toArray]); (repeat (first | simp only [List.set_cons_succ] | simp only [List.set_cons_zero]))
      refine wpAnyH_take (i := 22) (v := ?_) rfl (by kernel_rfl) (by kernel_rfl) (by kernel_rfl) (fun _ _ _ h => h) (Or.inl ⟨by rfl, ?_⟩) hHeld ?_
      rotate_left
      · intro w hSw
        obtain ⟨y0, y1, y2, y3, y4⟩ := hSw
        go_simp
        try with_reducible rfl
      (try simp only [Act.put]); (try simp only [List.setIfInBounds_toArray]); (repeat (first | simp only [List.set_cons_succ] | simp only [List.set_cons_zero]))
      refine wpAnyH_take (i := 23) (v := ?_) rfl (by kernel_rfl) (by kernel_rfl) (by kernel_rfl) (fun _ _ _ h => h) (Or.inl ⟨by rfl, ?_⟩) hHeld ?_
      rotate_left
      · intro w hSw
        obtain ⟨y0, y1, y2, y3, y4⟩ := hSw
        go_simp
        try with_reducible rfl
      (try simp only [Act.put]); (try simp only [List.setIfInBounds_toArray]); (repeat (first | simp only [List.set_cons_succ] | simp only [List.set_cons_zero]))
      refine wpAnyH_take (i := 24) (v := ?_) rfl (by kernel_rfl) (by kernel_rfl) (by kernel_rfl) (fun _ _ _ h => h) (Or.inl ⟨by rfl, ?_⟩) hHeld ?_
      rotate_left
      · intro w hSw
        obtain ⟨y0, y1, y2, y3, y4⟩ := hSw
        go_simp
        try with_reducible rfl
      (try simp only [Act.put]); (try simp only [List.setIfInBounds_toArray]); (repeat (first | simp only [List.set_cons_succ] | simp only [List.set_cons_zero]))
      refine wpAnyH_take (i := 25) (v := ?_) rfl (by kernel_rfl) (by kernel_rfl) (by kernel_rfl) (fun _ _ _ h => h) (Or.inl ⟨by rfl, ?_⟩) hHeld ?_
      rotate_left
      · intro w hSw
        obtain ⟨y0, y1, y2, y3, y4⟩ := hSw
        go_simp
        try with_reducible rfl
      (try simp only [Act.put]); (try simp only [List.setIfInBounds_toArray]); (repeat (first | simp only [List.set_cons_succ] | simp only [List.set_cons_zero]))
      refine wpAnyH_take (i := 26) (v := ?_) rfl (by kernel_rfl) (by kernel_rfl) (by kernel_rfl) (fun _ _ _ h => h) (Or.inl ⟨by rfl, ?_⟩) hHeld ?_
      rotate_left
      · intro w hSw
        obtain ⟨y0, y1, y2, y3, y4⟩ := hSw
        go_simp
        try with_reducible rfl
      (try simp only [Act.put]); (try simp only [List.setIfInBounds_toArray]); (repeat (first | simp only [List.set_cons_succ] | simp only [List.set_cons_zero]))
      refine wpAnyH_ready (rs := [27]) (by kernel_rfl) (by simp) ?_
      refine AllReadyH.cons rfl (fun KK hKK => ?_) AllReadyH.nil
      go_simp
      refine hKK.out _ _ ?_ (fun hHeld => ?_)
      · exact five_chg HC5.out ((Chg.refl (fun _ => False) wr).drew.alloc _)
      clear hKK KK
      (try simp only [Act.put]); (try simp only [List.setIfInBounds_toArray]); (repeat (first | simp only [List.set_cons_succ] | simp only [List.set_cons_zero]))
      refine wpAnyH_ready (rs := [28]) (by kernel_rfl) (by simp) ?_
      refine AllReadyH.cons rfl (fun KK hKK => ?_) AllReadyH.nil
      refine step_append_baseE rfl (.tmp 11) (.tmp 38) 38 rfl W.heap.size 89 i0 (.agg #[.int .u64 0, .bool false, .bool false, .int .u64 0, .int .u64 0]) 5 32 Try.underlying38 hi hz0 hz1 hz2 rfl (by decide) _ _ _ rfl (row_chg0 HX.out.1 ((Chg.refl (fun _ => False) wr).drew.alloc _)) ⟨wr.heap.size, 0, none⟩ 1 1 [.int .u64 (k : Int), .bool had, .bool has, .int .u64 (old : Int), .int .u64 (new : Int)] rfl rfl (cells_newE _ _ rfl _ _) (by intro u hu; simp at hu; rcases hu with rfl | rfl | rfl | rfl | rfl <;> rfl) (by unfold maxLen; have := HLN.out; omega) (by have := HLN.out; omega) (Nat.le_trans HX.out.2.size (by simp [World.drew])) ?_
      intro v2 w3 r1 r2 r4
      have R1 := keepH r1
      have R2 := keepH (turn_end HX.out.2 HX.out.1 ((Chg.refl (fun _ => False) wr).drew.alloc _) r2)
      refine hKK.out _ _ ?_ (fun hHeld => ?_)
      · exact five_chg2 HC5.out HX.out ((Chg.refl (fun _ => False) wr).drew.alloc _) r2 hbW
      clear hKK KK
      (try simp only [Act.put]); (try simp only [List.setIfInBounds_toArray]); (repeat (first | simp only [List.set_cons_succ] | simp only [List.set_cons_zero]))
      refine wpAnyH_take (i := 29) (v := ?_) rfl (by kernel_rfl) (by kernel_rfl) (by kernel_rfl) (fun _ _ _ h => h) (Or.inl ⟨by rfl, ?_⟩) hHeld ?_
      rotate_left
      · intro w hSw
        obtain ⟨y0, y1, y2, y3, y4⟩ := hSw
        go_simp
        try with_reducible rfl
      (try simp only [Act.put]); (try simp only [List.setIfInBounds_toArray]); (repeat (first | simp only [List.set_cons_succ] | simp only [List.set_cons_zero]))
      refine wpAnyH_done (by kernel_rfl) ?_ _
      go_simp
      go_wp2_with fail
      go_roundw
      case rel =>
        refine ⟨i + 1, by omega, by first | rfl | go_num, keepH ⟨?_, R2.out⟩⟩
        rw [HE.out, chRow_add]
        have := R1.out
        simpa [Ch.cells] using this
      case measure => simp [intOf]; omega
    · have q1 : ¬ (i : Int) < (l.length : Int) := by omega
      obtain rfl : i = l.length := by omega
      rw [List.take_length] at HX
      go_wp2_with fail
      go_ret
      exact ⟨⟨_, rfl, HX.out.1⟩, HX.out.2⟩
end Go.Proofs.Ytbmfjcdafjknaaa
