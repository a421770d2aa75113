/- A run of adders: what stays true over the picks. -/
import Derived.Test.YtmckdefijcnhcacSAdds
namespace Go.Proofs.Ytmckdefijcnhcac
open Go.RowKit Go.Shelf

def addI (p : Nat) : Value := .iface 68 (.pointer (some ⟨p, 0, none⟩))
def adds (l : List Acc) : Nat := (l.filter fun x => x.kind == 4).length
theorem adds_le (l : List Acc) : adds l ≤ l.length := List.length_filter_le _ _
theorem adds_more (l : List Acc) (x : Acc) : adds (l ++ [x]) = adds l + (if x.kind = 4 then 1 else 0) := by
  unfold adds
  rw [List.filter_append, List.length_append]
  by_cases h : x.kind = 4 <;> simp [h]

/-- What is told of the accesses' steps, and of the cells. -/
structure AP (picks : List Int) (k : Nat) (ats : List Int) (s : AS) : Prop where
  l0 : 0 < s.l.length
  lk : s.l.length ≤ k + 1
  al : ats.length ≤ s.l.length
  st : ∀ (j : Nat) (a : Int), 0 < j → (extN ats s.l.length (-1))[j]? = some a → 0 ≤ a ∧ a < k ∧ ∃ x, s.l[j]? = some x ∧ picks[a.toNat]? = some x.th
  up : ∀ (j : Nat) (a a' : Int), 1 < j → (extN ats s.l.length (-1))[j - 1]? = some a → (extN ats s.l.length (-1))[j]? = some a' → a < a'
  c7 : cellN s.cs 1 = 7
  c2 : cellN s.cs 2 = adds s.l
  md : ∀ i, s.md i ≤ k
  vl : ∀ x ∈ s.l, x.vals.length ≤ 2

theorem AP.idle {picks : List Int} {k : Nat} {ats : List Int} {s : AS} (h : AP picks k ats s) : AP picks (k + 1) ats s :=
  { h with lk := by have := h.lk; omega, st := fun j a h0 h1 => by obtain ⟨q1, q2, q3⟩ := h.st j a h0 h1; exact ⟨q1, by omega, q3⟩, md := fun i => by have := h.md i; omega }

theorem ext_more (ats : List Int) (n : Nat) (num : Int) (h : ats.length ≤ n) : extN (extN ats n (-1)) (n + 1) num = extN ats n (-1) ++ [num] := by
  have : (extN ats n (-1)).length = n := by rw [extN_length]; omega
  rw [extN, this]
  simp
theorem ext_same (ats : List Int) (n : Nat) (num : Int) (h : n ≤ ats.length) : extN ats n num = ats := by
  rw [extN, show n - ats.length = 0 by omega]
  simp

theorem AP.more {picks : List Int} {k i : Nat} {ats : List Int} {s s' : AS} {d : Bool} (h : AP picks k ats s) (hn : nxt s i d s') (hp : picks[k]? = some (i : Int)) (hk : k < 1099511627776) : AP picks (k + 1) (extN (extN ats s.l.length (-1)) (s.l.length + 1) (k : Int)) s' ∧ s'.l.length = s.l.length + 1 := by
  have hl : (extN ats s.l.length (-1)).length = s.l.length := by rw [extN_length]; have := h.al; omega
  have h0 := h.l0
  have hlk := h.lk
  obtain ⟨y, hy, hth, hyv⟩ : ∃ y : Acc, s'.l = s.l ++ [y] ∧ y.th = (i : Int) ∧ y.vals = [] := by
    obtain ⟨vs, ⟨_, _, rfl⟩ | ⟨_, _, rfl⟩⟩ := hn
    · exact ⟨_, rfl, rfl, rfl⟩
    · exact ⟨_, rfl, rfl, rfl⟩
  have hl' : s'.l.length = s.l.length + 1 := by rw [hy]; simp
  have hA : extN (extN (extN ats s.l.length (-1)) (s.l.length + 1) (k : Int)) s'.l.length (-1) = extN ats s.l.length (-1) ++ [(k : Int)] := by
    rw [ext_more _ _ _ h.al, hl', ext_same _ _ _ (by simp [hl])]
  refine ⟨⟨by omega, by omega, ?_, ?_, ?_, ?_, ?_, ?_, ?_⟩, hl'⟩
  · rw [ext_more _ _ _ h.al, List.length_append, hl, hl']
    simp
  · intro j a hj ha
    rw [hA, List.getElem?_append] at ha
    split at ha
    · next hlt =>
      obtain ⟨q1, q2, x, q3, q4⟩ := h.st j a hj ha
      exact ⟨q1, by omega, x, by rw [hy, List.getElem?_append_left (by omega)]; exact q3, q4⟩
    · next hge =>
      rw [hl] at ha hge
      rcases Nat.eq_or_lt_of_le (Nat.le_of_not_lt hge) with e | e
      · subst e
        simp at ha
        subst ha
        exact ⟨by omega, by omega, y, by rw [hy]; simp, by simpa [hth] using hp⟩
      · rw [List.getElem?_eq_none (by simp; omega)] at ha
        exact absurd ha (by simp)
  · intro j a a' hj ha ha'
    rw [hA, List.getElem?_append] at ha ha'
    split at ha'
    · next hlt =>
      rw [if_pos (by omega)] at ha
      exact h.up j a a' hj ha ha'
    · next hge =>
      rw [hl] at ha ha' hge
      rcases Nat.eq_or_lt_of_le (Nat.le_of_not_lt hge) with e | e
      · rw [if_pos (by omega)] at ha
        have := (h.st (j - 1) a (by omega) ha).2.1
        rw [e] at ha'
        simp at ha'
        omega
      · rw [List.getElem?_eq_none (by simp; omega)] at ha'
        exact absurd ha' (by simp)
  · obtain ⟨vs, ⟨_, _, rfl⟩ | ⟨_, _, rfl⟩⟩ := hn
    · exact h.c7
    · show cellN (stN 128 s.cs 2 _) 1 = 7
      rw [stN_cell]
      simpa using h.c7
  · have hle := adds_le s.l
    have hc2 := h.c2
    obtain ⟨vs, ⟨_, _, rfl⟩ | ⟨_, _, rfl⟩⟩ := hn
    · show cellN s.cs 2 = adds (s.l ++ [_])
      rw [adds_more]
      simpa using h.c2
    · show cellN (stN 128 s.cs 2 _) 2 = adds (s.l ++ [_])
      rw [adds_more, stN_cell, hc2]
      simp [addN]
      omega
  · intro j
    have := h.md j
    have := h.md i
    obtain ⟨vs, ⟨_, _, rfl⟩ | ⟨_, _, rfl⟩⟩ := hn
    · show upd s.md i _ j ≤ k + 1
      unfold upd
      split <;> omega
    · show upd s.md i _ j ≤ k + 1
      unfold upd
      split <;> omega
  · intro x hx
    rw [hy, List.mem_append] at hx
    rcases hx with hx | hx
    · exact h.vl x hx
    · simp at hx
      subst hx
      rw [hyv]
      simp

/-- Adders run, so many picks are done. -/
structure ARunAt (W X : World) (G K : Nat → Prop) (r m b T : Nat) (vb ps : Nat → Nat) (picks : List Int) (k : Nat) (vw : List Value) (tv ev av : Value) (ths : List Thr) (evs : List Ev) (ats : List Int) (s : AS) : Prop where
  run : RunAt X G r m vw tv ev av ths k evs ats
  aa : AA m b T vb ps s X K
  apart : ∀ j, G j → ¬ K j
  len : ths.length = T
  thr : ∀ (j : Nat) (t : Thr), ths[j]? = some t → t.calls = [addI (ps j)] ∧ t.next ≤ 1 ∧ (t.next = 0 → 0 < s.lf j)
  lf : ∀ j, s.lf j ≤ 1000
  vws : ∀ j, j < T → vw[j]? = some (.pointer (some ⟨vb j, 0, none⟩))
  evl : evs.length ≤ 2 * k
  pure : AP picks k ats s
  inW : ∀ j, G j ∨ K j → W.heap.size ≤ j
  chg : Chg (fun _ => False) W X
def ARun (W X : World) (r m b T : Nat) (vb ps : Nat → Nat) (picks : List Int) (k : Nat) : Prop := ∃ G K vw tv ev av ths evs ats s, ARunAt W X G K r m b T vb ps picks k vw tv ev av ths evs ats s

theorem AA.goes {m b T : Nat} {vb ps : Nat → Nat} {s : AS} {X Y : World} {G K : Nat → Prop} (h : AA m b T vb ps s X K) (hg : Goes X Y G G) (ha : ∀ j, G j → ¬ K j) : AA m b T vb ps s Y K :=
  h.keep hg.chg.size (fun j hj => hg.chg.block j (h.lt j hj) (fun e => ha j e hj))

set_option maxRecDepth 100000 in
theorem ar_pick {W X : World} {r m b T k : Nat} {vb ps : Nat → Nat} {picks : List Int} (h : ARun W X r m b T vb ps picks k) (th : Int) (hth : picks[k]? = some th) (hk : k ≤ 1048576) :
    Calls Try.prog 29 #[.pointer (some ⟨r, 0, none⟩), .int .i64 th] X fun e X' => ∃ v, e = .returned (.bool v) ∧ ARun W X' r m b T vb ps picks (k + 1) := by
  obtain ⟨G, K, vw, tv, ev, av, ths, evs, ats, s, h⟩ := h
  have hl := h.len
  by_cases hin : 0 ≤ th ∧ th < (T : Int)
  · obtain ⟨i, rfl⟩ : ∃ i : Nat, th = (i : Int) := ⟨th.toNat, by omega⟩
    have hi : i < T := by omega
    have hlt : i < ths.length := by omega
    obtain ⟨x, hx⟩ : ∃ x, ths[i]? = some x := ⟨ths[i], List.getElem?_eq_getElem hlt⟩
    obtain ⟨hxc, hx1, hx0⟩ := h.thr i x hx
    obtain ⟨g, c, htv⟩ := slice_pos h.run.tr (by omega)
    have hr := h.run
    rw [htv] at hr
    by_cases hn0 : x.next = 0
    · have hn : x.next < x.calls.length := by rw [hn0, hxc]; simp
      have hp : x.calls[x.next]? = some (addI (ps i)) := by rw [hn0, hxc]; rfl
      have hlk := h.pure.lk
      refine (r_pick_in (vb := vb i) (AA m b T vb ps s) (fun d X K => ∃ s', nxt s i d s' ∧ AA m b T vb ps s' X K) s.l.length (fun _ => s.l.length + 1) i x (addI (ps i)) X hr hx hn hp (h.vws i hi) h.aa h.apart (fun X Y K h hs hk => h.keep hs hk) (fun X K h => h.lt) (fun X K h => h.mem)
        (fun d X Y K h hs hk => by obtain ⟨s', q, h⟩ := h; exact ⟨s', q, h.keep hs hk⟩) (fun d X K h => by obtain ⟨s', q, h⟩ := h; exact h.lt) (fun d Y K hh => by obtain ⟨s', q, hh⟩ := hh; have := hh.mem; rw [(h.pure.more q hth (by omega)).2] at this; exact this)
        (fun X K hI => as_step hi (hx0 hn0) (h.lf i) (by have := h.pure.md i; omega) (by omega) X K hI) (by omega) (by have := h.evl; omega) (by omega) (fun _ => by omega)).mono ?_
      rintro e X' ⟨d, G', K', ev', av', rfl, R', ⟨s', q, M'⟩, A', GG⟩
      obtain ⟨hpu, hll⟩ := h.pure.more q hth (by omega)
      refine ⟨true, rfl, G', K', vw, _, ev', av', _, _, _, s', R', M', A', by simp [hl], fun j t ht => ?_, fun j => ?_, h.vws, ?_, hpu, fun j e => (GG.new j e).elim (h.inW j) (fun e => Nat.le_trans h.chg.size e), h.chg.trans GG.chg (fun _ _ x => x) (fun j hj e => by have := h.inW j e; omega)⟩
      · by_cases hji : j = i
        · subst hji
          simp [hlt] at ht
          subst ht
          have hp0 := hx0 hn0
          obtain ⟨vs, ⟨_, rfl, rfl⟩ | ⟨_, rfl, rfl⟩⟩ := q
          · exact ⟨hxc, by simp [pickThr, hn0], fun _ => hp0⟩
          · refine ⟨hxc, by simp only [pickThr, hn0]; split <;> omega, fun e => ?_⟩
            show 0 < upd s.lf j _ j
            rw [upd_same]
            simp only [pickThr, hn0] at e
            by_cases h1 : s.lf j - 1 = 0
            · simp [h1] at e
            · omega
        · rw [List.getElem?_set_ne (by omega)] at ht
          obtain ⟨q1, q2, q3⟩ := h.thr j t ht
          refine ⟨q1, q2, fun e => ?_⟩
          obtain ⟨vs, ⟨_, _, rfl⟩ | ⟨_, _, rfl⟩⟩ := q
          · exact q3 e
          · show 0 < upd s.lf i _ j
            rw [upd_other _ _ _ _ hji]
            exact q3 e
      · have h1 := h.lf j
        have h2 := h.lf i
        obtain ⟨vs, ⟨_, _, rfl⟩ | ⟨_, _, rfl⟩⟩ := q
        · exact h1
        · show upd s.lf i _ j ≤ 1000
          unfold upd
          split <;> omega
      · have := h.evl
        simp only [pickEvs]
        split <;> split <;> simp <;> omega
    · refine (r_pick_done i x X hr hx (by rw [hxc]; simp; omega) (by omega)).mono ?_
      rintro e X' ⟨rfl, R', GG⟩
      exact ⟨false, rfl, G, K, vw, _, ev, av, ths, evs, ats, s, { h with run := R', aa := h.aa.goes GG h.apart, evl := by have := h.evl; omega, pure := h.pure.idle, chg := h.chg.trans GG.chg (fun _ _ x => x) (fun j hj e => by have := h.inW j (.inl e); omega) }⟩
  · refine (r_pick_out th X h.run (by omega) (by omega)).mono ?_
    rintro e X' ⟨rfl, R', GG⟩
    exact ⟨false, rfl, G, K, vw, _, ev, av, ths, evs, ats, s, { h with run := R', aa := h.aa.goes GG h.apart, evl := by have := h.evl; omega, pure := h.pure.idle, chg := h.chg.trans GG.chg (fun _ _ x => x) (fun j hj e => by have := h.inW j (.inl e); omega) }⟩
end Go.Proofs.Ytmckdefijcnhcac
