/- Runs of procs of any kind: a pick, and a run over a list of picks. -/
import Derived.Test.YtadbgmcfjemkeaaGb
import Derived.Test.YtadbgmcfjemkeaaRows
import Derived.WalkKit
import Derived.ProofKit
import Derived.OpenShut
namespace Go.Proofs.Ytadbgmcfjemkeaa
open Go.RowKit Go.Shelf Go.ChangeShapes Go.WideShapes Go.ChangeAt
set_option linter.unusedVariables false

theorem Cfg.run_more {P : Type} (κ : Kind P) (most T : Nat) (cl : Nat → Nat) (c : Cfg P) (picks : List Int) (k : Nat) (th : Int) (h : picks[k]? = some th) : c.run κ most T cl (picks.take (k + 1)) = (c.run κ most T cl (picks.take k)).pick κ most T cl th := by
  unfold Cfg.run
  rw [List.take_add_one, h]
  simp [List.foldl_append]
/-- Procs run, so many picks are done. -/
structure GRunAt {P : Type} (κ : Kind P) (most m b T : Nat) (cl : Nat → Nat) (vb : Nat → Nat) (pv : Nat → Nat → Value) (c0 : Cfg P) (W Z X : World) (S G K : Nat → Prop) (r : Nat) (picks : List Int) (k : Nat) (vw : List Value) (tv ev av : Value) (ths : List Thr) (evs : List Ev) (ats : List Int) : Prop where
  run : RunAt X G r m vw tv ev av ths k evs ats
  ma : MA κ most m b T cl vb pv k (c0.run κ most T cl (picks.take k)) X K
  apart : ∀ j, G j → ¬ K j
  len : ths.length = T
  thr : ∀ (j : Nat) (t : Thr), ths[j]? = some t → t.calls.length = cl j ∧ (∀ q, q < cl j → t.calls[q]? = some (pv j q)) ∧ t.next = (c0.run κ most T cl (picks.take k)).ix j
  vws : ∀ j, j < T → vw[j]? = some (.pointer (some ⟨vb j, 0, none⟩))
  evl : evs.length ≤ 2 * k
  inW : ∀ j, G j ∨ K j → W.heap.size ≤ j
  chg : Chg (fun _ => False) W X
  keep : ∀ j, S j → j < X.heap.size ∧ X.heap[j]? = Z.heap[j]? ∧ ¬ G j ∧ ¬ K j
def GRun {P : Type} (κ : Kind P) (most m b T : Nat) (cl : Nat → Nat) (vb : Nat → Nat) (pv : Nat → Nat → Value) (c0 : Cfg P) (W Z X : World) (S : Nat → Prop) (r : Nat) (picks : List Int) (k : Nat) : Prop := ∃ G K vw tv ev av ths evs ats, GRunAt κ most m b T cl vb pv c0 W Z X S G K r picks k vw tv ev av ths evs ats
section
variable {P : Type} {κ : Kind P} {most m b T : Nat} {cl : Nat → Nat} {vb : Nat → Nat} {pv : Nat → Nat → Value} {c0 : Cfg P} {W Z X : World} {S : Nat → Prop} {r : Nat} {picks : List Int} {k : Nat}
theorem MA.goes {n : Nat} {c : Cfg P} {Y : World} {G K : Nat → Prop} (h : MA κ most m b T cl vb pv n c X K) (hg : Goes X Y G G) (ha : ∀ j, G j → ¬ K j) : MA κ most m b T cl vb pv n c Y K :=
  h.keep hg.chg.size (fun j hj => hg.chg.block j (h.ltK j hj) (fun e => ha j e hj))
theorem GRun.lt (h : GRun κ most m b T cl vb pv c0 W Z X S r picks k) : Chg (fun _ => False) W X := by
  obtain ⟨G, K, vw, tv, ev, av, ths, evs, ats, h⟩ := h
  exact h.chg
theorem MA.tlen {n : Nat} {c : Cfg P} {K : Nat → Prop} (h : MA κ most m b T cl vb pv n c X K) : c.t.length ≤ n + 16000000 := by
  obtain ⟨F, D, md, tg, h⟩ := h
  exact h.tn

set_option maxRecDepth 100000 in
theorem gr_pick (h : GRun κ most m b T cl vb pv c0 W Z X S r picks k) (th : Int) (hth : picks[k]? = some th) (hk : k ≤ 1048576) :
    Calls Try.prog 33 #[.pointer (some ⟨r, 0, none⟩), .int .i64 th] X fun e X' => ∃ v, e = .returned (.bool v) ∧ GRun κ most m b T cl vb pv c0 W Z X' S r picks (k + 1) := by
  obtain ⟨G, K, vw, tv, ev, av, ths, evs, ats, h⟩ := h
  have hl := h.len
  have hrm := Cfg.run_more κ most T cl c0 picks k th hth
  obtain ⟨c, hc⟩ : ∃ c, c = c0.run κ most T cl (picks.take k) := ⟨_, rfl⟩
  have hma := h.ma
  have hthr := h.thr
  rw [← hc] at hma hthr hrm
  have htl := hma.tlen
  have idle : c.pick κ most T cl th = c → ∀ X', RunAt X' G r m vw tv ev av ths (k + 1) evs ats → Goes X X' G G → GRun κ most m b T cl vb pv c0 W Z X' S r picks (k + 1) := fun e X' R' GG =>
    ⟨G, K, vw, tv, ev, av, ths, evs, ats, R', by rw [hrm, e]; exact (hma.goes GG h.apart).more (Nat.le_succ k), h.apart, hl, by rw [hrm, e]; exact hthr, h.vws, by have := h.evl; omega, h.inW, h.chg.trans GG.chg (fun _ _ x => x) (fun j hj e => by have := h.inW j (.inl e); omega), fun j hj => ⟨Nat.lt_of_lt_of_le (h.keep j hj).1 GG.chg.size, (GG.chg.block j (h.keep j hj).1 (h.keep j hj).2.2.1).trans (h.keep j hj).2.1, (h.keep j hj).2.2⟩⟩
  by_cases hin : 0 ≤ th ∧ th < (T : Int)
  · obtain ⟨i, rfl⟩ : ∃ i : Nat, th = (i : Int) := ⟨th.toNat, by omega⟩
    have hi : i < T := by omega
    have hlt : i < ths.length := by omega
    obtain ⟨x, hx⟩ : ∃ x, ths[i]? = some x := ⟨ths[i], List.getElem?_eq_getElem hlt⟩
    obtain ⟨hxl, hxc, hxn⟩ := hthr i x hx
    obtain ⟨g, cc, htv⟩ := slice_pos h.run.tr (by omega)
    have hr := h.run
    rw [htv] at hr
    by_cases hn0 : c.ix i < cl i
    · have hn : x.next < x.calls.length := by omega
      have hp : x.calls[x.next]? = some (pv i (c.ix i)) := by rw [hxn]; exact hxc _ hn0
      have hgo : c.pick κ most T cl (i : Int) = c.go κ most i := by
        unfold Cfg.pick
        rw [if_pos ⟨by omega, by omega, by simpa using hn0⟩]
        simp
      rw [hgo] at hrm
      have few : (c.go κ most i).t.length ≤ c.t.length + 1 := by
        have fw : (c.out κ most i).acc.length ≤ 1 := κ.few (i : Int) most c.next c.cs (c.σ i (c.ix i))
        show (c.t ++ (c.out κ most i).acc).length ≤ _
        rw [List.length_append]
        omega
      refine (r_pick_in (vb := vb i) (fun X K => MA κ most m b T cl vb pv k c X K) (fun d X K => d = (c.out κ most i).done ∧ MA κ most m b T cl vb pv (k + 1) (c.go κ most i) X K) c.t.length (fun _ => (c.go κ most i).t.length) i x (pv i (c.ix i)) X hr hx hn hp (h.vws i hi) hma h.apart (fun X Y K h hs hk => h.keep hs hk) (fun X K h => h.ltK) (fun X K h => h.memK)
        (fun d X Y K h hs hk => ⟨h.1, h.2.keep hs hk⟩) (fun d X K h => h.2.ltK) (fun d Y K hh => hh.2.memK)
        (fun X K hI => (hI.step i hi hn0 (by omega)).mono (fun e Y z => by obtain ⟨rfl, K', M, GG⟩ := z; exact ⟨_, K', rfl, ⟨rfl, M⟩, GG⟩)) (by omega) (by have := h.evl; omega) (by omega) (fun _ => by omega)).mono ?_
      rintro e X' ⟨d, G', K', ev', av', rfl, R', ⟨rfl, M'⟩, A', GG⟩
      refine ⟨true, rfl, G', K', vw, _, ev', av', _, _, _, R', by rw [hrm]; exact M', A', by simp [hl], fun j t ht => ?_, h.vws, ?_, fun j e => (GG.new j e).elim (h.inW j) (fun e => Nat.le_trans h.chg.size e), h.chg.trans GG.chg (fun _ _ x => x) (fun j hj e => by have := h.inW j e; omega), fun j hj => ⟨Nat.lt_of_lt_of_le (h.keep j hj).1 GG.chg.size, (GG.chg.block j (h.keep j hj).1 (fun e => e.elim (h.keep j hj).2.2.1 (h.keep j hj).2.2.2)).trans (h.keep j hj).2.1, fun e => (GG.new j (.inl e)).elim (fun e => e.elim (h.keep j hj).2.2.1 (h.keep j hj).2.2.2) (fun e => by have := (h.keep j hj).1; omega), fun e => (GG.new j (.inr e)).elim (fun e => e.elim (h.keep j hj).2.2.1 (h.keep j hj).2.2.2) (fun e => by have := (h.keep j hj).1; omega)⟩⟩
      · rw [hrm]
        show _ ∧ _ ∧ t.next = updN c.ix i (if (c.out κ most i).done then c.ix i + 1 else c.ix i) j
        by_cases hji : j = i
        · subst hji
          simp [hlt] at ht
          subst ht
          rw [updN_same]
          refine ⟨hxl, hxc, ?_⟩
          simp only [pickThr, hxn]
          split <;> simp_all
        · rw [List.getElem?_set_ne (by omega)] at ht
          rw [updN_other _ _ _ _ hji]
          exact hthr j t ht
      · have := h.evl
        simp only [pickEvs]
        split <;> split <;> simp <;> omega
    · have hid : c.pick κ most T cl (i : Int) = c := by
        unfold Cfg.pick
        rw [if_neg (fun e => hn0 (by simpa using e.2.2))]
      refine (r_pick_done i x X hr hx (by omega) (by omega)).mono ?_
      rintro e X' ⟨rfl, R', GG⟩
      rw [← htv] at R'
      exact ⟨false, rfl, idle hid X' R' GG⟩
  · have hid : c.pick κ most T cl th = c := by
      unfold Cfg.pick
      rw [if_neg (fun e => hin ⟨e.1, e.2.1⟩)]
    refine (r_pick_out th X h.run (by omega) (by omega)).mono ?_
    rintro e X' ⟨rfl, R', GG⟩
    exact ⟨false, rfl, idle hid X' R' GG⟩
end

def IReads (W : World) (p : Option Addr) (xs : List Int) : Prop :=
  xs = [] ∨ ∃ bk off, p = some ⟨bk, off, none⟩ ∧ bk < W.heap.size ∧ ∀ i x, xs[i]? = some x → W.cell? ⟨bk, off + i, none⟩ = some (.int .i64 x)
theorem IReads.get {W : World} {p : Option Addr} {xs : List Int} (h : IReads W p xs) (i : Nat) (x : Int) (hx : xs[i]? = some x) : ∃ bk off, p = some ⟨bk, off, none⟩ ∧ bk < W.heap.size ∧ W.cell? ⟨bk, off + i, none⟩ = some (.int .i64 x) := by
  rcases h with rfl | ⟨bk, off, rfl, hb, h⟩
  · simp at hx
  · exact ⟨bk, off, rfl, hb, h i x hx⟩
theorem IReads.chg {W X : World} {p : Option Addr} {xs : List Int} (h : IReads W p xs) (hc : Chg (fun _ => False) W X) : IReads X p xs := by
  rcases h with rfl | ⟨bk, off, rfl, hb, h⟩
  · exact .inl rfl
  · exact .inr ⟨bk, off, rfl, Nat.lt_of_lt_of_le hb hc.size, fun i x hx => cell_chg hc (h i x hx) (fun h => h)⟩
theorem i_bulk_one {H : Type} (d : DataW H) : 1 ≤ Rows.uptoBulk d := by
  cases d with
  | lit l => cases l <;> simp [Rows.uptoBulk]
  | nil => simp [Rows.uptoBulk]
  | ptr d => simp [Rows.uptoBulk]
  | slice elems spare => simp [Rows.uptoBulk]
  | agg parts => simp [Rows.uptoBulk]
  | iface t d => simp [Rows.uptoBulk]
  | map entries => simp [Rows.uptoBulk]
  | held h => simp [Rows.uptoBulk]
theorem i_bulk_length {H : Type} (l : List (DataW H)) : l.length ≤ Rows.uptoBulkAll l := by
  induction l with
  | nil => simp [Rows.uptoBulkAll]
  | cons x r ih => have := i_bulk_one x; simp only [Rows.uptoBulkAll, List.length_cons]; omega
theorem coInt : Try.prog.cellsOf 3 = 1 := by kernel_rfl

set_option maxRecDepth 100000 in
theorem ints_open {H : Type} {enc : TypeId × Value → H} {W : World} {sp : Nat → Bool} {held : Bool} {p : Option Addr} {n c : Nat} {d : DataW H} {ps : List MemPlace} (h : DataW.Trod enc Try.prog W 0 sp held 23 (.slice p n c) d ps) :
    ∃ xs : List Int, xs.length = n ∧ IReads W p xs ∧ n ≤ Rows.uptoBulk d ∧ ∀ x ∈ xs, (Lit.int .i64 x).wf = true := by
  obtain ⟨fuel, hf⟩ := h
  rcases open_ints Try.underlying23 Try.underlying3 coInt hf with ⟨hcs, _⟩ | ⟨a, len, cap, zs, hcs, _, hl, hm, hme, hx, hi, hw⟩
  · simp [Value.cells] at hcs
    obtain ⟨rfl, rfl, rfl⟩ := hcs
    exact ⟨[], rfl, .inl rfl, Nat.zero_le _, fun x hx => by simp at hx⟩
  · simp [Value.cells] at hcs
    obtain ⟨rfl, rfl, rfl⟩ := hcs
    have hmn : n ≤ zs.length := by rw [hme]; split <;> omega
    have hb : n ≤ Rows.uptoBulk d := by
      simp only [Prod.mk.injEq] at hx
      rw [hx.1]
      have := i_bulk_length (H := H) (lits .i64 (zs.take n))
      simp only [Rows.uptoBulk]
      have e : (lits (H := H) .i64 (zs.take n)).length = n := by simp [lits]; omega
      omega
    refine ⟨zs.take n, by simp; omega, ?_, hb, fun x hx => hw x (List.mem_of_mem_take hx)⟩
    rcases Nat.eq_zero_or_pos n with h0 | h0
    · exact .inl (by rw [h0]; rfl)
    · obtain ⟨bk, off, spot⟩ := a
      have c0 := hi 0 (by omega)
      have hspot : spot = none := by simpa [Addr.add] using World.cell?_spot c0
      subst hspot
      have hbk : bk < W.heap.size := by
        by_cases cb : bk < W.heap.size
        · exact cb
        · simp [World.cell?, Addr.add, Array.getElem?_eq_none (show W.heap.size ≤ bk by omega)] at c0
      refine .inr ⟨bk, off, rfl, hbk, fun i x hx => ?_⟩
      have hin : i < n := by
        have := (List.getElem?_eq_some_iff.1 hx).1
        simp at this
        omega
      rw [List.getElem?_take, if_pos hin] at hx
      have e := hi i (by omega)
      rw [List.getD_eq_getElem?_getD, hx] at e
      have e3 : (⟨bk, off, none⟩ : Addr).add i = ⟨bk, off + i, none⟩ := by
        unfold Addr.add
        split <;> simp
      rw [← e3]
      simpa using e

set_option maxRecDepth 100000 in
set_option maxHeartbeats 2000000 in
theorem gr_run {P : Type} {κ : Kind P} {most m b T : Nat} {cl : Nat → Nat} {vb : Nat → Nat} {pv : Nat → Nat → Value} {c0 : Cfg P} {W Z X : World} {S : Nat → Prop} {r : Nat} {picks l : List Int} {k0 : Nat} (p : Option Addr) (c : Nat) (h : GRun κ most m b T cl vb pv c0 W Z X S r picks k0) (hp : IReads W p l) (hl : ∀ i x, l[i]? = some x → picks[k0 + i]? = some x) (hn : k0 + l.length ≤ 1048576) :
    Calls Try.prog 13 #[.pointer (some ⟨r, 0, none⟩), .slice p l.length c] X fun e X' => e = .returned (.tuple #[]) ∧ GRun κ most m b T cl vb pv c0 W Z X' S r picks (k0 + l.length) := by
  have H := keepH h
  have HP := keepH hp
  have HL := keepH hl
  clear h hp hl
  go_enter Try.func13, Try.ntmps13
  go_wp2_with fail
  go_loopw [8] (fun s wr => ∃ k : Nat, k ≤ l.length ∧ s = .int .i64 (k : Int) ∧ Hid (GRun κ most m b T cl vb pv c0 W Z wr S r picks (k0 + k))) (fun s _ => l.length - (intOf s).toNat)
  case atStart => exact ⟨0, by omega, rfl, H⟩
  case round =>
    obtain ⟨k, hk, rfl, HK⟩ := hrel
    by_cases hlt : k < l.length
    · have t1 : (k : Int) < (l.length : Int) := by omega
      obtain ⟨x, hx⟩ : ∃ x, l[k]? = some x := ⟨l[k], List.getElem?_eq_getElem hlt⟩
      obtain ⟨bk, off, rfl, _, cx⟩ := (HP.out.chg HK.out.lt).get k x hx
      have HX := keepH (HL.out k x hx)
      obtain ⟨k1, hk1⟩ : ∃ k1, k1 = k + 1 := ⟨_, rfl⟩
      have wk : IntKind.i64.wrap ((k : Int) + 1) = (k1 : Int) := by rw [IntKind.wrap_i64]; omega
      clear hx
      go_wp2_with fail
      refine (gr_pick HK.out x HX.out (by omega)).mono ?_
      rintro e w' ⟨v, rfl, A'⟩
      have HA := keepH A'
      clear A'
      go_wp2_with fail
      refine ⟨⟨k + 1, by omega, by simp, HA⟩, by simp [intOf]; omega⟩
    · have t1 : ¬ (k : Int) < (l.length : Int) := by omega
      go_wp2_with fail
      go_end0
      obtain rfl : k = l.length := by omega
      exact ⟨rfl, HK.out⟩
end Go.Proofs.Ytadbgmcfjemkeaa
