/- DumpLeads, walked. -/
import Derived.Test.YtnhfpnhmdfgckaaEn
import Derived.Test.YtnhfpnhmdfgckaaNk
import Derived.Test.YtnhfpnhmdfgckaaNmc
namespace Go.Proofs.Ytnhfpnhmdfgckaa
open Go.RowKit Go.Joins Go.Maps
set_option linter.unusedVariables false

def OpS.toP (o : OpS) : OpP := ⟨(o.kd : Int), o.k, o.v, 0, 0, [], 0, 0⟩
/-- An operation done on a model of one key at a time. -/
theorem do_one {o : OpS} (hk : o.kd = 2 ∨ o.kd = 3) (h1 : o.k < 18446744073709551616) (h2 : o.v < 18446744073709551616) {W : World} {m nw hd : Nat} {f h : Nat → Option Nat} {g : Nat → Nat → Option Nat} {n : Nat} (H : MoAt W m nw hd 1 f h g n) (hn : n ≤ 8796093022000) :
    Calls Try.prog 33 #[.pointer (some ⟨m, 0, none⟩), .agg o.cells.toArray, .int .u64 0] W fun e W' => (∃ v, e = .returned v) ∧ (∃ h' g', MoAt W' m nw hd 1 (appO f o) h' g' (n + 1)) ∧ Chg (fun i => i = nw ∨ i = hd) W W' := by
  have q := Do_all (o := o.toP) ⟨h1, h2, by show (0 : Nat) < _; omega, by show (0 : Nat) < _; omega, by show (0 : Nat) < _; omega, by show (0 : Nat) < _; omega⟩ (r5 := false) (r6 := 0) (r7 := 0) (kp := none) (kc := 0) (th := 0) (by omega) H (by omega) hn (.inl rfl) rfl
  refine (q : Calls Try.prog 33 #[.pointer (some ⟨m, 0, none⟩), .agg o.cells.toArray, .int .u64 0] W _).mono ?_
  rintro e W' ⟨⟨p, c, rfl, _⟩, ⟨cl, hcl, hm⟩, hc⟩
  have e : doF o.toP (tellP 1 f (pcs h g) o.toP 0) f = appO f o := by
    obtain ⟨kd, k, v⟩ := o
    rcases hk with rfl | rfl
    · simp [doF, OpS.toP, tellP, appO]
    · simp [doF, OpS.toP, tellP, appO]
  rw [e] at hm
  exact ⟨⟨_, rfl⟩, ⟨_, _, hm⟩, hc⟩
theorem same_pairs {W : World} {pa pb : Option Addr} {ca cb : Nat} {l : List (Nat × Nat)} (hA : PairsAt W pa l) (hB : PairsAt W pb l) (hl : l.length ≤ 17592186044416) :
    Calls Try.prog 17 #[.slice pa l.length ca, .slice pb l.length cb] W fun e W' => e = .returned (.bool true) ∧ Chg (fun _ => False) W W' := by
  have q := r_pairs pa pb ca cb l l W hA hB hl hl
  rw [show decide (l = l) = true from decide_eq_true rfl] at q
  exact q
theorem hM_quiet {W W' : World} {m nw hd mu : Nat} {f h : Nat → Option Nat} {g : Nat → Nat → Option Nat} {n : Nat} (H : MoAt W m nw hd mu f h g n) (c : Chg (fun _ => False) W W') : MoAt W' m nw hd mu f h g n := H.quiet c
theorem syncL_kind {a b : List (Nat × Nat)} (ha : small64 a) (hb : small64 b) : ∀ o ∈ syncL a b, (o.kd = 2 ∨ o.kd = 3) ∧ o.k < 18446744073709551616 ∧ o.v < 18446744073709551616 := by
  intro o ho
  obtain ⟨c, hc, rfl⟩ := List.mem_map.1 ho
  obtain ⟨h1, _, h3⟩ := diff_small ha hb c hc
  unfold opOf
  split
  · exact ⟨.inl rfl, h1, h3⟩
  · exact ⟨.inr rfl, h1, by show (0 : Nat) < _; omega⟩
set_option maxRecDepth 100000 in
set_option maxHeartbeats 4000000 in
theorem leads_main {W : World} {pa pb : Option Addr} {la lb : List (Nat × Nat)} (HA : PairsAt W pa la) (HB : PairsAt W pb lb) {ca cb : Nat} (hca : la.length ≤ ca ∧ ca ≤ 1000000000000) (hcb : lb.length ≤ cb ∧ cb ≤ 1000000000000) (hla : la.length ≤ 1048576) (hlb : lb.length ≤ 1048576) (ra : riseB la = true) (rb : riseB lb = true) :
    Calls Try.prog 7 #[.slice pa la.length ca, .slice pb lb.length cb] W fun e W' => e = .returned (.bool true) ∧ Below W.heap.size W W' := by
  have H1 := keepH (load_yes HA hca (by omega) ra)
  have H2 := keepH (fun W1 (h : Below W.heap.size W W1) => sync_yes (HA.chgF (below_chgE h) (fun _ _ _ x => x)) (HB.chgF (below_chgE h) (fun _ _ _ x => x)) hca hcb (by omega) (by omega) ra rb)
  have HJ1 := just_first ra
  have HL1 := keepH (HJ1.lists ra HA.small)
  have HL2 := keepH ((just_then HJ1 ra rb).lists rb HB.small)
  have HK1 := keepH (syncL_kind (a := []) (fun x hx => by simp at hx) HA.small)
  have HK2 := keepH (syncL_kind HA.small HB.small)
  have hn1 : (syncL [] la).length ≤ 100000000 := by
    have := mrg_len (fun y : Nat × Nat => y.1) _ [] la (Nat.le_refl _)
    have q := diffX_len (mrg (fun y : Nat × Nat => y.1) [] la)
    show ((diffX _).map opOf).length ≤ _
    simp at this ⊢
    omega
  have hn2 : (syncL la lb).length ≤ 100000000 := by
    have := mrg_len (fun y : Nat × Nat => y.1) _ la lb (Nat.le_refl _)
    have q := diffX_len (mrg (fun y : Nat × Nat => y.1) la lb)
    show ((diffX _).map opOf).length ≤ _
    simp at this ⊢
    omega
  have HAA := keepH HA
  have HBB0 := keepH HB
  obtain ⟨o1, ho1⟩ : ∃ o, o = syncL [] la := ⟨_, rfl⟩
  obtain ⟨o2, ho2⟩ : ∃ o, o = syncL la lb := ⟨_, rfl⟩
  rw [← ho1] at H1 HL1 HL2 HK1 hn1
  rw [← ho2] at H2 HL2 HK2 hn2
  clear HA HB ra rb HJ1 ho1 ho2
  go_enter Try.func7, Try.ntmps7
  go_wp2_with (first | (go_at_call 24; refine H1.out.mono ?_; clear H1; rintro e W1 ⟨⟨v1, rfl, r1⟩, hB1⟩; obtain ⟨p1, c1, rfl, hat1, _⟩ := row_op r1; have HR1 : Hid (OpSAt W1 p1 o1 ∧ Below W.heap.size W W1) := keepH ⟨hat1, hB1⟩; clear r1 hat1 hB1) | (go_at_call 22; refine (H2.out _ HR1.out.2).mono ?_; clear H2; rintro e W2 ⟨⟨v2, rfl, r2⟩, hB2⟩; obtain ⟨p2, c2, rfl, hat2, _⟩ := row_op r2; have HP1 := keepH (HR1.out.1.chg (below_chgE hB2) (fun _ _ _ x => x)); have HP2 := keepH hat2; have HB2 := keepH (below_trans HR1.out.2 hB2); clear r2 hat2 hB2 HR1) | (go_at_call 32; refine (new_g 1 (by omega) (by omega) W2).mono ?_; rintro e W3 ⟨rfl, hM3, hC3⟩; have HM3 := keepH hM3; have HB3 : Hid (Below W2.heap.size W2 W3) := keepH (chg_belowE (hC3.mono (fun _ _ x => x.elim))); clear hM3 hC3))
  go_loopw [12] (fun q wr => ∃ i : Nat, i ≤ o1.length ∧ q = .int .i64 (i : Int) ∧ Hid ((∃ h g, MoAt wr (W2.heap.size + 2) W2.heap.size (W2.heap.size + 1) 1 (appF (fun _ => none) (o1.take i)) h g (0 + i)) ∧ Below W2.heap.size W2 wr)) (fun q _ => o1.length - (intOf q).toNat)
  case atStart => exact ⟨0, Nat.zero_le _, rfl, keepH ⟨⟨_, _, HM3.out⟩, HB3.out⟩⟩
  case round =>
    obtain ⟨i, hil, rfl, HX⟩ := hrel
    by_cases hlt : i < o1.length
    · have q1 : (i : Int) < (o1.length : Int) := by omega
      obtain ⟨⟨kd, k, v⟩, hc⟩ : ∃ c, o1[i]? = some c := ⟨o1[i], List.getElem?_eq_getElem hlt⟩
      obtain ⟨hk1, hk2, hk3⟩ := HK1.out _ (List.mem_of_getElem? hc)
      obtain ⟨⟨hh, gg, hM⟩, hB⟩ := HX.out
      obtain ⟨bk, off, rfl, hbk, hcs⟩ := (HP1.out.chg (below_chgE hB) (fun _ _ _ x => x)).resolve_left (by intro e; rw [e] at hc; simp at hc)
      have hcell := hcs i _ hc
      have c0 := hcell 0 _ rfl
      have c1 := hcell 1 _ rfl
      have c2 := hcell 2 _ rfl
      have c3 := hcell 3 _ rfl
      have c4 := hcell 4 _ rfl
      have c5 := hcell 5 _ rfl
      have c6 := hcell 6 _ rfl
      have c7 := hcell 7 _ rfl
      have c8 := hcell 8 _ rfl
      have c9 := hcell 9 _ rfl
      have c10 := hcell 10 _ rfl
      have HD := do_one (o := ⟨kd, k, v⟩) hk1 hk2 hk3 hM (by omega)
      simp only [OpS.cells, List.toArray] at HD
      simp only [Nat.add_zero] at c0
      replace HD := keepH HD
      have HE := keepH (appF_take (fun _ => none) o1 i _ hc)
      have HBB := keepH hB
      clear hc hcs hcell hk1 hk2 hk3 hM hB HX
      go_wp2_with (first | (go_at_call 33; refine HD.out.mono ?_; clear HD; rintro e W8 ⟨⟨v8, rfl⟩, ⟨h8, g8, hM8⟩, hC8⟩; have HM8 := keepH hM8; have HC8 := keepH hC8; clear hM8 hC8))
      go_roundw
      case rel => exact ⟨i + 1, by omega, by first | rfl | go_num, keepH ⟨⟨h8, g8, by rw [HE.out]; exact HM8.out⟩, chg_belowE ((below_chgE HBB.out).trans HC8.out (H := fun j => W2.heap.size ≤ j) (fun _ _ x => x.elim) (fun j _ e => by rcases e with e | e <;> omega))⟩⟩
      case measure => simp [intOf]; omega
    · have q1 : ¬ (i : Int) < (o1.length : Int) := by omega
      obtain rfl : i = o1.length := by omega
      rw [List.take_length] at HX
      obtain ⟨⟨hh, gg, hM⟩, hB⟩ := HX.out
      have HCo := keepH (m_content hM (by omega))
      have HM := keepH hM
      have HBm := keepH hB
      clear hM hB HX
      go_wp2_with (first | (go_at_call 34; refine HCo.out.mono ?_; clear HCo; rintro e W4 ⟨⟨p4, c4, l4, rfl, hl4, hat4, _, hn4⟩, hC4⟩; obtain rfl := hl4.unique HL1.out; have HM4 := keepH (hM_quiet HM.out hC4); have HB4 := keepH (below_trans HBm.out (chg_belowE (hC4.mono (fun _ _ x => x.elim)))); have HSP := keepH (same_pairs (ca := c4) (cb := ca) hat4 (HAA.out.chgF (below_chgE (below_trans HB2.out HB4.out)) (fun _ _ _ x => x)) (by omega)); clear hl4 hat4 hC4) | (go_at_call 17; refine HSP.out.mono ?_; clear HSP; rintro e W5 ⟨rfl, hC5⟩; have HM5 := keepH (hM_quiet HM4.out hC5); have HB5 := keepH (below_trans HB4.out (chg_belowE (hC5.mono (fun _ _ x => x.elim)))); clear hC5))
      go_loopw [13] (fun q wr => ∃ i : Nat, i ≤ o2.length ∧ q = .int .i64 (i : Int) ∧ Hid ((∃ h g, MoAt wr (W2.heap.size + 2) W2.heap.size (W2.heap.size + 1) 1 (appF (appF (fun _ => none) o1) (o2.take i)) h g (0 + o1.length + i)) ∧ Below W2.heap.size W2 wr)) (fun q _ => o2.length - (intOf q).toNat)
      case atStart => exact ⟨0, Nat.zero_le _, rfl, keepH ⟨⟨_, _, HM5.out⟩, HB5.out⟩⟩
      case round =>
        obtain ⟨i, hil, rfl, HX⟩ := hrel
        by_cases hlt : i < o2.length
        · have q1 : (i : Int) < (o2.length : Int) := by omega
          obtain ⟨⟨kd, k, v⟩, hc⟩ : ∃ c, o2[i]? = some c := ⟨o2[i], List.getElem?_eq_getElem hlt⟩
          obtain ⟨hk1, hk2, hk3⟩ := HK2.out _ (List.mem_of_getElem? hc)
          obtain ⟨⟨hh, gg, hM⟩, hB⟩ := HX.out
          obtain ⟨bk, off, rfl, hbk, hcs⟩ := (HP2.out.chg (below_chgE hB) (fun _ _ _ x => x)).resolve_left (by intro e; rw [e] at hc; simp at hc)
          have hcell := hcs i _ hc
          have c0 := hcell 0 _ rfl
          have c1 := hcell 1 _ rfl
          have c2 := hcell 2 _ rfl
          have c3 := hcell 3 _ rfl
          have c4 := hcell 4 _ rfl
          have c5 := hcell 5 _ rfl
          have c6 := hcell 6 _ rfl
          have c7 := hcell 7 _ rfl
          have c8 := hcell 8 _ rfl
          have c9 := hcell 9 _ rfl
          have c10 := hcell 10 _ rfl
          have HD := do_one (o := ⟨kd, k, v⟩) hk1 hk2 hk3 hM (by omega)
          simp only [OpS.cells, List.toArray] at HD
          simp only [Nat.add_zero] at c0
          replace HD := keepH HD
          have HE := keepH (appF_take (appF (fun _ => none) o1) o2 i _ hc)
          have HBB := keepH hB
          clear hc hcs hcell hk1 hk2 hk3 hM hB HX
          go_wp2_with (first | (go_at_call 33; refine HD.out.mono ?_; clear HD; rintro e W8 ⟨⟨v8, rfl⟩, ⟨h8, g8, hM8⟩, hC8⟩; have HM8 := keepH hM8; have HC8 := keepH hC8; clear hM8 hC8))
          go_roundw
          case rel => exact ⟨i + 1, by omega, by first | rfl | go_num, keepH ⟨⟨h8, g8, by rw [HE.out]; exact HM8.out⟩, chg_belowE ((below_chgE HBB.out).trans HC8.out (H := fun j => W2.heap.size ≤ j) (fun _ _ x => x.elim) (fun j _ e => by rcases e with e | e <;> omega))⟩⟩
          case measure => simp [intOf]; omega
        · have q1 : ¬ (i : Int) < (o2.length : Int) := by omega
          obtain rfl : i = o2.length := by omega
          rw [List.take_length] at HX
          obtain ⟨⟨hh2, gg2, hM⟩, hB⟩ := HX.out
          have HM := keepH hM
          have HBm := keepH hB
          have HCo := keepH (fun W7 (c : Chg (fun _ => False) _ W7) => m_content (hM_quiet hM c) (by omega))
          clear hM hB HX
          go_wp2_with (first | (go_at_call 15; refine (live_27 _).mono ?_; rintro e W7 ⟨rfl, hB7⟩; have HB7 := keepH hB7; clear hB7) | (go_at_call 34; refine (HCo.out _ (below_chgE HB7.out)).mono ?_; clear HCo; rintro e W9 ⟨⟨p9, c9, l9, rfl, hl9, hat9, _, hn9⟩, hC9⟩; obtain rfl := hl9.unique HL2.out; have HB9 := keepH (below_trans (below_trans HBm.out HB7.out) (chg_belowE (hC9.mono (fun _ _ x => x.elim)))); have HSP := keepH (same_pairs (ca := c9) (cb := cb) hat9 (HBB0.out.chgF (below_chgE (below_trans HB2.out HB9.out)) (fun _ _ _ x => x)) (by omega)); clear hl9 hat9 hC9) | (go_at_call 17; refine HSP.out.mono ?_; clear HSP; rintro e W10 ⟨rfl, hC10⟩; have HB10 := keepH (below_trans HB9.out (chg_belowE (hC10.mono (fun _ _ x => x.elim)))); clear hC10))
          go_ret
          exact ⟨rfl, below_trans HB2.out HB10.out⟩
set_option maxRecDepth 100000 in
set_option maxHeartbeats 4000000 in
theorem leads_err {W : World} {pa pb : Option Addr} {la lb : List (Nat × Nat)} (HA : PairsAt W pa la) (HB : PairsAt W pb lb) {ca cb : Nat} (hca : la.length ≤ ca ∧ ca ≤ 1000000000000) (hla : la.length ≤ 1048576) (hlb : lb.length ≤ 1048576) (hr : ¬ (riseB la = true ∧ riseB lb = true)) :
    Calls Try.prog 7 #[.slice pa la.length ca, .slice pb lb.length cb] W fun e W' => e = .returned (.bool true) ∧ Below W.heap.size W W' := by
  have H2 := keepH (fun W1 (h : Below W.heap.size W W1) => sync_no (HA.chgF (below_chgE h) (fun _ _ _ x => x)) (HB.chgF (below_chgE h) (fun _ _ _ x => x)) ca cb (by omega) (by omega) hr)
  have H3 := keepH (fun W1 (h : Below W.heap.size W W1) => e_diff_no (HA.chgF (below_chgE h) (fun _ _ _ x => x)) (HB.chgF (below_chgE h) (fun _ _ _ x => x)) ca cb (by omega) (by omega) hr)
  cases ra : riseB la with
  | false =>
    have H1 := keepH (load_no HA ca (by omega) ra)
    clear HA HB hr ra
    go_enter Try.func7, Try.ntmps7
    go_wp2_with (first | (go_at_call 24; refine H1.out.mono ?_; clear H1; rintro e W1 ⟨rfl, hB1⟩; have HB1 := keepH hB1; clear hB1) | (go_at_call 22; refine (H2.out _ HB1.out).mono ?_; clear H2; rintro e W2 ⟨rfl, hB2⟩; have HB2 := keepH (below_trans HB1.out hB2); clear hB2) | (go_at_call 21; refine (H3.out _ HB2.out).mono ?_; clear H3; rintro e W3 ⟨rfl, hB3⟩; have HB3 := keepH (below_trans HB2.out hB3); clear hB3) | (go_at_call 15; refine (live_27 _).mono ?_; rintro e W9 ⟨rfl, hB9⟩; have HB9 := keepH hB9; clear hB9))
    go_ret
    exact ⟨rfl, below_trans HB3.out HB9.out⟩
  | true =>
    have H1 := keepH (load_yes HA hca (by omega) ra)
    clear HA HB hr ra
    go_enter Try.func7, Try.ntmps7
    go_wp2_with (first | (go_at_call 24; refine H1.out.mono ?_; clear H1; rintro e W1 ⟨⟨v1, rfl, r1⟩, hB1⟩; have HB1 := keepH hB1; clear hB1 r1) | (go_at_call 22; refine (H2.out _ HB1.out).mono ?_; clear H2; rintro e W2 ⟨rfl, hB2⟩; have HB2 := keepH (below_trans HB1.out hB2); clear hB2) | (go_at_call 21; refine (H3.out _ HB2.out).mono ?_; clear H3; rintro e W3 ⟨rfl, hB3⟩; have HB3 := keepH (below_trans HB2.out hB3); clear hB3) | (go_at_call 15; refine (live_27 _).mono ?_; rintro e W9 ⟨rfl, hB9⟩; have HB9 := keepH hB9; clear hB9))
    go_ret
    exact ⟨rfl, below_trans HB3.out HB9.out⟩
theorem leads_walk {W : World} {pa pb : Option Addr} {la lb : List (Nat × Nat)} (HA : PairsAt W pa la) (HB : PairsAt W pb lb) {ca cb : Nat} (hca : la.length ≤ ca ∧ ca ≤ 1000000000000) (hcb : lb.length ≤ cb ∧ cb ≤ 1000000000000) (hla : la.length ≤ 1048576) (hlb : lb.length ≤ 1048576) :
    Calls Try.prog 7 #[.slice pa la.length ca, .slice pb lb.length cb] W fun e W' => e = .returned (.bool true) ∧ Below W.heap.size W W' := by
  by_cases hr : riseB la = true ∧ riseB lb = true
  · exact leads_main HA HB hca hcb hla hlb hr.1 hr.2
  · exact leads_err HA HB hca hla hlb hr
end Go.Proofs.Ytnhfpnhmdfgckaa
