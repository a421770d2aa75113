/- Threads of calls, run. -/
import Derived.Test.YtadbgmcfjemkeaaHx
import Derived.WalkKit
namespace Go.Proofs.Ytadbgmcfjemkeaa
open Go.RowKit Go.Shelf
set_option linter.unusedVariables false

theorem infoPs : (Try.prog.info? 77).map (fun i => (i.zero, i.size, i.bytes)) = some (some (.slice none 0 0), 1, 24) := by kernel_rfl
theorem infoPrs : (Try.prog.info? 47).map (fun i => (i.zero, i.size, i.bytes)) = some (some (.slice none 0 0), 1, 24) := by kernel_rfl
theorem infoPr : (Try.prog.info? 58).map (fun i => (i.zero, i.size, i.bytes)) = some (some (.agg #[.int .i64 0, .pointer none, .pointer none, .pointer none, .pointer none, .pointer none]), 6, 48) := by kernel_rfl
theorem prOf_one {pv : Value} (h : ∃ T p, pv = .iface T (.pointer (some ⟨p, 0, none⟩))) : ∃ (z : Int) (q1 q2 q3 q4 q5 : Option Addr), prOf pv = [.int .i64 z, .pointer q1, .pointer q2, .pointer q3, .pointer q4, .pointer q5] := by
  obtain ⟨T, p, rfl⟩ := h
  have e : prOf (.iface T (.pointer (some ⟨p, 0, none⟩))) = if T = 52 then [.int .i64 0, .pointer (some ⟨p, 0, none⟩), .pointer none, .pointer none, .pointer none, .pointer none] else if T = 53 then [.int .i64 1, .pointer none, .pointer (some ⟨p, 0, none⟩), .pointer none, .pointer none, .pointer none] else if T = 54 then [.int .i64 2, .pointer none, .pointer none, .pointer (some ⟨p, 0, none⟩), .pointer none, .pointer none] else [.int .i64 3, .pointer none, .pointer none, .pointer none, .pointer (some ⟨p, 0, none⟩), .pointer none] := rfl
  rw [e]
  by_cases h1 : T = 52
  · rw [if_pos h1]
    exact ⟨_, _, _, _, _, _, rfl⟩
  · rw [if_neg h1]
    by_cases h2 : T = 53
    · rw [if_pos h2]
      exact ⟨_, _, _, _, _, _, rfl⟩
    · rw [if_neg h2]
      by_cases h3 : T = 54
      · rw [if_pos h3]
        exact ⟨_, _, _, _, _, _, rfl⟩
      · rw [if_neg h3]
        exact ⟨_, _, _, _, _, _, rfl⟩
theorem placed_len {R L : List ThrV} (h : R.map ThrV.ks = L.map (fun t => t.ks.map CallV.pl)) : R.length = L.length ∧ ∀ t ∈ R, ∃ u ∈ L, t.ks = u.ks.map CallV.pl := by
  refine ⟨by have := congrArg List.length h; simpa using this, fun t ht => ?_⟩
  have : t.ks ∈ R.map ThrV.ks := List.mem_map.2 ⟨t, ht, rfl⟩
  rw [h] at this
  obtain ⟨u, hu, e⟩ := List.mem_map.1 this
  exact ⟨u, hu, e.symm⟩
set_option maxRecDepth 100000 in
set_option maxHeartbeats 8000000 in
theorem v_run (pt pp : Option Addr) (ct cp : Nat) (L : List ThrV) (picks l : List Int) (W W3 : World) (m b next : Nat) (F : Nat → Prop) (cs : List Nat) (tr : List Acc) (ch : Nat → List Nat)
    (hC : Chg (fun _ => False) W W3) (hT : ThsAt W pt L) (hP : IReads W pp l) (hl : ∀ (i : Nat) (x : Int), l[i]? = some x → picks[i]? = some x) (hln : l.length ≤ 1048576) (hm : IsMem W3 m b) (hb : Bank W3 F b 16384 next cs tr) (hll : tr.length ≤ 16000000) (hF : ∀ k, F k → W.heap.size ≤ k) (hmW : W.heap.size ≤ m) (nm : ¬ F m) (hk : ∀ t ∈ L, ∀ k ∈ t.ks, 0 ≤ k.kind ∧ k.kind ≤ 3) (h64 : L.length ≤ 64) (h4k : ∀ t ∈ L, t.ks.length ≤ 4096) (hgi : GI next cs ch) :
    Calls Try.prog 10 #[.pointer (some ⟨m, 0, none⟩), .int .u64 1, .agg #[.slice pt L.length ct, .slice pp l.length cp]] W3 fun e W' => ∃ sv r R cl vb pv c0 Z qv, e = .returned (.tuple #[sv, .pointer (some ⟨r, 0, none⟩)]) ∧ R.map ThrV.ks = L.map (fun t => t.ks.map CallV.pl) ∧ RE W m b R picks l.length next cs ch W' sv r cl vb pv c0 Z qv := by
  obtain ⟨i0, hi, hz0, hz1, hz2⟩ := info_parts infoPs
  obtain ⟨j0, hj, hy0, hy1, hy2⟩ := info_parts infoP
  obtain ⟨u0, hu, hx0, hx1, hx2⟩ := info_parts infoPrs
  obtain ⟨v0, hv, hw0, hw1, hw2⟩ := info_parts infoPr
  have HC := keepH hC
  have HT := keepH hT
  have HP := keepH hP
  have HL := keepH hl
  have HMm := keepH hm
  have HB := keepH hb
  have HF := keepH hF
  have HN := keepH nm
  have HK := keepH hk
  have H4 := keepH h4k
  have HG := keepH hgi
  have Hmw := keepH hmW
  have Htr := keepH hll
  clear hC hT hP hl hm hb hF nm hk h4k hgi hmW hll
  go_enter Try.func10, Try.ntmps10
  obtain ⟨W4, hW4⟩ : ∃ W4, W4 = W3.alloc (.cells #[.slice pt L.length ct, .slice pp l.length cp] 25) := ⟨_, rfl⟩
  have C4 : Hid (Chg (fun _ => False) W3 W4) := by rw [hW4]; exact (Chg.refl _ _).alloc _
  have hb4 : Hid (W4.heap[W3.heap.size]? = some (.cells #[.slice pt L.length ct, .slice pp l.length cp] 25 (0, 0))) := by rw [hW4]; exact heap_alloc_new _ _
  go_wp2_with fail
  rw [← hW4]
  refine (v_placed pt ct L W4 (HT.out.chg (HC.out.trans C4.out (fun _ _ x => x) (fun _ _ x => x))) (by omega)).mono ?_
  rintro e W5 ⟨p', c', R, rfl, PB5, hR⟩
  obtain ⟨hRl, hRm⟩ := placed_len hR
  have HR := keepH hR
  have HRm := keepH hRm
  have hR64 : R.length ≤ 64 := by omega
  have C5 : Hid (Chg (fun _ => False) W W5) := (HC.out.trans C4.out (fun _ _ x => x) (fun _ _ x => x)).trans PB5.chg (fun _ _ x => x) (fun _ _ x => x)
  have C35 : Hid (Chg (fun _ => False) W3 W5) := C4.out.trans PB5.chg (fun _ _ x => x) (fun _ _ x => x)
  have hb5 : Hid (W5.heap[W3.heap.size]? = some (.cells #[.slice pt L.length ct, .slice pp l.length cp] 25 (0, 0))) := (PB5.chg.block _ (lt_of hb4.out) (fun x => x)).trans hb4.out
  have HRo : Hid (∀ t ∈ R, ∀ k ∈ t.ks, k.ok ∧ isO k.obj) := fun t ht k hk => by
    obtain ⟨u, hu, e⟩ := HRm.out t ht
    rw [e] at hk
    obtain ⟨q, hq, rfl⟩ := List.mem_map.1 hk
    have z := HT.out.ok u hu q hq
    exact ⟨⟨by have := q.pl_o; exact Nat.lt_of_le_of_lt this.2 (by omega), z.a, z.b⟩, q.pl_o⟩
  have HRk : Hid (∀ t ∈ R, ∀ k ∈ t.ks, 0 ≤ k.kind ∧ k.kind ≤ 3) := fun t ht k hk => by
    obtain ⟨u, hu, e⟩ := HRm.out t ht
    rw [e] at hk
    obtain ⟨q, hq, rfl⟩ := List.mem_map.1 hk
    exact HK.out u hu q hq
  have HR4 : Hid (∀ t ∈ R, t.ks.length ≤ 4096) := fun t ht => by
    obtain ⟨u, hu, e⟩ := HRm.out t ht
    rw [e, List.length_map]
    exact H4.out u hu
  have HTR : Hid (ThsAt W5 p' R) := PB5.at rfl (fun t ht => by have := HR4.out t ht; omega) (fun t ht k hk => (HRo.out t ht k hk).1)
  have HRl := keepH hRl
  clear PB5 hR hRm hW4 hRl
  go_wp2_with fail
  go_loopw [8, 9, 11] (fun sv tv xv wr => ∃ n : Nat, n ≤ R.length ∧ xv = .int .i64 (n : Int) ∧ Hid (OB W5 wr R n tv sv)) (fun _ _ xv _ => R.length - (intOf xv).toNat)
  case atStart => exact ⟨0, by omega, rfl, OB.start W5 R⟩
  case round =>
    obtain ⟨n, hn, rfl, HO⟩ := hrel
    obtain ⟨⟨vals9, hro9⟩, vals8, hro8⟩ := HO.out.outer
    obtain ⟨p9, c9, hv9⟩ := slice_of hro9
    obtain ⟨p8, c8, hv8⟩ := slice_of hro8
    subst hv9 hv8
    clear hro9 hro8
    by_cases hlt : n < R.length
    · have t1 : (n : Int) < (R.length : Int) := by omega
      obtain ⟨t, ht⟩ : ∃ t, R[n]? = some t := ⟨R[n], List.getElem?_eq_getElem hlt⟩
      have HTt := keepH ht
      have mt := List.mem_of_getElem? ht
      have hlen : t.ks.length ≤ 4096 := HR4.out t mt
      obtain ⟨bk, off, hp, hb, hc0⟩ := HTR.out.row.resolve_left (fun e => by rw [e] at hlt; simp at hlt)
      subst hp
      have HCc : Hid (W5.cell? ⟨bk, off + n, none⟩ = some (.slice t.p t.ks.length t.c)) := hc0 n t ht
      have HKt := keepH (HTR.out.ks t mt)
      have HKk := keepH (HRk.out t mt)
      clear hc0 hb ht mt
      have HI0 := keepH (HO.out.row t)
      have hc : wr.cell? ⟨bk, off + n, none⟩ = some (.slice t.p t.ks.length t.c) := cell_chg HO.out.chg HCc.out (fun x => x)
      clear HO
      go_wp2_with fail
      go_loopw [12, 13, 14] (fun wv lv xv wi => ∃ k : Nat, k ≤ t.ks.length ∧ xv = .int .i64 (k : Int) ∧ Hid (IB W5 wi R n t k (.slice p9 n c9) (.slice p8 n c8) lv wv)) (fun _ _ xv _ => t.ks.length - (intOf xv).toNat)
      case atStart => exact ⟨0, by omega, rfl, HI0⟩
      case round =>
        obtain ⟨k, hk, rfl, HI⟩ := hrel
        have Cn := keepH HI.out.chg
        have hc2 : wr.cell? ⟨bk, off + n, none⟩ = some (.slice t.p t.ks.length t.c) := cell_chg Cn.out HCc.out (fun x => x)
        obtain ⟨⟨xs', hrx⟩, ys', hry⟩ := HI.out.rows
        obtain ⟨p13, c13, hv13⟩ := slice_of hrx
        obtain ⟨p12, c12, hv12⟩ := slice_of hry
        subst hv13 hv12
        clear hrx hry
        by_cases hk2 : k < t.ks.length
        · have t2 : (k : Int) < (t.ks.length : Int) := by omega
          obtain ⟨q, hq⟩ : ∃ q, t.ks[k]? = some q := ⟨t.ks[k], List.getElem?_eq_getElem hk2⟩
          have HCK := keepH hq
          have HQk := keepH (HKk.out q (List.mem_of_getElem? hq))
          obtain ⟨xs, ys, hrow, hrow2, huse⟩ := HI.out.use
          obtain ⟨bk2, off2, hp2, hb2, hcc⟩ := HKt.out.resolve_left (fun e => by rw [e] at hk2; simp at hk2)
          have hcell : ∀ (j : Nat) (u : Value), q.cells[j]? = some u → wr.cell? ⟨bk2, off2 + k * 4 + j, none⟩ = some u := fun j u hj => by rw [Nat.add_assoc]; exact cell_chg Cn.out (hcc k q hq j u hj) (fun x => x)
          have d0 : wr.cell? ⟨bk2, off2 + k * 4, none⟩ = some (.int .i64 q.kind) := hcell 0 _ rfl
          have d1 : wr.cell? ⟨bk2, off2 + k * 4 + 1, none⟩ = some (.int .u64 (q.obj : Int)) := hcell 1 _ rfl
          have d2 : wr.cell? ⟨bk2, off2 + k * 4 + 2, none⟩ = some (.int .u64 (q.a : Int)) := hcell 2 _ rfl
          have d3 : wr.cell? ⟨bk2, off2 + k * 4 + 3, none⟩ = some (.int .u64 (q.b : Int)) := hcell 3 _ rfl
          have HUse := keepH huse
          rw [hp2] at hc2
          clear hrow hrow2 huse hcell hcc hq hp2 hb2
          go_wp2_with fail
          refine (v_begin q HQk.out wr).mono ?_
          rintro e w2 ⟨pw, Dn, rfl, PN⟩
          obtain ⟨a0, a1, a2, a3, a4, a5, ea⟩ := prOf_one PN.ifc
          obtain ⟨Ty, pa, hpw⟩ := PN.ifc
          have HU2 := keepH (fun Y' cY => HUse.out w2 _ _ Dn Y' PN (fun c' hc' => by rw [HCK.out] at hc'; simp at hc'; rw [hc']) cY)
          have HEA := keepH ea
          rw [ea] at HU2 ⊢
          clear PN d0 d1 d2 d3 HUse ea
          have hm : k + 1 ≤ maxLen := by unfold maxLen; omega
          have hby6 : (k + 1) * 48 ≤ 140737488355328 := by omega
          have hby1 : (k + 1) * 16 ≤ 140737488355328 := by omega
          subst hpw
          obtain ⟨row2, nxt2⟩ := HU2.out (w2.alloc (.cells #[.int .i64 a0, .pointer a1, .pointer a2, .pointer a3, .pointer a4, .pointer a5] 58)) ((Chg.refl _ _).alloc _)
          have HR2 := keepH row2
          have HN2 := keepH nxt2
          clear row2 nxt2 HU2 HEA
          go_wp2_with (at_builtin; first
            | (refine wpList_append_own_at _ rfl _ _ 47 rfl 0 58 v0 (.agg #[.int .i64 0, .pointer none, .pointer none, .pointer none, .pointer none, .pointer none]) 6 48 Try.underlying47 hv hw0 hw1 hw2 rfl (by decide) (.slice p12 k c12) k _ rfl (HR2.out.alloc _) ⟨w2.heap.size + 1, 0, none⟩ 1 1 [.int .i64 a0, .pointer a1, .pointer a2, .pointer a3, .pointer a4, .pointer a5] rfl rfl (fun j u hj => cells_new _ _ (by simp) _ _ j u (by simpa using hj)) (by simp [Value.oneCell']) hm hby6 (Nat.zero_le _) ?_; intro v2 w3 r1 r2 r3 r4; obtain ⟨g2, d2, rfl⟩ := slice_pos r1 (Nat.succ_pos _); obtain ⟨row1, nxt1⟩ := HN2.out _ w3 _ r1 r2 (fun b e => r4.elim (fun e2 => .inl (by rw [e2] at e; exact e)) (fun e2 => .inr (by rw [e2] at e; simp at e ⊢; omega))); have HR1 := keepH row1; have HN1 := keepH nxt1; clear r1 r2 r3 r4 row1 nxt1)
            | (refine wpList_append_own_at _ rfl _ _ 77 rfl 0 79 j0 .nilIface 1 16 Try.underlying77 hj hy0 hy1 hy2 rfl (by decide) (.slice p13 k c13) k _ rfl (HR1.out.alloc _) ⟨w3.heap.size, 0, none⟩ 1 1 [.iface Ty (.pointer (some ⟨pa, 0, none⟩))] rfl rfl (fun j u hj => cells_new _ _ (by simp) _ _ j u (by simpa using hj)) (by simp [Value.oneCell']) hm hby1 (Nat.zero_le _) ?_; intro v1 w4 r1 r2 r3 r4; obtain ⟨g1, d1, rfl⟩ := slice_pos r1 (Nat.succ_pos _); have R1 := keepH r1; have R2 := keepH r2; have R4 := keepH r4; clear r1 r2 r3 r4))
          refine ⟨⟨k + 1, by omega, by simp, HN1.out _ _ _ R1.out R2.out (fun b e => ?_)⟩, by simp [intOf]; omega⟩
          rcases R4.out with e2 | e2
          · rw [e2] at e
            exact .inl e
          · rw [e2] at e
            simp at e
            exact .inr (by omega)
        · have t2 : ¬ (k : Int) < (t.ks.length : Int) := by omega
          have ek : k = t.ks.length := by omega
          subst ek
          obtain ⟨vals, ws, rowo, nxt⟩ := HI.out.close HTt.out
          have HRo2 := keepH rowo
          have HNo := keepH nxt
          have hm : n + 1 ≤ maxLen := by unfold maxLen; omega
          have hby : (n + 1) * 24 ≤ 140737488355328 := by omega
          clear rowo nxt HI
          go_wp2_with (at_builtin; first
            | (refine wpList_append_own_at _ rfl _ _ 33 rfl 0 47 u0 (.slice none 0 0) 1 24 Try.underlying33 hu hx0 hx1 hx2 rfl (by decide) (.slice p8 n c8) n _ rfl (HRo2.out.alloc _) ⟨wr.heap.size, 0, none⟩ 1 1 [.slice p12 t.ks.length c12] rfl rfl (fun j u hj => cells_new _ _ (by simp) _ _ j u (by simpa using hj)) (by simp [Value.oneCell']) hm hby (Nat.zero_le _) ?_; intro v2 w3 r1 r2 r3 r4; obtain ⟨g2, d2, rfl⟩ := slice_pos r1 (Nat.succ_pos _); obtain ⟨row1, nxt1⟩ := HNo.out _ w3 _ r1 r2 (fun b e => r4.elim (fun e2 => .inl (by rw [e2] at e; exact e)) (fun e2 => .inr (by rw [e2] at e; simp at e; omega))); have HR1 := keepH row1; have HN1 := keepH nxt1; clear r1 r2 r3 r4 row1 nxt1)
            | (refine wpList_append_own_at _ rfl _ _ 75 rfl 0 77 i0 (.slice none 0 0) 1 24 Try.underlying75 hi hz0 hz1 hz2 rfl (by decide) (.slice p9 n c9) n _ rfl (HR1.out.alloc _) ⟨w3.heap.size, 0, none⟩ 1 1 [.slice p13 t.ks.length c13] rfl rfl (fun j u hj => cells_new _ _ (by simp) _ _ j u (by simpa using hj)) (by simp [Value.oneCell']) hm hby (Nat.zero_le _) ?_; intro v1 w4 r1 r2 r3 r4; obtain ⟨g1, d1, rfl⟩ := slice_pos r1 (Nat.succ_pos _); have R1 := keepH r1; have R2 := keepH r2; have R4 := keepH r4; clear r1 r2 r3 r4))
          refine ⟨⟨n + 1, by omega, by simp, HN1.out _ _ _ R1.out R2.out (fun b e => ?_)⟩, by simp [intOf]; omega⟩
          rcases R4.out with e2 | e2
          · rw [e2] at e
            exact .inl e
          · rw [e2] at e
            simp at e
            exact .inr (by omega)
    · have t1 : ¬ (n : Int) < (R.length : Int) := by omega
      obtain rfl : n = R.length := by omega
      have s35 := C35.out.size
      obtain ⟨tl, hLi, htb, hgo⟩ := HO.out.run picks C5.out (HMm.out.chg C35.out (fun h => h)) (HB.out.chg C35.out (fun _ _ h => h)) Htr.out HF.out Hmw.out HN.out HRo.out hR64 HR4.out HG.out
      have HMn := keepH ((HMm.out.chg C35.out (fun h => h)).chg HO.out.chg (fun h => h))
      have hb6 : Hid (wr.heap[W3.heap.size]? = some (.cells #[.slice pt L.length ct, .slice pp l.length cp] 25 (0, 0))) := (HO.out.chg.block _ (lt_of hb5.out) (fun x => x)).trans hb5.out
      have HLi := keepH hLi
      have HGo := keepH hgo
      have HTB := keepH htb
      clear hLi hgo htb s35
      go_wp2_with fail
      refine (s_new m b _ tl wr HMn.out HLi.out HTB.out).mono ?_
      rintro e W6 ⟨r, G, tv, ths, vbs, rfl, MD, hl⟩
      have hb7 : W6.heap[W3.heap.size]? = some (.cells #[.slice pt L.length ct, .slice pp l.length cp] 25 (0, 0)) := (MD.chg.block _ (lt_of hb6.out) (fun x => x)).trans hb6.out
      obtain ⟨cl, vb, pv, c0, qv, E⟩ := HGo.out W6 G r tv ths vbs MD hl
      have HE := keepH E
      have x1 : W6.cell? ⟨W3.heap.size, 1, none⟩ = some (.slice pp l.length cp) := cell_of hb7 1
      clear MD hl HGo HLi HMn HO E hb7
      go_wp2_with fail
      refine (gr_run (l := l) (k0 := 0) pp cp HE.out.run HP.out (fun i x h => by rw [Nat.zero_add]; exact HL.out i x h) (by omega)).mono ?_
      rintro e W7 ⟨rfl, G7⟩
      rw [Nat.zero_add] at G7
      have HG7 := keepH G7
      clear G7 x1
      go_wp2_with fail
      go_ret2
      exact ⟨.slice p8 R.length c8, r, R, cl, vb, pv, c0, W6, qv, by simp, HR.out, ⟨HG7.out, HE.out.out, HE.out.inn, HE.out.len, HE.out.sg, HE.out.inv, HE.out.cn, HE.out.cc⟩⟩
end Go.Proofs.Ytadbgmcfjemkeaa
