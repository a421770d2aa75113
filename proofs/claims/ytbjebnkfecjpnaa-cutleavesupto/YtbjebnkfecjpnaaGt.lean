/- CutLeaves, walked. -/
import Derived.Test.YtbjebnkfecjpnaaGs
import Derived.Test.YtbjebnkfecjpnaaKhG
import Derived.WalkKit
import Derived.BigQuiet
namespace Go.Proofs.Ytbjebnkfecjpnaa
open Go.RowKit Go.Shelf
set_option linter.unusedVariables false

theorem infoPs : (Try.prog.info? 66).map (fun i => (i.zero, i.size, i.bytes)) = some (some (.slice none 0 0), 1, 24) := by kernel_rfl
theorem mem_first {w W1 W3 : World} {F3 : Nat → Prop} (M1 : IsMem W1 (w.heap.size + 1) w.heap.size) (C1 : Chg (fun _ => False) w W1) (S1 : w.heap.size + 2 ≤ W1.heap.size) (ob1 ob2 : Obj)
    (G3 : GoesV ((W1.alloc ob1).alloc ob2) W3 (fun k => k = w.heap.size) F3 W1.heap.size) : IsMem W3 (w.heap.size + 1) w.heap.size ∧ Chg (fun _ => False) w W3 ∧ (∀ k, F3 k → w.heap.size ≤ k) ∧ ¬ F3 (w.heap.size + 1) := by
  have c2 : Chg (fun _ => False) W1 ((W1.alloc ob1).alloc ob2) := ((Chg.refl _ _).alloc _).alloc _
  have z : ((W1.alloc ob1).alloc ob2).heap.size = W1.heap.size + 1 + 1 := by simp
  have c3 := c2.trans G3.chg (H := fun k => k = w.heap.size ∨ k = W1.heap.size) (fun _ _ x => x.elim) (fun _ _ x => x)
  refine ⟨M1.chg c3 (fun e => by omega), C1.trans c3 (fun _ _ x => x) (fun i hi e => by omega), fun k e => ?_, fun e => ?_⟩
  · rcases G3.new k e with e | e <;> omega
  · rcases G3.new _ e with e | e <;> omega

/-- The trace that was told, and the versions that were gathered of it. -/
structure VL (W X : World) (g n c : Nat) (lk : List Acc) (sv : Value) (vs : List Nat) : Prop where
  row : X.ownsRow 0 80 8 (.slice (some ⟨g, 0, none⟩) n c) n (accRow lk)
  own : X.ownsRow 0 22 1 sv vs.length (vs.map u64V)
  new : ∀ k, sv.ownBlock = some k → W.heap.size ≤ k
  chg : Chg (fun _ => False) W X
theorem VL.start {W W' : World} {g c : Nat} {l lk : List Acc} (h : Traced W W' (.slice (some ⟨g, 0, none⟩) l.length c) l lk l.length) : VL W W' g l.length c lk (.slice none 0 0) [] := ⟨h.row, World.ownsRow_nil _ _ _ _, fun k e => by simp [Value.ownBlock] at e, h.chg⟩
theorem VL.quiet {W X Y : World} {g n c : Nat} {lk : List Acc} {sv : Value} {vs : List Nat} (h : VL W X g n c lk sv vs) (k : Chg (fun _ => False) X Y) : VL W Y g n c lk sv vs :=
  ⟨row_kept h.row fun b e => k.block b (row_lt h.row b e) (fun x => x), row_kept h.own fun b e => k.block b (row_lt h.own b e) (fun x => x), h.new, h.chg.trans k (fun _ _ x => x) (fun _ _ x => x)⟩
theorem VL.app {W X Z : World} {g n c : Nat} {lk : List Acc} {sv v' : Value} {vs : List Nat} {x : Nat} {ob : Obj} (h : VL W X g n c lk sv vs) (hr : Z.ownsRow 0 22 1 v' (vs.length + 1) (vs.map u64V ++ [.int .u64 (x : Int)])) (hg : (X.alloc ob).grownBy Z sv.ownBlock) (ho : ∀ b, v'.ownBlock = some b → sv.ownBlock = some b ∨ X.heap.size ≤ b) : VL W Z g n c lk v' (vs ++ [x]) := by
  have k : Chg (fun b => sv.ownBlock = some b) X Z := ((Chg.refl (fun b => sv.ownBlock = some b) X).alloc ob).grown hg (fun b e _ => e)
  have sz := h.chg.size
  refine ⟨row_kept h.row fun b e => k.block b (row_lt h.row b e) (fun z => rows_apart h.own h.row (by decide) b z e), by simpa [u64V] using hr, fun b e => ?_, h.chg.trans k (fun _ _ x => x) (fun i hi e => by have := h.new i e; omega)⟩
  rcases ho b e with z | z
  · exact h.new b z
  · omega
theorem versOf_take {t : List Acc} {i : Nat} {x : Acc} (hx : t[i]? = some x) (hi : 1 ≤ i) : versOf (t.take (i + 1)) = versOf (t.take i) ++ (if x.kind = 5 ∧ x.addr ≠ 0 then [x.addr] else []) := by
  have hl : i < t.length := (List.getElem?_eq_some_iff.1 hx).1
  rw [List.take_add_one, hx, versOf_app (by simp; omega)]
  congr 1
  simp only [vrsV, Option.toList]
  by_cases c : x.kind = 5 ∧ x.addr ≠ 0 <;> simp [c]
theorem vers_sub {t : List Acc} {i y : Nat} (h : y ∈ versOf (t.take i)) : y ∈ versOf t := by
  unfold versOf vrsV at h ⊢
  exact List.Sublist.mem h (((List.Sublist.drop (List.take_sublist i t) 1).filter _).map _)
theorem acc_cellG {W : World} {g n c : Nat} {lk : List Acc} (h : W.ownsRow 0 80 8 (.slice (some ⟨g, 0, none⟩) n c) n (accRow lk)) (j f : Nat) (x : Acc) (hj : lk[j]? = some x) (hn : j < n) (hf : f < 8) (v : Value) (hv : x.cells[f]? = some v) : W.cell? ⟨g, j * 8 + f, none⟩ = some v := by
  rw [World.ownsRow.cellAt h (j * 8 + f) (by omega)]
  unfold accRow
  rw [rowOf_get Acc.cells 8 (fun _ => rfl) lk j f hf, hj]
  exact hv

set_option maxRecDepth 100000 in
set_option maxHeartbeats 8000000 in
theorem leaves_walk (pt pp : Option Addr) (ct cp : Nat) (L : List ThrA) (picks : List Int) (w : World) (hT : ThsAt w pt L) (hP : IReads w pp picks) (hn0 : L.length ≤ 1048576) (hn1 : picks.length ≤ 1048576) :
    Calls Try.prog 6 #[.slice pt L.length ct, .slice pp picks.length cp] w fun e w' => e = .returned (.bool true) ∧ Chg (fun _ => False) w w' := by
  obtain ⟨i0, hi, hz0, hz1, hz2⟩ := info_parts infoPs
  obtain ⟨j0, hj, hy0, hy1, hy2⟩ := info_parts infoP
  obtain ⟨u0, hu, hx0, hx1, hx2⟩ := info_parts infoU64
  have HT := keepH hT
  have HP := keepH hP
  clear hT hP
  go_enter Try.func6, Try.ntmps6
  go_wp2_with fail
  refine (m_new 4096 w (by omega)).mono ?_
  rintro e W0 ⟨rfl, M1, B1, C1, S1⟩
  have HM0 := keepH M1
  have HB0 := keepH B1
  have HS0 := keepH S1
  have HC0 := keepH C1
  clear M1 B1 S1 C1
  go_wp2_with fail
  refine (live_15 _).mono ?_
  rintro e W1 ⟨rfl, Cl⟩
  have HM1 := keepH (HM0.out.chg Cl (fun x => x))
  have HB1 := keepH (HB0.out.chg Cl (fun _ _ x => x))
  have HC1 := keepH (HC0.out.falls Cl)
  have HS1 : Hid (w.heap.size + 2 ≤ W1.heap.size) := by have := Cl.size; have := HS0.out; show _ ≤ _; omega
  clear Cl HM0 HB0 HS0 HC0
  go_wp2_with fail
  refine (m_view _ w.heap.size (-1) _ HM1.out).mono ?_
  rintro e w' ⟨rfl, rfl⟩
  go_wp2_with fail
  refine (v_alloc W1.heap.size w.heap.size 4096 1 0 (-1) (some ⟨W1.heap.size + 1, 0, none⟩) 3 [1, 0, 0] (fun k => k = w.heap.size) [] [] _ ?_ ?_ ?_ (by omega) (by simp) ?_ ?_ ?_ ?_ (by simp)).mono ?_
  · exact (heap_alloc_new _ _ : (W1.alloc _).heap[W1.heap.size]? = _) |> fun h => (Below.heap_alloc _ _ _ (by simp)).trans h
  · exact HB1.out.chg (((Chg.refl (fun _ => False) _).alloc _).alloc _) (fun _ _ h => h)
  · have := HS1.out
    show ¬ _ = _
    omega
  · exact reads_newG _ [1, 0, 0] _ (by simp)
  · rintro ad ⟨⟩ _
    have := HS1.out
    show ¬ _ = _
    simp only
    omega
  · rintro ad ⟨⟩ _
    show _ ≠ _
    simp only
    omega
  · intro x hx
    simp at hx
    omega
  rintro e W3 ⟨rfl, F3, vs3, B3, V3, G3⟩
  obtain ⟨M3, C3, L3, N3⟩ := mem_first HM1.out HC1.out HS1.out _ _ G3
  have HM3 := keepH M3
  have HC3 := keepH C3
  have HL3 := keepH L3
  have HN3 := keepH N3
  obtain ⟨y, hy⟩ : ∃ y : Acc, y = ⟨-1, 5, alAt 4096 1 3, 0, 0, vs3, [1, 0, 0], 0, false⟩ := ⟨_, rfl⟩
  have HB3 : Hid (Bank W3 F3 w.heap.size 4096 4 (alN 4096 1 [] [1, 0, 0]) [y]) := by rw [hy]; exact B3
  have yv : Hid (y.vals.length ≤ 3) := by rw [hy]; simp [Hid]
  have ea : (alAt 4096 1 [1, 0, 0].length : Int) = 1 := by rfl
  rw [ea]
  clear M3 C3 L3 N3 B3 V3 G3 hy HM1 HB1 HS1 HC1 ea
  go_wp2_with fail
  go_loopw [7, 8] (fun tv sv wr => ∃ n : Nat, n ≤ L.length ∧ sv = .int .i64 (n : Int) ∧ Hid (OB W3 wr L n tv)) (fun _ sv _ => L.length - (intOf sv).toNat)
  case atStart => exact ⟨0, by omega, rfl, OB.start W3 L⟩
  case round =>
    obtain ⟨n, hn, rfl, HO⟩ := hrel
    obtain ⟨vals7, hro7⟩ := HO.out.outer
    obtain ⟨p7, c7, hv7⟩ := slice_of hro7
    subst hv7
    clear hro7
    by_cases hlt : n < L.length
    · have t1 : (n : Int) < (L.length : Int) := by omega
      obtain ⟨t, ht⟩ : ∃ t, L[n]? = some t := ⟨L[n], List.getElem?_eq_getElem hlt⟩
      have HTt := keepH ht
      have hlen : t.ks.length ≤ 1048576 := HT.out.len t (List.mem_of_getElem? ht)
      obtain ⟨bk, off, hp, hb, hc0⟩ := HT.out.row.resolve_left (fun e => by rw [e] at hlt; simp at hlt)
      subst hp
      have hc : w.cell? ⟨bk, off + n, none⟩ = some (.slice t.p t.ks.length t.c) := hc0 n t ht
      have HCc := keepH hc
      have Hbk := keepH hb
      clear hc0 hc hb ht
      have HI0 := keepH (HO.out.row t)
      have Cn := keepH (HC3.out.falls HO.out.chg)
      have hc : wr.cell? ⟨bk, off + n, none⟩ = some (.slice t.p t.ks.length t.c) := cell_chg Cn.out HCc.out (fun x => x)
      clear HO Cn
      go_wp2_with fail
      go_loopw [9, 10] (fun lv sv wi => ∃ k : Nat, k ≤ t.ks.length ∧ sv = .int .i64 (k : Int) ∧ Hid (IB W3 wi L n t k (.slice p7 n c7) lv)) (fun _ sv _ => t.ks.length - (intOf sv).toNat)
      case atStart => exact ⟨0, by omega, rfl, HI0⟩
      case round =>
        obtain ⟨k, hk, rfl, HI⟩ := hrel
        have Cn := keepH (HC3.out.falls HI.out.chg)
        have hc2 : wr.cell? ⟨bk, off + n, none⟩ = some (.slice t.p t.ks.length t.c) := cell_chg Cn.out HCc.out (fun x => x)
        obtain ⟨xs, hrow, huse⟩ := HI.out.use
        obtain ⟨p9, c9, hv9⟩ := slice_of hrow
        subst hv9
        have HRow := keepH hrow
        have HUse := keepH huse
        clear hrow huse
        by_cases hk2 : k < t.ks.length
        · have t2 : (k : Int) < (t.ks.length : Int) := by omega
          obtain ⟨c, hck⟩ : ∃ c, t.ks[k]? = some c := ⟨t.ks[k], List.getElem?_eq_getElem hk2⟩
          have HCK := keepH hck
          have mt := List.mem_of_getElem? HTt.out
          have mc := List.mem_of_getElem? hck
          have Hok := keepH (HT.out.ok t mt c mc)
          have HU := keepH ((HT.out.st t mt c mc).chg Cn.out (fun _ _ _ _ e => e))
          obtain ⟨bk2, off2, hp2, hb2, hcc⟩ := (HT.out.ks t mt).resolve_left (fun e => by rw [e] at hk2; simp at hk2)
          have hcell : ∀ (j : Nat) (u : Value), c.cells[j]? = some u → wr.cell? ⟨bk2, off2 + k * 6 + j, none⟩ = some u := fun j u hj => by rw [Nat.add_assoc]; exact cell_chg Cn.out (hcc k c hck j u hj) (fun x => x)
          have d0 : wr.cell? ⟨bk2, off2 + k * 6, none⟩ = some (.int .i64 c.kind) := hcell 0 _ rfl
          have d1 : wr.cell? ⟨bk2, off2 + k * 6 + 1, none⟩ = some (.int .u64 (c.obj : Int)) := hcell 1 _ rfl
          have d2 : wr.cell? ⟨bk2, off2 + k * 6 + 2, none⟩ = some (.int .u64 (c.a : Int)) := hcell 2 _ rfl
          have d3 : wr.cell? ⟨bk2, off2 + k * 6 + 3, none⟩ = some (.int .u64 (c.b : Int)) := hcell 3 _ rfl
          have d4 : wr.cell? ⟨bk2, off2 + k * 6 + 4, none⟩ = some (.int .u64 (c.F : Int)) := hcell 4 _ rfl
          have d5 : wr.cell? ⟨bk2, off2 + k * 6 + 5, none⟩ = some (.slice c.q c.l.length c.c) := hcell 5 _ rfl
          rw [hp2] at hc2
          clear hck hcc hcell mt mc hp2 hb2
          go_wp2_with fail
          refine (b_begin c Hok.out wr HU.out).mono ?_
          rintro e w2 ⟨pw, Dn, rfl, PN⟩
          obtain ⟨Ty, pa, hpw⟩ := PN.ifc
          subst hpw
          obtain ⟨row2, one2, next2⟩ := HUse.out w2 _ _ Dn PN (fun c' hc' => by rw [HCK.out] at hc'; simp at hc'; rw [hc'])
          have HR2 := keepH row2
          have HNX := keepH next2
          have hm : k + 1 ≤ maxLen := by unfold maxLen; omega
          have hby : (k + 1) * 16 ≤ 140737488355328 := by omega
          clear row2 one2 next2 PN d0 d1 d2 d3 d4 d5 HU HUse HRow
          go_wp2_with (at_builtin; refine wpList_append_own_at _ rfl _ _ 66 rfl 0 69 j0 .nilIface 1 16 Try.underlying66 hj hy0 hy1 hy2 rfl (by decide) (.slice p9 k c9) k _ rfl (HR2.out.alloc _) ⟨w2.heap.size, 0, none⟩ 1 1 [.iface Ty pa] rfl rfl (fun j u hj => cells_new _ _ (by simp) _ _ j u (by simpa using hj)) (by simp [Value.oneCell']) hm hby (Nat.zero_le _) ?_; intro v' w3 r1 r2 r3 r4; obtain ⟨g', c', rfl⟩ := slice_pos r1 (Nat.succ_pos _); have R1 := keepH r1; have R2 := keepH r2; have R4 := keepH r4; clear r1 r2 r3 r4)
          refine ⟨⟨k + 1, by omega, by simp, HNX.out _ _ _ R1.out R2.out (fun b e => ?_)⟩, by simp [intOf]; omega⟩
          rcases R4.out with e2 | e2
          · rw [e2] at e
            exact .inl e
          · rw [e2] at e
            simp at e
            exact .inr (by omega)
        · have t2 : ¬ (k : Int) < (t.ks.length : Int) := by omega
          have ek : k = t.ks.length := by omega
          subst ek
          have HI' := HI.out
          obtain ⟨vals8, rowo, onel, nxt⟩ := HI'.close HTt.out
          have HRo := keepH rowo
          have HNX := keepH nxt
          have hm : n + 1 ≤ maxLen := by unfold maxLen; omega
          have hby : (n + 1) * 24 ≤ 140737488355328 := by omega
          clear rowo onel nxt HI' HUse HRow HI
          go_wp2_with (at_builtin; refine wpList_append_own_at _ rfl _ _ 65 rfl 0 66 i0 (.slice none 0 0) 1 24 Try.underlying65 hi hz0 hz1 hz2 rfl (by decide) (.slice p7 n c7) n _ rfl (HRo.out.alloc _) ⟨wr.heap.size, 0, none⟩ 1 1 [.slice p9 t.ks.length c9] rfl rfl (fun j u hj => cells_new _ _ (by simp) _ _ j u (by simpa using hj)) (by simp [Value.oneCell']) hm hby (Nat.zero_le _) ?_; intro v' w3 r1 r2 r3 r4; obtain ⟨g', c', rfl⟩ := slice_pos r1 (Nat.succ_pos _); have R1 := keepH r1; have R2 := keepH r2; have R4 := keepH r4; clear r1 r2 r3 r4)
          refine ⟨⟨n + 1, by omega, by simp, HNX.out _ _ _ R1.out R2.out (fun b e => ?_)⟩, by simp [intOf]; omega⟩
          rcases R4.out with e2 | e2
          · rw [e2] at e
            exact .inl e
          · rw [e2] at e
            simp at e
            exact .inr (by omega)
    · have t1 : ¬ (n : Int) < (L.length : Int) := by omega
      obtain rfl : n = L.length := by omega
      obtain ⟨tl, hLi, htb, htl, hin, hgo⟩ := HO.out.run picks HC3.out HM3.out HB3.out yv.out HL3.out (by omega) HN3.out HT.out.ok
      have HMn := keepH (HM3.out.chg HO.out.chg (fun h => h))
      have Cn := keepH (HC3.out.falls HO.out.chg)
      have HLi := keepH hLi
      have HGo := keepH hgo
      have HTB := keepH htb
      have Hin := keepH hin
      have HTn := keepH (HT.out.chg Cn.out)
      clear hLi hgo hin htb HM3 HB3 HL3 HN3 yv
      cases hb : tooLongB tl
      · go_wp2_with fail
        refine (s_new (w.heap.size + 1) w.heap.size _ tl wr HMn.out HLi.out hb).mono ?_
        rintro e W4 ⟨r, G, tv, ths, vbs, rfl, MD, hl⟩
        obtain ⟨cl, vb, pv, c0, GR, CI⟩ := HGo.out W4 G r tv ths vbs MD hl
        have HGR := keepH GR
        have HCI := keepH CI
        clear MD hl GR CI HGo HLi HMn HO
        go_wp2_with fail
        refine (gr_run pp cp HGR.out HP.out hn1).mono ?_
        rintro e W5 ⟨rfl, G5⟩
        obtain ⟨F5, next5, cs5, l, M5, B5, E5, hl1, hl2, C5⟩ := G5.ends HCI.out
        have HE5 := keepH E5
        have HM5 := keepH M5
        have HB5 := keepH B5
        have HC5 := keepH C5
        clear G5 M5 B5 C5 E5 HGR HCI
        go_wp2_with fail
        refine (m_trace _ _ 4096 next5 F5 cs5 l W5 HM5.out HB5.out (by omega) (fun x hx => by have := HE5.out.vl x hx; omega)).mono ?_
        rintro e W6 ⟨p6, c6, lk, rfl, T6⟩
        obtain ⟨g6, d6, hs6⟩ := slice_pos T6.row (by omega)
        simp only [Value.slice.injEq, true_and] at hs6
        obtain ⟨rfl, rfl⟩ := hs6
        have HV0 := keepH (VL.start T6)
        have HC6 := keepH (HC5.out.falls T6.chg)
        have HSm := keepH T6.same
        clear T6
        go_wp2_with fail
        go_loopw [13, 14] (fun sv s14 wx => ∃ i : Nat, 1 ≤ i ∧ i ≤ l.length ∧ s14 = .int .i64 (i : Int) ∧ Hid (VL W5 wx g6 l.length c6 lk sv (versOf ((l.map Acc.bare).take i)))) (fun _ s14 _ => l.length - (intOf s14).toNat)
        case atStart => exact ⟨1, by omega, by omega, rfl, by
          have e : versOf ((l.map Acc.bare).take 1) = [] := by
            unfold versOf
            rw [List.drop_eq_nil_of_le (by simp; omega)]
            rfl
          rw [e]
          exact HV0⟩
        case round =>
          obtain ⟨i, hi1, hil, rfl, HV⟩ := hrel
          obtain ⟨vs, hvs⟩ : ∃ vs, vs = versOf ((l.map Acc.bare).take i) := ⟨_, rfl⟩
          rw [← hvs] at HV
          have HVS := keepH hvs
          clear hvs
          obtain ⟨p13, c13, hv13⟩ := slice_of HV.out.own
          subst hv13
          by_cases hlt2 : i < l.length
          · have t4 : (i : Int) < (l.length : Int) := by omega
            obtain ⟨x, hx⟩ : ∃ x, l[i]? = some x := ⟨l[i], List.getElem?_eq_getElem hlt2⟩
            obtain ⟨vs', hlk⟩ := HSm.out i x hx
            have k1 : wr.cell? ⟨g6, i * 8 + 1, none⟩ = some (.int .u8 (x.kind : Int)) := acc_cellG HV.out.row i 1 _ hlk hlt2 (by omega) _ rfl
            have k2 : wr.cell? ⟨g6, i * 8 + 2, none⟩ = some (.int .u64 (x.addr : Int)) := acc_cellG HV.out.row i 2 _ hlk hlt2 (by omega) _ rfl
            have k3 : wr.cell? ⟨g6, i * 8 + 3, none⟩ = some (.int .u64 (x.a : Int)) := acc_cellG HV.out.row i 3 _ hlk hlt2 (by omega) _ rfl
            have HK1 : Hid (∀ X : World, X.ownsRow 0 80 8 (.slice (some ⟨g6, 0, none⟩) l.length c6) l.length (accRow lk) → X.cell? ⟨g6, i * 8 + 1, none⟩ = some (.int .u8 (x.kind : Int))) := fun X h => acc_cellG h i 1 _ hlk hlt2 (by omega) _ rfl
            have HK2 : Hid (∀ X : World, X.ownsRow 0 80 8 (.slice (some ⟨g6, 0, none⟩) l.length c6) l.length (accRow lk) → X.cell? ⟨g6, i * 8 + 2, none⟩ = some (.int .u64 (x.addr : Int))) := fun X h => acc_cellG h i 2 _ hlk hlt2 (by omega) _ rfl
            have HK3 : Hid (∀ X : World, X.ownsRow 0 80 8 (.slice (some ⟨g6, 0, none⟩) l.length c6) l.length (accRow lk) → X.cell? ⟨g6, i * 8 + 3, none⟩ = some (.int .u64 (x.a : Int))) := fun X h => acc_cellG h i 3 _ hlk hlt2 (by omega) _ rfl
            have hxb : (l.map Acc.bare)[i]? = some x.bare := by simp [hx]
            have HXB := keepH hxb
            have HVT : Hid (versOf ((l.map Acc.bare).take (i + 1)) = vs ++ (if x.kind = 5 ∧ x.addr ≠ 0 then [x.addr] else [])) := by rw [HVS.out]; have z := versOf_take hxb hi1; exact z
            have hvl : vs.length ≤ l.length := by
              rw [HVS.out]
              have h1 := List.length_filter_le (fun x => decide (x.kind = 5 ∧ x.addr ≠ 0)) (((l.map Acc.bare).take i).drop 1)
              simp only [versOf, vrsV, List.length_map]
              simp at h1 ⊢
              omega
            clear hx hlk hxb
            by_cases k5 : x.kind = 5
            · have e5 : ((x.kind : Int) == 5) = true := by simp [k5]
              have e2 : ((x.kind : Int) == 2) = false := by simp [k5]
              by_cases a0 : x.addr = 0
              · have ea : ((x.addr : Int) == 0) = true := by simp [a0]
                rw [k5] at k1
                rw [a0] at k2
                go_wp2_with fail
                refine ⟨⟨i + 1, by omega, by omega, by simp, ?_⟩, by simp [intOf]; omega⟩
                rw [HVT.out, if_neg (fun z => z.2 a0), List.append_nil]
                exact HV
              · have ea : ((x.addr : Int) == 0) = false := by simp [a0]
                rw [k5] at k1
                have hm : vs.length + 1 ≤ maxLen := by unfold maxLen; omega
                have hby : (vs.length + 1) * 8 ≤ 140737488355328 := by omega
                go_wp2_with (at_builtin; refine wpList_append_own_at _ rfl _ _ 23 rfl 0 22 u0 (.int .u64 0) 1 8 Try.underlying23 hu hx0 hx1 hx2 rfl (by decide) (.slice p13 vs.length c13) vs.length _ rfl (HV.out.own.alloc _) ⟨wr.heap.size, 0, none⟩ 1 1 [.int .u64 (x.addr : Int)] rfl rfl (fun j u hj => cells_new _ _ (by simp) _ _ j u (by simpa using hj)) (by simp [Value.oneCell']) hm hby (Nat.zero_le _) ?_; intro v' w3 r1 r2 r3 r4; obtain ⟨g', c', rfl⟩ := slice_pos r1 (Nat.succ_pos _); have R1 := keepH r1; have R2 := keepH r2; have R4 := keepH r4; have HV3 := keepH (HV.out.app r1 r2 (fun b e => r4.elim (fun e2 => .inl (by rw [e2] at e; exact e)) (fun e2 => .inr (by rw [e2] at e; simp at e; omega)))); have k1' : w3.cell? ⟨g6, i * 8 + 1, none⟩ = some (.int .u8 (x.kind : Int)) := HK1.out w3 HV3.out.row; rw [k5] at k1'; clear r1 r2 r3 r4)
                refine ⟨⟨i + 1, by omega, by omega, by simp, ?_⟩, by simp [intOf]; omega⟩
                rw [HVT.out, if_pos ⟨k5, a0⟩]
                exact HV3
            · have e5 : ((x.kind : Int) == 5) = false := by simp; omega
              by_cases kk2 : x.kind = 2
              · have e2 : ((x.kind : Int) == 2) = true := by simp [kk2]
                rw [kk2] at k1
                obtain ⟨gd1, gd2, gd3⟩ := HE5.out.good i x.bare hi1 HXB.out kk2
                rw [← HVS.out] at gd1 gd2
                have HG1 : Hid (isV vs x.a) := gd1
                have HG2 : Hid (∃ y ∈ vs, y + 2 = x.addr) := gd2
                have hlt3 : (x.a : Int) < (x.addr : Int) := by have : x.a < x.addr := gd3; omega
                have hnle : ¬ (x.addr : Int) ≤ (x.a : Int) := by omega
                have HLT : Hid (∀ y ∈ vs, y < 4096) := fun y hy => HE5.out.lt y (by rw [HVS.out] at hy; exact vers_sub hy)
                clear gd1 gd2 gd3
                go_wp2_with fail
                go_loopw [15, 16, 17] (fun s15 s16 s17 wy => ∃ k : Nat, k ≤ vs.length ∧ s15 = .bool (decide (x.a = 0) || (vs.take k).any (fun y => decide (y = x.a))) ∧ s16 = .bool ((vs.take k).any (fun y => decide (y + 2 = x.addr))) ∧ s17 = .int .i64 (k : Int) ∧ Hid (VL W5 wy g6 l.length c6 lk (.slice p13 vs.length c13) vs)) (fun _ _ s17 _ => vs.length - (intOf s17).toNat)
                case atStart => exact ⟨0, by omega, by by_cases z : x.a = 0 <;> simp [z], by simp, rfl, HV⟩
                case round =>
                  obtain ⟨k, hk, rfl, rfl, rfl, HV2⟩ := hrel
                  have m3 : wr.cell? ⟨g6, i * 8 + 3, none⟩ = some (.int .u64 (x.a : Int)) := HK3.out wr HV2.out.row
                  have m2 : wr.cell? ⟨g6, i * 8 + 2, none⟩ = some (.int .u64 (x.addr : Int)) := HK2.out wr HV2.out.row
                  by_cases hk3 : k < vs.length
                  · have t5 : (k : Int) < (vs.length : Int) := by omega
                    obtain ⟨o15, ho15⟩ : ∃ o, o = (decide (x.a = 0) || (vs.take k).any (fun y => decide (y = x.a))) := ⟨_, rfl⟩
                    obtain ⟨r16, hr16⟩ : ∃ o, o = (vs.take k).any (fun y => decide (y + 2 = x.addr)) := ⟨_, rfl⟩
                    rw [← ho15, ← hr16]
                    obtain ⟨yv, hyv⟩ : ∃ yv, vs[k]? = some yv := ⟨vs[k], List.getElem?_eq_getElem hk3⟩
                    have ylt := HLT.out yv (List.mem_of_getElem? hyv)
                    have wy : IntKind.u64.wrap ((yv : Int) + 2) = ((yv + 2 : Nat) : Int) := by rw [IntKind.wrap_u64]; omega
                    obtain ⟨g13, d13, hs13⟩ := slice_pos HV2.out.own (by omega)
                    simp only [Value.slice.injEq, true_and] at hs13
                    obtain ⟨rfl, rfl⟩ := hs13
                    have m0 : wr.cell? ⟨g13, k, none⟩ = some (.int .u64 (yv : Int)) := by rw [World.ownsRow.cellAt HV2.out.own k (by omega)]; simp [hyv, u64V]
                    have HA1 : Hid (∀ f : Nat → Bool, (vs.take (k + 1)).any f = ((vs.take k).any f || f yv)) := fun f => by rw [List.take_add_one, hyv]; simp [List.any_append]
                    have HO15 := keepH ho15
                    have HR16 := keepH hr16
                    clear ho15 hr16 hyv
                    cases o15 <;> cases r16
                    all_goals
                      go_wp2_with fail
                      go_quiet (fail)
                      go_wp2_with fail
                      go_quiet (fail)
                      go_wp2_with fail
                    all_goals
                      refine ⟨⟨k + 1, by omega, ?_, ?_, by simp, HV2.out.quiet (Goes.drewN wr (fun _ => False) _).chg⟩, by simp [intOf]; omega⟩
                      · rw [HA1.out, ← Bool.or_assoc, ← HO15.out]
                        first | rfl | (congr 1; rw [Bool.eq_iff_iff]; simp; try omega)
                      · rw [HA1.out, ← HR16.out]
                        first | rfl | (congr 1; rw [Bool.eq_iff_iff]; simp; try omega)
                  · have t5 : ¬ (k : Int) < (vs.length : Int) := by omega
                    have ek : k = vs.length := by omega
                    subst ek
                    have h15 : (decide (x.a = 0) || (vs.take vs.length).any (fun y => decide (y = x.a))) = true := by
                      rw [List.take_length]
                      rcases HG1.out with z | z
                      · simp [z]
                      · simp only [Bool.or_eq_true, List.any_eq_true]
                        exact .inr ⟨x.a, z, by simp⟩
                    have h16 : (vs.take vs.length).any (fun y => decide (y + 2 = x.addr)) = true := by
                      rw [List.take_length, List.any_eq_true]
                      obtain ⟨y, hy, e⟩ := HG2.out
                      exact ⟨y, hy, by simpa using e⟩
                    rw [h15, h16]
                    clear h15 h16
                    go_wp2_with fail
                    go_quiet (fail)
                    go_wp2_with fail
                    refine ⟨⟨i + 1, by omega, by omega, by simp, ?_⟩, by simp [intOf]; omega⟩
                    rw [HVT.out, if_neg (fun z => k5 z.1), List.append_nil]
                    exact HV2.out.quiet (Goes.drewN wr (fun _ => False) _).chg
              · have e2 : ((x.kind : Int) == 2) = false := by simp; omega
                go_wp2_with fail
                refine ⟨⟨i + 1, by omega, by omega, by simp, ?_⟩, by simp [intOf]; omega⟩
                rw [HVT.out, if_neg (fun z => k5 z.1), List.append_nil]
                exact HV
          · have t4 : ¬ (i : Int) < (l.length : Int) := by omega
            go_wp2_with fail
            go_ret
            exact ⟨by simp, HC5.out.falls HV.out.chg⟩
      · have hb' := hb
        rw [HTB.out] at hb'
        by_cases h64 : 64 < L.length
        · have t3 : (64 : Int) < (L.length : Int) := by omega
          go_wp2_with fail
          refine (s_new_long (w.heap.size + 1) _ tl wr HLi.out (by omega) (fun x hx => ?_) hb).mono ?_
          · rcases Hin.out x hx with z | ⟨t, ht, z⟩
            · omega
            · have := HT.out.len t ht
              omega
          rintro e w' ⟨rfl, rfl⟩
          go_wp2_with fail
          go_ret
          exact ⟨by simp, Cn.out⟩
        · have t3 : ¬ (64 : Int) < (L.length : Int) := by omega
          have ha : (L.any fun t => decide (4096 < t.ks.length)) = true := by simpa [h64] using hb'
          go_wp2_with fail
          refine (s_new_long (w.heap.size + 1) _ tl wr HLi.out (by omega) (fun x hx => ?_) hb).mono ?_
          · rcases Hin.out x hx with z | ⟨t, ht, z⟩
            · omega
            · have := HT.out.len t ht
              omega
          rintro e w' ⟨rfl, rfl⟩
          go_wp2_with fail
          refine (l_long pt ct L w' HTn.out hn0).mono ?_
          rintro e w'' ⟨rfl, rfl⟩
          rw [ha]
          go_wp2_with fail
          go_ret
          exact ⟨by simp, Cn.out⟩
end Go.Proofs.Ytbjebnkfecjpnaa
