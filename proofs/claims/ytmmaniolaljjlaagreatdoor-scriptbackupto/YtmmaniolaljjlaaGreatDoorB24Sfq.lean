/- The law ScriptBack, walked. -/
import Derived.Test.YtmmaniolaljjlaaGreatDoorB21Sdo
import Derived.Test.YtmmaniolaljjlaaGreatDoorB22Sfp
import Derived.Test.YtmmaniolaljjlaaGreatDoorB23Sev
namespace Go.Proofs.YtmmaniolaljjlaaGreatDoor
open Go.RowKit Go.Shelf Go.Maps
set_option linter.unusedVariables false

/-- a printed script is read back -/
theorem back_script {ce sl : Int} {stp : Nat} {mu : Int} {ts : List (List Opx)} {ps : List Int} (h1 : isI ce) (h2 : isI sl) (h3 : isU stp) (h4 : isI mu) (hS : SOk ts ps) (hr : rtS ce sl stp mu ts ps = 0) (hlen : (texS ce sl stp mu ts ps).length ≤ 100000000000) (W : World) (T : Tb W) (hW : Wd W) :
    Calls Tryz.prog 21 #[.string (mkS (texS ce sl stp mu ts ps))] W fun e W' => ∃ tp tc pp pc, e = .returned (.tuple #[.agg (scR ce sl stp mu (.slice tp ts.length tc) (.slice pp ps.length pc)), .int .i64 0, .int .i64 0]) ∧ TRd W' tp ts ∧ IRd W' pp ps ∧ Below W.heap.size W W' := by
  have hro : ∀ l ∈ ts, ∀ o ∈ l, rightO o := fun l hl o ho => ⟨(hS.ok l hl o ho).1, rt0_all hr l hl o ho⟩
  obtain ⟨hbt, hpar⟩ := bt_script h1 h2 h3 h4 hr hro hS.pk hlen
  refine (sParse_any _ hbt W T hW).mono ?_
  rintro e W' ⟨z, n, row, E, rfl, hp, hv, hE, hb⟩
  obtain ⟨rfl, rfl⟩ := hp.one hpar
  obtain ⟨tp, tc, pp, pc, e, hT, hP, _⟩ := hv
  refine ⟨tp, tc, pp, pc, ?_, hT, hP, hb⟩
  rw [hE, e]
  rfl
/-- what is read of a text: nothing, or what prints as the text -/
def BkQ (W : World) (t : List UInt8) (e : Ending) (W' : World) : Prop := ∃ row E n, e = .returned (.tuple #[.agg row, .int .i64 E, .int .i64 ((n : Nat) : Int)]) ∧ Below W.heap.size W W' ∧ ((E = 52 ∧ 0 < n ∧ row = (#[.int .i64 0, .int .i64 0, .int .u64 0, .int .i64 0, .slice none 0 0, .slice none 0 0])) ∨ (E = 0 ∧ ∃ ce sl stp mu ts ps tp tc pp pc, row = scR ce sl stp mu (.slice tp ts.length tc) (.slice pp ps.length pc) ∧ TRd W' tp ts ∧ IRd W' pp ps ∧ ps.length ≤ pc ∧ ZOk ⟨ce, sl, stp, mu, ts, ps⟩ ∧ rtS ce sl stp mu ts ps = 0 ∧ texS ce sl stp mu ts ps = t))
theorem back_text (t : List UInt8) (ht : t.length ≤ 5000000) (W : World) (T : Tb W) (hW : Wd W) : Calls Tryz.prog 21 #[.string (mkS t)] W (BkQ W t) := by
  refine (sParse_any t (bt_small ht) W T hW).mono ?_
  rintro e W' ⟨z, n, row, E, rfl, hp, hv, hE, hb⟩
  refine ⟨row, E, n, rfl, hb, ?_⟩
  cases z with
  | none => exact .inl ⟨hE, par_pos hp, hv⟩
  | some x =>
    obtain ⟨_, ls, a, b, c⟩ := par_rd hp
    obtain ⟨tp, tc, pp, pc, e, hT, hP, hpc⟩ := hv
    have hg := rd_good0 b
    have hr := rt_of hg
    rw [if_neg c] at hr
    exact .inr ⟨hE, x.ce, x.sl, x.stp, x.mu, x.ts, x.ps, tp, tc, pp, pc, e, hT, hP, hpc, par_ok hp ht, hr, par_tx a b⟩
/-- an operation printed and read back -/
theorem back_op (o : Opx) (h : rightO o) (W : World) (T : Tb W) (hW : Wd W) : Calls Tryz.prog 9 #[.string (mkS (textO o))] W fun e W' => ∃ kp kc, e = .returned (.tuple #[.agg (opV o kp kc), .int .i64 0]) ∧ KRd W' kp o.keys ∧ Below W.heap.size W W' := by
  have hl := textO_len h.1
  have hk := right_keys h
  refine (parseOp_any (textO o) (by omega) W hW T).mono ?_
  rintro e W' ⟨ok, o', kp, kc, rfl, hq, hu, _, hb⟩
  obtain ⟨rfl, rfl⟩ := hq.2 o h rfl
  exact ⟨kp, kc, rfl, hu.krd, hb⟩
theorem back_print {t : List UInt8} (ce sl : Int) (stp : Nat) (mu : Int) (ts : List (List Opx)) (ps : List Int) (hz : ZOk ⟨ce, sl, stp, mu, ts, ps⟩) (hr : rtS ce sl stp mu ts ps = 0) (hx : texS ce sl stp mu ts ps = t) (ht : t.length ≤ 100000000000) (tp : Option Addr) (tc : Nat) (pp : Option Addr) (pc : Nat) (w : World) (hT : TRd w tp ts) (hP : IRd w pp ps) (hpc : ps.length ≤ pc) (hW : Wd w) (T : Tb w) :
    Calls Tryz.prog 16 #[.agg (scR ce sl stp mu (.slice tp ts.length tc) (.slice pp ps.length pc))] w fun e W' => e = .returned (.tuple #[.string (mkS t), .int .i64 0]) ∧ Below w.heap.size w W' := by
  refine (sPrint_any ce sl stp mu hz.ce hz.sl hz.stp hz.mu tp tc pp pc ts ps hz.ok hpc (by rw [hx]; exact ht) w hT hP hW T).mono ?_
  rintro e W' ⟨rfl, hb⟩
  refine ⟨?_, hb⟩
  rw [txS, if_pos hr, hx, hr]
  rfl
/-- what lies between the parts of the law -/
structure BS (W : World) (P Q : Nat) (sr so : Array Value) (wr : World) : Prop where
  bel : Below W.heap.size W wr
  bx : wr.heap[P]? = some (.cells sr 46 (0, 0))
  ox : wr.heap[Q]? = some (.cells so 28 (0, 0))
theorem BS.on {W : World} {P Q : Nat} {sr so : Array Value} {wr X : World} (h : BS W P Q sr so wr) (hb : Below wr.heap.size wr X) : BS W P Q sr so X := ⟨below_chain h.bel hb, heap_below h.bx hb, heap_below h.ox hb⟩
set_option maxRecDepth 100000 in
set_option maxHeartbeats 16000000 in
theorem back_walk (ce sl : Int) (stp : Nat) (mu : Int) (h1 : isI ce) (h2 : isI sl) (h3 : isU stp) (h4 : isI mu) (tp : Option Addr) (tc : Nat) (pp : Option Addr) (pc : Nat) (ts : List (List Opx)) (ps : List Int) (hS : SOk ts ps) (hpc : ps.length ≤ pc) (hlen : (texS ce sl stp mu ts ps).length ≤ 100000000000) (o : Opx) (kp : Option Addr) (kc : Nat) (hO : o.Ok) (hol : o.keys.length ≤ 10000000) (t : List UInt8) (ht : t.length ≤ 5000000) (W : World) (hT : TRd W tp ts) (hP : IRd W pp ps) (hK : KRd W kp o.keys) (hW : Wd W) (T : Tb W) :
    Calls Tryz.prog 6 #[.agg (scR ce sl stp mu (.slice tp ts.length tc) (.slice pp ps.length pc)), .agg (opV o kp kc), .string (mkS t)] W fun e W' => e = .returned (.bool true) ∧ Below W.heap.size W W' := by
  have HPR := keepH (fun w (hb : Below W.heap.size W w) => sPrint_any ce sl stp mu h1 h2 h3 h4 tp tc pp pc ts ps hS hpc hlen w (hT.on hb) (hP.on hb) (hW.on hb) (T.on hb))
  have HRT := keepH (fun w (hb : Below W.heap.size W w) => sRight_any ce sl stp mu tp tc pp pc ts ps hS w (hT.on hb) (hW.on hb))
  have HBS := keepH (fun (hr : rtS ce sl stp mu ts ps = 0) w (hb : Below W.heap.size W w) => back_script h1 h2 h3 h4 hS hr hlen w (T.on hb) (hW.on hb))
  have HSM := keepH (fun tq td pq pd w (hb : Below W.heap.size W w) (hTq : TRd w tq ts) (hPq : IRd w pq ps) => dSame_any ce sl stp mu h1 h2 h3 h4 tq tp td tc pq pp pd pc ts ps hS w hTq (hT.on hb) hPq (hP.on hb))
  have HPO := keepH (fun w (hb : Below W.heap.size W w) => printOp_any o.k o.key o.val o.old o.hnd o.set o.rt o.ri kp kc o.lo o.hi o.keys hO.k hO.key hO.val hO.old hO.hnd hO.lo hO.hi hO.rt hO.ri hO.keys hol w (hW.on hb) (T.on hb) (hK.on hb))
  have HBO := keepH (fun (hr : rightO o) w (hb : Below W.heap.size W w) => back_op o hr w (T.on hb) (hW.on hb))
  have HSO := keepH (fun kq kd w (hb : Below W.heap.size W w) (hKq : KRd w kq o.keys) => sameOp_any o.k o.key o.val o.old o.hnd o.set o.rt o.ri kq kp kd kc o.lo o.hi o.keys hO.rt hO.ri hol w hKq (hK.on hb))
  have HBT := keepH (fun w (hb : Below W.heap.size W w) => back_text t ht w (T.on hb) (hW.on hb))
  have HLV := keepH (fun w (hb : Below W.heap.size W w) => sLive_any w (hW.on hb) (T.on hb))
  have HPB := keepH (fun (ce : Int) (sl : Int) (stp : Nat) (mu : Int) (ts : List (List Opx)) (ps : List Int) (hz : ZOk ⟨ce, sl, stp, mu, ts, ps⟩) (hr : rtS ce sl stp mu ts ps = 0) (hx : texS ce sl stp mu ts ps = t) tq td pq pd w (hb : Below W.heap.size W w) (hTq : TRd w tq ts) (hPq : IRd w pq ps) (hpd : ps.length ≤ pd) => back_print ce sl stp mu ts ps hz hr hx (by omega) tq td pq pd w hTq hPq hpd (hW.on hb) (T.on hb))
  have HOK := keepH hO
  obtain ⟨s, hs⟩ : ∃ s, s = mkS t := ⟨_, rfl⟩
  rw [← hs] at HBT HPB ⊢
  have HSS := keepH hs
  obtain ⟨V, hV⟩ : ∃ V, V = rtS ce sl stp mu ts ps := ⟨_, rfl⟩
  obtain ⟨sx, hsx⟩ : ∃ s, s = mkS (txS ce sl stp mu ts ps) := ⟨_, rfl⟩
  rw [← hV] at HRT
  rw [← hV, ← hsx] at HPR
  have HV := keepH hV
  have qs : (s.toList == s.toList) = true := by simp
  have z0 : ((V : Int) == (V : Int)) = true := by simp
  have HSX := keepH hsx
  obtain ⟨tn, htn⟩ : ∃ v, v = ts.length := ⟨_, rfl⟩
  obtain ⟨pn, hpn⟩ : ∃ v, v = ps.length := ⟨_, rfl⟩
  rw [← htn, ← hpn] at HPR HRT HSM HBS ⊢
  obtain ⟨w1, hw1⟩ : ∃ w1, w1 = (W.alloc (.cells (scR ce sl stp mu (.slice tp tn tc) (.slice pp pn pc)) 46)).alloc (.cells #[.int .u8 (o.k : Int), .int .u64 (o.key : Int), .int .u64 (o.val : Int), .int .u64 (o.old : Int), .int .u64 (o.hnd : Int), .bool o.set, .int .i64 o.rt, .int .i64 o.ri, .slice kp o.keys.length kc, .int .u64 (o.lo : Int), .int .u64 (o.hi : Int)] 28) := ⟨_, rfl⟩
  obtain ⟨P, hPP⟩ : ∃ P, P = W.heap.size := ⟨_, rfl⟩
  obtain ⟨Q, hQQ⟩ : ∃ Q, Q = W.heap.size + 1 := ⟨_, rfl⟩
  have B1 : Below W.heap.size W w1 := by rw [hw1]; exact (below_alloc _ _).trans ((below_alloc _ _).mono (by simp))
  have X1 : w1.heap[P]? = some (.cells (scR ce sl stp mu (.slice tp tn tc) (.slice pp pn pc)) 46 (0, 0)) := by
    rw [hw1, hPP, Below.heap_alloc _ _ _ (by simp)]
    exact heap_alloc_new _ _
  have Y1 : w1.heap[Q]? = some (.cells #[.int .u8 (o.k : Int), .int .u64 (o.key : Int), .int .u64 (o.val : Int), .int .u64 (o.old : Int), .int .u64 (o.hnd : Int), .bool o.set, .int .i64 o.rt, .int .i64 o.ri, .slice kp o.keys.length kc, .int .u64 (o.lo : Int), .int .u64 (o.hi : Int)] 28 (0, 0)) := by
    rw [hw1, hQQ]
    have := heap_alloc_new (W.alloc (.cells (scR ce sl stp mu (.slice tp tn tc) (.slice pp pn pc)) 46)) (.cells #[.int .u8 (o.k : Int), .int .u64 (o.key : Int), .int .u64 (o.val : Int), .int .u64 (o.old : Int), .int .u64 (o.hnd : Int), .bool o.set, .int .i64 o.rt, .int .i64 o.ri, .slice kp o.keys.length kc, .int .u64 (o.lo : Int), .int .u64 (o.hi : Int)] 28)
    simpa using this
  have HB1 : Hid (BS W P Q (scR ce sl stp mu (.slice tp tn tc) (.slice pp pn pc)) #[.int .u8 (o.k : Int), .int .u64 (o.key : Int), .int .u64 (o.val : Int), .int .u64 (o.old : Int), .int .u64 (o.hnd : Int), .bool o.set, .int .i64 o.rt, .int .i64 o.ri, .slice kp o.keys.length kc, .int .u64 (o.lo : Int), .int .u64 (o.hi : Int)] w1) := keepH ⟨B1, X1, Y1⟩
  have HW1 := keepH hw1
  have HP := keepH hPP
  have HQ := keepH hQQ
  simp only [opV]
  clear h1 h2 h3 h4 hS hpc hlen hO hol ht hT hP hK hW T hs hV hsx htn hpn hw1 hPP hQQ B1 X1 Y1
  go_enter Tryz.func6, Tryz.ntmps6
  go_upto_region 1 with fail
  rw [show (W.alloc (.cells (scR ce sl stp mu (.slice tp tn tc) (.slice pp pn pc)) 46)).alloc (.cells #[.int .u8 (o.k : Int), .int .u64 (o.key : Int), .int .u64 (o.val : Int), .int .u64 (o.old : Int), .int .u64 (o.hnd : Int), .bool o.set, .int .i64 o.rt, .int .i64 o.ri, .slice kp o.keys.length kc, .int .u64 (o.lo : Int), .int .u64 (o.hi : Int)] 28) = w1 from HW1.out.symm, ← HQ.out, ← HP.out]
  clear HW1 HP HQ
  have p0 : w1.cell? ⟨P, 0, none⟩ = _ := cell_of HB1.out.bx 0
  have p1 : w1.cell? ⟨P, 1, none⟩ = _ := cell_of HB1.out.bx 1
  have p2 : w1.cell? ⟨P, 2, none⟩ = _ := cell_of HB1.out.bx 2
  have p3 : w1.cell? ⟨P, 3, none⟩ = _ := cell_of HB1.out.bx 3
  have p4 : w1.cell? ⟨P, 4, none⟩ = _ := cell_of HB1.out.bx 4
  have p5 : w1.cell? ⟨P, 5, none⟩ = _ := cell_of HB1.out.bx 5
  go_wp2_with fail
  refine (HPR.out w1 HB1.out.bel).mono ?_
  rintro e w2 ⟨rfl, B2⟩
  have HB2 := keepH (HB1.out.on B2)
  clear B2 p0 p1 p2 p3 p4 p5 HB1 HPR
  by_cases hv : V = 0
  · have z1 : ((V : Int) == 0) = true := by rw [hv]; rfl
    have hv0 : rtS ce sl stp mu ts ps = 0 := by rw [← HV.out]; exact hv
    have hx2 : sx = mkS (texS ce sl stp mu ts ps) := by rw [HSX.out, txS, if_pos hv0]
    have HBC := keepH (HBS.out hv0 w2 HB2.out.bel)
    rw [← hx2] at HBC
    clear hv hv0 hx2
    go_upto_region 3 with fail
    go_wp2_with fail
    refine HBC.out.mono ?_
    rintro e w3 ⟨tq, td, pq, pd, rfl, hTq, hPq, B3⟩
    have HB3 := keepH (HB2.out.on B3)
    have HTQ := keepH hTq
    have HPQ := keepH hPq
    clear hTq hPq B3 HBC
    go_upto_region 4 with (first | (refine wpList_store_row rfl 46 _ _ rfl w3.heap.size (scR ce sl stp mu (.slice tq tn td) (.slice pq pn pd)) rfl rfl 46 (#[.int .i64 0, .int .i64 0, .int .u64 0, .int .i64 0, .slice none 0 0, .slice none 0 0]) (heap_alloc_new _ _) (by kernel_rfl) rfl (by simp [Value.oneCell']) ?_) | fail)
    obtain ⟨A, hA⟩ : ∃ A, A = w3.heap.size := ⟨_, rfl⟩
    obtain ⟨w4, hw4⟩ : ∃ w4, w4 = (w3.alloc (.cells (#[.int .i64 0, .int .i64 0, .int .u64 0, .int .i64 0, .slice none 0 0, .slice none 0 0]) 46)).setRow w3.heap.size (scR ce sl stp mu (.slice tq tn td) (.slice pq pn pd)) := ⟨_, rfl⟩
    rw [← hw4, ← hA]
    have B4 : Below w3.heap.size w3 w4 := by rw [hw4]; exact below_setRow (below_alloc _ _) (Nat.le_refl _) _
    have HX4 : Hid (w4.heap[A]? = some (.cells (scR ce sl stp mu (.slice tq tn td) (.slice pq pn pd)) 46 (0, 0))) := keepH (by rw [hw4, hA]; exact setRow_heap _ _ _ _ _ _ (heap_alloc_new _ _))
    have HB4 := keepH (HB3.out.on B4)
    have HSC := keepH (HSM.out tq td pq pd w4 HB4.out.bel (HTQ.out.on B4) (HPQ.out.on B4))
    clear hA hw4 B4 HTQ HPQ HB3
    have p0 : w4.cell? ⟨P, 0, none⟩ = _ := cell_of HB4.out.bx 0
    have p1 : w4.cell? ⟨P, 1, none⟩ = _ := cell_of HB4.out.bx 1
    have p2 : w4.cell? ⟨P, 2, none⟩ = _ := cell_of HB4.out.bx 2
    have p3 : w4.cell? ⟨P, 3, none⟩ = _ := cell_of HB4.out.bx 3
    have p4 : w4.cell? ⟨P, 4, none⟩ = _ := cell_of HB4.out.bx 4
    have p5 : w4.cell? ⟨P, 5, none⟩ = _ := cell_of HB4.out.bx 5
    have a0 : w4.cell? ⟨A, 0, none⟩ = _ := cell_of HX4.out 0
    have a1 : w4.cell? ⟨A, 1, none⟩ = _ := cell_of HX4.out 1
    have a2 : w4.cell? ⟨A, 2, none⟩ = _ := cell_of HX4.out 2
    have a3 : w4.cell? ⟨A, 3, none⟩ = _ := cell_of HX4.out 3
    have a4 : w4.cell? ⟨A, 4, none⟩ = _ := cell_of HX4.out 4
    have a5 : w4.cell? ⟨A, 5, none⟩ = _ := cell_of HX4.out 5
    go_wp2_with fail
    refine HSC.out.mono ?_
    rintro e w5 ⟨rfl, B5⟩
    have HB5 := keepH (HB4.out.on B5)
    clear B5 p0 p1 p2 p3 p4 p5 a0 a1 a2 a3 a4 a5 HSC HB4 HX4 HSM HBS HB2 HSX
    have HP1 := keepH (HPO.out w5 HB5.out.bel)
    have q0 : w5.cell? ⟨Q, 0, none⟩ = _ := cell_of HB5.out.ox 0
    have q1 : w5.cell? ⟨Q, 1, none⟩ = _ := cell_of HB5.out.ox 1
    have q2 : w5.cell? ⟨Q, 2, none⟩ = _ := cell_of HB5.out.ox 2
    have q3 : w5.cell? ⟨Q, 3, none⟩ = _ := cell_of HB5.out.ox 3
    have q4 : w5.cell? ⟨Q, 4, none⟩ = _ := cell_of HB5.out.ox 4
    have q5 : w5.cell? ⟨Q, 5, none⟩ = _ := cell_of HB5.out.ox 5
    have q6 : w5.cell? ⟨Q, 6, none⟩ = _ := cell_of HB5.out.ox 6
    have q7 : w5.cell? ⟨Q, 7, none⟩ = _ := cell_of HB5.out.ox 7
    have q8 : w5.cell? ⟨Q, 8, none⟩ = _ := cell_of HB5.out.ox 8
    have q9 : w5.cell? ⟨Q, 9, none⟩ = _ := cell_of HB5.out.ox 9
    have q10 : w5.cell? ⟨Q, 10, none⟩ = _ := cell_of HB5.out.ox 10
    go_wp2_with fail
    refine HP1.out.mono ?_
    rintro e v1 ⟨F, hF, rfl, D1⟩
    have HD1 := keepH (HB5.out.on D1)
    obtain ⟨so, hso⟩ : ∃ s, s = mkS (if F = 0 then opT o.k o.key o.val o.old o.hnd o.set o.rt o.ri o.keys o.lo o.hi else []) := ⟨_, rfl⟩
    rw [← hso]
    clear D1 q0 q1 q2 q3 q4 q5 q6 q7 q8 q9 q10 HP1 HPO
    by_cases hf0 : F = 0
    · have z2 : ((F : Int) == 0) = true := by rw [hf0]; rfl
      have hro : rightO o := ⟨HOK.out, by rw [← hf0, hF]; rfl⟩
      have HBC9 := keepH (HBO.out hro v1 HD1.out.bel)
      rw [show mkS (textO o) = so from by rw [hso, if_pos hf0]; rfl] at HBC9
      clear hf0 hF hso hro
      go_upto_region 8 with fail
      go_wp2_with fail
      refine HBC9.out.mono ?_
      rintro e v2 ⟨kq, kd, rfl, hKq, D2⟩
      have HD2 := keepH (HD1.out.on D2)
      have HKQ := keepH hKq
      simp only [opV]
      clear hKq D2 HBC9 HD1
      go_upto_region 9 with (first | (refine wpList_store_row rfl 28 _ _ rfl v2.heap.size #[.int .u8 (o.k : Int), .int .u64 (o.key : Int), .int .u64 (o.val : Int), .int .u64 (o.old : Int), .int .u64 (o.hnd : Int), .bool o.set, .int .i64 o.rt, .int .i64 o.ri, .slice kq o.keys.length kd, .int .u64 (o.lo : Int), .int .u64 (o.hi : Int)] rfl rfl 28 #[.int .u8 0, .int .u64 0, .int .u64 0, .int .u64 0, .int .u64 0, .bool false, .int .i64 0, .int .i64 0, .slice none 0 0, .int .u64 0, .int .u64 0] (heap_alloc_new _ _) (by kernel_rfl) rfl (by simp [Value.oneCell']) ?_) | fail)
      obtain ⟨G, hG⟩ : ∃ G, G = v2.heap.size := ⟨_, rfl⟩
      obtain ⟨v3, hv3⟩ : ∃ v3, v3 = (v2.alloc (.cells #[.int .u8 0, .int .u64 0, .int .u64 0, .int .u64 0, .int .u64 0, .bool false, .int .i64 0, .int .i64 0, .slice none 0 0, .int .u64 0, .int .u64 0] 28)).setRow v2.heap.size #[.int .u8 (o.k : Int), .int .u64 (o.key : Int), .int .u64 (o.val : Int), .int .u64 (o.old : Int), .int .u64 (o.hnd : Int), .bool o.set, .int .i64 o.rt, .int .i64 o.ri, .slice kq o.keys.length kd, .int .u64 (o.lo : Int), .int .u64 (o.hi : Int)] := ⟨_, rfl⟩
      rw [← hv3, ← hG]
      have D3 : Below v2.heap.size v2 v3 := by rw [hv3]; exact below_setRow (below_alloc _ _) (Nat.le_refl _) _
      have HG3 : Hid (v3.heap[G]? = some (.cells #[.int .u8 (o.k : Int), .int .u64 (o.key : Int), .int .u64 (o.val : Int), .int .u64 (o.old : Int), .int .u64 (o.hnd : Int), .bool o.set, .int .i64 o.rt, .int .i64 o.ri, .slice kq o.keys.length kd, .int .u64 (o.lo : Int), .int .u64 (o.hi : Int)] 28 (0, 0))) := keepH (by rw [hv3, hG]; exact setRow_heap _ _ _ _ _ _ (heap_alloc_new _ _))
      have HD3 := keepH (HD2.out.on D3)
      have HS3 := keepH (HSO.out kq kd v3 HD3.out.bel (HKQ.out.on D3))
      clear hG hv3 D3 HKQ HD2
      have q0 : v3.cell? ⟨Q, 0, none⟩ = _ := cell_of HD3.out.ox 0
      have q1 : v3.cell? ⟨Q, 1, none⟩ = _ := cell_of HD3.out.ox 1
      have q2 : v3.cell? ⟨Q, 2, none⟩ = _ := cell_of HD3.out.ox 2
      have q3 : v3.cell? ⟨Q, 3, none⟩ = _ := cell_of HD3.out.ox 3
      have q4 : v3.cell? ⟨Q, 4, none⟩ = _ := cell_of HD3.out.ox 4
      have q5 : v3.cell? ⟨Q, 5, none⟩ = _ := cell_of HD3.out.ox 5
      have q6 : v3.cell? ⟨Q, 6, none⟩ = _ := cell_of HD3.out.ox 6
      have q7 : v3.cell? ⟨Q, 7, none⟩ = _ := cell_of HD3.out.ox 7
      have q8 : v3.cell? ⟨Q, 8, none⟩ = _ := cell_of HD3.out.ox 8
      have q9 : v3.cell? ⟨Q, 9, none⟩ = _ := cell_of HD3.out.ox 9
      have q10 : v3.cell? ⟨Q, 10, none⟩ = _ := cell_of HD3.out.ox 10
      have g0 : v3.cell? ⟨G, 0, none⟩ = _ := cell_of HG3.out 0
      have g1 : v3.cell? ⟨G, 1, none⟩ = _ := cell_of HG3.out 1
      have g2 : v3.cell? ⟨G, 2, none⟩ = _ := cell_of HG3.out 2
      have g3 : v3.cell? ⟨G, 3, none⟩ = _ := cell_of HG3.out 3
      have g4 : v3.cell? ⟨G, 4, none⟩ = _ := cell_of HG3.out 4
      have g5 : v3.cell? ⟨G, 5, none⟩ = _ := cell_of HG3.out 5
      have g6 : v3.cell? ⟨G, 6, none⟩ = _ := cell_of HG3.out 6
      have g7 : v3.cell? ⟨G, 7, none⟩ = _ := cell_of HG3.out 7
      have g8 : v3.cell? ⟨G, 8, none⟩ = _ := cell_of HG3.out 8
      have g9 : v3.cell? ⟨G, 9, none⟩ = _ := cell_of HG3.out 9
      have g10 : v3.cell? ⟨G, 10, none⟩ = _ := cell_of HG3.out 10
      go_wp2_with fail
      refine HS3.out.mono ?_
      rintro e v4 ⟨rfl, D4⟩
      have HD4 := keepH (HD3.out.on D4)
      clear D4 q0 q1 q2 q3 q4 q5 q6 q7 q8 q9 q10 g0 g1 g2 g3 g4 g5 g6 g7 g8 g9 g10 HS3 HG3 HD3 HSO HBO
      have HTX := keepH (HBT.out v4 HD4.out.bel)
      go_wp2_with fail
      refine HTX.out.mono ?_
      rintro e u1 ⟨row, E, n, rfl, C1, hc⟩
      have HC1 := keepH (HD4.out.on C1)
      clear HTX HBT
      rcases hc with ⟨rfl, hn0, rfl⟩ | ⟨rfl, ce9, sl9, st9, mu9, ts9, ps9, tp9, tc9, pp9, pc9, rfl, hT9, hP9, hpc9, hz9, hr9, hx9⟩
      · have n1 : (n : Int) > 0 := by omega
        clear C1
        go_upto_region 12 with (first | (refine wpList_store_row rfl 46 _ _ rfl u1.heap.size (#[.int .i64 0, .int .i64 0, .int .u64 0, .int .i64 0, .slice none 0 0, .slice none 0 0]) rfl rfl 46 (#[.int .i64 0, .int .i64 0, .int .u64 0, .int .i64 0, .slice none 0 0, .slice none 0 0]) (heap_alloc_new _ _) (by kernel_rfl) rfl (by simp [Value.oneCell']) ?_) | fail)
        obtain ⟨u2, hu2⟩ : ∃ u2, u2 = (u1.alloc (.cells (#[.int .i64 0, .int .i64 0, .int .u64 0, .int .i64 0, .slice none 0 0, .slice none 0 0]) 46)).setRow u1.heap.size (#[.int .i64 0, .int .i64 0, .int .u64 0, .int .i64 0, .slice none 0 0, .slice none 0 0]) := ⟨_, rfl⟩
        rw [← hu2]
        have C2 : Below u1.heap.size u1 u2 := by rw [hu2]; exact below_setRow (below_alloc _ _) (Nat.le_refl _) _
        have HC2 := keepH (HC1.out.on C2)
        have HL2 := keepH (HLV.out u2 HC2.out.bel)
        clear hu2 hn0 HC1 C2
        go_wp2_with fail
        refine HL2.out.mono ?_
        rintro e u3 ⟨rfl, C3⟩
        have HC3 := keepH (HC2.out.on C3)
        have HR3 := keepH (HRT.out u3 HC3.out.bel)
        clear C3 HL2 HC2
        have p0 : u3.cell? ⟨P, 0, none⟩ = _ := cell_of HC3.out.bx 0
        have p1 : u3.cell? ⟨P, 1, none⟩ = _ := cell_of HC3.out.bx 1
        have p2 : u3.cell? ⟨P, 2, none⟩ = _ := cell_of HC3.out.bx 2
        have p3 : u3.cell? ⟨P, 3, none⟩ = _ := cell_of HC3.out.bx 3
        have p4 : u3.cell? ⟨P, 4, none⟩ = _ := cell_of HC3.out.bx 4
        have p5 : u3.cell? ⟨P, 5, none⟩ = _ := cell_of HC3.out.bx 5
        go_wp2_with fail
        refine HR3.out.mono ?_
        rintro e u4 ⟨rfl, C4⟩
        have HC4 := keepH (HC3.out.on C4)
        clear C4 p0 p1 p2 p3 p4 p5
        go_wp2_with fail
        go_ret
        exact ⟨rfl, HC4.out.bel⟩
      · obtain ⟨tn9, htn9⟩ : ∃ v, v = ts9.length := ⟨_, rfl⟩
        obtain ⟨pn9, hpn9⟩ : ∃ v, v = ps9.length := ⟨_, rfl⟩
        have HPX := keepH (fun w (hb : Below u1.heap.size u1 w) => HPB.out ce9 sl9 st9 mu9 ts9 ps9 hz9 hr9 hx9 tp9 tc9 pp9 pc9 w (below_chain HC1.out.bel hb) (hT9.on hb) (hP9.on hb) hpc9)
        rw [← htn9, ← hpn9] at HPX ⊢
        clear C1 htn9 hpn9 hT9 hP9 hpc9 hz9 hr9 hx9
        go_upto_region 12 with (first | (refine wpList_store_row rfl 46 _ _ rfl u1.heap.size (scR ce9 sl9 st9 mu9 (.slice tp9 tn9 tc9) (.slice pp9 pn9 pc9)) rfl rfl 46 (#[.int .i64 0, .int .i64 0, .int .u64 0, .int .i64 0, .slice none 0 0, .slice none 0 0]) (heap_alloc_new _ _) (by kernel_rfl) rfl (by simp [Value.oneCell']) ?_) | fail)
        obtain ⟨D, hD⟩ : ∃ D, D = u1.heap.size := ⟨_, rfl⟩
        obtain ⟨u2, hu2⟩ : ∃ u2, u2 = (u1.alloc (.cells (#[.int .i64 0, .int .i64 0, .int .u64 0, .int .i64 0, .slice none 0 0, .slice none 0 0]) 46)).setRow u1.heap.size (scR ce9 sl9 st9 mu9 (.slice tp9 tn9 tc9) (.slice pp9 pn9 pc9)) := ⟨_, rfl⟩
        rw [← hu2, ← hD]
        have C2 : Below u1.heap.size u1 u2 := by rw [hu2]; exact below_setRow (below_alloc _ _) (Nat.le_refl _) _
        have HD2 : Hid (u2.heap[D]? = some (.cells (scR ce9 sl9 st9 mu9 (.slice tp9 tn9 tc9) (.slice pp9 pn9 pc9)) 46 (0, 0))) := keepH (by rw [hu2, hD]; exact setRow_heap _ _ _ _ _ _ (heap_alloc_new _ _))
        have HC2 := keepH (HC1.out.on C2)
        have HX2 := keepH (HPX.out u2 C2)
        clear hu2 hD C2 HPX HC1
        have d0 : u2.cell? ⟨D, 0, none⟩ = _ := cell_of HD2.out 0
        have d1 : u2.cell? ⟨D, 1, none⟩ = _ := cell_of HD2.out 1
        have d2 : u2.cell? ⟨D, 2, none⟩ = _ := cell_of HD2.out 2
        have d3 : u2.cell? ⟨D, 3, none⟩ = _ := cell_of HD2.out 3
        have d4 : u2.cell? ⟨D, 4, none⟩ = _ := cell_of HD2.out 4
        have d5 : u2.cell? ⟨D, 5, none⟩ = _ := cell_of HD2.out 5
        go_wp2_with fail
        refine HX2.out.mono ?_
        rintro e u3 ⟨rfl, C3⟩
        have HC3 := keepH (HC2.out.on C3)
        have HL3 := keepH (HLV.out u3 HC3.out.bel)
        clear C3 HX2 HC2 HD2 d0 d1 d2 d3 d4 d5
        go_wp2_with fail
        refine HL3.out.mono ?_
        rintro e u4 ⟨rfl, C4⟩
        have HC4 := keepH (HC3.out.on C4)
        clear C4
        go_wp2_with fail
        go_ret
        exact ⟨rfl, HC4.out.bel⟩
    · have z2 : ((F : Int) == 0) = false := by simp; omega
      clear hf0 hF hso
      have HTX := keepH (HBT.out v1 HD1.out.bel)
      go_wp2_with fail
      refine HTX.out.mono ?_
      rintro e u1 ⟨row, E, n, rfl, C1, hc⟩
      have HC1 := keepH (HD1.out.on C1)
      clear HTX HBT
      rcases hc with ⟨rfl, hn0, rfl⟩ | ⟨rfl, ce9, sl9, st9, mu9, ts9, ps9, tp9, tc9, pp9, pc9, rfl, hT9, hP9, hpc9, hz9, hr9, hx9⟩
      · have n1 : (n : Int) > 0 := by omega
        clear C1
        go_upto_region 12 with (first | (refine wpList_store_row rfl 46 _ _ rfl u1.heap.size (#[.int .i64 0, .int .i64 0, .int .u64 0, .int .i64 0, .slice none 0 0, .slice none 0 0]) rfl rfl 46 (#[.int .i64 0, .int .i64 0, .int .u64 0, .int .i64 0, .slice none 0 0, .slice none 0 0]) (heap_alloc_new _ _) (by kernel_rfl) rfl (by simp [Value.oneCell']) ?_) | fail)
        obtain ⟨u2, hu2⟩ : ∃ u2, u2 = (u1.alloc (.cells (#[.int .i64 0, .int .i64 0, .int .u64 0, .int .i64 0, .slice none 0 0, .slice none 0 0]) 46)).setRow u1.heap.size (#[.int .i64 0, .int .i64 0, .int .u64 0, .int .i64 0, .slice none 0 0, .slice none 0 0]) := ⟨_, rfl⟩
        rw [← hu2]
        have C2 : Below u1.heap.size u1 u2 := by rw [hu2]; exact below_setRow (below_alloc _ _) (Nat.le_refl _) _
        have HC2 := keepH (HC1.out.on C2)
        have HL2 := keepH (HLV.out u2 HC2.out.bel)
        clear hu2 hn0 HC1 C2
        go_wp2_with fail
        refine HL2.out.mono ?_
        rintro e u3 ⟨rfl, C3⟩
        have HC3 := keepH (HC2.out.on C3)
        have HR3 := keepH (HRT.out u3 HC3.out.bel)
        clear C3 HL2 HC2
        have p0 : u3.cell? ⟨P, 0, none⟩ = _ := cell_of HC3.out.bx 0
        have p1 : u3.cell? ⟨P, 1, none⟩ = _ := cell_of HC3.out.bx 1
        have p2 : u3.cell? ⟨P, 2, none⟩ = _ := cell_of HC3.out.bx 2
        have p3 : u3.cell? ⟨P, 3, none⟩ = _ := cell_of HC3.out.bx 3
        have p4 : u3.cell? ⟨P, 4, none⟩ = _ := cell_of HC3.out.bx 4
        have p5 : u3.cell? ⟨P, 5, none⟩ = _ := cell_of HC3.out.bx 5
        go_wp2_with fail
        refine HR3.out.mono ?_
        rintro e u4 ⟨rfl, C4⟩
        have HC4 := keepH (HC3.out.on C4)
        clear C4 p0 p1 p2 p3 p4 p5
        go_wp2_with fail
        go_ret
        exact ⟨rfl, HC4.out.bel⟩
      · obtain ⟨tn9, htn9⟩ : ∃ v, v = ts9.length := ⟨_, rfl⟩
        obtain ⟨pn9, hpn9⟩ : ∃ v, v = ps9.length := ⟨_, rfl⟩
        have HPX := keepH (fun w (hb : Below u1.heap.size u1 w) => HPB.out ce9 sl9 st9 mu9 ts9 ps9 hz9 hr9 hx9 tp9 tc9 pp9 pc9 w (below_chain HC1.out.bel hb) (hT9.on hb) (hP9.on hb) hpc9)
        rw [← htn9, ← hpn9] at HPX ⊢
        clear C1 htn9 hpn9 hT9 hP9 hpc9 hz9 hr9 hx9
        go_upto_region 12 with (first | (refine wpList_store_row rfl 46 _ _ rfl u1.heap.size (scR ce9 sl9 st9 mu9 (.slice tp9 tn9 tc9) (.slice pp9 pn9 pc9)) rfl rfl 46 (#[.int .i64 0, .int .i64 0, .int .u64 0, .int .i64 0, .slice none 0 0, .slice none 0 0]) (heap_alloc_new _ _) (by kernel_rfl) rfl (by simp [Value.oneCell']) ?_) | fail)
        obtain ⟨D, hD⟩ : ∃ D, D = u1.heap.size := ⟨_, rfl⟩
        obtain ⟨u2, hu2⟩ : ∃ u2, u2 = (u1.alloc (.cells (#[.int .i64 0, .int .i64 0, .int .u64 0, .int .i64 0, .slice none 0 0, .slice none 0 0]) 46)).setRow u1.heap.size (scR ce9 sl9 st9 mu9 (.slice tp9 tn9 tc9) (.slice pp9 pn9 pc9)) := ⟨_, rfl⟩
        rw [← hu2, ← hD]
        have C2 : Below u1.heap.size u1 u2 := by rw [hu2]; exact below_setRow (below_alloc _ _) (Nat.le_refl _) _
        have HD2 : Hid (u2.heap[D]? = some (.cells (scR ce9 sl9 st9 mu9 (.slice tp9 tn9 tc9) (.slice pp9 pn9 pc9)) 46 (0, 0))) := keepH (by rw [hu2, hD]; exact setRow_heap _ _ _ _ _ _ (heap_alloc_new _ _))
        have HC2 := keepH (HC1.out.on C2)
        have HX2 := keepH (HPX.out u2 C2)
        clear hu2 hD C2 HPX HC1
        have d0 : u2.cell? ⟨D, 0, none⟩ = _ := cell_of HD2.out 0
        have d1 : u2.cell? ⟨D, 1, none⟩ = _ := cell_of HD2.out 1
        have d2 : u2.cell? ⟨D, 2, none⟩ = _ := cell_of HD2.out 2
        have d3 : u2.cell? ⟨D, 3, none⟩ = _ := cell_of HD2.out 3
        have d4 : u2.cell? ⟨D, 4, none⟩ = _ := cell_of HD2.out 4
        have d5 : u2.cell? ⟨D, 5, none⟩ = _ := cell_of HD2.out 5
        go_wp2_with fail
        refine HX2.out.mono ?_
        rintro e u3 ⟨rfl, C3⟩
        have HC3 := keepH (HC2.out.on C3)
        have HL3 := keepH (HLV.out u3 HC3.out.bel)
        clear C3 HX2 HC2 HD2 d0 d1 d2 d3 d4 d5
        go_wp2_with fail
        refine HL3.out.mono ?_
        rintro e u4 ⟨rfl, C4⟩
        have HC4 := keepH (HC3.out.on C4)
        clear C4
        go_wp2_with fail
        go_ret
        exact ⟨rfl, HC4.out.bel⟩
  · have z1 : ((V : Int) == 0) = false := by simp; omega
    clear hv
    have HP1 := keepH (HPO.out w2 HB2.out.bel)
    have q0 : w2.cell? ⟨Q, 0, none⟩ = _ := cell_of HB2.out.ox 0
    have q1 : w2.cell? ⟨Q, 1, none⟩ = _ := cell_of HB2.out.ox 1
    have q2 : w2.cell? ⟨Q, 2, none⟩ = _ := cell_of HB2.out.ox 2
    have q3 : w2.cell? ⟨Q, 3, none⟩ = _ := cell_of HB2.out.ox 3
    have q4 : w2.cell? ⟨Q, 4, none⟩ = _ := cell_of HB2.out.ox 4
    have q5 : w2.cell? ⟨Q, 5, none⟩ = _ := cell_of HB2.out.ox 5
    have q6 : w2.cell? ⟨Q, 6, none⟩ = _ := cell_of HB2.out.ox 6
    have q7 : w2.cell? ⟨Q, 7, none⟩ = _ := cell_of HB2.out.ox 7
    have q8 : w2.cell? ⟨Q, 8, none⟩ = _ := cell_of HB2.out.ox 8
    have q9 : w2.cell? ⟨Q, 9, none⟩ = _ := cell_of HB2.out.ox 9
    have q10 : w2.cell? ⟨Q, 10, none⟩ = _ := cell_of HB2.out.ox 10
    go_wp2_with fail
    refine HP1.out.mono ?_
    rintro e v1 ⟨F, hF, rfl, D1⟩
    have HD1 := keepH (HB2.out.on D1)
    obtain ⟨so, hso⟩ : ∃ s, s = mkS (if F = 0 then opT o.k o.key o.val o.old o.hnd o.set o.rt o.ri o.keys o.lo o.hi else []) := ⟨_, rfl⟩
    rw [← hso]
    clear D1 q0 q1 q2 q3 q4 q5 q6 q7 q8 q9 q10 HP1 HPO
    by_cases hf0 : F = 0
    · have z2 : ((F : Int) == 0) = true := by rw [hf0]; rfl
      have hro : rightO o := ⟨HOK.out, by rw [← hf0, hF]; rfl⟩
      have HBC9 := keepH (HBO.out hro v1 HD1.out.bel)
      rw [show mkS (textO o) = so from by rw [hso, if_pos hf0]; rfl] at HBC9
      clear hf0 hF hso hro
      go_upto_region 8 with fail
      go_wp2_with fail
      refine HBC9.out.mono ?_
      rintro e v2 ⟨kq, kd, rfl, hKq, D2⟩
      have HD2 := keepH (HD1.out.on D2)
      have HKQ := keepH hKq
      simp only [opV]
      clear hKq D2 HBC9 HD1
      go_upto_region 9 with (first | (refine wpList_store_row rfl 28 _ _ rfl v2.heap.size #[.int .u8 (o.k : Int), .int .u64 (o.key : Int), .int .u64 (o.val : Int), .int .u64 (o.old : Int), .int .u64 (o.hnd : Int), .bool o.set, .int .i64 o.rt, .int .i64 o.ri, .slice kq o.keys.length kd, .int .u64 (o.lo : Int), .int .u64 (o.hi : Int)] rfl rfl 28 #[.int .u8 0, .int .u64 0, .int .u64 0, .int .u64 0, .int .u64 0, .bool false, .int .i64 0, .int .i64 0, .slice none 0 0, .int .u64 0, .int .u64 0] (heap_alloc_new _ _) (by kernel_rfl) rfl (by simp [Value.oneCell']) ?_) | fail)
      obtain ⟨G, hG⟩ : ∃ G, G = v2.heap.size := ⟨_, rfl⟩
      obtain ⟨v3, hv3⟩ : ∃ v3, v3 = (v2.alloc (.cells #[.int .u8 0, .int .u64 0, .int .u64 0, .int .u64 0, .int .u64 0, .bool false, .int .i64 0, .int .i64 0, .slice none 0 0, .int .u64 0, .int .u64 0] 28)).setRow v2.heap.size #[.int .u8 (o.k : Int), .int .u64 (o.key : Int), .int .u64 (o.val : Int), .int .u64 (o.old : Int), .int .u64 (o.hnd : Int), .bool o.set, .int .i64 o.rt, .int .i64 o.ri, .slice kq o.keys.length kd, .int .u64 (o.lo : Int), .int .u64 (o.hi : Int)] := ⟨_, rfl⟩
      rw [← hv3, ← hG]
      have D3 : Below v2.heap.size v2 v3 := by rw [hv3]; exact below_setRow (below_alloc _ _) (Nat.le_refl _) _
      have HG3 : Hid (v3.heap[G]? = some (.cells #[.int .u8 (o.k : Int), .int .u64 (o.key : Int), .int .u64 (o.val : Int), .int .u64 (o.old : Int), .int .u64 (o.hnd : Int), .bool o.set, .int .i64 o.rt, .int .i64 o.ri, .slice kq o.keys.length kd, .int .u64 (o.lo : Int), .int .u64 (o.hi : Int)] 28 (0, 0))) := keepH (by rw [hv3, hG]; exact setRow_heap _ _ _ _ _ _ (heap_alloc_new _ _))
      have HD3 := keepH (HD2.out.on D3)
      have HS3 := keepH (HSO.out kq kd v3 HD3.out.bel (HKQ.out.on D3))
      clear hG hv3 D3 HKQ HD2
      have q0 : v3.cell? ⟨Q, 0, none⟩ = _ := cell_of HD3.out.ox 0
      have q1 : v3.cell? ⟨Q, 1, none⟩ = _ := cell_of HD3.out.ox 1
      have q2 : v3.cell? ⟨Q, 2, none⟩ = _ := cell_of HD3.out.ox 2
      have q3 : v3.cell? ⟨Q, 3, none⟩ = _ := cell_of HD3.out.ox 3
      have q4 : v3.cell? ⟨Q, 4, none⟩ = _ := cell_of HD3.out.ox 4
      have q5 : v3.cell? ⟨Q, 5, none⟩ = _ := cell_of HD3.out.ox 5
      have q6 : v3.cell? ⟨Q, 6, none⟩ = _ := cell_of HD3.out.ox 6
      have q7 : v3.cell? ⟨Q, 7, none⟩ = _ := cell_of HD3.out.ox 7
      have q8 : v3.cell? ⟨Q, 8, none⟩ = _ := cell_of HD3.out.ox 8
      have q9 : v3.cell? ⟨Q, 9, none⟩ = _ := cell_of HD3.out.ox 9
      have q10 : v3.cell? ⟨Q, 10, none⟩ = _ := cell_of HD3.out.ox 10
      have g0 : v3.cell? ⟨G, 0, none⟩ = _ := cell_of HG3.out 0
      have g1 : v3.cell? ⟨G, 1, none⟩ = _ := cell_of HG3.out 1
      have g2 : v3.cell? ⟨G, 2, none⟩ = _ := cell_of HG3.out 2
      have g3 : v3.cell? ⟨G, 3, none⟩ = _ := cell_of HG3.out 3
      have g4 : v3.cell? ⟨G, 4, none⟩ = _ := cell_of HG3.out 4
      have g5 : v3.cell? ⟨G, 5, none⟩ = _ := cell_of HG3.out 5
      have g6 : v3.cell? ⟨G, 6, none⟩ = _ := cell_of HG3.out 6
      have g7 : v3.cell? ⟨G, 7, none⟩ = _ := cell_of HG3.out 7
      have g8 : v3.cell? ⟨G, 8, none⟩ = _ := cell_of HG3.out 8
      have g9 : v3.cell? ⟨G, 9, none⟩ = _ := cell_of HG3.out 9
      have g10 : v3.cell? ⟨G, 10, none⟩ = _ := cell_of HG3.out 10
      go_wp2_with fail
      refine HS3.out.mono ?_
      rintro e v4 ⟨rfl, D4⟩
      have HD4 := keepH (HD3.out.on D4)
      clear D4 q0 q1 q2 q3 q4 q5 q6 q7 q8 q9 q10 g0 g1 g2 g3 g4 g5 g6 g7 g8 g9 g10 HS3 HG3 HD3 HSO HBO
      have HTX := keepH (HBT.out v4 HD4.out.bel)
      go_wp2_with fail
      refine HTX.out.mono ?_
      rintro e u1 ⟨row, E, n, rfl, C1, hc⟩
      have HC1 := keepH (HD4.out.on C1)
      clear HTX HBT
      rcases hc with ⟨rfl, hn0, rfl⟩ | ⟨rfl, ce9, sl9, st9, mu9, ts9, ps9, tp9, tc9, pp9, pc9, rfl, hT9, hP9, hpc9, hz9, hr9, hx9⟩
      · have n1 : (n : Int) > 0 := by omega
        clear C1
        go_upto_region 12 with (first | (refine wpList_store_row rfl 46 _ _ rfl u1.heap.size (#[.int .i64 0, .int .i64 0, .int .u64 0, .int .i64 0, .slice none 0 0, .slice none 0 0]) rfl rfl 46 (#[.int .i64 0, .int .i64 0, .int .u64 0, .int .i64 0, .slice none 0 0, .slice none 0 0]) (heap_alloc_new _ _) (by kernel_rfl) rfl (by simp [Value.oneCell']) ?_) | fail)
        obtain ⟨u2, hu2⟩ : ∃ u2, u2 = (u1.alloc (.cells (#[.int .i64 0, .int .i64 0, .int .u64 0, .int .i64 0, .slice none 0 0, .slice none 0 0]) 46)).setRow u1.heap.size (#[.int .i64 0, .int .i64 0, .int .u64 0, .int .i64 0, .slice none 0 0, .slice none 0 0]) := ⟨_, rfl⟩
        rw [← hu2]
        have C2 : Below u1.heap.size u1 u2 := by rw [hu2]; exact below_setRow (below_alloc _ _) (Nat.le_refl _) _
        have HC2 := keepH (HC1.out.on C2)
        have HL2 := keepH (HLV.out u2 HC2.out.bel)
        clear hu2 hn0 HC1 C2
        go_wp2_with fail
        refine HL2.out.mono ?_
        rintro e u3 ⟨rfl, C3⟩
        have HC3 := keepH (HC2.out.on C3)
        have HR3 := keepH (HRT.out u3 HC3.out.bel)
        clear C3 HL2 HC2
        have p0 : u3.cell? ⟨P, 0, none⟩ = _ := cell_of HC3.out.bx 0
        have p1 : u3.cell? ⟨P, 1, none⟩ = _ := cell_of HC3.out.bx 1
        have p2 : u3.cell? ⟨P, 2, none⟩ = _ := cell_of HC3.out.bx 2
        have p3 : u3.cell? ⟨P, 3, none⟩ = _ := cell_of HC3.out.bx 3
        have p4 : u3.cell? ⟨P, 4, none⟩ = _ := cell_of HC3.out.bx 4
        have p5 : u3.cell? ⟨P, 5, none⟩ = _ := cell_of HC3.out.bx 5
        go_wp2_with fail
        refine HR3.out.mono ?_
        rintro e u4 ⟨rfl, C4⟩
        have HC4 := keepH (HC3.out.on C4)
        clear C4 p0 p1 p2 p3 p4 p5
        go_wp2_with fail
        go_ret
        exact ⟨rfl, HC4.out.bel⟩
      · obtain ⟨tn9, htn9⟩ : ∃ v, v = ts9.length := ⟨_, rfl⟩
        obtain ⟨pn9, hpn9⟩ : ∃ v, v = ps9.length := ⟨_, rfl⟩
        have HPX := keepH (fun w (hb : Below u1.heap.size u1 w) => HPB.out ce9 sl9 st9 mu9 ts9 ps9 hz9 hr9 hx9 tp9 tc9 pp9 pc9 w (below_chain HC1.out.bel hb) (hT9.on hb) (hP9.on hb) hpc9)
        rw [← htn9, ← hpn9] at HPX ⊢
        clear C1 htn9 hpn9 hT9 hP9 hpc9 hz9 hr9 hx9
        go_upto_region 12 with (first | (refine wpList_store_row rfl 46 _ _ rfl u1.heap.size (scR ce9 sl9 st9 mu9 (.slice tp9 tn9 tc9) (.slice pp9 pn9 pc9)) rfl rfl 46 (#[.int .i64 0, .int .i64 0, .int .u64 0, .int .i64 0, .slice none 0 0, .slice none 0 0]) (heap_alloc_new _ _) (by kernel_rfl) rfl (by simp [Value.oneCell']) ?_) | fail)
        obtain ⟨D, hD⟩ : ∃ D, D = u1.heap.size := ⟨_, rfl⟩
        obtain ⟨u2, hu2⟩ : ∃ u2, u2 = (u1.alloc (.cells (#[.int .i64 0, .int .i64 0, .int .u64 0, .int .i64 0, .slice none 0 0, .slice none 0 0]) 46)).setRow u1.heap.size (scR ce9 sl9 st9 mu9 (.slice tp9 tn9 tc9) (.slice pp9 pn9 pc9)) := ⟨_, rfl⟩
        rw [← hu2, ← hD]
        have C2 : Below u1.heap.size u1 u2 := by rw [hu2]; exact below_setRow (below_alloc _ _) (Nat.le_refl _) _
        have HD2 : Hid (u2.heap[D]? = some (.cells (scR ce9 sl9 st9 mu9 (.slice tp9 tn9 tc9) (.slice pp9 pn9 pc9)) 46 (0, 0))) := keepH (by rw [hu2, hD]; exact setRow_heap _ _ _ _ _ _ (heap_alloc_new _ _))
        have HC2 := keepH (HC1.out.on C2)
        have HX2 := keepH (HPX.out u2 C2)
        clear hu2 hD C2 HPX HC1
        have d0 : u2.cell? ⟨D, 0, none⟩ = _ := cell_of HD2.out 0
        have d1 : u2.cell? ⟨D, 1, none⟩ = _ := cell_of HD2.out 1
        have d2 : u2.cell? ⟨D, 2, none⟩ = _ := cell_of HD2.out 2
        have d3 : u2.cell? ⟨D, 3, none⟩ = _ := cell_of HD2.out 3
        have d4 : u2.cell? ⟨D, 4, none⟩ = _ := cell_of HD2.out 4
        have d5 : u2.cell? ⟨D, 5, none⟩ = _ := cell_of HD2.out 5
        go_wp2_with fail
        refine HX2.out.mono ?_
        rintro e u3 ⟨rfl, C3⟩
        have HC3 := keepH (HC2.out.on C3)
        have HL3 := keepH (HLV.out u3 HC3.out.bel)
        clear C3 HX2 HC2 HD2 d0 d1 d2 d3 d4 d5
        go_wp2_with fail
        refine HL3.out.mono ?_
        rintro e u4 ⟨rfl, C4⟩
        have HC4 := keepH (HC3.out.on C4)
        clear C4
        go_wp2_with fail
        go_ret
        exact ⟨rfl, HC4.out.bel⟩
    · have z2 : ((F : Int) == 0) = false := by simp; omega
      clear hf0 hF hso
      have HTX := keepH (HBT.out v1 HD1.out.bel)
      go_wp2_with fail
      refine HTX.out.mono ?_
      rintro e u1 ⟨row, E, n, rfl, C1, hc⟩
      have HC1 := keepH (HD1.out.on C1)
      clear HTX HBT
      rcases hc with ⟨rfl, hn0, rfl⟩ | ⟨rfl, ce9, sl9, st9, mu9, ts9, ps9, tp9, tc9, pp9, pc9, rfl, hT9, hP9, hpc9, hz9, hr9, hx9⟩
      · have n1 : (n : Int) > 0 := by omega
        clear C1
        go_upto_region 12 with (first | (refine wpList_store_row rfl 46 _ _ rfl u1.heap.size (#[.int .i64 0, .int .i64 0, .int .u64 0, .int .i64 0, .slice none 0 0, .slice none 0 0]) rfl rfl 46 (#[.int .i64 0, .int .i64 0, .int .u64 0, .int .i64 0, .slice none 0 0, .slice none 0 0]) (heap_alloc_new _ _) (by kernel_rfl) rfl (by simp [Value.oneCell']) ?_) | fail)
        obtain ⟨u2, hu2⟩ : ∃ u2, u2 = (u1.alloc (.cells (#[.int .i64 0, .int .i64 0, .int .u64 0, .int .i64 0, .slice none 0 0, .slice none 0 0]) 46)).setRow u1.heap.size (#[.int .i64 0, .int .i64 0, .int .u64 0, .int .i64 0, .slice none 0 0, .slice none 0 0]) := ⟨_, rfl⟩
        rw [← hu2]
        have C2 : Below u1.heap.size u1 u2 := by rw [hu2]; exact below_setRow (below_alloc _ _) (Nat.le_refl _) _
        have HC2 := keepH (HC1.out.on C2)
        have HL2 := keepH (HLV.out u2 HC2.out.bel)
        clear hu2 hn0 HC1 C2
        go_wp2_with fail
        refine HL2.out.mono ?_
        rintro e u3 ⟨rfl, C3⟩
        have HC3 := keepH (HC2.out.on C3)
        have HR3 := keepH (HRT.out u3 HC3.out.bel)
        clear C3 HL2 HC2
        have p0 : u3.cell? ⟨P, 0, none⟩ = _ := cell_of HC3.out.bx 0
        have p1 : u3.cell? ⟨P, 1, none⟩ = _ := cell_of HC3.out.bx 1
        have p2 : u3.cell? ⟨P, 2, none⟩ = _ := cell_of HC3.out.bx 2
        have p3 : u3.cell? ⟨P, 3, none⟩ = _ := cell_of HC3.out.bx 3
        have p4 : u3.cell? ⟨P, 4, none⟩ = _ := cell_of HC3.out.bx 4
        have p5 : u3.cell? ⟨P, 5, none⟩ = _ := cell_of HC3.out.bx 5
        go_wp2_with fail
        refine HR3.out.mono ?_
        rintro e u4 ⟨rfl, C4⟩
        have HC4 := keepH (HC3.out.on C4)
        clear C4 p0 p1 p2 p3 p4 p5
        go_wp2_with fail
        go_ret
        exact ⟨rfl, HC4.out.bel⟩
      · obtain ⟨tn9, htn9⟩ : ∃ v, v = ts9.length := ⟨_, rfl⟩
        obtain ⟨pn9, hpn9⟩ : ∃ v, v = ps9.length := ⟨_, rfl⟩
        have HPX := keepH (fun w (hb : Below u1.heap.size u1 w) => HPB.out ce9 sl9 st9 mu9 ts9 ps9 hz9 hr9 hx9 tp9 tc9 pp9 pc9 w (below_chain HC1.out.bel hb) (hT9.on hb) (hP9.on hb) hpc9)
        rw [← htn9, ← hpn9] at HPX ⊢
        clear C1 htn9 hpn9 hT9 hP9 hpc9 hz9 hr9 hx9
        go_upto_region 12 with (first | (refine wpList_store_row rfl 46 _ _ rfl u1.heap.size (scR ce9 sl9 st9 mu9 (.slice tp9 tn9 tc9) (.slice pp9 pn9 pc9)) rfl rfl 46 (#[.int .i64 0, .int .i64 0, .int .u64 0, .int .i64 0, .slice none 0 0, .slice none 0 0]) (heap_alloc_new _ _) (by kernel_rfl) rfl (by simp [Value.oneCell']) ?_) | fail)
        obtain ⟨D, hD⟩ : ∃ D, D = u1.heap.size := ⟨_, rfl⟩
        obtain ⟨u2, hu2⟩ : ∃ u2, u2 = (u1.alloc (.cells (#[.int .i64 0, .int .i64 0, .int .u64 0, .int .i64 0, .slice none 0 0, .slice none 0 0]) 46)).setRow u1.heap.size (scR ce9 sl9 st9 mu9 (.slice tp9 tn9 tc9) (.slice pp9 pn9 pc9)) := ⟨_, rfl⟩
        rw [← hu2, ← hD]
        have C2 : Below u1.heap.size u1 u2 := by rw [hu2]; exact below_setRow (below_alloc _ _) (Nat.le_refl _) _
        have HD2 : Hid (u2.heap[D]? = some (.cells (scR ce9 sl9 st9 mu9 (.slice tp9 tn9 tc9) (.slice pp9 pn9 pc9)) 46 (0, 0))) := keepH (by rw [hu2, hD]; exact setRow_heap _ _ _ _ _ _ (heap_alloc_new _ _))
        have HC2 := keepH (HC1.out.on C2)
        have HX2 := keepH (HPX.out u2 C2)
        clear hu2 hD C2 HPX HC1
        have d0 : u2.cell? ⟨D, 0, none⟩ = _ := cell_of HD2.out 0
        have d1 : u2.cell? ⟨D, 1, none⟩ = _ := cell_of HD2.out 1
        have d2 : u2.cell? ⟨D, 2, none⟩ = _ := cell_of HD2.out 2
        have d3 : u2.cell? ⟨D, 3, none⟩ = _ := cell_of HD2.out 3
        have d4 : u2.cell? ⟨D, 4, none⟩ = _ := cell_of HD2.out 4
        have d5 : u2.cell? ⟨D, 5, none⟩ = _ := cell_of HD2.out 5
        go_wp2_with fail
        refine HX2.out.mono ?_
        rintro e u3 ⟨rfl, C3⟩
        have HC3 := keepH (HC2.out.on C3)
        have HL3 := keepH (HLV.out u3 HC3.out.bel)
        clear C3 HX2 HC2 HD2 d0 d1 d2 d3 d4 d5
        go_wp2_with fail
        refine HL3.out.mono ?_
        rintro e u4 ⟨rfl, C4⟩
        have HC4 := keepH (HC3.out.on C4)
        clear C4
        go_wp2_with fail
        go_ret
        exact ⟨rfl, HC4.out.bel⟩
end Go.Proofs.YtmmaniolaljjlaaGreatDoor
