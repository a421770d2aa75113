/- What a view's accesses do. -/
import Derived.Test.YtjodechhnobkhaaGreatDoorCount
namespace Go.Proofs.YtjodechhnobkhaaGreatDoor
open Go.RowKit Go.Shelf

theorem Goes.thenV {W W1 W2 : World} {F F1 F2 : Nat → Prop} {v : Nat} (h : Goes W W1 F F1) (k : GoesV W1 W2 F1 F2 v) : GoesV W W2 F F2 v :=
  ⟨h.chg.trans k.chg (fun _ _ x => .inl x) (fun i hi x => x.elim (fun y => .inl ((h.new i y).resolve_right (by omega))) .inr), fun i x => (k.new i x).elim (h.new i) (fun y => .inr (Nat.le_trans h.chg.size y))⟩
theorem Goes.out {W W1 : World} {F F1 : Nat → Prop} {v : Nat} (h : Goes W W1 F F1) (hv : v < W.heap.size) (hn : ¬ F v) : ¬ F1 v := fun x => (h.new v x).elim hn (fun y => by omega)
theorem GoesV.trans {W W1 W2 : World} {F F1 F2 : Nat → Prop} {v : Nat} (h : GoesV W W1 F F1 v) (k : GoesV W1 W2 F1 F2 v) : GoesV W W2 F F2 v :=
  ⟨h.chg.trans k.chg (fun _ _ x => x) (fun i hi x => x.elim (fun y => .inl ((h.new i y).resolve_right (by omega))) .inr), fun i x => (k.new i x).elim (h.new i) (fun y => .inr (Nat.le_trans h.chg.size y))⟩
theorem GoesV.out {W W1 : World} {F F1 : Nat → Prop} {v u : Nat} (h : GoesV W W1 F F1 u) (hv : v < W.heap.size) (hn : ¬ F v) : ¬ F1 v := fun x => (h.new v x).elim hn (fun y => by omega)

set_option maxRecDepth 100000 in
theorem v_load (v b most next made : Nat) (th : Int) (addr : Nat) (F : Nat → Prop) (cs : List Nat) (l : List Acc) (W : World) (hw : IsView W v b th made) (h : Bank W F b most next cs l) (hnv : ¬ F v) (hmd : made < 1099511627776) (hl : l.length < 1099511627776) (ha : addr < 18446744073709551616) :
    Calls Tryz.prog 52 #[.pointer (some ⟨v, 0, none⟩), .int .u64 (addr : Int)] W fun e W' => e = .returned (.int .u64 (cellN cs addr : Int)) ∧ ∃ F' vs, Bank W' F' b most next cs (l ++ [⟨th, 1, addr, 0, 0, vs, [], cellN cs addr, false⟩]) ∧ IsView W' v b th (made + 1) ∧ GoesV W W' F F' v := by
  have c0 : W.cell? ⟨v, 0, none⟩ = some (.iface 111 (.pointer (some ⟨b, 0, none⟩))) := cell_of hw 0
  have q := mt_load ⟨b, 0, none⟩
  have HW := keepH hw
  have H := keepH h
  clear h hw
  go_enter Tryz.func52, Tryz.ntmps52
  go_wp2_with fail
  refine (p_load b most next addr F cs l _ H.out ha).mono ?_
  rintro e w1 ⟨rfl, rfl⟩
  have HB1 := H
  have hV1 := HW
  have hN1 := hnv
  have G1 := Goes.refl w1 F
  go_wp2_with fail
  refine (v_count v b most next made th 0 1 addr 0 0 (cellN cs addr) false none 0 [] F cs l _ HW.out HB1.out hN1 hmd (.inl rfl) (fun ad e => by simp at e) (by simp) hl).mono ?_
  rintro e w2 ⟨rfl, F2, vs, B2, V2, G2⟩
  have HB2 := keepH B2
  have HV2 := keepH V2
  clear B2 V2
  go_wp2_with fail
  go_ret
  exact ⟨by simp, F2, vs, HB2.out, HV2.out, G1.thenV G2⟩

set_option maxRecDepth 100000 in
theorem v_store (v b most next made : Nat) (th : Int) (addr value : Nat) (F : Nat → Prop) (cs : List Nat) (l : List Acc) (W : World) (hw : IsView W v b th made) (h : Bank W F b most next cs l) (hnv : ¬ F v) (hmd : made < 1099511627776) (hl : l.length < 1099511627776) (ha : addr < 18446744073709551616) (hu : value < 18446744073709551616) :
    Calls Tryz.prog 54 #[.pointer (some ⟨v, 0, none⟩), .int .u64 (addr : Int), .int .u64 (value : Int)] W fun e W' => e = .returned (.tuple #[]) ∧ ∃ F' vs, Bank W' F' b most next (stN most cs addr value) (l ++ [⟨th, 2, addr, value, 0, vs, [], 0, false⟩]) ∧ IsView W' v b th (made + 1) ∧ GoesV W W' F F' v := by
  have c0 : W.cell? ⟨v, 0, none⟩ = some (.iface 111 (.pointer (some ⟨b, 0, none⟩))) := cell_of hw 0
  have q := mt_store ⟨b, 0, none⟩
  have HW := keepH hw
  have H := keepH h
  clear h hw
  go_enter Tryz.func54, Tryz.ntmps54
  go_wp2_with fail
  refine (p_store b most next addr value F cs l _ H.out ha hu).mono ?_
  rintro e w1 ⟨rfl, F1, B1, G1⟩
  have HB1 := keepH B1
  have hV1 : Hid (IsView w1 v b th made) := HW.out.chg G1.chg hnv
  have hN1 : ¬ F1 v := G1.out HW.out.lt hnv
  clear B1
  go_wp2_with fail
  refine (v_count v b most next made th 0 2 addr value 0 0 false none 0 [] F1 (stN most cs addr value) l _ hV1.out HB1.out hN1 hmd (.inl rfl) (fun ad e => by simp at e) (by simp) hl).mono ?_
  rintro e w2 ⟨rfl, F2, vs, B2, V2, G2⟩
  have HB2 := keepH B2
  have HV2 := keepH V2
  clear B2 V2
  go_wp2_with fail
  go_end0
  exact ⟨rfl, F2, vs, HB2.out, HV2.out, G1.thenV G2⟩

set_option maxRecDepth 100000 in
theorem v_cas (v b most next made : Nat) (th : Int) (addr old now : Nat) (F : Nat → Prop) (cs : List Nat) (l : List Acc) (W : World) (hw : IsView W v b th made) (h : Bank W F b most next cs l) (hnv : ¬ F v) (hmd : made < 1099511627776) (hl : l.length < 1099511627776) (ha : addr < 18446744073709551616) (hu : now < 18446744073709551616) :
    Calls Tryz.prog 56 #[.pointer (some ⟨v, 0, none⟩), .int .u64 (addr : Int), .int .u64 (old : Int), .int .u64 (now : Int)] W fun e W' => e = .returned (.bool (casOk most cs addr old)) ∧ ∃ F' vs, Bank W' F' b most next (casN most cs addr old now) (l ++ [⟨th, 3, addr, old, now, vs, [], 0, casOk most cs addr old⟩]) ∧ IsView W' v b th (made + 1) ∧ GoesV W W' F F' v := by
  have c0 : W.cell? ⟨v, 0, none⟩ = some (.iface 111 (.pointer (some ⟨b, 0, none⟩))) := cell_of hw 0
  have q := mt_cas ⟨b, 0, none⟩
  have HW := keepH hw
  have H := keepH h
  clear h hw
  go_enter Tryz.func56, Tryz.ntmps56
  go_wp2_with fail
  refine (p_cas b most next addr old now F cs l _ H.out ha hu).mono ?_
  rintro e w1 ⟨rfl, F1, B1, G1⟩
  have HB1 := keepH B1
  have hV1 : Hid (IsView w1 v b th made) := HW.out.chg G1.chg hnv
  have hN1 : ¬ F1 v := G1.out HW.out.lt hnv
  clear B1
  go_wp2_with fail
  refine (v_count v b most next made th 0 3 addr old now 0 (casOk most cs addr old) none 0 [] F1 (casN most cs addr old now) l _ hV1.out HB1.out hN1 hmd (.inl rfl) (fun ad e => by simp at e) (by simp) hl).mono ?_
  rintro e w2 ⟨rfl, F2, vs, B2, V2, G2⟩
  have HB2 := keepH B2
  have HV2 := keepH V2
  clear B2 V2
  go_wp2_with fail
  go_ret
  exact ⟨by simp, F2, vs, HB2.out, HV2.out, G1.thenV G2⟩

set_option maxRecDepth 100000 in
theorem v_add (v b most next made : Nat) (th : Int) (addr n : Nat) (F : Nat → Prop) (cs : List Nat) (l : List Acc) (W : World) (hw : IsView W v b th made) (h : Bank W F b most next cs l) (hnv : ¬ F v) (hmd : made < 1099511627776) (hl : l.length < 1099511627776) (ha : addr < 18446744073709551616) :
    Calls Tryz.prog 58 #[.pointer (some ⟨v, 0, none⟩), .int .u64 (addr : Int), .int .u64 (n : Int)] W fun e W' => e = .returned (.int .u64 (cellN cs addr : Int)) ∧ ∃ F' vs, Bank W' F' b most next (stN most cs addr (addN (cellN cs addr) n)) (l ++ [⟨th, 4, addr, n, 0, vs, [], cellN cs addr, false⟩]) ∧ IsView W' v b th (made + 1) ∧ GoesV W W' F F' v := by
  have c0 : W.cell? ⟨v, 0, none⟩ = some (.iface 111 (.pointer (some ⟨b, 0, none⟩))) := cell_of hw 0
  have q := mt_add ⟨b, 0, none⟩
  have HW := keepH hw
  have H := keepH h
  clear h hw
  go_enter Tryz.func58, Tryz.ntmps58
  go_wp2_with fail
  refine (p_add b most next addr n F cs l _ H.out ha).mono ?_
  rintro e w1 ⟨rfl, F1, B1, G1⟩
  have HB1 := keepH B1
  have hV1 : Hid (IsView w1 v b th made) := HW.out.chg G1.chg hnv
  have hN1 : ¬ F1 v := G1.out HW.out.lt hnv
  clear B1
  go_wp2_with fail
  refine (v_count v b most next made th 0 4 addr n 0 (cellN cs addr) false none 0 [] F1 (stN most cs addr (addN (cellN cs addr) n)) l _ hV1.out HB1.out hN1 hmd (.inl rfl) (fun ad e => by simp at e) (by simp) hl).mono ?_
  rintro e w2 ⟨rfl, F2, vs, B2, V2, G2⟩
  have HB2 := keepH B2
  have HV2 := keepH V2
  clear B2 V2
  go_wp2_with fail
  go_ret
  exact ⟨by simp, F2, vs, HB2.out, HV2.out, G1.thenV G2⟩

set_option maxRecDepth 100000 in
theorem v_alloc (v b most next made : Nat) (th : Int) (p : Option Addr) (c : Nat) (vals : List Nat) (F : Nat → Prop) (cs : List Nat) (l : List Acc) (W : World) (hw : IsView W v b th made) (h : Bank W F b most next cs l) (hnv : ¬ F v) (hmd : made < 1099511627776) (hl : l.length < 1099511627776)
    (hr : Reads W p vals) (hap : ∀ ad, p = some ad → vals ≠ [] → ¬ F ad.block) (hpv : ∀ ad, p = some ad → vals ≠ [] → ad.block ≠ v) (hv : ∀ x ∈ vals, x < 18446744073709551616) (hvl : vals.length ≤ 17592186043904) :
    Calls Tryz.prog 60 #[.pointer (some ⟨v, 0, none⟩), .slice p vals.length c] W fun e W' => e = .returned (.int .u64 (alAt most next vals.length : Int)) ∧ ∃ F' vs, Bank W' F' b most (alNext most next vals.length) (alN most next cs vals) (l ++ [⟨th, 5, alAt most next vals.length, 0, 0, vs, vals, 0, false⟩]) ∧ IsView W' v b th (made + 1) ∧ GoesV W W' F F' v := by
  have c0 : W.cell? ⟨v, 0, none⟩ = some (.iface 111 (.pointer (some ⟨b, 0, none⟩))) := cell_of hw 0
  have q := mt_alloc ⟨b, 0, none⟩
  have HW := keepH hw
  have H := keepH h
  have HR := keepH hr
  clear h hw hr
  go_enter Tryz.func60, Tryz.ntmps60
  go_wp2_with fail
  refine (p_alloc b most next p c vals F cs l _ H.out HR.out hap hv).mono ?_
  rintro e w1 ⟨rfl, F1, B1, G1⟩
  have HB1 := keepH B1
  have hV1 : Hid (IsView w1 v b th made) := HW.out.chg G1.chg hnv
  have hN1 : ¬ F1 v := G1.out HW.out.lt hnv
  have HR1 : Hid (Reads w1 p vals) := HR.out.chg G1.chg hap
  clear B1
  go_wp2_with fail
  refine (v_count v b most (alNext most next vals.length) made th 0 5 (alAt most next vals.length) 0 0 0 false p c vals F1 (alN most next cs vals) l _ hV1.out HB1.out hN1 hmd HR1.out hpv hvl hl).mono ?_
  rintro e w2 ⟨rfl, F2, vs, B2, V2, G2⟩
  have HB2 := keepH B2
  have HV2 := keepH V2
  clear B2 V2
  go_wp2_with fail
  go_ret
  exact ⟨by simp, F2, vs, HB2.out, HV2.out, G1.thenV G2⟩

/-- A new plain memory. -/
theorem bank_new (W : World) (n : Nat) (hn : 128 ≤ n ∧ n ≤ 4194304) : Bank (W.alloc (.cells #[.slice none 0 0, .int .i64 (n : Int), .int .i64 1, .slice none 0 0] 150)) (fun k => k = W.heap.size) W.heap.size n 1 [] [] :=
  ⟨.slice none 0 0, .slice none 0 0, heap_alloc_new _ _, World.ownsRow_nil _ _ _ _, World.ownsRow_nil _ _ _ _, fun x hx => by simp at hx, fun x hx => by simp at hx, rfl, fun k e => by simp [Value.ownBlock] at e, fun k e => by simp [Value.ownBlock] at e, fun x hx => by simp at hx, fun k e => by simp [e], by omega, by omega, by simp, fun x hx => by simp at hx⟩

set_option maxRecDepth 100000 in
theorem new_plain (n : Nat) (W : World) :
    Calls Tryz.prog 44 #[.int .i64 (n : Int)] W fun e W' => e = .returned (.pointer (some ⟨W.heap.size, 0, none⟩)) ∧ W' = W.alloc (.cells #[.slice none 0 0, .int .i64 (n : Int), .int .i64 1, .slice none 0 0] 150) := by
  go_enter Tryz.func44, Tryz.ntmps44
  go_wp2_with fail
  go_ret
  exact ⟨by simp, rfl⟩

set_option maxRecDepth 100000 in
theorem m_new (n : Nat) (W : World) (hn : 128 ≤ n ∧ n ≤ 4194304) :
    Calls Tryz.prog 28 #[.int .i64 (n : Int), .bool false] W fun e W' => e = .returned (.tuple #[.pointer (some ⟨W.heap.size + 1, 0, none⟩), .int .i64 0]) ∧ IsMem W' (W.heap.size + 1) W.heap.size ∧ Bank W' (fun k => k = W.heap.size) W.heap.size n 1 [] [] ∧ Chg (fun _ => False) W W' ∧ W'.heap.size = W.heap.size + 2 := by
  have t1 : ¬ (n : Int) < 128 := by omega
  have t2 : ¬ (4194304 : Int) < (n : Int) := by omega
  go_enter Tryz.func28, Tryz.ntmps28
  go_wp2_with fail
  refine (new_plain n _).mono ?_
  rintro e w' ⟨rfl, rfl⟩
  go_wp2_with fail
  go_ret2
  refine ⟨by simp, ?_, ?_, ((Chg.refl _ W).alloc _).alloc _, by simp⟩
  · have e := heap_alloc_new (W.alloc (.cells #[.slice none 0 0, .int .i64 (n : Int), .int .i64 1, .slice none 0 0] 150)) (.cells #[.iface 111 (.pointer (some ⟨W.heap.size, 0, none⟩)), .bool false] 82)
    rw [World.size_alloc] at e
    exact e
  · exact (bank_new W n hn).chg ((Chg.refl (fun _ => False) _).alloc _) (fun _ _ h => h)
end Go.Proofs.YtjodechhnobkhaaGreatDoor
