/- The bank of a plain memory: it stores, compares, adds, and tells its numbers. -/
import Derived.Test.YtjodechhnobkhaaGreatDoorReach
namespace Go.Proofs.YtjodechhnobkhaaGreatDoor
open Go.RowKit Go.Shelf

theorem BankAt.put {W : World} {F : Nat → Prop} {b g n c most next : Nat} {av : Value} {cs : List Nat} {l : List Acc} (h : BankAt W F b (.slice (some ⟨g, 0, none⟩) n c) av most next cs l) (i v : Nat) (hv : v < 18446744073709551616) :
    BankAt (W.setCell ⟨g, i, none⟩ (.int .u64 (v : Int))) F b (.slice (some ⟨g, 0, none⟩) n c) av most next (cs.set i v) l := by
  have gb : b ≠ g := fun e => block_apart h.row h.blk (by decide) (by rw [e]; rfl)
  have hn : n = cs.length := by
    rcases h.row.2 with ⟨h2, _⟩ | ⟨_, _, _, h2, _⟩
    · simp at h2
    · simp at h2; exact h2.2.1
  subst hn
  refine ⟨(Below.heap_setCell _ _ _ _ gb).trans h.blk, ?_, row_kept h.acc fun k e => Below.heap_setCell _ _ _ _ (fun e2 => rows_apart h.row h.acc (by decide) g rfl (by rw [e, e2])), fun x hx => row_kept (h.vals x hx) fun k e => Below.heap_setCell _ _ _ _ (fun e2 => h.ne x hx k e (by rw [e2]; rfl)), h.ne, h.inb, h.inc, h.ina, h.inv, fun k e => by simpa [World.setCell] using h.lt k e, h.most_le, h.next_le, by simpa using h.len_le, ?_⟩
  · have r := World.ownsRow.stored h.row i (.int .u64 (v : Int))
    rw [List.length_set]
    rw [List.map_set]
    exact r.1
  · intro x hx
    rcases List.mem_or_eq_of_mem_set hx with hx | hx
    · exact h.small x hx
    · omega
theorem BankAt.len {W : World} {F : Nat → Prop} {b most next : Nat} {cv av : Value} {cs : List Nat} {l : List Acc} (h : BankAt W F b cv av most next cs l) (hp : 0 < cs.length) : ∃ g c, cv = .slice (some ⟨g, 0, none⟩) cs.length c := slice_pos h.row hp
theorem Bank.cell_lt {W : World} {F : Nat → Prop} {b most next : Nat} {cs : List Nat} {l : List Acc} (h : Bank W F b most next cs l) (i : Nat) : cellN cs i < 18446744073709551616 := by
  obtain ⟨cv, av, h⟩ := h
  by_cases hi : i < cs.length
  · have e : cellN cs i = cs[i] := by simp [cellN, List.getElem?_eq_getElem hi]
    rw [e]
    exact h.small _ (List.getElem_mem hi)
  · simp [cellN, List.getElem?_eq_none (by omega : cs.length ≤ i)]
theorem Bank.cell_out {W : World} {F : Nat → Prop} {b most next : Nat} {cs : List Nat} {l : List Acc} (h : Bank W F b most next cs l) (i : Nat) (hi : most ≤ i) : cellN cs i = 0 := by
  obtain ⟨cv, av, h⟩ := h
  have := h.len_le
  simp [cellN, List.getElem?_eq_none (by omega : cs.length ≤ i)]

theorem Bank.drewN {W : World} {F : Nat → Prop} {b most next : Nat} {cs : List Nat} {l : List Acc} (h : Bank W F b most next cs l) (q : Nat) : Bank (W.drewN q) F b most next cs l := h.kept (Nat.le_refl _) fun _ _ => rfl
theorem Goes.drewN (W : World) (F : Nat → Prop) (q : Nat) : Goes W (W.drewN q) F F := ⟨⟨rfl, rfl, rfl, Nat.le_refl _, fun _ _ _ => rfl⟩, fun _ h => .inl h⟩

/-- What a store leaves. -/
def stN (most : Nat) (cs : List Nat) (addr v : Nat) : List Nat := if addr < most then putN cs addr v else cs
theorem stN_cell (most : Nat) (cs : List Nat) (addr v j : Nat) : cellN (stN most cs addr v) j = if j = addr ∧ addr < most then v else cellN cs j := by
  unfold stN
  by_cases h : addr < most
  · rw [if_pos h, putN_cell]
    simp [h]
  · simp [h]

set_option maxRecDepth 100000 in
theorem p_store (b most next addr v : Nat) (F : Nat → Prop) (cs : List Nat) (l : List Acc) (W : World) (h : Bank W F b most next cs l) (ha : addr < 18446744073709551616) (hv : v < 18446744073709551616) :
    Calls Tryz.prog 146 #[.pointer (some ⟨b, 0, none⟩), .int .u64 (addr : Int), .int .u64 (v : Int)] W fun e W' => e = .returned (.tuple #[]) ∧ ∃ F', Bank W' F' b most next (stN most cs addr v) l ∧ Goes W W' F F' := by
  have HB := keepH h
  obtain ⟨cv, av, h⟩ := h
  have c1 : W.cell? ⟨b, 1, none⟩ = some (.int .i64 (most : Int)) := cell_of h.blk 1
  have hml := h.most_le
  have hll := h.len_le
  have wl := u64_lt (show most < 18446744073709551616 by omega)
  by_cases h1 : most ≤ addr
  · have ti : (most : Int) ≤ (addr : Int) := by omega
    have e0 : stN most cs addr v = cs := by simp [stN]; omega
    clear h
    go_enter Tryz.func146, Tryz.ntmps146
    go_wp2_with fail
    exact bodyPost_ret (results_none rfl _ _ _) rfl ⟨rfl, F, by rw [e0]; exact HB.out, Goes.refl _ _⟩
  · have ti : ¬ (most : Int) ≤ (addr : Int) := by omega
    have wa : IntKind.i64.wrap (addr : Int) = (addr : Int) := i64_lt (by omega)
    have wb : IntKind.i64.wrap ((addr : Int) + 1) = ((addr + 1 : Nat) : Int) := by rw [IntKind.wrap_i64]; omega
    have hle : addr + 1 ≤ most := by omega
    clear h
    go_enter Tryz.func146, Tryz.ntmps146
    go_wp2_with fail
    refine (p_reach b most next (addr + 1) F cs l _ HB.out hle).mono ?_
    rintro e W1 ⟨rfl, F1, ⟨cv1, av1, B1⟩, G1⟩
    have hlen := padN_length cs (addr + 1)
    obtain ⟨g, c, hcv⟩ := B1.len (by omega)
    have HL := keepH hlen
    subst hcv
    have k0 : W1.cell? ⟨b, 0, none⟩ = some (.slice (some ⟨g, 0, none⟩) (padN cs (addr + 1)).length c) := cell_of B1.blk 0
    have kc := cell_u64 B1.row addr (by omega)
    have kf := World.ownsRow.frozenAt B1.row addr
    have lt1 : (addr : Int) < ((padN cs (addr + 1)).length : Int) := by omega
    have HB1 := keepH B1
    clear B1 hlen
    go_wp2_with fail
    go_end0
    refine ⟨rfl, F1, ⟨.slice (some ⟨g, 0, none⟩) (padN cs (addr + 1)).length c, av1, ?_⟩, ?_⟩
    · have e := HB1.out.put addr v hv
      simp only [stN, show addr < most by omega, if_true, putN]
      exact e
    · exact G1.trans ⟨(Chg.refl F1 W1).setCell (fun _ => HB1.out.inc g rfl) _, fun k e => .inl e⟩

def casOk (most : Nat) (cs : List Nat) (addr old : Nat) : Bool := decide (addr < most ∧ cellN cs addr = old)
def casN (most : Nat) (cs : List Nat) (addr old now : Nat) : List Nat := if addr < most ∧ cellN cs addr = old then putN cs addr now else cs

set_option maxRecDepth 100000 in
theorem p_cas (b most next addr old now : Nat) (F : Nat → Prop) (cs : List Nat) (l : List Acc) (W : World) (h : Bank W F b most next cs l) (ha : addr < 18446744073709551616) (hv : now < 18446744073709551616) :
    Calls Tryz.prog 139 #[.pointer (some ⟨b, 0, none⟩), .int .u64 (addr : Int), .int .u64 (old : Int), .int .u64 (now : Int)] W fun e W' => e = .returned (.bool (casOk most cs addr old)) ∧
      ∃ F', Bank W' F' b most next (casN most cs addr old now) l ∧ Goes W W' F F' := by
  have HB := keepH h
  obtain ⟨cv, av, h⟩ := h
  have c1 : W.cell? ⟨b, 1, none⟩ = some (.int .i64 (most : Int)) := cell_of h.blk 1
  have hml := h.most_le
  have wl := u64_lt (show most < 18446744073709551616 by omega)
  by_cases h1 : most ≤ addr
  · have ti : (most : Int) ≤ (addr : Int) := by omega
    have e0 : ¬ (addr < most ∧ cellN cs addr = old) := by omega
    clear h
    go_enter Tryz.func139, Tryz.ntmps139
    go_wp2_with fail
    go_ret
    exact ⟨by simp [casOk, e0], F, by unfold casN; rw [if_neg e0]; exact HB.out, Goes.refl _ _⟩
  · have ti : ¬ (most : Int) ≤ (addr : Int) := by omega
    by_cases h2 : cellN cs addr = old
    · have e0 : (addr < most ∧ cellN cs addr = old) := by omega
      have t2 : (cellN cs addr : Int) = (old : Int) := by omega
      clear h
      go_enter Tryz.func139, Tryz.ntmps139
      go_wp2_with fail
      refine (p_load b most next addr F cs l _ HB.out ha).mono ?_
      rintro e w' ⟨rfl, rfl⟩
      go_wp2_with fail
      refine (p_store b most next addr now F cs l _ HB.out ha hv).mono ?_
      rintro e W1 ⟨rfl, F1, B1, G1⟩
      have HB1 := keepH B1
      clear B1
      go_wp2_with fail
      go_ret
      refine ⟨by simp [casOk, e0], F1, ?_, G1⟩
      unfold casN
      rw [if_pos e0]
      have e := HB1.out
      simpa only [stN, show addr < most by omega, if_true] using e
    · have e0 : ¬ (addr < most ∧ cellN cs addr = old) := by omega
      have t2 : ¬ (cellN cs addr : Int) = (old : Int) := by omega
      clear h
      go_enter Tryz.func139, Tryz.ntmps139
      go_wp2_with fail
      refine (p_load b most next addr F cs l _ HB.out ha).mono ?_
      rintro e w' ⟨rfl, rfl⟩
      go_wp2_with fail
      go_ret
      exact ⟨by simp [casOk, e0], F, by unfold casN; rw [if_neg e0]; exact HB.out, Goes.refl _ _⟩

def addN (x n : Nat) : Nat := (x + n) % 18446744073709551616
set_option maxRecDepth 100000 in
theorem p_add (b most next addr n : Nat) (F : Nat → Prop) (cs : List Nat) (l : List Acc) (W : World) (h : Bank W F b most next cs l) (ha : addr < 18446744073709551616) :
    Calls Tryz.prog 137 #[.pointer (some ⟨b, 0, none⟩), .int .u64 (addr : Int), .int .u64 (n : Int)] W fun e W' => e = .returned (.int .u64 (cellN cs addr : Int)) ∧ ∃ F', Bank W' F' b most next (stN most cs addr (addN (cellN cs addr) n)) l ∧ Goes W W' F F' := by
  have HB := keepH h
  have wl : IntKind.u64.wrap ((cellN cs addr : Int) + (n : Int)) = (addN (cellN cs addr) n : Int) := by rw [IntKind.wrap_u64]; simp [addN]
  clear h
  go_enter Tryz.func137, Tryz.ntmps137
  go_wp2_with fail
  refine (p_load b most next addr F cs l _ HB.out ha).mono ?_
  rintro e w' ⟨rfl, rfl⟩
  go_wp2_with fail
  refine (p_store b most next addr (addN (cellN cs addr) n) F cs l _ HB.out ha (Nat.mod_lt _ (by decide))).mono ?_
  rintro e W1 ⟨rfl, F1, B1, G1⟩
  have HB1 := keepH B1
  clear B1
  go_wp2_with fail
  go_ret
  exact ⟨by simp, F1, HB1.out, G1⟩

set_option maxRecDepth 100000 in
theorem p_size (b most next : Nat) (F : Nat → Prop) (cs : List Nat) (l : List Acc) (W : World) (h : Bank W F b most next cs l) :
    Calls Tryz.prog 145 #[.pointer (some ⟨b, 0, none⟩)] W fun e W' => e = .returned (.int .i64 (most : Int)) ∧ W' = W := by
  obtain ⟨cv, av, h⟩ := h
  have c1 : W.cell? ⟨b, 1, none⟩ = some (.int .i64 (most : Int)) := cell_of h.blk 1
  clear h
  go_enter Tryz.func145, Tryz.ntmps145
  go_wp2_with fail
  go_ret
  exact ⟨by simp, rfl⟩
set_option maxRecDepth 100000 in
theorem p_left (b most next : Nat) (F : Nat → Prop) (cs : List Nat) (l : List Acc) (W : World) (h : Bank W F b most next cs l) :
    Calls Tryz.prog 141 #[.pointer (some ⟨b, 0, none⟩)] W fun e W' => e = .returned (.int .i64 ((most - next : Nat) : Int)) ∧ ∃ q, W' = W.drewN q := by
  obtain ⟨cv, av, h⟩ := h
  have c1 : W.cell? ⟨b, 1, none⟩ = some (.int .i64 (most : Int)) := cell_of h.blk 1
  have c2 : W.cell? ⟨b, 2, none⟩ = some (.int .i64 (next : Int)) := cell_of h.blk 2
  have hml := h.most_le
  have hn := h.next_le
  have wl : IntKind.i64.wrap ((most : Int) - (next : Int)) = ((most - next : Nat) : Int) := by rw [IntKind.wrap_i64]; omega
  clear h
  go_enter Tryz.func141, Tryz.ntmps141
  go_wp2_with fail
  go_quiet (fail)
  go_wp2_with fail
  go_ret
  exact ⟨by simp, _, rfl⟩
end Go.Proofs.YtjodechhnobkhaaGreatDoor
