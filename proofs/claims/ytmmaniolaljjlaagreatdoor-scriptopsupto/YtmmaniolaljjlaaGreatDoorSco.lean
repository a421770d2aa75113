/- Operations that are right, and their texts: what is pure. -/
import Derived.Test.YtmmaniolaljjlaaGreatDoorScn
namespace Go.Proofs.YtmmaniolaljjlaaGreatDoor
open Go.RowKit Go.Shelf
set_option linter.unusedVariables false

def faultO (o : Opx) : Nat := faultN o.k o.key o.val o.old o.hnd o.set o.rt o.ri none o.keys.length 0 o.lo o.hi
def rightO (o : Opx) : Prop := o.Ok ∧ faultO o = 0
def partO (o : Opx) : List (List UInt8) := partsO o.k o.key o.val o.old o.hnd o.set o.rt o.ri o.keys o.lo o.hi
def textO (o : Opx) : List UInt8 := opT o.k o.key o.val o.old o.hnd o.set o.rt o.ri o.keys o.lo o.hi
def PQ (t : List UInt8) (ok : Bool) (o : Opx) : Prop := (ok = true → rightO o ∧ t = textO o) ∧ ∀ o', rightO o' → t = textO o' → ok = true ∧ o = o'
theorem opW_no (k : Nat) : noB 32 (opW k) := by
  unfold opW
  by_cases h : k < 11
  · have : k = 0 ∨ k = 1 ∨ k = 2 ∨ k = 3 ∨ k = 4 ∨ k = 5 ∨ k = 6 ∨ k = 7 ∨ k = 8 ∨ k = 9 ∨ k = 10 := by omega
    rcases this with rfl | rfl | rfl | rfl | rfl | rfl | rfl | rfl | rfl | rfl | rfl <;> (unfold noB; decide)
  · rw [List.getD, List.getElem?_eq_none (by show 11 ≤ k; omega)]
    exact noB_nil 32
theorem hText_no (hnd : Nat) (set : Bool) (rt ri : Int) : noB 32 (hText hnd set rt ri) := by
  unfold hText
  split
  · have h1 := itoa_no rt 32 (by decide)
    have h2 := itoa_no ri 32 (by decide)
    refine ((noB.append ?_ h1).append ?_).append h2 <;> (unfold noB; decide)
  · exact (dec_no hnd).1
theorem part_no (o : Opx) : ∀ f ∈ partO o, noB 32 f := by
  intro f hf
  unfold partO partsO at hf
  simp only [List.mem_append, List.mem_map, List.mem_singleton] at hf
  rcases hf with ((rfl | hf) | ⟨i, _, rfl⟩) | hf
  · exact opW_no _
  · split at hf
    · simp at hf; subst hf; exact hText_no _ _ _ _
    · simp at hf
  · exact (dec_no _).1
  · split at hf
    · obtain ⟨u, hu, rfl⟩ := List.mem_map.1 hf
      exact (dec_no _).1
    · simp at hf
theorem part_ne (o : Opx) : partO o ≠ [] := by unfold partO partsO; simp
theorem text_iff (t : List UInt8) (o : Opx) : t = textO o ↔ Lib.split t [32] = partO o := by
  constructor
  · intro h
    rw [h]
    exact split_join _ (part_ne o) (part_no o)
  · intro h
    have := join_split t
    rw [h] at this
    exact this.symm
theorem natsM_some : ∀ {fs : List (List UInt8)} {us : List Nat}, fs.mapM natP = some us → fs = us.map Lib.decDigits ∧ ∀ u ∈ us, isU u
  | [], us, h => by simp at h; subst h; exact ⟨rfl, fun u hu => by simp at hu⟩
  | f :: r, us, h => by
    simp only [List.mapM_cons, Option.bind_eq_bind, Option.bind_eq_some_iff, Option.pure_def, Option.some.injEq] at h
    obtain ⟨b, hb, r', hr', rfl⟩ := h
    obtain ⟨e, hu⟩ := natP_some hb
    obtain ⟨e2, hu2⟩ := natsM_some hr'
    refine ⟨by rw [e, e2]; rfl, fun u hm => ?_⟩
    rcases List.mem_cons.1 hm with rfl | hm
    · exact hu
    · exact hu2 u hm
theorem natsM_dec : ∀ (us : List Nat), (∀ u ∈ us, isU u) → (us.map Lib.decDigits).mapM natP = some us
  | [], _ => rfl
  | u :: r, h => by
    simp only [List.map_cons, List.mapM_cons, natP_dec u (h u (by simp)), natsM_dec r (fun x hx => h x (by simp [hx]))]
    rfl
def nuO (o : Opx) : List Nat := (numK o.k).map (numAt o.key o.val o.old o.lo o.hi) ++ o.keys
structure RP (o : Opx) : Prop where
  has : hasK o.k = true
  parts : partO o = opW o.k :: ((if hndK o.k = true then [hText o.hnd o.set o.rt o.ri] else []) ++ (nuO o).map Lib.decDigits)
  hd : hndK o.k = true → rhB o.hnd o.set o.rt o.ri = true
  nohd : hndK o.k = false → o.hnd = 0 ∧ o.set = false ∧ o.rt = 0 ∧ o.ri = 0
  kys : kysK o.k = true → o.keys.length ≤ 1024
  nokys : kysK o.k = false → o.keys = []
  z1 : 1 ∉ numK o.k → o.key = 0
  z2 : 2 ∉ numK o.k → o.val = 0
  z3 : 3 ∉ numK o.k → o.old = 0
  z9 : 9 ∉ numK o.k → o.lo = 0
  z10 : 10 ∉ numK o.k → o.hi = 0
theorem right_parts {o : Opx} (h : rightO o) : RP o := by
  have hf := h.2
  unfold faultO faultN at hf
  cases e1 : hasK o.k with
  | false => rw [if_pos e1] at hf; simp at hf
  | true =>
    rw [if_neg (by rw [e1]; simp)] at hf
    split at hf
    · simp at hf
    · rename_i h7
      split at hf
      · simp at hf
      · rename_i hr
        have key : ∀ c : Bool, (if c = true then 0 else 52) = 0 → c = true := fun c h => by
          cases c with
          | true => rfl
          | false => simp at h
        have hb := key _ hf
        unfold blB at hb
        simp only [decide_eq_true_eq] at hb
        obtain ⟨⟨b1, b2, b3, b4, b9, b10⟩, ⟨c1, c2, c3⟩, d⟩ := hb
        have nk : kysK o.k = false → o.keys = [] := fun hk => by
          rw [hk] at d
          simp at d
          exact d
        refine ⟨e1, ?_, ?_, ?_, ?_, nk, ?_, ?_, ?_, ?_, ?_⟩
        · unfold partO partsO nuO
          cases hk : kysK o.k with
          | true => simp
          | false => rw [nk hk]; simp
        · intro hh
          cases e : rhB o.hnd o.set o.rt o.ri with
          | true => rfl
          | false => exact absurd ⟨hh, e⟩ hr
        · intro hh
          rw [hh] at b4 c1 c2 c3
          exact ⟨by simpa using b4, by simpa using c1, by simpa using c2, by simpa using c3⟩
        · intro hk
          have : o.k = 7 := by unfold kysK at hk; simpa using hk
          have := fun q => h7 ⟨this, q⟩
          omega
        · intro q; simpa [zk, q] using b1
        · intro q; simpa [zk, q] using b2
        · intro q; simpa [zk, q] using b3
        · intro q; simpa [zk, q] using b9
        · intro q; simpa [zk, q] using b10
theorem nu_u {o : Opx} (h : o.Ok) : ∀ u ∈ nuO o, isU u := by
  intro u hu
  unfold nuO at hu
  rcases List.mem_append.1 hu with hu | hu
  · obtain ⟨i, _, rfl⟩ := List.mem_map.1 hu
    exact numAt_u h.key h.val h.old h.lo h.hi i
  · exact h.keys u hu
theorem mk_right {o : Opx} (ok : o.Ok) (has : hasK o.k = true) (hd : hndK o.k = true → rhB o.hnd o.set o.rt o.ri = true) (nohd : hndK o.k = false → o.hnd = 0 ∧ o.set = false ∧ o.rt = 0 ∧ o.ri = 0) (kys : kysK o.k = true → o.keys.length ≤ 1024) (nokys : kysK o.k = false → o.keys = [])
    (z1 : 1 ∉ numK o.k → o.key = 0) (z2 : 2 ∉ numK o.k → o.val = 0) (z3 : 3 ∉ numK o.k → o.old = 0) (z9 : 9 ∉ numK o.k → o.lo = 0) (z10 : 10 ∉ numK o.k → o.hi = 0) : rightO o := by
  refine ⟨ok, ?_⟩
  unfold faultO faultN
  rw [if_neg (by rw [has]; simp), if_neg (by
    rintro ⟨h7, hl⟩
    have := kys (by unfold kysK; simpa using h7)
    omega), if_neg (by
    rintro ⟨h1, h2⟩
    rw [hd h1] at h2
    simp at h2), if_pos]
  unfold blB
  simp only [decide_eq_true_eq]
  have zz : ∀ i x, (i ∉ numK o.k → x = 0) → zk o.k i x = 0 := fun i x hx => by
    unfold zk
    split
    · rfl
    · rename_i q; exact hx q
  refine ⟨⟨zz 1 _ z1, zz 2 _ z2, zz 3 _ z3, ?_, zz 9 _ z9, zz 10 _ z10⟩, ⟨?_, ?_, ?_⟩, ?_⟩
  · cases e : hndK o.k with
    | true => simp
    | false => simpa using (nohd e).1
  · cases e : hndK o.k with
    | true => simp
    | false => simpa using (nohd e).2.1
  · cases e : hndK o.k with
    | true => simp
    | false => simpa using (nohd e).2.2.1
  · cases e : hndK o.k with
    | true => simp
    | false => simpa using (nohd e).2.2.2
  · cases e : kysK o.k with
    | true => simp
    | false => simpa using nokys e
theorem fk_none {k o : Nat} (us : List Nat) (h : o ∉ numK k) : fk k us o = 0 := by
  have : (numK k).findIdx? (· == o) = none := by
    rw [List.findIdx?_eq_none_iff]
    intro x hx
    simp
    intro e
    subst e
    exact h hx
  unfold fk
  rw [this]
theorem fk_u {k : Nat} {us : List Nat} (h : ∀ u ∈ us, isU u) (o : Nat) : isU (fk k us o) := by
  unfold fk
  split
  · rename_i i _
    cases e : us[i]? with
    | none => simp [List.getD, e]; unfold isU; omega
    | some x => simp [List.getD, e]; exact h x (List.mem_of_getElem? e)
  · unfold isU; omega
/-- the numbers that went in come out -/
theorem fk_nums (k : Nat) (us : List Nat) (hl : us.length = (numK k).length) : (numK k).map (numAt (fk k us 1) (fk k us 2) (fk k us 3) (fk k us 9) (fk k us 10)) = us := by
  unfold fk
  unfold numK at hl ⊢
  split at hl
  · match us, hl with
    | [a], _ => simp [List.findIdx?, List.findIdx?.go, numAt]
  · match us, hl with
    | [a, b], _ => simp [List.findIdx?, List.findIdx?.go, numAt]
  · match us, hl with
    | [a], _ => simp [List.findIdx?, List.findIdx?.go, numAt]
  · match us, hl with
    | [a, b, c], _ => simp [List.findIdx?, List.findIdx?.go, numAt]
  · match us, hl with
    | [a, b], _ => simp [List.findIdx?, List.findIdx?.go, numAt]
  · match us, hl with
    | [a, b], _ => simp [List.findIdx?, List.findIdx?.go, numAt]
  · match us, hl with
    | [], _ => simp
/-- numbers that are in the fields are the fields -/
theorem fk_of (k key val old lo hi : Nat) (z1 : 1 ∉ numK k → key = 0) (z2 : 2 ∉ numK k → val = 0) (z3 : 3 ∉ numK k → old = 0) (z9 : 9 ∉ numK k → lo = 0) (z10 : 10 ∉ numK k → hi = 0) :
    fk k ((numK k).map (numAt key val old lo hi)) 1 = key ∧ fk k ((numK k).map (numAt key val old lo hi)) 2 = val ∧ fk k ((numK k).map (numAt key val old lo hi)) 3 = old ∧ fk k ((numK k).map (numAt key val old lo hi)) 9 = lo ∧ fk k ((numK k).map (numAt key val old lo hi)) 10 = hi := by
  unfold fk
  unfold numK at *
  split at z1 <;> simp [List.findIdx?, List.findIdx?.go, numAt] at z1 z2 z3 z9 z10 ⊢ <;> simp_all
end Go.Proofs.YtmmaniolaljjlaaGreatDoor
