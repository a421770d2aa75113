/- Lists of ints and of bools that came in; how long a list that came in can be. -/
import Derived.Test.YtaigpbbehlofbaaHArgs
import Derived.Test.YtaigpbbehlofbaaHRef
import Derived.SizedLaws
namespace Go.Proofs.Ytaigpbbehlofbaa
open Go.RowKit Go.Joins Go.ChangeShapes Go.WideShapes Go.Deep

theorem slice_size {H : Type} {enc : TypeId × Value → H} {W : World} {sp : Nat → Bool} {held : Bool} {p : Option Addr} {n c : Nat} {d : DataW H} {ps : List MemPlace} {T E : TypeId} {ts : List TypeId} {ds : List (DataW H)} {j : Nat} (hT : Try.prog.underlying T = some (.slice E)) (h : DataW.Trod enc Try.prog W 0 sp held T (.slice p n c) d ps)
    (hsz : (DataW.weightsEach Try.prog ts ds).all (· ≤ reachBytes) = true) (ht : ts[j]? = some T) (hd : ds[j]? = some d) : n * Try.prog.bytesOf E ≤ reachBytes := by
  obtain ⟨fuel, hf⟩ := h
  rcases open_slice hT hf with ⟨hcs, _⟩ | ⟨a, len, cap, m, k, D, Pl, hcs, _, hl, hm, hme, hx, hi⟩
  · simp [Value.cells] at hcs
    obtain ⟨rfl, rfl, rfl⟩ := hcs
    simp
  · simp [Value.cells] at hcs
    obtain ⟨rfl, rfl, rfl⟩ := hcs
    simp only [Prod.mk.injEq] at hx
    rw [hx.1] at hd
    have sz := sized_slice hsz ht hd hT
    refine Nat.le_trans (Nat.mul_le_mul_right _ ?_) sz
    simp
theorem slice_cap {H : Type} {enc : TypeId × Value → H} {W : World} {sp : Nat → Bool} {held : Bool} {p : Option Addr} {n c : Nat} {d : DataW H} {ps : List MemPlace} {T E : TypeId} (hT : Try.prog.underlying T = some (.slice E)) (h : DataW.Trod enc Try.prog W 0 sp held T (.slice p n c) d ps) : n ≤ c := by
  obtain ⟨fuel, hf⟩ := h
  rcases open_slice hT hf with ⟨hcs, _⟩ | ⟨a, len, cap, m, k, D, Pl, hcs, _, hl, hm, hme, hx, hi⟩
  · simp [Value.cells] at hcs
    obtain ⟨rfl, rfl, rfl⟩ := hcs
    simp
  · simp [Value.cells] at hcs
    obtain ⟨rfl, rfl, rfl⟩ := hcs
    exact hl
theorem bytesSpan : Try.prog.bytesOf 28 = 32 := by kernel_rfl
theorem bytesEvent : Try.prog.bytesOf 39 = 32 := by kernel_rfl
theorem bytesInt : Try.prog.bytesOf 3 = 8 := by kernel_rfl
theorem bytesBool : Try.prog.bytesOf 4 = 1 := by kernel_rfl

/-- Elements of one cell that came in. -/
theorem one_open {H : Type} {enc : TypeId × Value → H} {W : World} {sp : Nat → Bool} {held : Bool} {p : Option Addr} {n c : Nat} {d : DataW H} {ps : List MemPlace} {T E : TypeId} {α : Type} {f : α → Value} {Q : α → Prop} (hT : Try.prog.underlying T = some (.slice E)) (hE : Try.prog.cellsOf E = 1)
    (cells : ∀ {fuel : Nat} {v : Value} {x : DataW H × List MemPlace}, DataW.trod enc Try.prog W 0 sp held fuel E [v] = some x → ∃ s : α, v = f s ∧ Q s) (h : DataW.Trod enc Try.prog W 0 sp held T (.slice p n c) d ps) :
    ∃ l : List α, l.length = n ∧ (∀ s ∈ l, Q s) ∧ (l = [] ∨ ∃ bk off, p = some ⟨bk, off, none⟩ ∧ bk < W.heap.size ∧ ∀ (i : Nat) s, l[i]? = some s → W.cell? ⟨bk, off + i, none⟩ = some (f s)) := by
  obtain ⟨fuel, hf⟩ := h
  rcases open_slice1 hT hE hf with ⟨hcs, _⟩ | ⟨a, len, cap, m, k, V, D, Pl, hcs, _, hl, hm, hme, hx, hi⟩
  · simp [Value.cells] at hcs
    obtain ⟨rfl, rfl, rfl⟩ := hcs
    exact ⟨[], rfl, fun s hs => by simp at hs, .inl rfl⟩
  · simp [Value.cells] at hcs
    obtain ⟨rfl, rfl, rfl⟩ := hcs
    have hmn : n ≤ m := by rw [hme]; split <;> omega
    rcases Nat.eq_zero_or_pos n with h0 | h0
    · exact ⟨[], h0.symm, fun s hs => by simp at hs, .inl rfl⟩
    · obtain ⟨bk, off, spot⟩ := a
      have hrow : ∀ i, i < n → ∃ o : α, W.cell? ((⟨bk, off, spot⟩ : Addr).add i) = some (f o) ∧ Q o := fun i hin => by
        obtain ⟨hc, ht⟩ := hi i (by omega)
        obtain ⟨o, e, ho⟩ := cells ht
        exact ⟨o, by rw [hc, e], ho⟩
      have c0 : ∃ u, W.cell? ((⟨bk, off, spot⟩ : Addr).add 0) = some u := ⟨_, (hi 0 (by omega)).1⟩
      obtain ⟨u0, c0⟩ := c0
      have hspot : spot = none := by simpa [Addr.add] using World.cell?_spot c0
      subst hspot
      have hbk : bk < W.heap.size := by
        by_cases cb : bk < W.heap.size
        · exact cb
        · simp [World.cell?, Addr.add, Array.getElem?_eq_none (show W.heap.size ≤ bk by omega)] at c0
      obtain ⟨ops, hlen, hops⟩ := exists_list n hrow
      refine ⟨ops, hlen, fun s hs => ?_, .inr ⟨bk, off, rfl, hbk, fun i o ho => ?_⟩⟩
      · obtain ⟨i, hi2⟩ := List.getElem?_of_mem hs
        exact (hops i s hi2).2
      · have e := (hops i o ho).1
        have e3 : (⟨bk, off, none⟩ : Addr).add i = ⟨bk, off + i, none⟩ := by
          unfold Addr.add
          split
          · simp_all
          · simp
        rw [← e3]
        exact e
theorem ints_open {H : Type} {enc : TypeId × Value → H} {W : World} {sp : Nat → Bool} {held : Bool} {p : Option Addr} {n c : Nat} {d : DataW H} {ps : List MemPlace} (h : DataW.Trod enc Try.prog W 0 sp held 23 (.slice p n c) d ps) :
    ∃ l : List Int, l.length = n ∧ (∀ s ∈ l, isI s) ∧ IReads W p l := one_open Try.underlying23 coInt (fun {fuel v x} hf => by
      obtain ⟨a, e0, _, w0⟩ := DataW.trod_int Try.underlying3 hf
      simp at e0
      exact ⟨a, e0, isI_wf w0⟩) h
theorem bools_open {H : Type} {enc : TypeId × Value → H} {W : World} {sp : Nat → Bool} {held : Bool} {p : Option Addr} {n c : Nat} {d : DataW H} {ps : List MemPlace} (h : DataW.Trod enc Try.prog W 0 sp held 42 (.slice p n c) d ps) :
    ∃ l : List Bool, l.length = n ∧ (∀ s ∈ l, True) ∧ BReads W p l := one_open Try.underlying42 coBool (fun {fuel v x} hf => by
      obtain ⟨a, e0, _⟩ := DataW.trod_bool Try.underlying4 hf
      simp at e0
      exact ⟨a, e0, trivial⟩) h
end Go.Proofs.Ytaigpbbehlofbaa
