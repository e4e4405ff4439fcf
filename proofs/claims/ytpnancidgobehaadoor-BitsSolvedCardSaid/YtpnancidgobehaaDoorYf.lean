
/- The outright laws of bits: the frame of their cards; lists of bytes as arguments. -/
import Derived.Test.YtpnancidgobehaaDoorIa
import Derived.Test.YtpnancidgobehaaDoorYa
set_option linter.all false
set_option maxRecDepth 100000
namespace Go.Proofs.YtpnancidgobehaaDoor
open Go.ChangeShapes Go.WideShapes Go.ChangeAt Go.RowKit Go.Joins Go.Deep
section
variable {H : Type} {enc : TypeId × Value → H} {w : World} {base : Nat} {held : Bool}
/-- A list of bytes: nothing, or bytes in a row. -/
theorem open_bytesI {r : Reach} {b0 : Nat} {v : Value} {d : DataW H} {p : List MemPlace} (hv : Value.okWide Tryd.prog w r b0 22 v) (h : DataW.Trod enc Tryd.prog w base (fun _ => true) held 22 v d p) :
    ∃ (pa : Option Addr) (len cap : Nat), v = .slice pa len cap ∧ GivenI w pa len cap := by
  have hu : Tryd.prog.underlying 22 = some (.slice 5) := by kernel_rfl
  have hc : Tryd.prog.cellsOf 5 = 1 := by kernel_rfl
  have he : Tryd.prog.underlying 5 = some (.int .u8) := by kernel_rfl
  obtain ⟨pa, len, cap, rfl⟩ := okWide_slice hu hv
  obtain ⟨fuel, hf⟩ := h
  rcases open_slice1 hu hc hf with ⟨hcs, _⟩ | ⟨a, len', cap', m, n, V, D, Pl, hcs, hb, hl, hm, hmm, _, hi⟩
  · simp [Value.cells] at hcs
    obtain ⟨rfl, rfl, rfl⟩ := hcs
    exact ⟨none, 0, 0, rfl, .inl ⟨rfl, rfl, rfl⟩⟩
  · simp [Value.cells] at hcs
    obtain ⟨rfl, rfl, rfl⟩ := hcs
    simp only [if_true] at hmm
    refine ⟨some a, len, cap, rfl, .inr ?_⟩
    have each : ∀ i, ∃ z : Int, i < len → (0 ≤ z ∧ z ≤ 255) ∧ w.cell? (a.add i) = some (.int .u8 z) := by
      intro i
      by_cases hlt : i < len
      · obtain ⟨h1, h2⟩ := hi i (by omega)
        obtain ⟨z, hz, _, hw⟩ := DataW.trod_int he h2
        have hz' : V i = .int .u8 z := by simpa using hz
        rw [hz'] at h1
        refine ⟨z, fun _ => ⟨?_, h1⟩⟩
        simp only [Lit.wf, Bool.and_eq_true, decide_eq_true_eq] at hw
        have e1 : IntKind.u8.min = 0 := by decide
        have e2 : IntKind.u8.max = 255 := by decide
        rw [e1, e2] at hw
        exact hw
      · exact ⟨0, fun h => absurd h hlt⟩
    obtain ⟨f, hf'⟩ := Classical.axiomOfChoice each
    refine ⟨a, (List.range len).map f, rfl, by simp, hl, by omega, ?_⟩
    by_cases h0 : len = 0
    · subst h0; exact .inl rfl
    · have hs : a.spot = none := by simpa [Addr.add] using World.cell?_spot (hf' 0 (by omega)).2
      obtain ⟨b, off, spot⟩ := a
      dsimp only at hs
      subst hs
      refine .inr ⟨b, off, rfl, ?_, ?_, ?_⟩
      · have := World.block_lt_of_cell? w _ (hf' 0 (by omega)).2
        rw [add_plusI] at this
        exact this
      · intro z hz
        simp only [List.mem_map, List.mem_range] at hz
        obtain ⟨i, hi, rfl⟩ := hz
        exact (hf' i hi).1
      · intro i z hz
        simp only [List.getElem?_map, Option.map_eq_some_iff] at hz
        obtain ⟨j, hj, rfl⟩ := hz
        obtain ⟨hj1, hj2⟩ := List.getElem?_eq_some_iff.1 hj
        simp at hj1 hj2
        subst hj2
        have h' := (hf' i hj1).2
        rw [add_plusI] at h'
        exact h'
end
end Go.Proofs.YtpnancidgobehaaDoor
