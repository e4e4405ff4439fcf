
/- The frame: numbers as arguments, the listed variables, the last step of a law over numbers alone. -/
import Derived.Test.YtcdmcndjbajhlaaGreatDoorCards
import Derived.Test.YtcdmcndjbajhlaaGreatDoorTie
import Derived.Test.YtcdmcndjbajhlaaGreatDoorJm
import Derived.ProofKit
import Derived.OpenShut
import Derived.Deep.DeepHandedRow
import Derived.Lib.LaidTab
import Derived.LaidMore
import Derived.Lib.SmallJoins
import Derived.SevenTiedAt
set_option linter.all false
set_option maxRecDepth 100000
namespace Go.Proofs.YtcdmcndjbajhlaaGreatDoor
open Go.ChangeShapes Go.WideShapes Go.ChangeAt Go.RowKit Go.Joins Go.Deep
section
variable {H : Type} {enc : TypeId × Value → H} {w : World} {base : Nat} {spare : Nat → Bool} {held : Bool}

theorem fields_num : ∃ fs : Array Field, Tryz.prog.underlying 23 = some (.struct fs) ∧ fs.size = 5 ∧ (∀ (i : Nat) (f : Field), fs[i]? = some f → f.type = 3 ∧ f.offset = i) := by
  have h : (Tryz.prog.underlying 23).map (fun d => match d with | .struct fs => (fs.map fun f => (f.type, f.offset)).toList | _ => []) = some [(3, 0), (3, 1), (3, 2), (3, 3), (3, 4)] := by kernel_rfl
  cases hu : Tryz.prog.underlying 23 with
  | none => simp [hu] at h
  | some d =>
    cases d with
    | struct fs =>
      simp only [hu, Option.map_some, Option.some.injEq] at h
      refine ⟨fs, rfl, ?_, ?_⟩
      · have := congrArg List.length h; simpa using this
      · intro i f hf
        have hlt : i < fs.size := (Array.getElem?_eq_some_iff.1 hf).1
        have h1 : ((fs.map fun f => (f.type, f.offset)).toList)[i]? = some (f.type, f.offset) := by simp [hf]
        rw [h] at h1
        have h5 : fs.size = 5 := by have := congrArg List.length h; simpa using this
        have hi : i = 0 ∨ i = 1 ∨ i = 2 ∨ i = 3 ∨ i = 4 := by omega
        rcases hi with rfl | rfl | rfl | rfl | rfl <;> simp at h1 <;> exact ⟨h1.1.symm, h1.2.symm⟩
    | _ => simp [hu] at h

/-- A number as an argument: five integers, no memory. -/
theorem open_num {r : Reach} {b0 : Nat} {v : Value} {d : DataW H} {p : List MemPlace} (hv : Value.okWide Tryz.prog w r b0 23 v) (h : DataW.Trod enc Tryz.prog w base spare held 23 v d p) :
    ∃ A B C D K : Int, v = nv A B C D K ∧ p = [] := by
  obtain ⟨fs, hs, h5, hf⟩ := fields_num
  have hC : Tryz.prog.cellsOf 23 = 5 := by kernel_rfl
  have hI : Tryz.prog.cellsOf 3 = 1 := by kernel_rfl
  obtain ⟨⟨l⟩, rfl, hsz⟩ := okWide_struct hs hv
  obtain ⟨fuel, hq⟩ := h
  obtain ⟨xs, n, _, hx, hl, hxl, hat⟩ := DataW.trod_struct hs hq
  simp only [Value.cells] at hl hat
  have hl5 : l.length = 5 := by rw [← hC]; exact hl
  match l, hl5 with
  | [c0, c1, c2, c3, c4], _ =>
    have one : ∀ (i : Nat) (c : Value), i < 5 → [c0, c1, c2, c3, c4][i]? = some c → ∃ z, c = .int .i64 z ∧ ∃ y, xs[i]? = some y ∧ y.2 = [] := by
      intro i c hi hc
      obtain ⟨f, hff⟩ : ∃ f, fs[i]? = some f := ⟨fs[i]'(by omega), Array.getElem?_eq_getElem (by omega)⟩
      obtain ⟨ft, fo⟩ := hf i f hff
      have h1 := hat i f hff
      rw [ft, fo, hI] at h1
      have h2 : List.take 1 (List.drop i [c0, c1, c2, c3, c4]) = [c] := by
        have hi' : i = 0 ∨ i = 1 ∨ i = 2 ∨ i = 3 ∨ i = 4 := by omega
        rcases hi' with rfl | rfl | rfl | rfl | rfl <;> simp at hc <;> simp [hc]
      rw [h2] at h1
      have hlt : i < xs.length := by omega
      rw [List.getElem?_eq_getElem hlt] at h1
      obtain ⟨z, hz, hy, _⟩ := DataW.trod_int Tryz.underlying3 h1
      refine ⟨z, by simpa using hz, xs[i], List.getElem?_eq_getElem hlt, by rw [hy]⟩
    obtain ⟨z0, rfl, y0, e0, n0⟩ := one 0 c0 (by omega) rfl
    obtain ⟨z1, rfl, y1, e1, n1⟩ := one 1 c1 (by omega) rfl
    obtain ⟨z2, rfl, y2, e2, n2⟩ := one 2 c2 (by omega) rfl
    obtain ⟨z3, rfl, y3, e3, n3⟩ := one 3 c3 (by omega) rfl
    obtain ⟨z4, rfl, y4, e4, n4⟩ := one 4 c4 (by omega) rfl
    refine ⟨z0, z1, z2, z3, z4, rfl, ?_⟩
    have hp : p = xs.flatMap (·.2) := congrArg Prod.snd hx
    rw [hp]
    have hx5 : xs.length = 5 := by omega
    match xs, hx5, e0, e1, e2, e3, e4 with
    | [a0, a1, a2, a3, a4], _, e0, e1, e2, e3, e4 =>
      simp at e0 e1 e2 e3 e4
      subst e0 e1 e2 e3 e4
      simp [n0, n1, n2, n3, n4]
end
end Go.Proofs.YtcdmcndjbajhlaaGreatDoor
