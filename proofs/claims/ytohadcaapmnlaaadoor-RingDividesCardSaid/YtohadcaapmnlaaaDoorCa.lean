
/- RingLeast returns true for any two numbers, and leaves both arguments as they were. Conditions: none of its own; the package-level variables that its row lists hold what the text of the program lays, which the card ties. -/
import Derived.Test.YtohadcaapmnlaaaDoorFr
import Derived.Test.YtohadcaapmnlaaaDoorRl
import Derived.Stop.LaidErr
import Derived.Shelf.LaysM
set_option linter.all false
set_option maxRecDepth 100000
namespace Go.Proofs.YtohadcaapmnlaaaDoor
open Go.ChangeShapes Go.WideShapes Go.ChangeAt Go.RowKit Go.Joins Go.Deep

theorem cell_in {w : World} {a : Addr} {v : Value} (h : w.cell? a = some v) : a.block < w.heap.size := by
  rcases Nat.lt_or_ge a.block w.heap.size with h' | h'
  · exact h'
  · simp [World.cell?, Array.getElem?_eq_none h'] at h
theorem own_ : ownKnob Tryd.prog.godebug = none := by kernel_rfl
theorem gNames : Tryd.prog.globalNamed "spoondrift/ring.names" = some 0 := by kernel_rfl
theorem tNames : (Tryd.prog.globals[0]?).map (·.type) = some 101 := by kernel_rfl
theorem gPow : Tryd.prog.globalNamed "internal/strconv.uint64pow10" = some 1 := by kernel_rfl
theorem tPow : (Tryd.prog.globals[1]?).map (·.type) = some 122 := by kernel_rfl

/-- The names, out of what the row lists. -/
theorem names_of {W : World} {r : List (String × DataW Unit)} (h : laidMet Tryd.prog (("spoondrift/ring.names", Rows.laid_spoondrift_ring_names) :: r) W) : NamesAre W := by
  obtain ⟨ps, ⟨g, t, cs, fuel, p, q, hg, ht, hvar, hd, _, _⟩, _⟩ := h
  obtain rfl := Option.some.inj (gNames.symm.trans hg)
  obtain rfl := Option.some.inj (tNames.symm.trans ht)
  have hu : Tryd.prog.underlying 101 = some (.array 4 9) := by kernel_rfl
  have hs : Tryd.prog.underlying 9 = some .string := by kernel_rfl
  have hc : Tryd.prog.cellsOf 9 = 1 := by kernel_rfl
  obtain ⟨xs, m, _, hx, hlen, hn, hat⟩ := DataW.trod_array hu hd
  have hl : cs.toList.length = 4 := by
    have : Tryd.prog.cellsOf 101 = 4 := by kernel_rfl
    omega
  have hcell : ∀ (i : Nat) (v : Value), cs.toList[i]? = some v → W.cell? ⟨0, i, none⟩ = some v := fun i v hv => by
    have := World.var?_cell hg hvar i
    rw [this]
    simpa using hv
  obtain ⟨l⟩ := cs
  dsimp only at hl hat hcell
  match l, hl with
  | [c0, c1, c2, c3], _ =>
    match xs, hn with
    | [x0, x1, x2, x3], _ =>
      have hxs : x0.1 = .lit (.string []) ∧ x1.1 = .lit (.string [119]) ∧ x2.1 = .lit (.string [119, 50]) ∧ x3.1 = .lit (.string [119, 51]) := by
        have h1 := congrArg Prod.fst hx
        simp [Rows.laid_spoondrift_ring_names] at h1
        exact ⟨h1.1.symm, h1.2.1.symm, h1.2.2.1.symm, h1.2.2.2.symm⟩
      have one : ∀ (i : Nat) (c : Value) (x : DataW Unit × List MemPlace) (bs : List UInt8), i < 4 → [c0, c1, c2, c3][i]? = some c → [x0, x1, x2, x3][i]? = some x → x.1 = .lit (.string bs) → c = .string ⟨bs.toArray⟩ := by
        intro i c x bs hi hci hxi hxb
        have h1 := hat i hi
        rw [hc] at h1
        have h2 : List.take 1 (List.drop (i * 1) [c0, c1, c2, c3]) = [c] := by
          have hi' : i = 0 ∨ i = 1 ∨ i = 2 ∨ i = 3 := by omega
          rcases hi' with rfl | rfl | rfl | rfl <;> simp at hci <;> simp [hci]
        rw [h2, hxi] at h1
        obtain ⟨s, e1, e2, _⟩ := DataW.trod_string hs h1
        have e3 : s.data.toList = bs := by
          have := congrArg Prod.fst e2
          rw [hxb] at this
          simpa using this.symm
        have e4 : c = .string s := by simpa using e1
        rw [e4, ← e3]
      have z0 := hcell 0 c0 rfl
      rw [one 0 c0 x0 _ (by omega) rfl rfl hxs.1] at z0
      have z1 := hcell 1 c1 rfl
      rw [one 1 c1 x1 _ (by omega) rfl rfl hxs.2.1] at z1
      have z2 := hcell 2 c2 rfl
      rw [one 2 c2 x2 _ (by omega) rfl rfl hxs.2.2.1] at z2
      have z3 := hcell 3 c3 rfl
      rw [one 3 c3 x3 _ (by omega) rfl rfl hxs.2.2.2] at z3
      exact ⟨cell_in z0, z0, z1, z2, z3⟩
theorem vars_of {W : World} (h : laidMetH Tryd.prog [("math/bits.deBruijn32tab", Rows.laid_math_bits_deBruijn32tab), ("math/bits.deBruijn64tab", Rows.laid_math_bits_deBruijn64tab), ("internal/strconv.uint64pow10", Rows.laid_internal_strconv_uint64pow10), ("spoondrift/ring.names", Rows.laid_spoondrift_ring_names)] W) (hsh : W.ShapedOpen Tryd.prog) : Vars W := by
  rw [MakeChecks.laidMetH_plain _ _ _ (by kernel_rfl)] at h
  refine ⟨names_of h.tail.tail.tail, ?_, ?_⟩
  · obtain ⟨m, hm⟩ := Tryd.laysM145.s1_3 W hsh
    exact ⟨m, cell_in hm, hm⟩
  · exact Lib.tabIs_of_head gPow tPow (t := 122) (e := 114) (n := 20) (by kernel_rfl) (by kernel_rfl) (by kernel_rfl) (by kernel_rfl) h.tail.tail

/-- A call that returns one value and leaves what was there: the post of a law whose arguments take no memory. -/
theorem post_plain {H : Type} {enc : TypeId × Value → H} {P : Program} {f : Func} {s : ChangeSpec} {apart fresh handsOn : Bool} {W W' : World} {args : Array Value} {v : Value} {ds : List (DataW H)}
    (hW : DataW.Whole enc P f.params.toList s.vars apart W args.toList ds [] []) (hb : Below W.heap.size W W')
    (hres : ∀ (b : Nat) (sp : Nat → Bool) (hd : Bool), DataW.TrodAll enc P W' b sp hd f.resultTypes.toList (v.resultList f.resultTypes.size) (s.fn H (ds ++ [])).results [])
    (hargs : DataW.TrodAll enc P W' 0 (fun b => decide (b < W.heap.size)) true f.params.toList args.toList (s.fn H (ds ++ [])).args [])
    (hvars : ∀ sp : Nat → Bool, DataW.TrodVars enc P W' sp s.vars (s.fn H (ds ++ [])).vars []) : s.post enc P f apart fresh handsOn false W args v W' :=
  ⟨ds, [], [], [], [], [], hW, hres _ _ _, hargs, hvars _, World.keptBut_mono (fun p hp => by cases hp) (hb.frame (· ∈ ([] : List MemPlace))), fun h => by cases h⟩
/-- An input that fits, at a world of one's own making. -/
theorem fits_at {H : Type} {enc : TypeId × Value → H} {C : Checked} {os : Os} {f : FuncId} {fn : Func} {s : OpenSpec} {conds : List PathCond} {apart : Bool} {laid : List (String × DataW Unit)} (w0 : World) (args : Array Value) (hos : w0.os = os)
    (hsh : (w0.forCall (fun _ _ => 0) ⟨#[], args, []⟩).Shaped C.prog) (hok : Input.okWideB C.prog (w0.forCall (fun _ _ => 0) ⟨#[], args, []⟩) f ⟨#[], args, []⟩ = true)
    (hrow : s.preRow enc C.prog fn conds apart laid (w0.forCall (fun _ _ => 0) ⟨#[], args, []⟩).memory args) :
    ∃ (w : World) (tape : Tape) (i : Input), w.os = os ∧ (w.forCall tape i).Shaped C.prog ∧ i.vars = [] ∧ Input.okWide C.prog (w.forCall tape i) .any w.heap.size f i ∧
      s.preRow enc C.prog fn conds apart laid (w.forCall tape i).memory i.args ∧ ({} : Assume).holds C.prog (lone (Frame.enter C.prog f i.args .normal) [] (w.forCall tape i)) :=
  ⟨w0, fun _ _ => 0, ⟨#[], args, []⟩, hos, hsh, (Input.okWide_of_okWideB (base := 0) hok).1, (Input.okWide_of_okWideB hok).2, hrow, by
    simp only [Assume.holds]
    exact ⟨by simp, by simp, fun _ => Modest.zero, by simp, by simp⟩⟩
abbrev laid4 : List (String × DataW Unit) := [("math/bits.deBruijn32tab", Rows.laid_math_bits_deBruijn32tab), ("math/bits.deBruijn64tab", Rows.laid_math_bits_deBruijn64tab), ("internal/strconv.uint64pow10", Rows.laid_internal_strconv_uint64pow10), ("spoondrift/ring.names", Rows.laid_spoondrift_ring_names)]
theorem door_met (os : Os) (args : Array Value) : laidMetH Tryd.prog laid4 ((World.doorLaid Tryd.prog 2000 os).forCall (fun _ _ => 0) ⟨#[], args, []⟩).memory :=
  laidMetH_of_parts3 (fuel := 8) (laidMet_of_run' 8 (by kernel_rfl) (by kernel_rfl)) (by kernel_rfl) (by kernel_rfl)
abbrev zeroN : Value := nv 0 0 0 0 0
theorem laidOut_ : laidOutB Tryd.prog = true := by kernel_rfl
theorem num_kept {H : Type} {enc : TypeId × Value → H} {W W' : World} {v : Value} {d : DataW H} (h : DataW.Trod enc Tryd.prog W 0 (fun _ => true) true 23 v d []) (hb : Below W.heap.size W W') :
    DataW.Trod enc Tryd.prog W' 0 (fun b => decide (b < W.heap.size)) true 23 v d [] := Below.trod laidOut_ (by kernel_rfl) (Nat.le_of_ble_eq_true (by kernel_rfl)) h hb (by simp)

end Go.Proofs.YtohadcaapmnlaaaDoor
