
/- RingSmall returns true, and leaves what was there. It asks the other laws of the ring at the program's own list of small and outermost numbers; those laws are true for all numbers. Conditions: none of its own; the package-level variables that its row lists hold what the text of the program lays, which the card ties. -/
import Derived.Test.YtcdmcndjbajhlaaGreatDoorFr
import Derived.Test.YtcdmcndjbajhlaaGreatDoorHc
import Derived.Stop.LaidErr
import Derived.Shelf.LaysM
set_option linter.all false
set_option maxRecDepth 100000
namespace Go.Proofs.YtcdmcndjbajhlaaGreatDoor
open Go.ChangeShapes Go.WideShapes Go.ChangeAt Go.RowKit Go.Joins Go.Deep

theorem small_cell_in {w : World} {a : Addr} {v : Value} (h : w.cell? a = some v) : a.block < w.heap.size := by
  rcases Nat.lt_or_ge a.block w.heap.size with h' | h'
  · exact h'
  · simp [World.cell?, Array.getElem?_eq_none h'] at h
theorem small_own_ : ownKnob Tryz.prog.godebug = none := by kernel_rfl
theorem small_gNames : Tryz.prog.globalNamed "spoondrift/ring.names" = some 0 := by kernel_rfl
theorem small_tNames : (Tryz.prog.globals[0]?).map (·.type) = some 62 := by kernel_rfl
theorem small_gPow : Tryz.prog.globalNamed "internal/strconv.uint64pow10" = some 1 := by kernel_rfl
theorem small_tPow : (Tryz.prog.globals[1]?).map (·.type) = some 113 := by kernel_rfl

/-- The names, out of what the row lists. -/
theorem small_names_of {W : World} {r : List (String × DataW Unit)} (h : laidMet Tryz.prog (("spoondrift/ring.names", Rows.laid_spoondrift_ring_names) :: r) W) : NamesAre W := by
  obtain ⟨ps, ⟨g, t, cs, fuel, p, q, hg, ht, hvar, hd, _, _⟩, _⟩ := h
  obtain rfl := Option.some.inj (small_gNames.symm.trans hg)
  obtain rfl := Option.some.inj (small_tNames.symm.trans ht)
  have hu : Tryz.prog.underlying 62 = some (.array 4 9) := by kernel_rfl
  have hs : Tryz.prog.underlying 9 = some .string := by kernel_rfl
  have hc : Tryz.prog.cellsOf 9 = 1 := by kernel_rfl
  obtain ⟨xs, m, _, hx, hlen, hn, hat⟩ := DataW.trod_array hu hd
  have hl : cs.toList.length = 4 := by
    have : Tryz.prog.cellsOf 62 = 4 := by kernel_rfl
    omega
  have hcell : ∀ (i : Nat) (v : Value), cs.toList[i]? = some v → W.cell? ⟨0, i, none⟩ = some v := fun i v hv => by
    have := World.var?_cell hg hvar i
    rw [this]
    simpa using hv
  obtain ⟨l⟩ := cs
  dsimp only at hl hat hcell
  match l, hl with
  | [c0, c1, c2, c3], _ =>
    match xs, hn with
    | [x0, x1, x2, x3], _ =>
      have hxs : x0.1 = .lit (.string []) ∧ x1.1 = .lit (.string [119]) ∧ x2.1 = .lit (.string [119, 50]) ∧ x3.1 = .lit (.string [119, 51]) := by
        have h1 := congrArg Prod.fst hx
        simp [Rows.laid_spoondrift_ring_names] at h1
        exact ⟨h1.1.symm, h1.2.1.symm, h1.2.2.1.symm, h1.2.2.2.symm⟩
      have one : ∀ (i : Nat) (c : Value) (x : DataW Unit × List MemPlace) (bs : List UInt8), i < 4 → [c0, c1, c2, c3][i]? = some c → [x0, x1, x2, x3][i]? = some x → x.1 = .lit (.string bs) → c = .string ⟨bs.toArray⟩ := by
        intro i c x bs hi hci hxi hxb
        have h1 := hat i hi
        rw [hc] at h1
        have h2 : List.take 1 (List.drop (i * 1) [c0, c1, c2, c3]) = [c] := by
          have hi' : i = 0 ∨ i = 1 ∨ i = 2 ∨ i = 3 := by omega
          rcases hi' with rfl | rfl | rfl | rfl <;> simp at hci <;> simp [hci]
        rw [h2, hxi] at h1
        obtain ⟨s, e1, e2, _⟩ := DataW.trod_string hs h1
        have e3 : s.data.toList = bs := by
          have := congrArg Prod.fst e2
          rw [hxb] at this
          simpa using this.symm
        have e4 : c = .string s := by simpa using e1
        rw [e4, ← e3]
      have z0 := hcell 0 c0 rfl
      rw [one 0 c0 x0 _ (by omega) rfl rfl hxs.1] at z0
      have z1 := hcell 1 c1 rfl
      rw [one 1 c1 x1 _ (by omega) rfl rfl hxs.2.1] at z1
      have z2 := hcell 2 c2 rfl
      rw [one 2 c2 x2 _ (by omega) rfl rfl hxs.2.2.1] at z2
      have z3 := hcell 3 c3 rfl
      rw [one 3 c3 x3 _ (by omega) rfl rfl hxs.2.2.2] at z3
      exact ⟨small_cell_in z0, z0, z1, z2, z3⟩
theorem small_vars_of {W : World} (h : laidMetH Tryz.prog [("math/bits.deBruijn32tab", Rows.laid_math_bits_deBruijn32tab), ("math/bits.deBruijn64tab", Rows.laid_math_bits_deBruijn64tab), ("internal/strconv.uint64pow10", Rows.laid_internal_strconv_uint64pow10), ("spoondrift/ring.names", Rows.laid_spoondrift_ring_names)] W) (hsh : W.ShapedOpen Tryz.prog) : Vars W := by
  rw [MakeChecks.laidMetH_plain _ _ _ (by kernel_rfl)] at h
  refine ⟨small_names_of h.tail.tail.tail, ?_, ?_⟩
  · obtain ⟨m, hm⟩ := Tryz.laysM145.s1_3 W hsh
    exact ⟨m, small_cell_in hm, hm⟩
  · exact Lib.tabIs_of_head small_gPow small_tPow (t := 113) (e := 104) (n := 20) (by kernel_rfl) (by kernel_rfl) (by kernel_rfl) (by kernel_rfl) h.tail.tail

/-- A call that returns one value and leaves what was there: the post of a law whose arguments take no memory. -/
theorem small_post_plain {H : Type} {enc : TypeId × Value → H} {P : Program} {f : Func} {s : ChangeSpec} {apart fresh handsOn : Bool} {W W' : World} {args : Array Value} {v : Value} {ds : List (DataW H)}
    (hW : DataW.Whole enc P f.params.toList s.vars apart W args.toList ds [] []) (hb : Below W.heap.size W W')
    (hres : ∀ (b : Nat) (sp : Nat → Bool) (hd : Bool), DataW.TrodAll enc P W' b sp hd f.resultTypes.toList (v.resultList f.resultTypes.size) (s.fn H (ds ++ [])).results [])
    (hargs : DataW.TrodAll enc P W' 0 (fun b => decide (b < W.heap.size)) true f.params.toList args.toList (s.fn H (ds ++ [])).args [])
    (hvars : ∀ sp : Nat → Bool, DataW.TrodVars enc P W' sp s.vars (s.fn H (ds ++ [])).vars []) : s.post enc P f apart fresh handsOn false W args v W' :=
  ⟨ds, [], [], [], [], [], hW, hres _ _ _, hargs, hvars _, World.keptBut_mono (fun p hp => by cases hp) (hb.frame (· ∈ ([] : List MemPlace))), fun h => by cases h⟩
/-- An input that fits, at a world of one's own making. -/
theorem small_fits_at {H : Type} {enc : TypeId × Value → H} {C : Checked} {os : Os} {f : FuncId} {fn : Func} {s : OpenSpec} {conds : List PathCond} {apart : Bool} {laid : List (String × DataW Unit)} (w0 : World) (args : Array Value) (hos : w0.os = os)
    (hsh : (w0.forCall (fun _ _ => 0) ⟨#[], args, []⟩).Shaped C.prog) (hok : Input.okWideB C.prog (w0.forCall (fun _ _ => 0) ⟨#[], args, []⟩) f ⟨#[], args, []⟩ = true)
    (hrow : s.preRow enc C.prog fn conds apart laid (w0.forCall (fun _ _ => 0) ⟨#[], args, []⟩).memory args) :
    ∃ (w : World) (tape : Tape) (i : Input), w.os = os ∧ (w.forCall tape i).Shaped C.prog ∧ i.vars = [] ∧ Input.okWide C.prog (w.forCall tape i) .any w.heap.size f i ∧
      s.preRow enc C.prog fn conds apart laid (w.forCall tape i).memory i.args ∧ ({} : Assume).holds C.prog (lone (Frame.enter C.prog f i.args .normal) [] (w.forCall tape i)) :=
  ⟨w0, fun _ _ => 0, ⟨#[], args, []⟩, hos, hsh, (Input.okWide_of_okWideB (base := 0) hok).1, (Input.okWide_of_okWideB hok).2, hrow, by
    simp only [Assume.holds]
    exact ⟨by simp, by simp, fun _ => Modest.zero, by simp, by simp⟩⟩
abbrev small_laid4 : List (String × DataW Unit) := [("math/bits.deBruijn32tab", Rows.laid_math_bits_deBruijn32tab), ("math/bits.deBruijn64tab", Rows.laid_math_bits_deBruijn64tab), ("internal/strconv.uint64pow10", Rows.laid_internal_strconv_uint64pow10), ("spoondrift/ring.names", Rows.laid_spoondrift_ring_names)]
theorem small_door_met (os : Os) (args : Array Value) : laidMetH Tryz.prog small_laid4 ((World.doorLaid Tryz.prog 2000 os).forCall (fun _ _ => 0) ⟨#[], args, []⟩).memory :=
  laidMetH_of_parts3 (fuel := 8) (laidMet_of_run' 8 (by kernel_rfl) (by kernel_rfl)) (by kernel_rfl) (by kernel_rfl)
set_option maxHeartbeats 2000000 in
theorem RingSmall_lifted (os : Os) (started : os.Started) (H : Type) (enc : TypeId × Value → H) (F : Stop.Interp) :
    ReturnsInHanded {} Tryz.checked os 3 .any ((OpenSpec.ofChange Rows.ringSmallSpec).preRow enc Tryz.prog Tryz.f3 Rows.ringSmallRow.domain false Rows.ringSmallRow.laid) (((OpenSpec.ofChange Rows.ringSmallSpec).at F).post enc Tryz.prog Tryz.f3 false true false false) := by
  refine returnsInHanded_of_row (C := Tryz.checked) (s := OpenSpec.ofChange Rows.ringSmallSpec) small_own_ started (by kernel_rfl) Tryz.func3
    (small_fits_at (enc := enc) (C := Tryz.checked) (World.doorLaid Tryz.prog 2000 os) #[] rfl (World.shaped_of_RefB (by kernel_rfl) (by kernel_rfl)) (by kernel_rfl) (OpenSpec.preRow_of_B rfl 8 (by kernel_rfl) (by kernel_rfl) (small_door_met os _))) ?_
  intro W base args ds gs before hval0 hW _ _ _ hL hsh _
  have hv := small_vars_of hL hsh
  have hW' := hW
  obtain ⟨p, q, hA0, hV, rfl, _, _⟩ := hW
  have hA : DataW.TrodAll enc Tryz.prog W 0 (fun _ => true) true Tryz.f3.params.toList args.toList ds p := hA0
  rw [Tryz.params3] at hA
  obtain ⟨rfl, rfl, rfl⟩ := trodAll_none hA
  obtain ⟨rfl, rfl⟩ := trodVars_none hV
  clear hA0 hval0
  simp only [List.append_nil] at hW'
  refine (RingSmall_any W hv).mono fun e W' ⟨he, hb⟩ => ?_
  subst he
  refine ⟨_, rfl, small_post_plain hW' hb ?_ ?_ ?_⟩
  · exact fun _ _ _ => trodAll_mk1 (shut_bool Tryz.underlying4 true)
  · exact trodAll_mk0
  · exact fun _ => rfl
theorem RingSmall_holds : Rows.RingSmallSaid :=
  OpenClaim.holds_of_cond 3 Tryz.f3 rfl rfl rfl rfl rfl rfl rfl ⟨rfl, rfl, rfl, rfl, rfl⟩ rfl rfl rfl rfl rfl (by kernel_rfl) Tryz.func3 (by kernel_rfl)
    (of_decide_eq_true (by kernel_rfl)) (by unfold Func.isWrapper; first | (rw [if_pos (by decide +kernel)]; kernel_rfl) | (rw [if_neg (by decide +kernel)]; exact ⟨rfl, rfl⟩))
    (fun os started H enc _ F => by rw [OpenClaim.pre_eq_preRow]; exact RingSmall_lifted os started H enc F)
theorem RingSmall_card : Rows.RingSmallCardSaid :=
  Claim7.holds_tied_plain_at .later [] [.data, .data, .data, .data] true (true, "3ac31e6c0f467b8996d02856f66b3d929c17119690c123d583b5c51bcf797c69") false
    RingSmall_holds (fun _ h => by cases h) (by kernel_rfl) (fun _ h => by cases h) ringSmall_row_tie rfl ⟨rfl, rfl⟩ (by kernel_rfl) rfl
    (fun f fn hf hfn => by
      obtain rfl : f = 3 := Option.some.inj ((show Tryz.prog.funcNamed "spoondrift/spoondriftlaw01.RingSmall" = some 3 by kernel_rfl).symm.trans hf) |>.symm
      obtain rfl : fn = Tryz.f3 := (Option.some.inj (Tryz.func3.symm.trans hfn)).symm
      exact ⟨by kernel_rfl, fun j t ht => by
        rw [Tryz.params3] at ht
        simp at ht⟩)
    (by kernel_rfl)
#print axioms RingSmall_card
end Go.Proofs.YtcdmcndjbajhlaaGreatDoor
