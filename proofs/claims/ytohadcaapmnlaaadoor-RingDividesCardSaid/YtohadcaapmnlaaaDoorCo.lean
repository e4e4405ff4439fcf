
/- RingDivides returns true for any two numbers, and leaves its arguments as they were. Conditions: none of its own; the package-level variables that its row lists hold what the text of the program lays, which the card ties. -/
import Derived.Test.YtohadcaapmnlaaaDoorCa
import Derived.Test.YtohadcaapmnlaaaDoorRi
set_option linter.all false
set_option maxRecDepth 100000
namespace Go.Proofs.YtohadcaapmnlaaaDoor
open Go.ChangeShapes Go.WideShapes Go.ChangeAt Go.RowKit Go.Joins Go.Deep

set_option maxHeartbeats 2000000 in
theorem RingDivides_lifted (os : Os) (started : os.Started) (H : Type) (enc : TypeId × Value → H) (F : Stop.Interp) :
    ReturnsInHanded {} Tryd.checked os 3 .any ((OpenSpec.ofChange Rows.ringDividesSpec).preRow enc Tryd.prog Tryd.f3 Rows.ringDividesRow.domain false Rows.ringDividesRow.laid) (((OpenSpec.ofChange Rows.ringDividesSpec).at F).post enc Tryd.prog Tryd.f3 false true false false) := by
  refine returnsInHanded_of_row (C := Tryd.checked) (s := OpenSpec.ofChange Rows.ringDividesSpec) own_ started (by kernel_rfl) Tryd.func3
    (fits_at (enc := enc) (C := Tryd.checked) (World.doorLaid Tryd.prog 2000 os) #[zeroN, zeroN] rfl (World.shaped_of_RefB (by kernel_rfl) (by kernel_rfl)) (by kernel_rfl) (OpenSpec.preRow_of_B rfl 8 (by kernel_rfl) (by kernel_rfl) (door_met os _))) ?_
  intro W base args ds gs before hval0 hW _ _ _ hL hsh _
  have hval : ∀ (j : Nat) t v, Tryd.f3.params[j]? = some t → args[j]? = some v → Value.okWide Tryd.prog W .any base t v := hval0
  have hv := vars_of hL hsh
  have hW' := hW
  obtain ⟨p, q, hA0, hV, rfl, _, _⟩ := hW
  have hA : DataW.TrodAll enc Tryd.prog W 0 (fun _ => true) true Tryd.f3.params.toList args.toList ds p := hA0
  rw [Tryd.params3] at hA hval
  obtain ⟨v0, v1, d0, d1, p0, p1, rfl, rfl, rfl, h0, h1⟩ := trodAll_two hA
  obtain ⟨rfl, rfl⟩ := trodVars_none hV
  obtain ⟨A, B, C, D, K, rfl, rfl⟩ := open_num (hval 0 23 v0 rfl rfl) h0
  obtain ⟨a, b, c, d, k, rfl, rfl⟩ := open_num (hval 1 23 v1 rfl rfl) h1
  clear hA0 hval0
  simp only [List.append_nil] at hW'
  refine (RingDivides_any ⟨A, B, C, D, K⟩ ⟨a, b, c, d, k⟩ W hv).mono fun e W' ⟨he, hb⟩ => ?_
  subst he
  refine ⟨_, rfl, post_plain hW' hb ?_ ?_ ?_⟩
  · exact fun _ _ _ => trodAll_mk1 (shut_bool Tryd.underlying4 true)
  · exact trodAll_mk2 (num_kept h0 hb) (num_kept h1 hb)
  · exact fun _ => rfl
theorem RingDivides_holds : Rows.RingDividesSaid :=
  OpenClaim.holds_of_cond 3 Tryd.f3 rfl rfl rfl rfl rfl rfl rfl ⟨rfl, rfl, rfl, rfl, rfl⟩ rfl rfl rfl rfl rfl (by kernel_rfl) Tryd.func3 (by kernel_rfl)
    (of_decide_eq_true (by kernel_rfl)) (by unfold Func.isWrapper; first | (rw [if_pos (by decide +kernel)]; kernel_rfl) | (rw [if_neg (by decide +kernel)]; exact ⟨rfl, rfl⟩))
    (fun os started H enc _ F => by rw [OpenClaim.pre_eq_preRow]; exact RingDivides_lifted os started H enc F)
theorem RingDivides_card : Rows.RingDividesCardSaid :=
  Claim7.holds_tied_plain_at .later [] [.data, .data, .data, .data] true (true, "58576eecc914721e0cf6326fbec9437b160c6c85afe33ebaf787f8fac11ef8f0") false
    RingDivides_holds (fun _ h => by cases h) (by kernel_rfl) (fun _ h => by cases h) ringDivides_row_tie rfl ⟨rfl, rfl⟩ (by kernel_rfl) rfl
    (fun f fn hf hfn => by
      obtain rfl : f = 3 := Option.some.inj ((show Tryd.prog.funcNamed "spoondrift/spoondriftlaw01.RingDivides" = some 3 by kernel_rfl).symm.trans hf) |>.symm
      obtain rfl : fn = Tryd.f3 := (Option.some.inj (Tryd.func3.symm.trans hfn)).symm
      exact ⟨by kernel_rfl, fun j t ht => by
        rw [Tryd.params3] at ht
        have hm : t ∈ [23] := by
          have := Array.mem_of_getElem? ht
          simpa using this
        have hall : ([23].all fun u => !Tryd.prog.wantsStandIn u) = true := by kernel_rfl
        exact (show Tryd.prog.wantsStandIn t = false by simpa using List.all_eq_true.1 hall t hm)⟩)
    (by kernel_rfl)
#print axioms RingDivides_card
end Go.Proofs.YtohadcaapmnlaaaDoor
