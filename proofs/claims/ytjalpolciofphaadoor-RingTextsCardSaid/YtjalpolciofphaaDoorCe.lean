
/- RingTexts returns true for any number and any text, and leaves its arguments as they were. Conditions: none of its own; the package-level variables that its row lists hold what the text of the program lays, which the card ties. -/
import Derived.Test.YtjalpolciofphaaDoorCa
import Derived.ChangeMaps5
import Derived.Test.YtjalpolciofphaaDoorTt
set_option linter.all false
set_option maxRecDepth 100000
namespace Go.Proofs.YtjalpolciofphaaDoor
open Go.ChangeShapes Go.WideShapes Go.ChangeAt Go.RowKit Go.Joins Go.Deep

theorem und_string : Tryd.prog.underlying 9 = some .string := by kernel_rfl
set_option maxHeartbeats 2000000 in
theorem RingTexts_lifted (os : Os) (started : os.Started) (H : Type) (enc : TypeId × Value → H) (F : Stop.Interp) :
    ReturnsInHanded {} Tryd.checked os 7 .any ((OpenSpec.ofChange Rows.ringTextsSpec).preRow enc Tryd.prog Tryd.f7 Rows.ringTextsRow.domain false Rows.ringTextsRow.laid) (((OpenSpec.ofChange Rows.ringTextsSpec).at F).post enc Tryd.prog Tryd.f7 false true false false) := by
  refine returnsInHanded_of_row (C := Tryd.checked) (s := OpenSpec.ofChange Rows.ringTextsSpec) own_ started (by kernel_rfl) Tryd.func7
    (fits_at (enc := enc) (C := Tryd.checked) (World.doorLaid Tryd.prog 2000 os) #[zeroN, .string { data := #[] }] rfl (World.shaped_of_RefB (by kernel_rfl) (by kernel_rfl)) (by kernel_rfl) (OpenSpec.preRow_of_B rfl 8 (by kernel_rfl) (by kernel_rfl) (door_met os _))) ?_
  intro W base args ds gs before hval0 hW _ _ _ hL hsh _
  have hval : ∀ (j : Nat) t v, Tryd.f7.params[j]? = some t → args[j]? = some v → Value.okWide Tryd.prog W .any base t v := hval0
  have hv := vars_of hL hsh
  have hW' := hW
  obtain ⟨p, q, hA0, hV, rfl, _, _⟩ := hW
  have hA : DataW.TrodAll enc Tryd.prog W 0 (fun _ => true) true Tryd.f7.params.toList args.toList ds p := hA0
  rw [Tryd.params7] at hA hval
  obtain ⟨v0, v1, d0, d1, p0, p1, rfl, rfl, rfl, h0, h1⟩ := trodAll_two hA
  obtain ⟨rfl, rfl⟩ := trodVars_none hV
  obtain ⟨A, B, C, D, K, rfl, rfl⟩ := open_num (hval 0 23 v0 rfl rfl) h0
  obtain ⟨s, rfl, rfl, rfl, hs⟩ := Go.ChangeMaps.open_string und_string (hval 1 9 v1 rfl rfl) h1
  clear hA0 hval0
  simp only [List.append_nil] at hW'
  refine (RingTexts_any ⟨A, B, C, D, K⟩ s W hv hs).mono fun e W' ⟨he, hb⟩ => ?_
  subst he
  refine ⟨_, rfl, post_plain hW' hb ?_ ?_ ?_⟩
  · exact fun _ _ _ => trodAll_mk1 (shut_bool Tryd.underlying4 true)
  · exact trodAll_mk2 (num_kept h0 hb) (Go.ChangeMaps.shut_string und_string hs)
  · exact fun _ => rfl
theorem RingTexts_holds : Rows.RingTextsSaid :=
  OpenClaim.holds_of_cond 7 Tryd.f7 rfl rfl rfl rfl rfl rfl rfl ⟨rfl, rfl, rfl, rfl, rfl⟩ rfl rfl rfl rfl rfl (by kernel_rfl) Tryd.func7 (by kernel_rfl)
    (of_decide_eq_true (by kernel_rfl)) (by unfold Func.isWrapper; first | (rw [if_pos (by decide +kernel)]; kernel_rfl) | (rw [if_neg (by decide +kernel)]; exact ⟨rfl, rfl⟩))
    (fun os started H enc _ F => by rw [OpenClaim.pre_eq_preRow]; exact RingTexts_lifted os started H enc F)
theorem RingTexts_card : Rows.RingTextsCardSaid :=
  Claim7.holds_tied_plain_at .later [] [.data, .data, .data, .data] true (true, "9a02e1f7ab0c001f79e635e937a79dc9a73bf1ab2993de74d9cf52965f638a5c") false
    RingTexts_holds (fun _ h => by cases h) (by kernel_rfl) (fun _ h => by cases h) ringTexts_row_tie rfl ⟨rfl, rfl⟩ (by kernel_rfl) rfl
    (fun f fn hf hfn => by
      obtain rfl : f = 7 := Option.some.inj ((show Tryd.prog.funcNamed "spoondrift/spoondriftlaw01.RingTexts" = some 7 by kernel_rfl).symm.trans hf) |>.symm
      obtain rfl : fn = Tryd.f7 := (Option.some.inj (Tryd.func7.symm.trans hfn)).symm
      exact ⟨by kernel_rfl, fun j t ht => by
        rw [Tryd.params7] at ht
        have hm : t ∈ [23, 9] := by
          have := Array.mem_of_getElem? ht
          simpa using this
        have hall : ([23, 9].all fun u => !Tryd.prog.wantsStandIn u) = true := by kernel_rfl
        exact (show Tryd.prog.wantsStandIn t = false by simpa using List.all_eq_true.1 hall t hm)⟩)
    (by kernel_rfl)
#print axioms RingTexts_card
end Go.Proofs.YtjalpolciofphaaDoor
