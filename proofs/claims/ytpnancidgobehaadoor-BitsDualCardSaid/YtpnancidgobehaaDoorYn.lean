
/- BitsDual returns true for any list of bytes and any byte, and leaves its arguments as they were. Conditions: none of its own; the package-level variables that its row lists hold what the text of the program lays, which the card ties. -/
import Derived.Test.YtpnancidgobehaaDoorYf
import Derived.Test.YtpnancidgobehaaDoorYd
set_option linter.all false
set_option maxRecDepth 100000
namespace Go.Proofs.YtpnancidgobehaaDoor
open Go.ChangeShapes Go.WideShapes Go.ChangeAt Go.RowKit Go.Joins Go.Deep

set_option maxHeartbeats 2000000 in
theorem BitsDual_lifted (os : Os) (started : os.Started) (H : Type) (enc : TypeId × Value → H) (F : Stop.Interp) :
    ReturnsInHanded {} Tryd.checked os 8 .any ((OpenSpec.ofChange Rows.bitsDualSpec).preRow enc Tryd.prog Tryd.f8 Rows.bitsDualRow.domain false Rows.bitsDualRow.laid) (((OpenSpec.ofChange Rows.bitsDualSpec).at F).post enc Tryd.prog Tryd.f8 false true false false) := by
  refine returnsInHanded_of_row (C := Tryd.checked) (s := OpenSpec.ofChange Rows.bitsDualSpec) bt_own started (by kernel_rfl) Tryd.func8
    (bt_fits_at (enc := enc) (C := Tryd.checked) (World.doorLaid Tryd.prog 2000 os) #[.slice none 0 0, .int .u8 0] rfl (World.shaped_of_RefB (by kernel_rfl) (by kernel_rfl)) (by kernel_rfl) (OpenSpec.preRow_of_B rfl 8 (by kernel_rfl) (by kernel_rfl) (bt_door_met os _))) ?_
  intro W base args ds gs before hval0 hW _ _ _ hL hsh _
  have hval : ∀ (j : Nat) t v, Tryd.f8.params[j]? = some t → args[j]? = some v → Value.okWide Tryd.prog W .any base t v := hval0
  have hv := bt_vars_of hL
  have hW' := hW
  obtain ⟨p, q, hA0, hV, rfl, _, _⟩ := hW
  have hA : DataW.TrodAll enc Tryd.prog W 0 (fun _ => true) true Tryd.f8.params.toList args.toList ds p := hA0
  rw [Tryd.params8] at hA hval
  obtain ⟨v0, v1, d0, d1, p0, p1, rfl, rfl, rfl, h0, h1⟩ := trodAll_two hA
  obtain ⟨rfl, rfl⟩ := trodVars_none hV
  obtain ⟨a0, l0, c0, rfl, g0⟩ := open_bytesI (hval 0 22 v0 rfl rfl) h0
  obtain ⟨m1, rfl, rfl, rfl, k1⟩ := open_int Tryd.underlying5 (hval 1 5 v1 rfl rfl) h1
  have r1 : 0 ≤ m1 ∧ m1 ≤ 255 := by
    have hn' := k1
    simp only [Lit.wf, Bool.and_eq_true, decide_eq_true_eq] at hn'
    have e1 : IntKind.u8.min = 0 := by decide
    have e2 : IntKind.u8.max = 255 := by decide
    rw [e1, e2] at hn'
    exact hn'
  obtain ⟨n1, rfl⟩ : ∃ n : Nat, m1 = n := ⟨m1.toNat, by omega⟩
  have r1' : n1 ≤ 255 := by omega
  clear hA0 hval0
  have hlt0 : ∀ x ∈ p0, x.block < W.heap.size := fun x hx => hW'.lt x (by simp [hx])
  simp only [List.append_nil, List.nil_append] at hW'
  refine (BitsDual_any a0 l0 c0 n1 r1' W g0 hv).mono fun e W' ⟨he, hb⟩ => ?_
  subst he
  have hM := trodAll_mk2 (Below.trod bt_laidOut (by kernel_rfl) (Nat.le_of_ble_eq_true (by kernel_rfl)) h0 hb hlt0) (shut_int (enc := enc) (w := W') (base := 0) (spare := fun b => decide (b < W.heap.size)) (held := true) Tryd.underlying5 k1)
  refine ⟨_, rfl, bt_post hW' hb ?_ hM ?_⟩
  · exact fun _ _ _ => trodAll_mk1 (shut_bool Tryd.underlying4 true)
  · exact fun _ => rfl
theorem BitsDual_holds : Rows.BitsDualSaid :=
  OpenClaim.holds_of_cond 8 Tryd.f8 rfl rfl rfl rfl rfl rfl rfl ⟨rfl, rfl, rfl, rfl, rfl⟩ rfl rfl rfl rfl rfl (by kernel_rfl) Tryd.func8 (by kernel_rfl)
    (of_decide_eq_true (by kernel_rfl)) (by unfold Func.isWrapper; first | (rw [if_pos (by decide +kernel)]; kernel_rfl) | (rw [if_neg (by decide +kernel)]; exact ⟨rfl, rfl⟩))
    (fun os started H enc _ F => by rw [OpenClaim.pre_eq_preRow]; exact BitsDual_lifted os started H enc F)
theorem BitsDual_card : Rows.BitsDualCardSaid :=
  Claim7.holds_tied_plain_at .later [] [.data, .data] true (true, "fce98ae6863be6acc8c999fe035de4f6b6f98a69549bc7c90c83428178715c0e") false
    BitsDual_holds (fun _ h => by cases h) (by kernel_rfl) (fun _ h => by cases h) bitsDual_row_tie rfl ⟨rfl, rfl⟩ (by kernel_rfl) rfl
    (fun f fn hf hfn => by
      obtain rfl : f = 8 := Option.some.inj ((show Tryd.prog.funcNamed "spoondrift/spoondriftlaw02.BitsDual" = some 8 by kernel_rfl).symm.trans hf) |>.symm
      obtain rfl : fn = Tryd.f8 := (Option.some.inj (Tryd.func8.symm.trans hfn)).symm
      exact ⟨by kernel_rfl, fun j t ht => by
        rw [Tryd.params8] at ht
        have hm : t ∈ [22, 5] := by
          have := Array.mem_of_getElem? ht
          simpa using this
        have hall : ([22, 5].all fun u => !Tryd.prog.wantsStandIn u) = true := by kernel_rfl
        exact (show Tryd.prog.wantsStandIn t = false by simpa using List.all_eq_true.1 hall t hm)⟩)
    (by kernel_rfl)
#print axioms BitsDual_card
end Go.Proofs.YtpnancidgobehaaDoor
