
/- BitsSolved returns true for any two lists of bytes and any byte, and leaves its arguments as they were. Conditions: none of its own; the package-level variables that its row lists hold what the text of the program lays, which the card ties. -/
import Derived.Test.YtpnancidgobehaaDoorYf
import Derived.Test.YtpnancidgobehaaDoorYu
set_option linter.all false
set_option maxRecDepth 100000
namespace Go.Proofs.YtpnancidgobehaaDoor
open Go.ChangeShapes Go.WideShapes Go.ChangeAt Go.RowKit Go.Joins Go.Deep

set_option maxHeartbeats 2000000 in
theorem BitsSolved_lifted (os : Os) (started : os.Started) (H : Type) (enc : TypeId × Value → H) (F : Stop.Interp) :
    ReturnsInHanded {} Tryd.checked os 5 .any ((OpenSpec.ofChange Rows.bitsSolvedSpec).preRow enc Tryd.prog Tryd.f5 Rows.bitsSolvedRow.domain false Rows.bitsSolvedRow.laid) (((OpenSpec.ofChange Rows.bitsSolvedSpec).at F).post enc Tryd.prog Tryd.f5 false true false false) := by
  refine returnsInHanded_of_row (C := Tryd.checked) (s := OpenSpec.ofChange Rows.bitsSolvedSpec) bt_own started (by kernel_rfl) Tryd.func5
    (bt_fits_at (enc := enc) (C := Tryd.checked) (World.doorLaid Tryd.prog 2000 os) #[.slice none 0 0, .slice none 0 0, .int .u8 0] rfl (World.shaped_of_RefB (by kernel_rfl) (by kernel_rfl)) (by kernel_rfl) (OpenSpec.preRow_of_B rfl 8 (by kernel_rfl) (by kernel_rfl) (bt_door_met os _))) ?_
  intro W base args ds gs before hval0 hW _ _ _ hL hsh _
  have hval : ∀ (j : Nat) t v, Tryd.f5.params[j]? = some t → args[j]? = some v → Value.okWide Tryd.prog W .any base t v := hval0
  have hv := bt_vars_of hL
  have hW' := hW
  obtain ⟨p, q, hA0, hV, rfl, _, _⟩ := hW
  have hA : DataW.TrodAll enc Tryd.prog W 0 (fun _ => true) true Tryd.f5.params.toList args.toList ds p := hA0
  rw [Tryd.params5] at hA hval
  obtain ⟨v0, v1, v2, d0, d1, d2, p0, p1, p2, rfl, rfl, rfl, h0, h1, h2⟩ := trodAll_three hA
  obtain ⟨rfl, rfl⟩ := trodVars_none hV
  obtain ⟨a0, l0, c0, rfl, g0⟩ := open_bytesI (hval 0 22 v0 rfl rfl) h0
  obtain ⟨a1, l1, c1, rfl, g1⟩ := open_bytesI (hval 1 22 v1 rfl rfl) h1
  obtain ⟨m2, rfl, rfl, rfl, k2⟩ := open_int Tryd.underlying5 (hval 2 5 v2 rfl rfl) h2
  have r2 : 0 ≤ m2 ∧ m2 ≤ 255 := by
    have hn' := k2
    simp only [Lit.wf, Bool.and_eq_true, decide_eq_true_eq] at hn'
    have e1 : IntKind.u8.min = 0 := by decide
    have e2 : IntKind.u8.max = 255 := by decide
    rw [e1, e2] at hn'
    exact hn'
  obtain ⟨n2, rfl⟩ : ∃ n : Nat, m2 = n := ⟨m2.toNat, by omega⟩
  have r2' : n2 ≤ 255 := by omega
  clear hA0 hval0
  have hlt0 : ∀ x ∈ p0, x.block < W.heap.size := fun x hx => hW'.lt x (by simp [hx])
  have hlt1 : ∀ x ∈ p1, x.block < W.heap.size := fun x hx => hW'.lt x (by simp [hx])
  simp only [List.append_nil, List.nil_append] at hW'
  refine (BitsSolved_any a0 a1 l0 c0 l1 c1 n2 r2' W g0 g1 hv).mono fun e W' ⟨he, hb⟩ => ?_
  subst he
  have hM := trodAll_mk3 (Below.trod bt_laidOut (by kernel_rfl) (Nat.le_of_ble_eq_true (by kernel_rfl)) h0 hb hlt0) (Below.trod bt_laidOut (by kernel_rfl) (Nat.le_of_ble_eq_true (by kernel_rfl)) h1 hb hlt1) (shut_int (enc := enc) (w := W') (base := 0) (spare := fun b => decide (b < W.heap.size)) (held := true) Tryd.underlying5 k2)
  refine ⟨_, rfl, bt_post hW' hb ?_ hM ?_⟩
  · exact fun _ _ _ => trodAll_mk1 (shut_bool Tryd.underlying4 true)
  · exact fun _ => rfl
theorem BitsSolved_holds : Rows.BitsSolvedSaid :=
  OpenClaim.holds_of_cond 5 Tryd.f5 rfl rfl rfl rfl rfl rfl rfl ⟨rfl, rfl, rfl, rfl, rfl⟩ rfl rfl rfl rfl rfl (by kernel_rfl) Tryd.func5 (by kernel_rfl)
    (of_decide_eq_true (by kernel_rfl)) (by unfold Func.isWrapper; first | (rw [if_pos (by decide +kernel)]; kernel_rfl) | (rw [if_neg (by decide +kernel)]; exact ⟨rfl, rfl⟩))
    (fun os started H enc _ F => by rw [OpenClaim.pre_eq_preRow]; exact BitsSolved_lifted os started H enc F)
theorem BitsSolved_card : Rows.BitsSolvedCardSaid :=
  Claim7.holds_tied_plain_at .later [] [.data, .data] true (true, "fce98ae6863be6acc8c999fe035de4f6b6f98a69549bc7c90c83428178715c0e") false
    BitsSolved_holds (fun _ h => by cases h) (by kernel_rfl) (fun _ h => by cases h) bitsSolved_row_tie rfl ⟨rfl, rfl⟩ (by kernel_rfl) rfl
    (fun f fn hf hfn => by
      obtain rfl : f = 5 := Option.some.inj ((show Tryd.prog.funcNamed "spoondrift/spoondriftlaw02.BitsSolved" = some 5 by kernel_rfl).symm.trans hf) |>.symm
      obtain rfl : fn = Tryd.f5 := (Option.some.inj (Tryd.func5.symm.trans hfn)).symm
      exact ⟨by kernel_rfl, fun j t ht => by
        rw [Tryd.params5] at ht
        have hm : t ∈ [22, 22, 5] := by
          have := Array.mem_of_getElem? ht
          simpa using this
        have hall : ([22, 22, 5].all fun u => !Tryd.prog.wantsStandIn u) = true := by kernel_rfl
        exact (show Tryd.prog.wantsStandIn t = false by simpa using List.all_eq_true.1 hall t hm)⟩)
    (by kernel_rfl)
#print axioms BitsSolved_card
end Go.Proofs.YtpnancidgobehaaDoor
