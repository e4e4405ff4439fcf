/- RingPowers returns true for any number, any integers and any list of numbers, and leaves its arguments as they were. Conditions: none of its own; the package-level variables that its row lists hold what the text of the program lays, which the card ties. -/
import Derived.Test.YtjalpolciofphaaDoorFr
import Derived.Test.YtjalpolciofphaaDoorGa
import Derived.Deep.Slices
import Derived.Test.YtjalpolciofphaaDoorCa
import Derived.Test.YtjalpolciofphaaDoorGb
import Derived.Carry
set_option linter.all false
set_option maxRecDepth 100000
namespace Go.Proofs.YtjalpolciofphaaDoor
open Go.ChangeShapes Go.WideShapes Go.ChangeAt Go.RowKit Go.Joins Go.Deep
section
variable {H : Type} {enc : TypeId × Value → H} {w : World} {base : Nat} {spare : Nat → Bool} {held : Bool}
theorem open_cells {fuel : Nat} {l : List Value} {y : DataW H × List MemPlace} (hq : DataW.trod enc Tryd.prog w base spare held fuel 23 l = some y) :
    ∃ x : Nm, l = [.int .i64 x.A, .int .i64 x.B, .int .i64 x.C, .int .i64 x.D, .int .i64 x.K] := by
  obtain ⟨fs, hs, h5, hf⟩ := fields_num
  have hC : Tryd.prog.cellsOf 23 = 5 := by kernel_rfl
  have hI : Tryd.prog.cellsOf 3 = 1 := by kernel_rfl
  obtain ⟨xs, n, _, hx, hl, hxl, hat⟩ := DataW.trod_struct hs hq
  have hl5 : l.length = 5 := by rw [← hC]; exact hl
  match l, hl5 with
  | [c0, c1, c2, c3, c4], _ =>
    have one : ∀ (i : Nat) (c : Value), i < 5 → [c0, c1, c2, c3, c4][i]? = some c → ∃ z, c = .int .i64 z := by
      intro i c hi hc
      obtain ⟨f, hff⟩ : ∃ f, fs[i]? = some f := ⟨fs[i]'(by omega), Array.getElem?_eq_getElem (by omega)⟩
      obtain ⟨ft, fo⟩ := hf i f hff
      have h1 := hat i f hff
      rw [ft, fo, hI] at h1
      have h2 : List.take 1 (List.drop i [c0, c1, c2, c3, c4]) = [c] := by
        have hi' : i = 0 ∨ i = 1 ∨ i = 2 ∨ i = 3 ∨ i = 4 := by omega
        rcases hi' with rfl | rfl | rfl | rfl | rfl <;> simp at hc <;> simp [hc]
      rw [h2] at h1
      have hlt : i < xs.length := by omega
      rw [List.getElem?_eq_getElem hlt] at h1
      obtain ⟨z, hz, _, _⟩ := DataW.trod_int Tryd.underlying3 h1
      exact ⟨z, by simpa using hz⟩
    obtain ⟨z0, rfl⟩ := one 0 c0 (by omega) rfl
    obtain ⟨z1, rfl⟩ := one 1 c1 (by omega) rfl
    obtain ⟨z2, rfl⟩ := one 2 c2 (by omega) rfl
    obtain ⟨z3, rfl⟩ := one 3 c3 (by omega) rfl
    obtain ⟨z4, rfl⟩ := one 4 c4 (by omega) rfl
    exact ⟨⟨z0, z1, z2, z3, z4⟩, rfl⟩
theorem add_at' (b off j : Nat) : (⟨b, off, none⟩ : Addr).add j = ⟨b, off + j, none⟩ := by
  unfold Addr.add; split <;> simp_all
/-- A list of numbers: nothing, or numbers in a row. -/
theorem open_nums {r : Reach} {b0 : Nat} {v : Value} {d : DataW H} {p : List MemPlace} (hv : Value.okWide Tryd.prog w r b0 29 v) (h : DataW.Trod enc Tryd.prog w base (fun _ => true) held 29 v d p) :
    ∃ (pa : Option Addr) (len cap : Nat), v = .slice pa len cap ∧ len ≤ maxLen ∧ (pa = none → cap = 0) ∧ (len = 0 ∨ ∃ (b off : Nat) (xs : List Nm), pa = some ⟨b, off, none⟩ ∧ xs.length = len ∧ Row w b off xs) := by
  have hu : Tryd.prog.underlying 29 = some (.slice 23) := by kernel_rfl
  have hC : Tryd.prog.cellsOf 23 = 5 := by kernel_rfl
  obtain ⟨pa, len, cap, rfl⟩ := okWide_slice hu hv
  obtain ⟨fuel, hf⟩ := h
  rcases open_slice hu hf with ⟨hcs, _⟩ | ⟨a, len', cap', m, n, D, Pl, hcs, hb, hl, hm, hmm, _, hi⟩
  · simp [Value.cells] at hcs
    obtain ⟨rfl, rfl, rfl⟩ := hcs
    exact ⟨none, 0, 0, rfl, by unfold maxLen; omega, fun _ => rfl, .inl rfl⟩
  · simp [Value.cells] at hcs
    obtain ⟨rfl, rfl, rfl⟩ := hcs
    simp only [if_true] at hmm
    refine ⟨some a, len, cap, rfl, by omega, (fun h => by cases h), ?_⟩
    by_cases h0 : len = 0
    · exact .inl h0
    · right
      rw [hC] at hi
      have each : ∀ i, ∃ x : Nm, i < len → (w.cell? ((a.add (i * 5)).add 0) = some (.int .i64 x.A) ∧ w.cell? ((a.add (i * 5)).add 1) = some (.int .i64 x.B) ∧ w.cell? ((a.add (i * 5)).add 2) = some (.int .i64 x.C) ∧ w.cell? ((a.add (i * 5)).add 3) = some (.int .i64 x.D) ∧ w.cell? ((a.add (i * 5)).add 4) = some (.int .i64 x.K)) := by
        intro i
        by_cases hlt : i < len
        · obtain ⟨cs', hc, ht⟩ := hi i (by omega)
          obtain ⟨x, hx⟩ := open_cells ht
          subst hx
          obtain ⟨_, _, hat⟩ := World.cells?_some hc
          exact ⟨x, fun _ => ⟨hat 0 (by omega), hat 1 (by omega), hat 2 (by omega), hat 3 (by omega), hat 4 (by omega)⟩⟩
        · exact ⟨nul, fun h => absurd h hlt⟩
      obtain ⟨f, hf'⟩ := Classical.axiomOfChoice each
      have hs : a.spot = none := by simpa [Addr.add] using World.cell?_spot (hf' 0 (by omega)).1
      obtain ⟨b, off, spot⟩ := a
      dsimp only at hs
      subst hs
      refine ⟨b, off, (List.range len).map f, rfl, by simp, ?_, fun i x hx => ?_⟩
      · have := World.block_lt_of_cell? w _ (hf' 0 (by omega)).1
        rw [add_at', add_at'] at this
        exact this
      · simp only [List.getElem?_map, Option.map_eq_some_iff] at hx
        obtain ⟨j, hj, rfl⟩ := hx
        obtain ⟨hj1, hj2⟩ := List.getElem?_eq_some_iff.1 hj
        simp at hj1 hj2
        subst hj2
        have h' := hf' i hj1
        simp only [add_at', Nat.add_zero] at h'
        exact h'
end
end Go.Proofs.YtjalpolciofphaaDoor
namespace Go.Proofs.YtjalpolciofphaaDoor
open Go.ChangeShapes Go.WideShapes Go.ChangeAt Go.RowKit Go.Joins Go.Deep

/-- A call that returns one value and leaves what was there: the post of a law whose arguments lie in memory, too. -/
theorem post_row {H : Type} {enc : TypeId × Value → H} {P : Program} {f : Func} {s : ChangeSpec} {apart fresh handsOn : Bool} {W W' : World} {args : Array Value} {v : Value} {ds : List (DataW H)} {before pa : List MemPlace}
    (hW : DataW.Whole enc P f.params.toList s.vars apart W args.toList ds [] before) (hb : Below W.heap.size W W')
    (hres : ∀ (b : Nat) (sp : Nat → Bool) (hd : Bool), DataW.TrodAll enc P W' b sp hd f.resultTypes.toList (v.resultList f.resultTypes.size) (s.fn H (ds ++ [])).results [])
    (hargs : DataW.TrodAll enc P W' 0 (fun b => decide (b < W.heap.size)) true f.params.toList args.toList (s.fn H (ds ++ [])).args pa)
    (hvars : ∀ sp : Nat → Bool, DataW.TrodVars enc P W' sp s.vars (s.fn H (ds ++ [])).vars []) : s.post enc P f apart fresh handsOn false W args v W' :=
  ⟨ds, [], before, [], pa, [], hW, hres _ _ _, hargs, hvars _, World.keptBut_mono (fun p hp => by cases hp) (hb.frame (· ∈ ([] : List MemPlace))), fun h => by cases h⟩
set_option maxHeartbeats 2000000 in
theorem RingPowers_any (x : Nm) (n k : Int) (hn0 : -9223372036854775808 ≤ n) (hn1 : n ≤ 9223372036854775807) (pa : Option Addr) (len cap : Nat) (w : World) (hlen : len ≤ maxLen) (hpa : pa = none → cap = 0)
    (hrow : len = 0 ∨ ∃ (b off : Nat) (xs : List Nm), pa = some ⟨b, off, none⟩ ∧ xs.length = len ∧ Row w b off xs) (hv : Vars w) :
    Calls Tryd.prog 4 #[x.v, .int .i64 n, .int .i64 k, .slice pa len cap] w (Gives (.bool true) w) := by
  by_cases hl : 100 < len
  · have hl2 : (100 : Int) < len := by omega
    unfold maxLen at hlen
    have HA : Hid (∀ w', Below w.heap.size w w' → Calls Tryd.prog 14 #[] w' (Gives (.bool true) w')) := fun w' hb => awake_below hv hb
    have G0 : Hid (Got w [(w.heap.size, x)] (w.alloc (.cells #[.int .i64 x.A, .int .i64 x.B, .int .i64 x.C, .int .i64 x.D, .int .i64 x.K] 23))) := (Got.none w).box x
    clear hv hrow hpa
    go_enter Tryd.func4, Tryd.ntmps4
    go_wp2_with fail
    refine (HA.out _ G0.out.1).mono ?_
    rintro e u9 ⟨rfl, hb⟩
    go_wp2_with fail
    go_ret
    exact ⟨rfl, below_via hb G0.out.1⟩
  · rcases hrow with rfl | ⟨b, off, xs, rfl, rfl, hr⟩
    · exact RingPowers_none x n k hn0 hn1 pa cap hpa w hv
    · exact RingPowers_row x n k hn0 hn1 xs b off cap (by omega) w hr hv
set_option maxHeartbeats 2000000 in
theorem RingPowers_lifted (os : Os) (started : os.Started) (H : Type) (enc : TypeId × Value → H) (F : Stop.Interp) :
    ReturnsInHanded {} Tryd.checked os 4 .any ((OpenSpec.ofChange Rows.ringPowersSpec).preRow enc Tryd.prog Tryd.f4 Rows.ringPowersRow.domain false Rows.ringPowersRow.laid) (((OpenSpec.ofChange Rows.ringPowersSpec).at F).post enc Tryd.prog Tryd.f4 false true false false) := by
  refine returnsInHanded_of_row (C := Tryd.checked) (s := OpenSpec.ofChange Rows.ringPowersSpec) own_ started (by kernel_rfl) Tryd.func4
    (fits_at (enc := enc) (C := Tryd.checked) (World.doorLaid Tryd.prog 2000 os) #[zeroN, .int .i64 0, .int .i64 0, .slice none 0 0] rfl (World.shaped_of_RefB (by kernel_rfl) (by kernel_rfl)) (by kernel_rfl) (OpenSpec.preRow_of_B rfl 8 (by kernel_rfl) (by kernel_rfl) (door_met os _))) ?_
  intro W base args ds gs before hval0 hW _ _ _ hL hsh _
  have hval : ∀ (j : Nat) t v, Tryd.f4.params[j]? = some t → args[j]? = some v → Value.okWide Tryd.prog W .any base t v := hval0
  have hv := vars_of hL hsh
  have hW' := hW
  obtain ⟨p, q, hA0, hV, rfl, _, _⟩ := hW
  have hA : DataW.TrodAll enc Tryd.prog W 0 (fun _ => true) true Tryd.f4.params.toList args.toList ds p := hA0
  rw [Tryd.params4] at hA hval
  obtain ⟨v0, v1, v2, v3, d0, d1, d2, d3, p0, p1, p2, p3, rfl, rfl, rfl, h0, h1, h2, h3⟩ := trodAll_four hA
  obtain ⟨rfl, rfl⟩ := trodVars_none hV
  obtain ⟨A, B, C, D, K, rfl, rfl⟩ := open_num (hval 0 23 v0 rfl rfl) h0
  obtain ⟨n, rfl, rfl, rfl, hn⟩ := open_int Tryd.underlying3 (hval 1 3 v1 rfl rfl) h1
  obtain ⟨k, rfl, rfl, rfl, hk⟩ := open_int Tryd.underlying3 (hval 2 3 v2 rfl rfl) h2
  obtain ⟨pa, len, cap, rfl, hlen, hpa, hrow⟩ := open_nums (hval 3 29 v3 rfl rfl) h3
  clear hA0 hval0
  have hlt : ∀ x ∈ p3, x.block < W.heap.size := fun x hx => hW'.lt x (by simpa using hx)
  simp only [List.append_nil, List.nil_append] at hW'
  have hnr : -9223372036854775808 ≤ n ∧ n ≤ 9223372036854775807 := by
    have hn' := hn
    simp only [Lit.wf, Bool.and_eq_true, decide_eq_true_eq] at hn'
    have e1 : IntKind.i64.min = -9223372036854775808 := by decide
    have e2 : IntKind.i64.max = 9223372036854775807 := by decide
    rw [e1, e2] at hn'
    exact hn'
  refine (RingPowers_any ⟨A, B, C, D, K⟩ n k hnr.1 hnr.2 pa len cap W hlen hpa hrow hv).mono fun e W' ⟨he, hb⟩ => ?_
  subst he
  refine ⟨_, rfl, post_row (pa := [] ++ ([] ++ ([] ++ p3))) hW' hb ?_ ?_ ?_⟩
  · exact fun _ _ _ => trodAll_mk1 (shut_bool Tryd.underlying4 true)
  · exact trodAll_mk4 (num_kept h0 hb) (shut_int Tryd.underlying3 hn) (shut_int Tryd.underlying3 hk) (Below.trod laidOut_ (by kernel_rfl) (Nat.le_of_ble_eq_true (by kernel_rfl)) h3 hb hlt)
  · exact fun _ => rfl
theorem RingPowers_holds : Rows.RingPowersSaid :=
  OpenClaim.holds_of_cond 4 Tryd.f4 rfl rfl rfl rfl rfl rfl rfl ⟨rfl, rfl, rfl, rfl, rfl⟩ rfl rfl rfl rfl rfl (by kernel_rfl) Tryd.func4 (by kernel_rfl)
    (of_decide_eq_true (by kernel_rfl)) (by unfold Func.isWrapper; first | (rw [if_pos (by decide +kernel)]; kernel_rfl) | (rw [if_neg (by decide +kernel)]; exact ⟨rfl, rfl⟩))
    (fun os started H enc _ F => by rw [OpenClaim.pre_eq_preRow]; exact RingPowers_lifted os started H enc F)
theorem RingPowers_card : Rows.RingPowersCardSaid :=
  Claim7.holds_tied_plain_at .later [] [.data, .data, .data, .data] true (true, "9a02e1f7ab0c001f79e635e937a79dc9a73bf1ab2993de74d9cf52965f638a5c") false
    RingPowers_holds (fun _ h => by cases h) (by kernel_rfl) (fun _ h => by cases h) ringPowers_row_tie rfl ⟨rfl, rfl⟩ (by kernel_rfl) rfl
    (fun f fn hf hfn => by
      obtain rfl : f = 4 := Option.some.inj ((show Tryd.prog.funcNamed "spoondrift/spoondriftlaw01.RingPowers" = some 4 by kernel_rfl).symm.trans hf) |>.symm
      obtain rfl : fn = Tryd.f4 := (Option.some.inj (Tryd.func4.symm.trans hfn)).symm
      exact ⟨by kernel_rfl, fun j t ht => by
        rw [Tryd.params4] at ht
        have hm : t ∈ [23, 3, 29] := by
          have := Array.mem_of_getElem? ht
          simpa using this
        have hall : ([23, 3, 29].all fun u => !Tryd.prog.wantsStandIn u) = true := by kernel_rfl
        exact (show Tryd.prog.wantsStandIn t = false by simpa using List.all_eq_true.1 hall t hm)⟩)
    (by kernel_rfl)
#print axioms RingPowers_card
end Go.Proofs.YtjalpolciofphaaDoor
