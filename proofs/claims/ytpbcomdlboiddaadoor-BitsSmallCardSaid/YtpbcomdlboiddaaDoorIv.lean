
/- BitsSmall: the chapter's examples, call by call. Written by gen_bitssmall.py. -/
import Derived.Test.YtpbcomdlboiddaaDoorGk
import Derived.Test.YtpbcomdlboiddaaDoorBh
import Derived.Test.YtpbcomdlboiddaaDoorBi
import Derived.Test.YtpbcomdlboiddaaDoorIr
set_option linter.all false
set_option maxRecDepth 100000
namespace Go.Proofs.YtpbcomdlboiddaaDoor
open Go.RowKit Go.Shelf

theorem ex_b1_0 : ReduceM [3, 5, 6] 4 = [5, 3] := by decide +kernel
theorem ex_b1_1 : checkM [3, 5, 6] 4 = 0 := by decide +kernel
theorem sm_b1 (W : World) (a0 : Option Addr) : Ints W a0 ([3, 5, 6]) → Calls Tryd.prog 23 #[.slice a0 3 3, .int .i64 4] W (Gives (.tuple #[.int .i64 2, .int .i64 0]) W) := fun h0 => by
  have := bt_Rank [3, 5, 6] 4 a0 3 W h0 (by decide)
  rw [ex_b1_0, ex_b1_1] at this
  exact this
theorem ex_b2_0 : WhichM [3, 5, 6] 4 0 = (0, 0) := by decide +kernel
theorem sm_b2 (W : World) (a0 : Option Addr) : Ints W a0 ([3, 5, 6]) → Calls Tryd.prog 37 #[.slice a0 3 3, .int .i64 4, .int .i64 0] W (Gives (.tuple #[.int .i64 0, .int .i64 0]) W) := fun h0 => by
  have := bt_Which [3, 5, 6] 4 a0 3 W h0 (by decide) 0
  rw [ex_b2_0] at this
  exact this
theorem ex_b3_0 : FreeM [3, 5, 6] 4 = [0, 3] := by decide +kernel
theorem ex_b3_1 : checkM [3, 5, 6] 4 = 0 := by decide +kernel
theorem sm_b3 (W : World) (a0 : Option Addr) : Ints W a0 ([3, 5, 6]) → Calls Tryd.prog 25 #[.slice a0 3 3, .int .i64 4] W (LitE [0, 3] 2 0 W) := fun h0 => by
  have := bt_Free [3, 5, 6] 4 a0 3 W h0 (by decide)
  rw [ex_b3_0, ex_b3_1] at this
  exact this.mono fun _ _ h => h.lit rfl rfl
theorem ex_b4_0 : WeightsM [8, 7] 4 = [1, 1, 0, 1, 1] := by decide +kernel
theorem ex_b4_1 : checkM [8, 7] 4 = 0 := by decide +kernel
theorem sm_b4 (W : World) (a0 : Option Addr) : Ints W a0 ([8, 7]) → Tabbed W → Calls Tryd.prog 55 #[.slice a0 2 2, .int .i64 4] W (LitE [1, 1, 0, 1, 1] 5 0 W) := fun h0 ht => by
  have := bt_Weights [8, 7] 4 a0 2 W h0 (by decide) ht.1 ht.2
  rw [ex_b4_0, ex_b4_1] at this
  exact this.mono fun _ _ h => h.lit rfl rfl
theorem ex_b5_0 : SolveM [3, 6] 3 1 = (1, 0) := by decide +kernel
theorem sm_b5 (W : World) (a0 : Option Addr) : Ints W a0 ([3, 6]) → Calls Tryd.prog 41 #[.slice a0 2 2, .int .i64 3, .int .i64 1] W (Gives (.tuple #[.int .i64 1, .int .i64 0]) W) := fun h0 => by
  have := bt_Solve [3, 6] 3 a0 2 W h0 (by decide) 1
  rw [ex_b5_0] at this
  exact this
theorem ex_b6_0 : ApplyM [3, 6] 3 2 = (3, 0) := by decide +kernel
theorem sm_b6 (W : World) (a0 : Option Addr) : Ints W a0 ([3, 6]) → Calls Tryd.prog 42 #[.slice a0 2 2, .int .i64 3, .int .i64 2] W (Gives (.tuple #[.int .i64 3, .int .i64 0]) W) := fun h0 => by
  have := bt_Apply [3, 6] 3 2 a0 2 W h0 (by decide)
  rw [ex_b6_0] at this
  exact this
theorem ex_b7_0 : MemberM [3, 5, 6] 4 8 = (false, 0) := by decide +kernel
theorem sm_b7 (W : World) (a0 : Option Addr) : Ints W a0 ([3, 5, 6]) → Calls Tryd.prog 36 #[.slice a0 3 3, .int .i64 4, .int .i64 8] W (Gives (.tuple #[.bool false, .int .i64 0]) W) := fun h0 => by
  have := bt_Member [3, 5, 6] 4 a0 3 W h0 (by decide) 8
  rw [ex_b7_0] at this
  exact this
theorem ex_b8_0 : SameM [3, 5, 6] [6, 3] 4 = (true, 0) := by decide +kernel
theorem sm_b8 (W : World) (a0 : Option Addr) (a1 : Option Addr) : Ints W a0 ([3, 5, 6]) → Ints W a1 ([6, 3]) → Calls Tryd.prog 35 #[.slice a0 3 3, .slice a1 2 2, .int .i64 4] W (Gives (.tuple #[.bool true, .int .i64 0]) W) := fun h0 h1 => by
  have := bt_Same [3, 5, 6] [6, 3] 4 a0 a1 3 2 W h0 h1 (by decide) (by decide)
  rw [ex_b8_0] at this
  exact this
theorem ex_d1_0 : SolveM [3, 3] 2 1 = (0, 6) := by decide +kernel
theorem sm_d1 (W : World) (a0 : Option Addr) : Ints W a0 ([3, 3]) → Calls Tryd.prog 41 #[.slice a0 2 2, .int .i64 2, .int .i64 1] W (Gives (.tuple #[.int .i64 0, .int .i64 6]) W) := fun h0 => by
  have := bt_Solve [3, 3] 2 a0 2 W h0 (by decide) 1
  rw [ex_d1_0] at this
  exact this
theorem ex_d2_0 : SolveM [3, 3] 2 4 = (0, 4) := by decide +kernel
theorem sm_d2 (W : World) (a0 : Option Addr) : Ints W a0 ([3, 3]) → Calls Tryd.prog 41 #[.slice a0 2 2, .int .i64 2, .int .i64 4] W (Gives (.tuple #[.int .i64 0, .int .i64 4]) W) := fun h0 => by
  have := bt_Solve [3, 3] 2 a0 2 W h0 (by decide) 4
  rw [ex_d2_0] at this
  exact this
theorem ex_d3_0 : WhichM [3, 5, 6] 4 8 = (0, 6) := by decide +kernel
theorem sm_d3 (W : World) (a0 : Option Addr) : Ints W a0 ([3, 5, 6]) → Calls Tryd.prog 37 #[.slice a0 3 3, .int .i64 4, .int .i64 8] W (Gives (.tuple #[.int .i64 0, .int .i64 6]) W) := fun h0 => by
  have := bt_Which [3, 5, 6] 4 a0 3 W h0 (by decide) 8
  rw [ex_d3_0] at this
  exact this
theorem ex_d4_0 : WhichM [3, 5, 6] 4 16 = (0, 4) := by decide +kernel
theorem sm_d4 (W : World) (a0 : Option Addr) : Ints W a0 ([3, 5, 6]) → Calls Tryd.prog 37 #[.slice a0 3 3, .int .i64 4, .int .i64 16] W (Gives (.tuple #[.int .i64 0, .int .i64 4]) W) := fun h0 => by
  have := bt_Which [3, 5, 6] 4 a0 3 W h0 (by decide) 16
  rw [ex_d4_0] at this
  exact this
theorem ex_d5_0 : MemberM [3, 5, 6] 4 (-1) = (false, 4) := by decide +kernel
theorem sm_d5 (W : World) (a0 : Option Addr) : Ints W a0 ([3, 5, 6]) → Calls Tryd.prog 36 #[.slice a0 3 3, .int .i64 4, .int .i64 (-1)] W (Gives (.tuple #[.bool false, .int .i64 4]) W) := fun h0 => by
  have := bt_Member [3, 5, 6] 4 a0 3 W h0 (by decide) (-1)
  rw [ex_d5_0] at this
  exact this
theorem ex_d6_0 : MulM [1] 2 [1] 1 = ([], 7) := by decide +kernel
theorem sm_d6 (W : World) (a0 : Option Addr) (a1 : Option Addr) : Ints W a0 ([1]) → Ints W a1 ([1]) → Calls Tryd.prog 47 #[.slice a0 1 1, .int .i64 2, .slice a1 1 1, .int .i64 1] W (LitE [] 0 7 W) := fun h0 h1 => by
  have := bt_Mul [1] 2 [1] 1 a0 a1 1 1 W h0 h1 (by decide) (by decide)
  rw [ex_d6_0] at this
  exact this.mono fun _ _ h => h.lit rfl rfl
theorem ex_d7_0 : InvertM [1, 1] 2 = ([], 6) := by decide +kernel
theorem sm_d7 (W : World) (a0 : Option Addr) : Ints W a0 ([1, 1]) → Calls Tryd.prog 49 #[.slice a0 2 2, .int .i64 2] W (LitE [] 0 6 W) := fun h0 => by
  have := bt_Invert [1, 1] 2 a0 2 W h0 (by decide)
  rw [ex_d7_0] at this
  exact this.mono fun _ _ h => h.lit rfl rfl
theorem ex_d8_0 : InvertM [1] 2 = ([], 7) := by decide +kernel
theorem sm_d8 (W : World) (a0 : Option Addr) : Ints W a0 ([1]) → Calls Tryd.prog 49 #[.slice a0 1 1, .int .i64 2] W (LitE [] 0 7 W) := fun h0 => by
  have := bt_Invert [1] 2 a0 1 W h0 (by decide)
  rw [ex_d8_0] at this
  exact this.mono fun _ _ h => h.lit rfl rfl
theorem ex_d9_0 : TransposeM [] 3 = ([], 7) := by decide +kernel
theorem sm_d9 (W : World)  : Calls Tryd.prog 48 #[.slice none 0 0, .int .i64 3] W (LitE [] 0 7 W) := by
  have := bt_Transpose [] 3 none 0 W (.inl rfl) (by decide)
  rw [ex_d9_0] at this
  exact this.mono fun _ _ h => h.lit rfl rfl
theorem ex_d10_0 : TransposeM (List.replicate 17 0) 3 = ([], 7) := by decide +kernel
theorem sm_d10 (W : World) (a0 : Option Addr) : Ints W a0 (List.replicate 17 0) → Calls Tryd.prog 48 #[.slice a0 17 17, .int .i64 3] W (LitE [] 0 7 W) := fun h0 => by
  have := bt_Transpose (List.replicate 17 0) 3 a0 17 W h0 (by decide)
  rw [ex_d10_0] at this
  exact this.mono fun _ _ h => h.lit rfl rfl
theorem ex_d11_0 : IdentityM 0 = ([], 3) := by decide +kernel
theorem sm_d11 (W : World)  : Calls Tryd.prog 50 #[.int .i64 0] W (LitE [] 0 3 W) := by
  have := bt_Identity 0 W
  rw [ex_d11_0] at this
  exact this.mono fun _ _ h => h.lit rfl rfl
theorem ex_d12_0 : WeightM (-1) = (0, 3) := by decide +kernel
theorem sm_d12 (W : World)  : Calls Tryd.prog 54 #[.int .i64 (-1)] W (Gives (.tuple #[.int .i64 0, .int .i64 3]) W) := by
  have := bt_Weight (-1) (by decide) W
  rw [ex_d12_0] at this
  exact this
theorem ex_d13_0 : CosetM [3, 5, 6] 3 8 = (0, 4) := by decide +kernel
theorem sm_d13 (W : World) (a0 : Option Addr) : Ints W a0 ([3, 5, 6]) → Tabbed W → Calls Tryd.prog 56 #[.slice a0 3 3, .int .i64 3, .int .i64 8] W (Gives (.tuple #[.int .i64 0, .int .i64 4]) W) := fun h0 ht => by
  have := bt_Coset [3, 5, 6] 3 8 a0 3 W h0 (by decide) ht.1 ht.2
  rw [ex_d13_0] at this
  exact this
theorem ex_d14_0 : ApplyM [3, 5, 6] 3 8 = (0, 4) := by decide +kernel
theorem sm_d14 (W : World) (a0 : Option Addr) : Ints W a0 ([3, 5, 6]) → Calls Tryd.prog 42 #[.slice a0 3 3, .int .i64 3, .int .i64 8] W (Gives (.tuple #[.int .i64 0, .int .i64 4]) W) := fun h0 => by
  have := bt_Apply [3, 5, 6] 3 8 a0 3 W h0 (by decide)
  rw [ex_d14_0] at this
  exact this
theorem ex_d15_0 : ReduceM [] 16 = [] := by decide +kernel
theorem ex_d15_1 : checkM [] 16 = 0 := by decide +kernel
theorem sm_d15 (W : World)  : Calls Tryd.prog 24 #[.slice none 0 0, .int .i64 16] W (LitE [] 0 0 W) := by
  have := bt_Reduce [] 16 none 0 W (.inl rfl) (by decide)
  rw [ex_d15_0, ex_d15_1] at this
  exact this.mono fun _ _ h => h.lit rfl rfl
theorem ex_g1_0 : checkM [] 17 = 3 := by decide +kernel
theorem sm_g1 (W : World)  : Calls Tryd.prog 27 #[.slice none 0 0, .int .i64 17] W (Gives (.int .i64 3) W) := by
  have := bt_Check [] 17 none 0 W (.inl rfl) (by decide)
  rw [ex_g1_0] at this
  exact this
theorem ex_g2_0 : checkM (List.replicate 25 0) 3 = 2 := by decide +kernel
theorem sm_g2 (W : World) (a0 : Option Addr) : Ints W a0 (List.replicate 25 0) → Calls Tryd.prog 27 #[.slice a0 25 25, .int .i64 3] W (Gives (.int .i64 2) W) := fun h0 => by
  have := bt_Check (List.replicate 25 0) 3 a0 25 W h0 (by decide)
  rw [ex_g2_0] at this
  exact this
theorem ex_g3_0 : checkM (List.replicate 24 0) 3 = 0 := by decide +kernel
theorem sm_g3 (W : World) (a0 : Option Addr) : Ints W a0 (List.replicate 24 0) → Calls Tryd.prog 27 #[.slice a0 24 24, .int .i64 3] W (Gives (.int .i64 0) W) := fun h0 => by
  have := bt_Check (List.replicate 24 0) 3 a0 24 W h0 (by decide)
  rw [ex_g3_0] at this
  exact this
theorem ex_g4_0 : checkM [8] 3 = 4 := by decide +kernel
theorem sm_g4 (W : World) (a0 : Option Addr) : Ints W a0 ([8]) → Calls Tryd.prog 27 #[.slice a0 1 1, .int .i64 3] W (Gives (.int .i64 4) W) := fun h0 => by
  have := bt_Check [8] 3 a0 1 W h0 (by decide)
  rw [ex_g4_0] at this
  exact this
/-- A list of zeros, newly made. -/
theorem mk_zeros (n : Nat) (hn : n ≤ 1000) (m : Int) (hm : m = n) (w : World) : ∃ w1, (Instr.makeSlice 22 (.int .i64 m) (.int .i64 m)).run Tryd.prog w = .ok (.slice (some ⟨w.heap.size, 0, none⟩) n n) w1 ∧ Below w.heap.size w w1 ∧ Ints w1 (some ⟨w.heap.size, 0, none⟩) (List.replicate n 0) := by
  subst hm
  obtain ⟨i0, hi, hz0, hz1, hz2⟩ := info_parts info_int
  obtain ⟨w1, hmk, hown, hg⟩ := run_make_full (P := Tryd.prog) w w.heap.size 22 3 i0 (.int .i64 0) 1 und_ints hi hz0 hz1 .i64 .i64 n (by rw [hz2]; omega) (by unfold maxLen; omega) (Nat.le_refl _)
  refine ⟨w1, hmk, (Below.refl _ w).grown hg (Nat.le_refl _) (by simp), ?_⟩
  have e : (madeCells (Value.int IntKind.i64 0).cells (n * 1)).toList = (List.replicate n (0 : Int)).map iv := by
    rw [show (Value.int IntKind.i64 0).cells = #[.int .i64 0] from rfl, Nat.mul_one]
    refine List.ext_getElem? fun i => ?_
    unfold madeCells
    by_cases hi : i < n
    · simp [hi, Nat.mod_one, iv, List.getElem?_replicate]
    · simp [hi, List.getElem?_replicate]
  rw [e] at hown
  have hl : (List.replicate n (0 : Int)).length = n := List.length_replicate
  have hm : Mine w1 w.heap.size (.slice (some ⟨w.heap.size, 0, none⟩) n n) (List.replicate n 0) := by unfold Mine; rw [hl]; exact hown
  obtain ⟨p, c, hv, hi⟩ := hm.ints
  rw [hl] at hv
  cases hv
  exact hi
set_option maxHeartbeats 16000000 in
theorem BitsSmall_any (w : World) (hT : Tabbed w) : Calls Tryd.prog 8 #[] w (Gives (.bool true) w) := by
  have HT := Lib.hid hT
  have HA : Hid (∀ w', Below w.heap.size w w' → Calls Tryd.prog 17 #[] w' (Gives (.bool true) w')) := fun w' hb => bt_awake w' (HT.out.below hb)
  clear hT
  go_enter Tryd.func8, Tryd.ntmps8
  go_wp2_with fail
  have hb0 : Below w.heap.size w (w.alloc (.cells #[.int .i64 3, .int .i64 5, .int .i64 6] 3)) := (by repeat (first | with_reducible exact Below.refl _ _ | with_reducible refine below_al ?_ _ | with_reducible refine below_dN ?_ _ | with_reducible refine Below.drew ?_ | (with_reducible refine Below.setCell ?_ (by simp <;> omega) _) | (with_reducible refine below_via (by assumption) ?_)))
  have HL0 : Hid (Has (w.alloc (.cells #[.int .i64 3, .int .i64 5, .int .i64 6] 3)) [(some ⟨w.heap.size, 0, none⟩, [3, 5, 6])]) := Has.cons (fun _ h => by cases h) (ints3 w 3 5 6 rfl)
  refine (sm_b1 _ _ (HL0.out.get (by simp))).mono ?_
  rintro e w1 ⟨rfl, hx⟩
  have hb1 : Below w.heap.size w w1 := below_via hx hb0
  have HL1 := Lib.hid (HL0.out.below hx)
  clear hx hb0 HL0
  go_wp2_with fail
  refine (sm_b2 _ _ (HL1.out.get (by simp))).mono ?_
  rintro e w2 ⟨rfl, hx⟩
  have hb2 : Below w.heap.size w w2 := below_via hx hb1
  have HL2 := Lib.hid (HL1.out.below hx)
  clear hx hb1 HL1
  go_wp2_with fail
  refine (sm_b3 _ _ (HL2.out.get (by simp))).mono ?_
  rintro e w3 ⟨p3, c3, rfl, hi, hx⟩
  have hb3 : Below w.heap.size w w3 := below_via hx hb2
  have HL3 := Lib.hid ((HL2.out.below hx).cons hi)
  clear hx hi hb2 HL2
  go_wp2_with fail
  refine (sm_b4 _ _ (ints2 _ 8 7 rfl) (HT.out.below (below_al hb3 _))).mono ?_
  rintro e w4 ⟨p4, c4, rfl, hi, hx⟩
  have hb4 : Below w.heap.size w w4 := below_via hx (below_al hb3 _)
  have HL4 := Lib.hid (((HL3.out.al _).below hx).cons hi)
  clear hx hi hb3 HL3
  go_wp2_with fail
  refine (sm_b5 _ _ (ints2 _ 3 6 rfl)).mono ?_
  rintro e w5 ⟨rfl, hx⟩
  have hb5 : Below w.heap.size w w5 := below_via hx (below_al hb4 _)
  have HL5 := Lib.hid ((HL4.out.al _).below hx)
  clear hx hb4 HL4
  go_wp2_with fail
  refine (sm_b6 _ _ (ints2 _ 3 6 rfl)).mono ?_
  rintro e w6 ⟨rfl, hx⟩
  have hb6 : Below w.heap.size w w6 := below_via hx (below_al hb5 _)
  have HL6 := Lib.hid ((HL5.out.al _).below hx)
  clear hx hb5 HL5
  go_wp2_with fail
  refine (sm_b7 _ _ (HL6.out.get (by simp))).mono ?_
  rintro e w7 ⟨rfl, hx⟩
  have hb7 : Below w.heap.size w w7 := below_via hx hb6
  have HL7 := Lib.hid (HL6.out.below hx)
  clear hx hb6 HL6
  go_wp2_with fail
  refine (sm_b8 _ _ _ (((HL7.out.al _)).get (by simp)) (ints2 _ 6 3 rfl)).mono ?_
  rintro e w8 ⟨rfl, hx⟩
  have hb8 : Below w.heap.size w w8 := below_via hx (below_al hb7 _)
  have HL8 := Lib.hid ((HL7.out.al _).below hx)
  clear hx hb7 HL7
  go_wp2_with fail
  refine (bt_Equal_lit [0, 3] 2 rfl (by omega) _ _ _ _ _ ((HL8.out.al _).get (by simp)) (ints2 _ 0 3 rfl)).mono ?_
  rintro e w9 ⟨rfl, hx⟩
  have hb9 : Below w.heap.size w w9 := below_via hx (below_al hb8 _)
  have HL9 := Lib.hid ((HL8.out.al _).below hx)
  clear hx hb8 HL8
  go_wp2_with fail
  refine (bt_Equal_lit [1, 1, 0, 1, 1] 5 rfl (by omega) _ _ _ _ _ ((HL9.out.al _).get (by simp)) (ints5 _ 1 1 0 1 1 rfl)).mono ?_
  rintro e w10 ⟨rfl, hx⟩
  have hb10 : Below w.heap.size w w10 := below_via hx (below_al hb9 _)
  have HL10 := Lib.hid ((HL9.out.al _).below hx)
  clear hx hb9 HL9
  go_wp2_with fail
  refine (sm_d1 _ _ (ints2 _ 3 3 rfl)).mono ?_
  rintro e w11 ⟨rfl, hx⟩
  have hb11 : Below w.heap.size w w11 := below_via hx (below_al hb10 _)
  have HL11 := Lib.hid ((HL10.out.al _).below hx)
  clear hx hb10 HL10
  go_wp2_with fail
  refine (sm_d2 _ _ (ints2 _ 3 3 rfl)).mono ?_
  rintro e w12 ⟨rfl, hx⟩
  have hb12 : Below w.heap.size w w12 := below_via hx (below_al hb11 _)
  have HL12 := Lib.hid ((HL11.out.al _).below hx)
  clear hx hb11 HL11
  go_wp2_with fail
  refine (sm_d3 _ _ (HL12.out.get (by simp))).mono ?_
  rintro e w13 ⟨rfl, hx⟩
  have hb13 : Below w.heap.size w w13 := below_via hx hb12
  have HL13 := Lib.hid (HL12.out.below hx)
  clear hx hb12 HL12
  go_wp2_with fail
  refine (sm_d4 _ _ (HL13.out.get (by simp))).mono ?_
  rintro e w14 ⟨rfl, hx⟩
  have hb14 : Below w.heap.size w w14 := below_via hx hb13
  have HL14 := Lib.hid (HL13.out.below hx)
  clear hx hb13 HL13
  go_wp2_with fail
  refine (sm_d5 _ _ (HL14.out.get (by simp))).mono ?_
  rintro e w15 ⟨rfl, hx⟩
  have hb15 : Below w.heap.size w w15 := below_via hx hb14
  have HL15 := Lib.hid (HL14.out.below hx)
  clear hx hb14 HL14
  go_wp2_with fail
  refine (sm_d6 _ _ _ ((ints1 _ 1 (by simp)).al _) (ints1 _ 1 (by simp))).mono ?_
  rintro e w16 ⟨p16, c16, rfl, hi, hx⟩
  have hb16 : Below w.heap.size w w16 := below_via hx (below_al (below_al hb15 _) _)
  have HL16 := Lib.hid (((HL15.out.al _).al _).below hx)
  clear hx hi hb15 HL15
  go_wp2_with fail
  refine (sm_d7 _ _ (ints2 _ 1 1 rfl)).mono ?_
  rintro e w17 ⟨p17, c17, rfl, hi, hx⟩
  have hb17 : Below w.heap.size w w17 := below_via hx (below_al hb16 _)
  have HL17 := Lib.hid ((HL16.out.al _).below hx)
  clear hx hi hb16 HL16
  go_wp2_with fail
  refine (sm_d8 _ _ (ints1 _ 1 rfl)).mono ?_
  rintro e w18 ⟨p18, c18, rfl, hi, hx⟩
  have hb18 : Below w.heap.size w w18 := below_via hx (below_al hb17 _)
  have HL18 := Lib.hid ((HL17.out.al _).below hx)
  clear hx hi hb17 HL17
  go_wp2_with fail
  refine (sm_d9 _  ).mono ?_
  rintro e w19 ⟨p19, c19, rfl, hi, hx⟩
  have hb19 : Below w.heap.size w w19 := below_via hx hb18
  have HL19 := Lib.hid (HL18.out.below hx)
  clear hx hi hb18 HL18
  obtain ⟨wz19, hmk, hbz, hiz⟩ := mk_zeros 17 (by omega) 17 rfl w19
  have hbz19 : Below w.heap.size w wz19 := below_via hbz hb19
  have HLz19 := Lib.hid (HL19.out.below hbz)
  have HIz19 := Lib.hid hiz
  clear hbz hiz hb19 HL19
  go_wp2_with fail
  clear hmk
  refine (sm_d10 _ _ HIz19.out).mono ?_
  rintro e w20 ⟨p20, c20, rfl, hi, hx⟩
  have hb20 : Below w.heap.size w w20 := below_via hx hbz19
  have HL20 := Lib.hid (HLz19.out.below hx)
  clear hx hi hbz19 HLz19
  go_wp2_with fail
  refine (sm_d11 _  ).mono ?_
  rintro e w21 ⟨p21, c21, rfl, hi, hx⟩
  have hb21 : Below w.heap.size w w21 := below_via hx hb20
  have HL21 := Lib.hid (HL20.out.below hx)
  clear hx hi hb20 HL20
  go_wp2_with fail
  refine (sm_d12 _  ).mono ?_
  rintro e w22 ⟨rfl, hx⟩
  have hb22 : Below w.heap.size w w22 := below_via hx hb21
  have HL22 := Lib.hid (HL21.out.below hx)
  clear hx hb21 HL21
  go_wp2_with fail
  refine (sm_d13 _ _ (HL22.out.get (by simp)) (HT.out.below hb22)).mono ?_
  rintro e w23 ⟨rfl, hx⟩
  have hb23 : Below w.heap.size w w23 := below_via hx hb22
  have HL23 := Lib.hid (HL22.out.below hx)
  clear hx hb22 HL22
  go_wp2_with fail
  refine (sm_d14 _ _ (HL23.out.get (by simp))).mono ?_
  rintro e w24 ⟨rfl, hx⟩
  have hb24 : Below w.heap.size w w24 := below_via hx hb23
  have HL24 := Lib.hid (HL23.out.below hx)
  clear hx hb23 HL23
  go_wp2_with fail
  refine (sm_d15 _  ).mono ?_
  rintro e w25 ⟨p25, c25, rfl, hi, hx⟩
  have hb25 : Below w.heap.size w w25 := below_via hx hb24
  have HL25 := Lib.hid (HL24.out.below hx)
  clear hx hi hb24 HL24
  go_wp2_with fail
  refine (sm_g1 _  ).mono ?_
  rintro e w26 ⟨rfl, hx⟩
  have hb26 : Below w.heap.size w w26 := below_via hx hb25
  have HL26 := Lib.hid (HL25.out.below hx)
  clear hx hb25 HL25
  obtain ⟨wz26, hmk, hbz, hiz⟩ := mk_zeros 25 (by omega) 25 rfl w26
  have hbz26 : Below w.heap.size w wz26 := below_via hbz hb26
  have HLz26 := Lib.hid (HL26.out.below hbz)
  have HIz26 := Lib.hid hiz
  clear hbz hiz hb26 HL26
  go_wp2_with fail
  clear hmk
  refine (sm_g2 _ _ HIz26.out).mono ?_
  rintro e w27 ⟨rfl, hx⟩
  have hb27 : Below w.heap.size w w27 := below_via hx hbz26
  have HL27 := Lib.hid (HLz26.out.below hx)
  clear hx hbz26 HLz26
  obtain ⟨wz27, hmk, hbz, hiz⟩ := mk_zeros 24 (by omega) 24 rfl w27
  have hbz27 : Below w.heap.size w wz27 := below_via hbz hb27
  have HLz27 := Lib.hid (HL27.out.below hbz)
  have HIz27 := Lib.hid hiz
  clear hbz hiz hb27 HL27
  go_wp2_with fail
  clear hmk
  refine (sm_g3 _ _ HIz27.out).mono ?_
  rintro e w28 ⟨rfl, hx⟩
  have hb28 : Below w.heap.size w w28 := below_via hx hbz27
  have HL28 := Lib.hid (HLz27.out.below hx)
  clear hx hbz27 HLz27
  go_wp2_with fail
  refine (sm_g4 _ _ (ints1 _ 8 rfl)).mono ?_
  rintro e w29 ⟨rfl, hx⟩
  have hb29 : Below w.heap.size w w29 := below_via hx (below_al hb28 _)
  have HL29 := Lib.hid ((HL28.out.al _).below hx)
  clear hx hb28 HL28
  go_wp2_with fail
  refine (HA.out _ hb29).mono ?_
  rintro e w30 ⟨rfl, hx⟩
  have hb30 : Below w.heap.size w w30 := below_via hx hb29
  clear hx hb29 HL29
  go_wp2_with fail
  go_ret
  exact ⟨rfl, hb30⟩
end Go.Proofs.YtpbcomdlboiddaaDoor
