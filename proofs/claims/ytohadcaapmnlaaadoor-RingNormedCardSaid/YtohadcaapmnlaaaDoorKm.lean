
/- The law RingNormed, for all bytes and any integer. -/
import Derived.Test.YtohadcaapmnlaaaDoorJg
import Derived.Test.YtohadcaapmnlaaaDoorNu
set_option linter.all false
set_option maxRecDepth 100000
namespace Go.Proofs.YtohadcaapmnlaaaDoor
open Go.RowKit Go.Shelf

set_option maxHeartbeats 16000000 in
theorem RingNormed_any (k : Int) (hk0 : -9223372036854775808 ≤ k) (hk1 : k ≤ 9223372036854775807) (p : Option Addr) (n c : Nat) (w : World) (hg : Given w p n c) (hv : Vars w) : Calls Tryd.prog 6 #[.slice p n c, .int .i64 k] w (Gives (.bool true) w) := by
  have HA : Hid (∀ w', Below w.heap.size w w' → Calls Tryd.prog 13 #[] w' (Gives (.bool true) w')) := fun w' hb => awake_below hv hb
  have HO : Hid (Calls Tryd.prog 14 #[.slice p n c] w (Stored w)) := Of_any p n c w hg
  clear hv hg
  go_enter Tryd.func6, Tryd.ntmps6
  go_wp2_with fail
  refine HO.out.mono ?_
  rintro e v0 ⟨b, rfl, hge, hs, hb⟩
  have S0 := Lib.hid hs
  have B0 := Lib.hid hb
  have GE := Lib.hid (show w.heap.size ≤ b ∧ w.heap.size ≤ v0.heap.size from ⟨hge, hb.size⟩)
  have hL : b < v0.heap.size := hs.1.1
  clear hs hb hge HO
  go_wp2_with fail
  refine (Num_any b _ 0 60 8 _ (by omega) (by omega) (by omega) (by omega) (by omega) S0.out).mono ?_
  rintro e v1 ⟨x, rfl, hn, hs, hb⟩
  have Fx : Hid (Fine x 60 8) := ⟨hn.1, hn.2.1, hn.2.2⟩
  have S1 := Lib.hid hs
  have B1 := Lib.hid (below_store B0.out hb GE.out)
  clear hn hs hb S0 B0
  go_wp2_with fail
  refine (Num_any b _ (0 + 5) 60 8 _ (by omega) (by omega) (by omega) (by omega) (by omega) S1.out).mono ?_
  rintro e v2 ⟨y, rfl, hn, hs, hb⟩
  have Fy : Hid (Fine y 60 8) := ⟨hn.1, hn.2.1, hn.2.2⟩
  have S2 := Lib.hid hs
  have B2 := Lib.hid (below_store B1.out hb GE.out)
  clear hn hs hb S1 B1
  go_wp2_with fail
  have hT := norm_tells_all k Fx.out Fy.out
  generalize (normN x).least = a at hT
  generalize (normN y).least = b' at hT
  generalize (mulN x y).least = cc at hT
  generalize (normN (mulN x y)).least = d at hT
  generalize pw (k % 8).toNat = o at hT
  generalize x.least = lx at hT
  have HT := Lib.hid hT
  clear hT
  have HN : Hid (∀ w, Calls Tryd.prog 27 #[.int .i64 1, .int .i64 0, .int .i64 0, .int .i64 0, .int .i64 0] w (Gives (nv 1 0 0 0 0) w)) := fun w => num_any _ _ _ _ _ w
  have g0 := ((show Got w [] v2 from ⟨B2.out, by simp⟩).box x).box y
  simp only [World.size_alloc] at g0
  have G0 := Lib.hid g0
  clear g0
  refine (HT.out.h1 _).mono ?_
  rintro e u1 ⟨rfl, hb⟩
  have g := G0.out.call hb
  obtain ⟨y_0, y_1, y_2, y_3, y_4⟩ := (g.2 _ (.head _)).cell
  have y_t := (g.2 _ (.head _)).lt
  dsimp only at y_0 y_1 y_2 y_3 y_4 y_t
  have G1 := Lib.hid (g.box a)
  clear g hb G0
  go_wp2_with fail
  clear y_0 y_1 y_2 y_3 y_4 y_t
  refine (HT.out.h2 _).mono ?_
  rintro e u2 ⟨rfl, hb⟩
  have g := G1.out.call hb
  obtain ⟨x_0, x_1, x_2, x_3, x_4⟩ := (g.2 _ (.tail _ (.tail _ (.head _)))).cell
  have x_t := (g.2 _ (.tail _ (.tail _ (.head _)))).lt
  obtain ⟨y_0, y_1, y_2, y_3, y_4⟩ := (g.2 _ (.tail _ (.head _))).cell
  have y_t := (g.2 _ (.tail _ (.head _))).lt
  dsimp only at x_0 x_1 x_2 x_3 x_4 x_t y_0 y_1 y_2 y_3 y_4 y_t
  have G2 := Lib.hid (g.box b')
  clear g hb G1
  go_wp2_with fail
  clear x_0 x_1 x_2 x_3 x_4 x_t y_0 y_1 y_2 y_3 y_4 y_t
  refine (HT.out.h3 _).mono ?_
  rintro e u3 ⟨rfl, hb⟩
  have g := G2.out.call hb
  have G3 := Lib.hid (g.box cc)
  clear g hb G2
  go_wp2_with fail
  refine (HT.out.h4 _).mono ?_
  rintro e u4 ⟨rfl, hb⟩
  have g := G3.out.call hb
  obtain ⟨a_0, a_1, a_2, a_3, a_4⟩ := (g.2 _ (.tail _ (.tail _ (.head _)))).cell
  have a_t := (g.2 _ (.tail _ (.tail _ (.head _)))).lt
  obtain ⟨b_0, b_1, b_2, b_3, b_4⟩ := (g.2 _ (.tail _ (.head _))).cell
  have b_t := (g.2 _ (.tail _ (.head _))).lt
  dsimp only at a_0 a_1 a_2 a_3 a_4 a_t b_0 b_1 b_2 b_3 b_4 b_t
  have G4 := Lib.hid (g.box d)
  clear g hb G3
  go_wp2_with fail
  clear a_0 a_1 a_2 a_3 a_4 a_t b_0 b_1 b_2 b_3 b_4 b_t
  refine (HT.out.h5 _).mono ?_
  rintro e u5 ⟨rfl, hb⟩
  have g := G4.out.call hb
  obtain ⟨a_0, a_1, a_2, a_3, a_4⟩ := (g.2 _ (.tail _ (.tail _ (.tail _ (.head _))))).cell
  have a_t := (g.2 _ (.tail _ (.tail _ (.tail _ (.head _))))).lt
  dsimp only at a_0 a_1 a_2 a_3 a_4 a_t
  have G5 := Lib.hid (g.box d)
  clear g hb G4
  go_wp2_with fail
  clear a_0 a_1 a_2 a_3 a_4 a_t
  refine (HT.out.h6 _).mono ?_
  rintro e u6 ⟨rfl, hb⟩
  have g := G5.out.call hb
  obtain ⟨a_0, a_1, a_2, a_3, a_4⟩ := (g.2 _ (.tail _ (.tail _ (.tail _ (.tail _ (.head _)))))).cell
  have a_t := (g.2 _ (.tail _ (.tail _ (.tail _ (.tail _ (.head _)))))).lt
  dsimp only at a_0 a_1 a_2 a_3 a_4 a_t
  have G6 := Lib.hid g
  clear g hb G5
  go_wp2_with fail
  clear a_0 a_1 a_2 a_3 a_4 a_t
  refine (HT.out.h7 _).mono ?_
  rintro e u7 ⟨rfl, hb⟩
  have g := G6.out.call hb
  have G7 := Lib.hid g
  clear g hb G6
  go_wp2_with fail
  refine (HT.out.h8 _).mono ?_
  rintro e u8 ⟨rfl, hb⟩
  have g := G7.out.call hb
  have G8 := Lib.hid g
  clear g hb G7
  go_wp2_with fail
  refine (HT.out.h9 _).mono ?_
  rintro e u9 ⟨rfl, hb⟩
  have g := G8.out.call hb
  obtain ⟨d_0, d_1, d_2, d_3, d_4⟩ := (g.2 _ (.tail _ (.head _))).cell
  have d_t := (g.2 _ (.tail _ (.head _))).lt
  obtain ⟨both_0, both_1, both_2, both_3, both_4⟩ := (g.2 _ (.head _)).cell
  have both_t := (g.2 _ (.head _)).lt
  dsimp only at d_0 d_1 d_2 d_3 d_4 d_t both_0 both_1 both_2 both_3 both_4 both_t
  have G9 := Lib.hid (g.box ⟨1, 0, 0, 0, 0⟩)
  clear g hb G8
  go_wp2_with fail
  clear d_0 d_1 d_2 d_3 d_4 d_t both_0 both_1 both_2 both_3 both_4 both_t
  refine region_fin (Got w _) 75 ((.int .i64 0) :: (.bool false) :: (.bool false) :: (.int .i64 0) :: (.bool false) :: (.bool false) :: (.bool false) :: (.int .i64 0) :: (.bool false) :: (.bool false) :: (.bool false) :: (.int .i64 0) :: (.bool false) :: (.bool false) :: (.bool false) :: (.int .i64 0) :: (.bool false) :: (.bool false) :: (.bool false) :: (.int .i64 0) :: (.bool false) :: (.bool false) :: (.bool false) :: (.int .i64 0) :: (.bool false) :: (.bool false) :: (.bool false) :: (.int .i64 0) :: (.bool false) :: (.bool false) :: (.bool false) :: d.v :: d.v :: (.bool false) :: (.bool false) :: (.bool false) :: (.bool true) :: (.bool false) :: (.bool false) :: (.bool false) :: (.bool false) :: (.bool false) :: (.bool false) :: ((⟨1, 0, 0, 0, 0⟩ : Nm).v) :: ((nv 1 0 0 0 0)) :: (.bool false) :: (.bool false) :: undef :: undef :: undef :: undef :: undef :: undef :: undef :: undef :: undef :: undef :: undef :: undef :: undef :: undef :: undef :: undef :: undef :: undef :: undef :: []) 75 (.int .i64 0) (by as_aux_lemma => kernel_rfl) (by as_aux_lemma => kernel_rfl) (by as_aux_lemma => kernel_rfl) (outV_fin _ 47 (by as_aux_lemma => kernel_rfl) (Nat.le_of_ble_eq_true (by kernel_rfl)) (Nat.le_of_ble_eq_true (by kernel_rfl)) (by as_aux_lemma => kernel_rfl)) (G9.out.call (below_dN (Below.refl _ _) 1)) ?_ ?_
  rotate_left
  · refine eachOp_cons (ok_val (by kernel_rfl) (by kernel_rfl) (fun _ => by kernel_rfl)) ?_
    refine eachOp_cons (ok_val (by kernel_rfl) (by kernel_rfl) (fun _ => by kernel_rfl)) ?_
    refine eachOp_cons (ok_val (by kernel_rfl) (by kernel_rfl) (fun _ => by kernel_rfl)) ?_
    refine eachOp_cons (ok_val (by kernel_rfl) (by kernel_rfl) (fun _ => by kernel_rfl)) ?_
    refine eachOp_cons (ok_val (by kernel_rfl) (by kernel_rfl) (fun _ => by kernel_rfl)) ?_
    refine eachOp_cons (ok_val (by kernel_rfl) (by kernel_rfl) (fun _ => by kernel_rfl)) ?_
    refine eachOp_cons (ok_val (by kernel_rfl) (by kernel_rfl) (fun _ => by kernel_rfl)) ?_
    refine eachOp_cons (ok_val (by kernel_rfl) (by kernel_rfl) (fun _ => by kernel_rfl)) ?_
    refine eachOp_cons (ok_val (by kernel_rfl) (by kernel_rfl) (fun _ => by kernel_rfl)) ?_
    refine eachOp_cons (ok_val (by kernel_rfl) (by kernel_rfl) (fun _ => by kernel_rfl)) ?_
    refine eachOp_cons (ok_val (by kernel_rfl) (by kernel_rfl) (fun _ => by kernel_rfl)) ?_
    refine eachOp_cons (ok_val (by kernel_rfl) (by kernel_rfl) (fun _ => by kernel_rfl)) ?_
    refine eachOp_cons (ok_val (by kernel_rfl) (by kernel_rfl) (fun _ => by kernel_rfl)) ?_
    refine eachOp_cons (ok_val (by kernel_rfl) (by kernel_rfl) (fun _ => by kernel_rfl)) ?_
    refine eachOp_cons (ok_val (by kernel_rfl) (by kernel_rfl) (fun _ => by kernel_rfl)) ?_
    refine eachOp_cons (ok_val (by kernel_rfl) (by kernel_rfl) (fun _ => by kernel_rfl)) ?_
    refine eachOp_cons (ok_val (by kernel_rfl) (by kernel_rfl) (fun _ => by kernel_rfl)) ?_
    refine eachOp_cons (ok_val (by kernel_rfl) (by kernel_rfl) (fun _ => by kernel_rfl)) ?_
    refine eachOp_cons (ok_val (by kernel_rfl) (by kernel_rfl) (fun _ => by kernel_rfl)) ?_
    refine eachOp_cons (ok_val (by kernel_rfl) (by kernel_rfl) (fun _ => by kernel_rfl)) ?_
    refine eachOp_cons (ok_val (by kernel_rfl) (by kernel_rfl) (fun _ => by kernel_rfl)) ?_
    refine eachOp_cons (ok_val (by kernel_rfl) (by kernel_rfl) (fun _ => by kernel_rfl)) ?_
    refine eachOp_cons (ok_val (by kernel_rfl) (by kernel_rfl) (fun _ => by kernel_rfl)) ?_
    refine eachOp_cons (ok_val (by kernel_rfl) (by kernel_rfl) (fun _ => by kernel_rfl)) ?_
    refine eachOp_cons (ok_val (by kernel_rfl) (by kernel_rfl) (fun _ => by kernel_rfl)) ?_
    refine eachOp_cons (ok_val (by kernel_rfl) (by kernel_rfl) (fun _ => by kernel_rfl)) ?_
    refine eachOp_cons (ok_val (by kernel_rfl) (by kernel_rfl) (fun _ => by kernel_rfl)) ?_
    refine eachOp_cons (ok_val (by kernel_rfl) (by kernel_rfl) (fun _ => by kernel_rfl)) ?_
    refine eachOp_cons (ok_val (by kernel_rfl) (by kernel_rfl) (fun _ => by kernel_rfl)) ?_
    refine eachOp_cons (ok_val (by kernel_rfl) (by kernel_rfl) (fun _ => by kernel_rfl)) ?_
    refine eachOp_cons (ok_val (by kernel_rfl) (by kernel_rfl) (fun _ => by kernel_rfl)) ?_
    refine eachOp_cons (ok_load (by kernel_rfl) (by kernel_rfl) (fun _ hC => load_num (b := u4.heap.size) (x := d) rfl (by kernel_rfl) (hC.2 _ (.tail _ (.tail _ (.head _)))))) ?_
    refine eachOp_cons (ok_load (by kernel_rfl) (by kernel_rfl) (fun _ hC => load_num (b := u5.heap.size) (x := d) rfl (by kernel_rfl) (hC.2 _ (.tail _ (.head _))))) ?_
    refine eachOp_cons (ok_val (by kernel_rfl) (by kernel_rfl) (fun _ => neq_nums (x := d) (y := d) rfl (by kernel_rfl) (by kernel_rfl) (eq5_self d))) ?_
    refine eachOp_cons (ok_val (by kernel_rfl) (by kernel_rfl) (fun _ => by kernel_rfl)) ?_
    refine eachOp_cons (ok_val (by kernel_rfl) (by kernel_rfl) (fun _ => by kernel_rfl)) ?_
    refine eachOp_cons (ok_val (by kernel_rfl) (by kernel_rfl) (fun _ => by kernel_rfl)) ?_
    refine eachOp_cons (ok_val (by kernel_rfl) (by kernel_rfl) (fun _ => by kernel_rfl)) ?_
    refine eachOp_cons (ok_val (by kernel_rfl) (by kernel_rfl) (fun _ => by kernel_rfl)) ?_
    refine eachOp_cons (ok_val (by kernel_rfl) (by kernel_rfl) (fun _ => by kernel_rfl)) ?_
    refine eachOp_cons (ok_val (by kernel_rfl) (by kernel_rfl) (fun _ => by kernel_rfl)) ?_
    refine eachOp_cons (ok_val (by kernel_rfl) (by kernel_rfl) (fun _ => by kernel_rfl)) ?_
    refine eachOp_cons (ok_val (by kernel_rfl) (by kernel_rfl) (fun _ => by kernel_rfl)) ?_
    refine eachOp_cons (ok_load (by kernel_rfl) (by kernel_rfl) (fun _ hC => load_num (b := u9.heap.size) (x := (⟨1, 0, 0, 0, 0⟩ : Nm)) rfl (by kernel_rfl) (hC.2 _ (.head _)))) ?_
    refine eachOp_cons (ok_call 27 #[.int .i64 1, .int .i64 0, .int .i64 0, .int .i64 0, .int .i64 0] (by kernel_rfl) (by kernel_rfl) (fun _ => by kernel_rfl) (fun W hC => (HN.out W).mono fun _ _ h => ⟨h.1, hC.call h.2⟩)) ?_
    refine eachOp_cons (ok_val (by kernel_rfl) (by kernel_rfl) (fun _ => by kernel_rfl)) ?_
    refine eachOp_cons (ok_val (by kernel_rfl) (by kernel_rfl) (fun _ => by kernel_rfl)) ?_
    exact eachOp_nil
  intro W hW
  rename_i hK
  refine hK _ _ ?_
  have G10 := Lib.hid hW
  have g := hW
  obtain ⟨x_0, x_1, x_2, x_3, x_4⟩ := (g.2 _ (.tail _ (.tail _ (.tail _ (.tail _ (.tail _ (.tail _ (.tail _ (.head _))))))))).cell
  have x_t := (g.2 _ (.tail _ (.tail _ (.tail _ (.tail _ (.tail _ (.tail _ (.tail _ (.head _))))))))).lt
  dsimp only at x_0 x_1 x_2 x_3 x_4 x_t
  clear hK hW G9 g
  simp only [finA, List.take_succ_cons, List.take_zero, List.cons_append, List.nil_append, List.set_cons_succ, List.set_cons_zero]
  go_wp2_with fail
  clear x_0 x_1 x_2 x_3 x_4 x_t
  refine (HT.out.h10 _).mono ?_
  rintro e u11 ⟨rfl, hb⟩
  have g := G10.out.call hb
  obtain ⟨a_0, a_1, a_2, a_3, a_4⟩ := (g.2 _ (.tail _ (.tail _ (.tail _ (.tail _ (.tail _ (.head _))))))).cell
  have a_t := (g.2 _ (.tail _ (.tail _ (.tail _ (.tail _ (.tail _ (.head _))))))).lt
  dsimp only at a_0 a_1 a_2 a_3 a_4 a_t
  have G11 := Lib.hid (g.box lx)
  clear g hb G10
  go_wp2_with fail
  clear a_0 a_1 a_2 a_3 a_4 a_t
  obtain ⟨t, ht⟩ : ∃ t, eq5 a nul = t := ⟨_, rfl⟩
  have ht2 : eq5 lx nul = t := by rw [← HT.out.same]; exact ht
  have ht3 : (t == t) = true := by simp
  refine region_fin (Got w _) 127 ((.int .i64 0) :: (.bool true) :: (.bool true) :: a.v :: ((nv 0 0 0 0 0)) :: (.bool t) :: lx.v :: ((nv 0 0 0 0 0)) :: (.bool t) :: (.bool true) :: (.bool true) :: (.bool true) :: ((.bool true)) :: ((.bool true)) :: []) 4 ((.bool true)) (by as_aux_lemma => kernel_rfl) (by as_aux_lemma => kernel_rfl) (by as_aux_lemma => kernel_rfl) (outV_fin _ 14 (by as_aux_lemma => kernel_rfl) (Nat.le_of_ble_eq_true (by kernel_rfl)) (Nat.le_of_ble_eq_true (by kernel_rfl)) (by as_aux_lemma => kernel_rfl)) (G11.out.call (below_dN (Below.refl _ _) 1)) ?_ ?_
  rotate_left
  · refine eachOp_cons (ok_val (by kernel_rfl) (by kernel_rfl) (fun _ => by kernel_rfl)) ?_
    refine eachOp_cons (ok_val (by kernel_rfl) (by kernel_rfl) (fun _ => by kernel_rfl)) ?_
    refine eachOp_cons (ok_val (by kernel_rfl) (by kernel_rfl) (fun _ => by kernel_rfl)) ?_
    refine eachOp_cons (ok_load (by kernel_rfl) (by kernel_rfl) (fun _ hC => load_num (b := u1.heap.size) (x := a) rfl (by kernel_rfl) (hC.2 _ (.tail _ (.tail _ (.tail _ (.tail _ (.tail _ (.tail _ (.head _)))))))))) ?_
    refine eachOp_cons (ok_val (by kernel_rfl) (by kernel_rfl) (fun _ => by kernel_rfl)) ?_
    refine eachOp_cons (ok_val (by kernel_rfl) (by kernel_rfl) (fun _ => eql_num (x := a) (y := nul) rfl (by kernel_rfl) (by kernel_rfl) ht)) ?_
    refine eachOp_cons (ok_load (by kernel_rfl) (by kernel_rfl) (fun _ hC => load_num (b := u11.heap.size) (x := lx) rfl (by kernel_rfl) (hC.2 _ (.head _)))) ?_
    refine eachOp_cons (ok_val (by kernel_rfl) (by kernel_rfl) (fun _ => by kernel_rfl)) ?_
    refine eachOp_cons (ok_val (by kernel_rfl) (by kernel_rfl) (fun _ => eql_num (x := lx) (y := nul) rfl (by kernel_rfl) (by kernel_rfl) ht2)) ?_
    refine eachOp_cons (ok_val (by kernel_rfl) (by kernel_rfl) (fun _ => eql_bool rfl (by kernel_rfl) (by kernel_rfl) (by kernel_rfl) ht3)) ?_
    refine eachOp_cons (ok_val (by kernel_rfl) (by kernel_rfl) (fun _ => by kernel_rfl)) ?_
    refine eachOp_cons (ok_val (by kernel_rfl) (by kernel_rfl) (fun _ => by kernel_rfl)) ?_
    refine eachOp_cons (ok_call 13 #[] (by kernel_rfl) (by kernel_rfl) (fun _ => by kernel_rfl) (fun W hC => (HA.out W hC.1).mono fun _ _ h => ⟨h.1, hC.call h.2⟩)) ?_
    refine eachOp_cons (ok_val (by kernel_rfl) (by kernel_rfl) (fun _ => by kernel_rfl)) ?_
    refine eachOp_cons (ok_val (by kernel_rfl) (by kernel_rfl) (fun _ => by kernel_rfl)) ?_
    exact eachOp_nil
  intro W hW
  rename_i hK
  refine hK _ _ ?_
  refine wp_ret ?_
  exact bodyPost_ret (v := .bool true) (by kernel_rfl) rfl ⟨rfl, hW.1⟩
end Go.Proofs.YtohadcaapmnlaaaDoor
