
/- The law's awake: all examples at once. -/
import Derived.Test.YtcdmcndjbajhlaaGreatDoorJs
import Derived.Test.YtcdmcndjbajhlaaGreatDoorJc
set_option linter.all false
set_option maxRecDepth 200000
namespace Go.Proofs.YtcdmcndjbajhlaaGreatDoor
open Go.RowKit Go.Shelf

/-- What has been built so far: nothing below has changed, and each listed block holds its number. -/
def Got (w : World) (l : List (Nat × Nm)) (W : World) : Prop := Below w.heap.size w W ∧ ∀ p ∈ l, Box W p.1 23 p.2
theorem Got.none (w : World) : Got w [] w := ⟨Below.refl _ _, by simp⟩
theorem Got.call {w W W' : World} {l : List (Nat × Nm)} (h : Got w l W) (hb : Below W.heap.size W W') : Got w l W' :=
  ⟨below_via hb h.1, fun p hp => (h.2 p hp).below hb (h.2 p hp).lt⟩
theorem Got.box {w W : World} {l : List (Nat × Nm)} (h : Got w l W) (x : Nm) : Got w ((W.heap.size, x) :: l) (W.alloc (.cells #[.int .i64 x.A, .int .i64 x.B, .int .i64 x.C, .int .i64 x.D, .int .i64 x.K] 23)) :=
  ⟨below_al h.1 _, fun p hp => by
    rcases List.mem_cons.1 hp with rfl | hp
    · exact heap_alloc_new W _
    · exact box_al (h.2 p hp) _⟩

set_option maxHeartbeats 8000000 in
theorem awake_any (w : World) (hN : NamesAre w) (hV : CutVar w) (htab : Lib.TabIs Tryz.prog w "internal/strconv.uint64pow10" .u64 Lib.pow10Tab) :
    Calls Tryz.prog 9 #[] w (Gives (.bool true) w) := by
  have HT : Hid (∀ w', Below w.heap.size w w' → Calls Tryz.prog 6 #[nv 0 1 (-2) (-1) 0] w' (Gives (.tuple #[.string { data := #[119, 45, 50, 119, 50, 45, 119, 51] }, .int .i64 0]) w')) :=
    fun w' hb => aw_t w' (hN.below hb) (Lib.tabBelow_of_tabIs htab w' hb)
  have HV : Hid (∀ w', Below w.heap.size w w' → Calls Tryz.prog 22 #[.string { data := #[40, 49, 41, 47, 114, 49] }] w' (Gives (.tuple #[nv 1 0 0 0 1, .int .i64 0]) w')) :=
    fun w' hb => aw_v w' (hN.below hb) (hV.below hb) (Lib.tabBelow_of_tabIs htab w' hb)
  have G0 := Lib.hid (Got.none w)
  clear hN hV htab
  go_enter Tryz.func9, Tryz.ntmps9
  go_wp2_with fail
  refine (num_any _ _ _ _ _ _).mono ?_
  rintro e u1 ⟨rfl, hb⟩
  have G1 := Lib.hid (G0.out.call hb)
  clear hb G0
  go_wp2_with fail
  refine (aw_a _).mono ?_
  rintro e u2 ⟨rfl, hb⟩
  have G2 := Lib.hid (G1.out.call hb)
  clear hb G1
  go_wp2_with fail
  obtain ⟨V1, hV⟩ : ∃ V, u2.alloc (.cells #[.int .i64 1, .int .i64 0, .int .i64 0, .int .i64 0, .int .i64 0] 23) = V := ⟨_, rfl⟩
  have g1 := G2.out.box ⟨1, 0, 0, 0, 0⟩
  dsimp only at g1
  rw [hV] at g1
  have G3 := Lib.hid g1
  clear g1 G2
  rw [hV]
  clear hV
  refine (num_any _ _ _ _ _ _).mono ?_
  rintro e u3 ⟨rfl, hb⟩
  have G4 := Lib.hid (G3.out.call hb)
  clear hb G3
  go_wp2_with fail
  refine (aw_b _).mono ?_
  rintro e u4 ⟨rfl, hb⟩
  have G5 := Lib.hid (G4.out.call hb)
  clear hb G4
  go_wp2_with fail
  obtain ⟨V2, hV⟩ : ∃ V, u4.alloc (.cells #[.int .i64 0, .int .i64 1, .int .i64 0, .int .i64 0, .int .i64 0] 23) = V := ⟨_, rfl⟩
  have g2 := G5.out.box ⟨0, 1, 0, 0, 0⟩
  dsimp only at g2
  rw [hV] at g2
  have G6 := Lib.hid g2
  clear g2 G5
  rw [hV]
  clear hV
  refine (num_any _ _ _ _ _ _).mono ?_
  rintro e u5 ⟨rfl, hb⟩
  have G7 := Lib.hid (G6.out.call hb)
  clear hb G6
  go_wp2_with fail
  refine (aw_o _).mono ?_
  rintro e u6 ⟨rfl, hb⟩
  have G8 := Lib.hid (G7.out.call hb)
  clear hb G7
  go_wp2_with fail
  refine (aw_c _).mono ?_
  rintro e u7 ⟨rfl, hb⟩
  have G9 := Lib.hid (G8.out.call hb)
  clear hb G8
  go_wp2_with fail
  obtain ⟨V3, hV⟩ : ∃ V, u7.alloc (.cells #[.int .i64 1, .int .i64 0, .int .i64 0, .int .i64 0, .int .i64 0] 23) = V := ⟨_, rfl⟩
  have g3 := G9.out.box ⟨1, 0, 0, 0, 0⟩
  dsimp only at g3
  rw [hV] at g3
  have G10 := Lib.hid g3
  clear g3 G9
  rw [hV]
  clear hV
  refine (num_any _ _ _ _ _ _).mono ?_
  rintro e u8 ⟨rfl, hb⟩
  have G11 := Lib.hid (G10.out.call hb)
  clear hb G10
  go_wp2_with fail
  refine (aw_d _).mono ?_
  rintro e u9 ⟨rfl, hb⟩
  have G12 := Lib.hid (G11.out.call hb)
  clear hb G11
  go_wp2_with fail
  obtain ⟨V4, hV⟩ : ∃ V, u9.alloc (.cells #[.int .i64 (-1), .int .i64 0, .int .i64 0, .int .i64 0, .int .i64 1] 23) = V := ⟨_, rfl⟩
  have g4 := G12.out.box ⟨-1, 0, 0, 0, 1⟩
  dsimp only at g4
  rw [hV] at g4
  have G13 := Lib.hid g4
  clear g4 G12
  rw [hV]
  clear hV
  refine (num_any _ _ _ _ _ _).mono ?_
  rintro e u10 ⟨rfl, hb⟩
  have G14 := Lib.hid (G13.out.call hb)
  clear hb G13
  go_wp2_with fail
  refine (aw_i _).mono ?_
  rintro e u11 ⟨rfl, hb⟩
  have G15 := Lib.hid (G14.out.call hb)
  clear hb G14
  go_wp2_with fail
  obtain ⟨V5, hV⟩ : ∃ V, u11.alloc (.cells #[.int .i64 2, .int .i64 1, .int .i64 0, .int .i64 (-1), .int .i64 0] 23) = V := ⟨_, rfl⟩
  have g5 := G15.out.box ⟨2, 1, 0, -1, 0⟩
  dsimp only at g5
  rw [hV] at g5
  have G16 := Lib.hid g5
  clear g5 G15
  rw [hV]
  clear hV
  refine (num_any _ _ _ _ _ _).mono ?_
  rintro e u12 ⟨rfl, hb⟩
  have G17 := Lib.hid (G16.out.call hb)
  clear hb G16
  go_wp2_with fail
  refine (num_any _ _ _ _ _ _).mono ?_
  rintro e u13 ⟨rfl, hb⟩
  have G18 := Lib.hid (G17.out.call hb)
  clear hb G17
  go_wp2_with fail
  refine (aw_k _).mono ?_
  rintro e u14 ⟨rfl, hb⟩
  have G19 := Lib.hid (G18.out.call hb)
  clear hb G18
  go_wp2_with fail
  refine (num_any _ _ _ _ _ _).mono ?_
  rintro e u15 ⟨rfl, hb⟩
  have G20 := Lib.hid (G19.out.call hb)
  clear hb G19
  go_wp2_with fail
  refine (num_any _ _ _ _ _ _).mono ?_
  rintro e u16 ⟨rfl, hb⟩
  have G21 := Lib.hid (G20.out.call hb)
  clear hb G20
  go_wp2_with fail
  refine (aw_m _).mono ?_
  rintro e u17 ⟨rfl, hb⟩
  have G22 := Lib.hid (G21.out.call hb)
  clear hb G21
  go_wp2_with fail
  refine (num_any _ _ _ _ _ _).mono ?_
  rintro e u18 ⟨rfl, hb⟩
  have G23 := Lib.hid (G22.out.call hb)
  clear hb G22
  go_wp2_with fail
  refine (num_any _ _ _ _ _ _).mono ?_
  rintro e u19 ⟨rfl, hb⟩
  have G24 := Lib.hid (G23.out.call hb)
  clear hb G23
  go_wp2_with fail
  refine (aw_n _).mono ?_
  rintro e u20 ⟨rfl, hb⟩
  have G25 := Lib.hid (G24.out.call hb)
  clear hb G24
  go_wp2_with fail
  obtain ⟨V6, hV⟩ : ∃ V, u20.alloc (.cells #[.int .i64 0, .int .i64 1, .int .i64 (-1), .int .i64 0, .int .i64 1] 23) = V := ⟨_, rfl⟩
  have g6 := G25.out.box ⟨0, 1, -1, 0, 1⟩
  dsimp only at g6
  rw [hV] at g6
  have G26 := Lib.hid g6
  clear g6 G25
  rw [hV]
  clear hV
  refine (num_any _ _ _ _ _ _).mono ?_
  rintro e u21 ⟨rfl, hb⟩
  have G27 := Lib.hid (G26.out.call hb)
  clear hb G26
  go_wp2_with fail
  refine (num_any _ _ _ _ _ _).mono ?_
  rintro e u22 ⟨rfl, hb⟩
  have G28 := Lib.hid (G27.out.call hb)
  clear hb G27
  go_wp2_with fail
  refine (aw_q _).mono ?_
  rintro e u23 ⟨rfl, hb⟩
  have G29 := Lib.hid (G28.out.call hb)
  clear hb G28
  go_wp2_with fail
  obtain ⟨V7, hV⟩ : ∃ V, u23.alloc (.cells #[.int .i64 0, .int .i64 0, .int .i64 0, .int .i64 0, .int .i64 0] 23) = V := ⟨_, rfl⟩
  have g7 := G29.out.box ⟨0, 0, 0, 0, 0⟩
  dsimp only at g7
  rw [hV] at g7
  have G30 := Lib.hid g7
  clear g7 G29
  rw [hV]
  clear hV
  refine (num_any _ _ _ _ _ _).mono ?_
  rintro e u24 ⟨rfl, hb⟩
  have G31 := Lib.hid (G30.out.call hb)
  clear hb G30
  go_wp2_with fail
  refine (num_any _ _ _ _ _ _).mono ?_
  rintro e u25 ⟨rfl, hb⟩
  have G32 := Lib.hid (G31.out.call hb)
  clear hb G31
  go_wp2_with fail
  refine (aw_r _).mono ?_
  rintro e u26 ⟨rfl, hb⟩
  have G33 := Lib.hid (G32.out.call hb)
  clear hb G32
  go_wp2_with fail
  refine (num_any _ _ _ _ _ _).mono ?_
  rintro e u27 ⟨rfl, hb⟩
  have G34 := Lib.hid (G33.out.call hb)
  clear hb G33
  go_wp2_with fail
  refine (HT.out _ G34.out.1).mono ?_
  rintro e u28 ⟨rfl, hb⟩
  have G35 := Lib.hid (G34.out.call hb)
  clear hb G34
  go_wp2_with fail
  refine (HV.out _ G35.out.1).mono ?_
  rintro e u29 ⟨rfl, hb⟩
  have G36 := Lib.hid (G35.out.call hb)
  clear hb G35
  go_wp2_with fail
  obtain ⟨V7, hV⟩ : ∃ V, u29.alloc (.cells #[.int .i64 1, .int .i64 0, .int .i64 0, .int .i64 0, .int .i64 1] 23) = V := ⟨_, rfl⟩
  have g7 := G36.out.box ⟨1, 0, 0, 0, 1⟩
  dsimp only at g7
  rw [hV] at g7
  have H := Lib.hid g7
  clear g7
  rw [hV]
  clear hV
  refine region_fin (Got w _) 90 [(.int .i64 0), (.bool true), (.bool true), (.int .i64 0), (.bool true), (.bool true), (.bool true), (.int .i64 0), (.bool true), (.bool true), (.bool true), (.int .i64 0), (.bool true), (.bool true), (.bool true), (.int .i64 0), (.bool true), (.bool true), (.bool true), (.int .i64 0), (.bool true), (.bool true), (.bool true), (.int .i64 0), (.bool true), (.bool true), (.bool true), (.int .i64 0), (.bool true), (.bool true), (.bool true), (.int .i64 6), (.bool true), (.bool true), (.bool true), (.int .i64 0), (.bool true), (.bool true), (.bool true), (.int .i64 0), (.bool true), (.bool true), (.bool true), (.int .i64 0), (.bool true), (.bool true), (.bool true), (nv 1 0 0 0 0), (nv 1 0 0 0 0), (.bool true), (.bool true), (.bool true), (nv 0 1 0 0 0), (nv 0 1 0 0 0), (.bool true), (.bool true), (.bool true), (nv 1 0 0 0 0), (nv 1 0 0 0 0), (.bool true), (.bool true), (.bool true), (nv (-1) 0 0 0 1), (nv (-1) 0 0 0 1), (.bool true), (.bool true), (.bool true), (nv 2 1 0 (-1) 0), (nv 2 1 0 (-1) 0), (.bool true), (.bool true), (.bool true), (.bool true), (.bool true), (.bool true), (.bool false), (.bool true), (.bool true), (.bool true), (nv 0 1 (-1) 0 1), (nv 0 1 (-1) 0 1), (.bool true), (.bool true), (.bool true), (.int .i64 5), (.bool true), (.bool true), (.bool true), (.string { data := #[119, 45, 50, 119, 50, 45, 119, 51] }), (.bool true), (.bool true), (.bool true), (nv 1 0 0 0 1), (nv 1 0 0 0 1), (.bool true), (.bool true)] 0 (.bool true) (by kernel_rfl) (by kernel_rfl) (by kernel_rfl) (by kernel_rfl) (H.out.call (below_dN (Below.refl _ _) 1)) ?_ ?_
  · intro w' hC
    rename_i hK
    refine hK _ _ ?_
    refine wp_ret ?_
    exact bodyPost_ret (v := .bool true) (by kernel_rfl) rfl ⟨rfl, hC.1⟩
  refine eachOp_cons (ok_val (by kernel_rfl) (by kernel_rfl) (fun _ => by kernel_rfl)) ?_
  refine eachOp_cons (ok_val (by kernel_rfl) (by kernel_rfl) (fun _ => by kernel_rfl)) ?_
  refine eachOp_cons (ok_val (by kernel_rfl) (by kernel_rfl) (fun _ => by kernel_rfl)) ?_
  refine eachOp_cons (ok_val (by kernel_rfl) (by kernel_rfl) (fun _ => by kernel_rfl)) ?_
  refine eachOp_cons (ok_val (by kernel_rfl) (by kernel_rfl) (fun _ => by kernel_rfl)) ?_
  refine eachOp_cons (ok_val (by kernel_rfl) (by kernel_rfl) (fun _ => by kernel_rfl)) ?_
  refine eachOp_cons (ok_val (by kernel_rfl) (by kernel_rfl) (fun _ => by kernel_rfl)) ?_
  refine eachOp_cons (ok_val (by kernel_rfl) (by kernel_rfl) (fun _ => by kernel_rfl)) ?_
  refine eachOp_cons (ok_val (by kernel_rfl) (by kernel_rfl) (fun _ => by kernel_rfl)) ?_
  refine eachOp_cons (ok_val (by kernel_rfl) (by kernel_rfl) (fun _ => by kernel_rfl)) ?_
  refine eachOp_cons (ok_val (by kernel_rfl) (by kernel_rfl) (fun _ => by kernel_rfl)) ?_
  refine eachOp_cons (ok_val (by kernel_rfl) (by kernel_rfl) (fun _ => by kernel_rfl)) ?_
  refine eachOp_cons (ok_val (by kernel_rfl) (by kernel_rfl) (fun _ => by kernel_rfl)) ?_
  refine eachOp_cons (ok_val (by kernel_rfl) (by kernel_rfl) (fun _ => by kernel_rfl)) ?_
  refine eachOp_cons (ok_val (by kernel_rfl) (by kernel_rfl) (fun _ => by kernel_rfl)) ?_
  refine eachOp_cons (ok_val (by kernel_rfl) (by kernel_rfl) (fun _ => by kernel_rfl)) ?_
  refine eachOp_cons (ok_val (by kernel_rfl) (by kernel_rfl) (fun _ => by kernel_rfl)) ?_
  refine eachOp_cons (ok_val (by kernel_rfl) (by kernel_rfl) (fun _ => by kernel_rfl)) ?_
  refine eachOp_cons (ok_val (by kernel_rfl) (by kernel_rfl) (fun _ => by kernel_rfl)) ?_
  refine eachOp_cons (ok_val (by kernel_rfl) (by kernel_rfl) (fun _ => by kernel_rfl)) ?_
  refine eachOp_cons (ok_val (by kernel_rfl) (by kernel_rfl) (fun _ => by kernel_rfl)) ?_
  refine eachOp_cons (ok_val (by kernel_rfl) (by kernel_rfl) (fun _ => by kernel_rfl)) ?_
  refine eachOp_cons (ok_val (by kernel_rfl) (by kernel_rfl) (fun _ => by kernel_rfl)) ?_
  refine eachOp_cons (ok_val (by kernel_rfl) (by kernel_rfl) (fun _ => by kernel_rfl)) ?_
  refine eachOp_cons (ok_val (by kernel_rfl) (by kernel_rfl) (fun _ => by kernel_rfl)) ?_
  refine eachOp_cons (ok_val (by kernel_rfl) (by kernel_rfl) (fun _ => by kernel_rfl)) ?_
  refine eachOp_cons (ok_val (by kernel_rfl) (by kernel_rfl) (fun _ => by kernel_rfl)) ?_
  refine eachOp_cons (ok_val (by kernel_rfl) (by kernel_rfl) (fun _ => by kernel_rfl)) ?_
  refine eachOp_cons (ok_val (by kernel_rfl) (by kernel_rfl) (fun _ => by kernel_rfl)) ?_
  refine eachOp_cons (ok_val (by kernel_rfl) (by kernel_rfl) (fun _ => by kernel_rfl)) ?_
  refine eachOp_cons (ok_val (by kernel_rfl) (by kernel_rfl) (fun _ => by kernel_rfl)) ?_
  refine eachOp_cons (ok_val (by kernel_rfl) (by kernel_rfl) (fun _ => by kernel_rfl)) ?_
  refine eachOp_cons (ok_val (by kernel_rfl) (by kernel_rfl) (fun _ => by kernel_rfl)) ?_
  refine eachOp_cons (ok_val (by kernel_rfl) (by kernel_rfl) (fun _ => by kernel_rfl)) ?_
  refine eachOp_cons (ok_val (by kernel_rfl) (by kernel_rfl) (fun _ => by kernel_rfl)) ?_
  refine eachOp_cons (ok_val (by kernel_rfl) (by kernel_rfl) (fun _ => by kernel_rfl)) ?_
  refine eachOp_cons (ok_val (by kernel_rfl) (by kernel_rfl) (fun _ => by kernel_rfl)) ?_
  refine eachOp_cons (ok_val (by kernel_rfl) (by kernel_rfl) (fun _ => by kernel_rfl)) ?_
  refine eachOp_cons (ok_val (by kernel_rfl) (by kernel_rfl) (fun _ => by kernel_rfl)) ?_
  refine eachOp_cons (ok_val (by kernel_rfl) (by kernel_rfl) (fun _ => by kernel_rfl)) ?_
  refine eachOp_cons (ok_val (by kernel_rfl) (by kernel_rfl) (fun _ => by kernel_rfl)) ?_
  refine eachOp_cons (ok_val (by kernel_rfl) (by kernel_rfl) (fun _ => by kernel_rfl)) ?_
  refine eachOp_cons (ok_val (by kernel_rfl) (by kernel_rfl) (fun _ => by kernel_rfl)) ?_
  refine eachOp_cons (ok_val (by kernel_rfl) (by kernel_rfl) (fun _ => by kernel_rfl)) ?_
  refine eachOp_cons (ok_val (by kernel_rfl) (by kernel_rfl) (fun _ => by kernel_rfl)) ?_
  refine eachOp_cons (ok_val (by kernel_rfl) (by kernel_rfl) (fun _ => by kernel_rfl)) ?_
  refine eachOp_cons (ok_val (by kernel_rfl) (by kernel_rfl) (fun _ => by kernel_rfl)) ?_
  refine eachOp_cons (ok_load (by kernel_rfl) (by kernel_rfl) (fun _ hC => load_num (b := u2.heap.size) (x := ⟨1, 0, 0, 0, 0⟩) rfl (by kernel_rfl) (hC.2 _ (.tail _ (.tail _ (.tail _ (.tail _ (.tail _ (.tail _ (.tail _ (.head _))))))))))) ?_
  refine eachOp_cons (ok_call 4 #[.int .i64 (1), .int .i64 (0), .int .i64 (0), .int .i64 (0), .int .i64 (0)] (by kernel_rfl) (by kernel_rfl) (fun _ => by kernel_rfl) (fun w' hC => (num_any _ _ _ _ _ w').mono fun _ _ h => ⟨h.1, hC.call h.2⟩)) ?_
  refine eachOp_cons (ok_val (by kernel_rfl) (by kernel_rfl) (fun _ => eql_num (x := ⟨1, 0, 0, 0, 0⟩) (y := ⟨1, 0, 0, 0, 0⟩) rfl (by kernel_rfl) (by kernel_rfl) (by kernel_rfl))) ?_
  refine eachOp_cons (ok_val (by kernel_rfl) (by kernel_rfl) (fun _ => by kernel_rfl)) ?_
  refine eachOp_cons (ok_val (by kernel_rfl) (by kernel_rfl) (fun _ => by kernel_rfl)) ?_
  refine eachOp_cons (ok_load (by kernel_rfl) (by kernel_rfl) (fun _ hC => load_num (b := u4.heap.size) (x := ⟨0, 1, 0, 0, 0⟩) rfl (by kernel_rfl) (hC.2 _ (.tail _ (.tail _ (.tail _ (.tail _ (.tail _ (.tail _ (.head _)))))))))) ?_
  refine eachOp_cons (ok_call 4 #[.int .i64 (0), .int .i64 (1), .int .i64 (0), .int .i64 (0), .int .i64 (0)] (by kernel_rfl) (by kernel_rfl) (fun _ => by kernel_rfl) (fun w' hC => (num_any _ _ _ _ _ w').mono fun _ _ h => ⟨h.1, hC.call h.2⟩)) ?_
  refine eachOp_cons (ok_val (by kernel_rfl) (by kernel_rfl) (fun _ => eql_num (x := ⟨0, 1, 0, 0, 0⟩) (y := ⟨0, 1, 0, 0, 0⟩) rfl (by kernel_rfl) (by kernel_rfl) (by kernel_rfl))) ?_
  refine eachOp_cons (ok_val (by kernel_rfl) (by kernel_rfl) (fun _ => by kernel_rfl)) ?_
  refine eachOp_cons (ok_val (by kernel_rfl) (by kernel_rfl) (fun _ => by kernel_rfl)) ?_
  refine eachOp_cons (ok_load (by kernel_rfl) (by kernel_rfl) (fun _ hC => load_num (b := u7.heap.size) (x := ⟨1, 0, 0, 0, 0⟩) rfl (by kernel_rfl) (hC.2 _ (.tail _ (.tail _ (.tail _ (.tail _ (.tail _ (.head _))))))))) ?_
  refine eachOp_cons (ok_call 4 #[.int .i64 (1), .int .i64 (0), .int .i64 (0), .int .i64 (0), .int .i64 (0)] (by kernel_rfl) (by kernel_rfl) (fun _ => by kernel_rfl) (fun w' hC => (num_any _ _ _ _ _ w').mono fun _ _ h => ⟨h.1, hC.call h.2⟩)) ?_
  refine eachOp_cons (ok_val (by kernel_rfl) (by kernel_rfl) (fun _ => eql_num (x := ⟨1, 0, 0, 0, 0⟩) (y := ⟨1, 0, 0, 0, 0⟩) rfl (by kernel_rfl) (by kernel_rfl) (by kernel_rfl))) ?_
  refine eachOp_cons (ok_val (by kernel_rfl) (by kernel_rfl) (fun _ => by kernel_rfl)) ?_
  refine eachOp_cons (ok_val (by kernel_rfl) (by kernel_rfl) (fun _ => by kernel_rfl)) ?_
  refine eachOp_cons (ok_load (by kernel_rfl) (by kernel_rfl) (fun _ hC => load_num (b := u9.heap.size) (x := ⟨-1, 0, 0, 0, 1⟩) rfl (by kernel_rfl) (hC.2 _ (.tail _ (.tail _ (.tail _ (.tail _ (.head _)))))))) ?_
  refine eachOp_cons (ok_call 4 #[.int .i64 (-1), .int .i64 (0), .int .i64 (0), .int .i64 (0), .int .i64 (1)] (by kernel_rfl) (by kernel_rfl) (fun _ => by kernel_rfl) (fun w' hC => (num_any _ _ _ _ _ w').mono fun _ _ h => ⟨h.1, hC.call h.2⟩)) ?_
  refine eachOp_cons (ok_val (by kernel_rfl) (by kernel_rfl) (fun _ => eql_num (x := ⟨-1, 0, 0, 0, 1⟩) (y := ⟨-1, 0, 0, 0, 1⟩) rfl (by kernel_rfl) (by kernel_rfl) (by kernel_rfl))) ?_
  refine eachOp_cons (ok_val (by kernel_rfl) (by kernel_rfl) (fun _ => by kernel_rfl)) ?_
  refine eachOp_cons (ok_val (by kernel_rfl) (by kernel_rfl) (fun _ => by kernel_rfl)) ?_
  refine eachOp_cons (ok_load (by kernel_rfl) (by kernel_rfl) (fun _ hC => load_num (b := u11.heap.size) (x := ⟨2, 1, 0, -1, 0⟩) rfl (by kernel_rfl) (hC.2 _ (.tail _ (.tail _ (.tail _ (.head _))))))) ?_
  refine eachOp_cons (ok_call 4 #[.int .i64 (2), .int .i64 (1), .int .i64 (0), .int .i64 (-1), .int .i64 (0)] (by kernel_rfl) (by kernel_rfl) (fun _ => by kernel_rfl) (fun w' hC => (num_any _ _ _ _ _ w').mono fun _ _ h => ⟨h.1, hC.call h.2⟩)) ?_
  refine eachOp_cons (ok_val (by kernel_rfl) (by kernel_rfl) (fun _ => eql_num (x := ⟨2, 1, 0, -1, 0⟩) (y := ⟨2, 1, 0, -1, 0⟩) rfl (by kernel_rfl) (by kernel_rfl) (by kernel_rfl))) ?_
  refine eachOp_cons (ok_val (by kernel_rfl) (by kernel_rfl) (fun _ => by kernel_rfl)) ?_
  refine eachOp_cons (ok_val (by kernel_rfl) (by kernel_rfl) (fun _ => by kernel_rfl)) ?_
  refine eachOp_cons (ok_val (by kernel_rfl) (by kernel_rfl) (fun _ => by kernel_rfl)) ?_
  refine eachOp_cons (ok_val (by kernel_rfl) (by kernel_rfl) (fun _ => by kernel_rfl)) ?_
  refine eachOp_cons (ok_val (by kernel_rfl) (by kernel_rfl) (fun _ => by kernel_rfl)) ?_
  refine eachOp_cons (ok_val (by kernel_rfl) (by kernel_rfl) (fun _ => by kernel_rfl)) ?_
  refine eachOp_cons (ok_val (by kernel_rfl) (by kernel_rfl) (fun _ => by kernel_rfl)) ?_
  refine eachOp_cons (ok_val (by kernel_rfl) (by kernel_rfl) (fun _ => by kernel_rfl)) ?_
  refine eachOp_cons (ok_val (by kernel_rfl) (by kernel_rfl) (fun _ => by kernel_rfl)) ?_
  refine eachOp_cons (ok_load (by kernel_rfl) (by kernel_rfl) (fun _ hC => load_num (b := u20.heap.size) (x := ⟨0, 1, -1, 0, 1⟩) rfl (by kernel_rfl) (hC.2 _ (.tail _ (.tail _ (.head _)))))) ?_
  refine eachOp_cons (ok_call 4 #[.int .i64 (0), .int .i64 (1), .int .i64 (-1), .int .i64 (0), .int .i64 (1)] (by kernel_rfl) (by kernel_rfl) (fun _ => by kernel_rfl) (fun w' hC => (num_any _ _ _ _ _ w').mono fun _ _ h => ⟨h.1, hC.call h.2⟩)) ?_
  refine eachOp_cons (ok_val (by kernel_rfl) (by kernel_rfl) (fun _ => eql_num (x := ⟨0, 1, -1, 0, 1⟩) (y := ⟨0, 1, -1, 0, 1⟩) rfl (by kernel_rfl) (by kernel_rfl) (by kernel_rfl))) ?_
  refine eachOp_cons (ok_val (by kernel_rfl) (by kernel_rfl) (fun _ => by kernel_rfl)) ?_
  refine eachOp_cons (ok_val (by kernel_rfl) (by kernel_rfl) (fun _ => by kernel_rfl)) ?_
  refine eachOp_cons (ok_val (by kernel_rfl) (by kernel_rfl) (fun _ => by kernel_rfl)) ?_
  refine eachOp_cons (ok_val (by kernel_rfl) (by kernel_rfl) (fun _ => by kernel_rfl)) ?_
  refine eachOp_cons (ok_val (by kernel_rfl) (by kernel_rfl) (fun _ => by kernel_rfl)) ?_
  refine eachOp_cons (ok_val (by kernel_rfl) (by kernel_rfl) (fun _ => by kernel_rfl)) ?_
  refine eachOp_cons (ok_val (by kernel_rfl) (by kernel_rfl) (fun _ => by kernel_rfl)) ?_
  refine eachOp_cons (ok_val (by kernel_rfl) (by kernel_rfl) (fun _ => by kernel_rfl)) ?_
  refine eachOp_cons (ok_val (by kernel_rfl) (by kernel_rfl) (fun _ => by kernel_rfl)) ?_
  refine eachOp_cons (ok_val (by kernel_rfl) (by kernel_rfl) (fun _ => by kernel_rfl)) ?_
  refine eachOp_cons (ok_load (by kernel_rfl) (by kernel_rfl) (fun _ hC => load_num (b := u29.heap.size) (x := ⟨1, 0, 0, 0, 1⟩) rfl (by kernel_rfl) (hC.2 _ (.head _)))) ?_
  refine eachOp_cons (ok_call 4 #[.int .i64 (1), .int .i64 (0), .int .i64 (0), .int .i64 (0), .int .i64 (1)] (by kernel_rfl) (by kernel_rfl) (fun _ => by kernel_rfl) (fun w' hC => (num_any _ _ _ _ _ w').mono fun _ _ h => ⟨h.1, hC.call h.2⟩)) ?_
  refine eachOp_cons (ok_val (by kernel_rfl) (by kernel_rfl) (fun _ => eql_num (x := ⟨1, 0, 0, 0, 1⟩) (y := ⟨1, 0, 0, 0, 1⟩) rfl (by kernel_rfl) (by kernel_rfl) (by kernel_rfl))) ?_
  refine eachOp_cons (ok_val (by kernel_rfl) (by kernel_rfl) (fun _ => by kernel_rfl)) ?_
  refine eachOp_cons (ok_val (by kernel_rfl) (by kernel_rfl) (fun _ => by kernel_rfl)) ?_
  exact eachOp_nil
end Go.Proofs.YtcdmcndjbajhlaaGreatDoor
