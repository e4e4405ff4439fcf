/- What RingSmall needs of memory. -/
import Derived.Test.YtcdmcndjbajhlaaGreatDoorJz
import Derived.Test.YtcdmcndjbajhlaaGreatDoorJw
import Derived.Test.YtcdmcndjbajhlaaGreatDoorTl
import Derived.Test.YtcdmcndjbajhlaaGreatDoorPo
import Derived.Test.YtcdmcndjbajhlaaGreatDoorJr
import Derived.Test.YtcdmcndjbajhlaaGreatDoorTx
set_option linter.all false
set_option maxRecDepth 100000
namespace Go.Proofs.YtcdmcndjbajhlaaGreatDoor
open Go.RowKit Go.Shelf

theorem Vars.below {w w' : World} (h : Vars w) (hb : Below w.heap.size w w') : Vars w' := ⟨h.1.below hb, h.2.1.below hb, Lib.tabBelow_of_tabIs h.2.2 w' hb⟩

set_option maxHeartbeats 4000000 in
theorem asked_any (x y : Nm) (w : World) (hv : Vars w) : Calls Tryz.prog 5 #[x.v, y.v] w (Gives (.bool true) w) := by
  have H1 : Hid (∀ w', Below w.heap.size w w' → Calls Tryz.prog 10 #[x.v, y.v] w' (Gives (.bool true) w')) := fun w' hb => RingLeast_any x y w' (hv.below hb)
  have H2 : Hid (∀ w', Below w.heap.size w w' → Calls Tryz.prog 11 #[x.v, y.v] w' (Gives (.bool true) w')) := fun w' hb => RingAdds_any x y w' (hv.below hb)
  have H3 : Hid (∀ w', Below w.heap.size w w' → Calls Tryz.prog 12 #[x.v] w' (Gives (.bool true) w')) := fun w' hb => RingTurns_any x w' (hv.below hb)
  have H4 : Hid (∀ w', Below w.heap.size w w' → Calls Tryz.prog 13 #[x.v, y.v] w' (Gives (.bool true) w')) := fun w' hb => RingDivides_any x y w' (hv.below hb)
  have H5 : Hid (∀ w', Below w.heap.size w w' → Calls Tryz.prog 14 #[x.v, y.v] w' (Gives (.bool true) w')) := fun w' hb => RingOrders_any x y w' (hv.below hb)
  have G0 := Lib.hid (Got.two w x y)
  clear hv
  go_enter Tryz.func5, Tryz.ntmps5
  go_wp2_with fail
  refine (H1.out _ G0.out.1).mono ?_
  rintro e u1 ⟨rfl, hb⟩
  have g := G0.out.call hb
  obtain ⟨y_0, y_1, y_2, y_3, y_4⟩ := (g.2 _ (.head _)).cell
  have y_t := (g.2 _ (.head _)).lt
  obtain ⟨x_0, x_1, x_2, x_3, x_4⟩ := (g.2 _ (.tail _ (.head _))).cell
  have x_t := (g.2 _ (.tail _ (.head _))).lt
  dsimp only at y_0 y_1 y_2 y_3 y_4 y_t x_0 x_1 x_2 x_3 x_4 x_t
  have G1 := Lib.hid g
  clear g hb G0
  go_wp2_with fail
  clear y_0 y_1 y_2 y_3 y_4 y_t x_0 x_1 x_2 x_3 x_4 x_t
  refine (H2.out _ G1.out.1).mono ?_
  rintro e u2 ⟨rfl, hb⟩
  have g := G1.out.call hb
  obtain ⟨x_0, x_1, x_2, x_3, x_4⟩ := (g.2 _ (.tail _ (.head _))).cell
  have x_t := (g.2 _ (.tail _ (.head _))).lt
  dsimp only at x_0 x_1 x_2 x_3 x_4 x_t
  have G2 := Lib.hid g
  clear g hb G1
  go_wp2_with fail
  clear x_0 x_1 x_2 x_3 x_4 x_t
  refine (H3.out _ G2.out.1).mono ?_
  rintro e u3 ⟨rfl, hb⟩
  have g := G2.out.call hb
  obtain ⟨y_0, y_1, y_2, y_3, y_4⟩ := (g.2 _ (.head _)).cell
  have y_t := (g.2 _ (.head _)).lt
  obtain ⟨x_0, x_1, x_2, x_3, x_4⟩ := (g.2 _ (.tail _ (.head _))).cell
  have x_t := (g.2 _ (.tail _ (.head _))).lt
  dsimp only at y_0 y_1 y_2 y_3 y_4 y_t x_0 x_1 x_2 x_3 x_4 x_t
  have G3 := Lib.hid g
  clear g hb G2
  go_wp2_with fail
  clear y_0 y_1 y_2 y_3 y_4 y_t x_0 x_1 x_2 x_3 x_4 x_t
  refine (H4.out _ G3.out.1).mono ?_
  rintro e u4 ⟨rfl, hb⟩
  have g := G3.out.call hb
  obtain ⟨y_0, y_1, y_2, y_3, y_4⟩ := (g.2 _ (.head _)).cell
  have y_t := (g.2 _ (.head _)).lt
  obtain ⟨x_0, x_1, x_2, x_3, x_4⟩ := (g.2 _ (.tail _ (.head _))).cell
  have x_t := (g.2 _ (.tail _ (.head _))).lt
  dsimp only at y_0 y_1 y_2 y_3 y_4 y_t x_0 x_1 x_2 x_3 x_4 x_t
  have G4 := Lib.hid g
  clear g hb G3
  go_wp2_with fail
  clear y_0 y_1 y_2 y_3 y_4 y_t x_0 x_1 x_2 x_3 x_4 x_t
  refine (H5.out _ G4.out.1).mono ?_
  rintro e u5 ⟨rfl, hb⟩
  have g := G4.out.call hb
  have G5 := Lib.hid g
  clear g hb G4
  go_wp2_with fail
  go_ret
  exact ⟨rfl, G5.out.1⟩
end Go.Proofs.YtcdmcndjbajhlaaGreatDoor
namespace Go.Proofs.YtcdmcndjbajhlaaGreatDoor
open Go.RowKit Go.Shelf

/-- Integers from cell 0 of a block on. -/
def IRow (w : World) (b : Nat) (xs : List Int) : Prop := b < w.heap.size ∧ ∀ (i : Nat) (x : Int), xs[i]? = some x → w.cell? ⟨b, i, none⟩ = some (.int .i64 x)
def SRow (w : World) (b : Nat) (xs : List ByteArray) : Prop := b < w.heap.size ∧ ∀ (i : Nat) (x : ByteArray), xs[i]? = some x → w.cell? ⟨b, i, none⟩ = some (.string x)
theorem IRow.below {w w' : World} {b : Nat} {xs : List Int} (h : IRow w b xs) (hb : Below w.heap.size w w') : IRow w' b xs :=
  ⟨Nat.lt_of_lt_of_le h.1 hb.size, fun i x hx => by rw [(bcell hb).1 _ _ h.1]; exact h.2 i x hx⟩
theorem SRow.below {w w' : World} {b : Nat} {xs : List ByteArray} (h : SRow w b xs) (hb : Below w.heap.size w w') : SRow w' b xs :=
  ⟨Nat.lt_of_lt_of_le h.1 hb.size, fun i x hx => by rw [(bcell hb).1 _ _ h.1]; exact h.2 i x hx⟩
theorem IRow.new (w : World) (cs : Array Value) (T : Nat) (xs : List Int) (h : cs.toList = xs.map (Value.int .i64)) : IRow (w.alloc (.cells cs T)) w.heap.size xs :=
  ⟨by simp, fun i x hx => by
    rw [cell_of_row _ _ i cs T (0, 0) (heap_alloc_new w _), ← Array.getElem?_toList, h]
    simp [hx]⟩
theorem SRow.new (w : World) (cs : Array Value) (T : Nat) (xs : List ByteArray) (h : cs.toList = xs.map Value.string) : SRow (w.alloc (.cells cs T)) w.heap.size xs :=
  ⟨by simp, fun i x hx => by
    rw [cell_of_row _ _ i cs T (0, 0) (heap_alloc_new w _), ← Array.getElem?_toList, h]
    simp [hx]⟩
theorem Row.new (w : World) (cs : Array Value) (T : Nat) (xs : List Nm) (h : cs.toList = cellsL xs) : Row (w.alloc (.cells cs T)) w.heap.size 0 xs :=
  row_of (heap_alloc_new w (.cells cs T)) (by rw [h, List.take_of_length_le (by rw [cellsL_len]; omega)])
theorem Row.at0 {w : World} {b i : Nat} {xs : List Nm} {x : Nm} (h : Row w b 0 xs) (hx : xs[i]? = some x) :
    w.cell? ⟨b, i * 5, none⟩ = some (.int .i64 x.A) ∧ w.cell? ⟨b, i * 5 + 1, none⟩ = some (.int .i64 x.B) ∧ w.cell? ⟨b, i * 5 + 2, none⟩ = some (.int .i64 x.C) ∧ w.cell? ⟨b, i * 5 + 3, none⟩ = some (.int .i64 x.D) ∧ w.cell? ⟨b, i * 5 + 4, none⟩ = some (.int .i64 x.K) := by
  have := h.2 i x hx
  simpa using this
def S6 : List Nm := [⟨1, 0, 0, 0, 0⟩, ⟨0, 1, 0, -1, 1⟩, ⟨2, 1, 0, -1, 3⟩, ⟨-1, 1, 1, 0, 2⟩, ⟨3, 0, 0, 0, 0⟩, ⟨0, 0, 0, 0, 5⟩]
def I15 : List Int := [-9223372036854775808, -1073741825, -1073741824, -1073741823, -4097, -4096, -2, 0, 1, 4096, 4097, 1073741823, 1073741824, 1073741825, 9223372036854775807]
def I9 : List Int := [-9223372036854775808, -1, 0, 1, 2, 59, 60, 61, 9223372036854775807]
def I12 : List Int := [28, 29, 30, 31, 58, 59, 60, 61, 62, 63, 64, 65]
theorem I15_in {i : Nat} {x : Int} (h : I15[i]? = some x) : -9223372036854775808 ≤ x ∧ x ≤ 9223372036854775807 := by
  have : ∀ x ∈ I15, -9223372036854775808 ≤ x ∧ x ≤ 9223372036854775807 := by decide
  exact this x (List.mem_of_getElem? h)
theorem I9_in {i : Nat} {x : Int} (h : I9[i]? = some x) : -9223372036854775808 ≤ x ∧ x ≤ 9223372036854775807 := by
  have : ∀ x ∈ I9, -9223372036854775808 ≤ x ∧ x ≤ 9223372036854775807 := by decide
  exact this x (List.mem_of_getElem? h)
theorem I12_in {i : Nat} {x : Int} (h : I12[i]? = some x) : 28 ≤ x ∧ x ≤ 65 := by
  have : ∀ x ∈ I12, 28 ≤ x ∧ x ≤ 65 := by decide
  exact this x (List.mem_of_getElem? h)
theorem chk_small {k : Nat} (h : k < 81) : Nm.chk ⟨(k : Int) % 3 - 1, (k : Int) / 3 % 3 - 1, (k : Int) / 9 % 3 - 1, (k : Int) / 27 - 1, (k : Int) % 4⟩ = 0 := by
  unfold Nm.chk chk
  dsimp only
  rw [if_neg (by omega), if_pos]
  unfold inb
  exact decide_eq_true (by omega)
theorem print_small {x : Nm} (h : x.chk = 0) : (printT x.least).size ≤ 9223372036854775807 := by
  have hq := chk_in h
  have h2 : x.least.chk = 0 := least_fine (by simp [Nm.inb, inb]; omega) (by omega)
  have hk := chk_in h2
  have ht := termsT_size x.least (inb_coefs (by simp [Nm.inb, inb]; omega))
  have hl := Lib.itoa_length_le x.least.K (by omega) (by omega)
  rw [Lib.size_eq, printT_list]
  rw [Lib.size_eq] at ht
  split
  · omega
  · simp only [List.length_cons, List.length_append, List.length_nil]
    omega
theorem box_set {w : World} {b T : Nat} {x : Nm} (h : Box w b T x) (i : Nat) (hi : i < 4) (v : Int) : ∃ y, Box (w.setCell ⟨b, i, none⟩ (.int .i64 v)) b T y := by
  unfold Box at *
  rcases (by omega : i = 0 ∨ i = 1 ∨ i = 2 ∨ i = 3) with rfl | rfl | rfl | rfl
  · exact ⟨⟨v, x.B, x.C, x.D, x.K⟩, by simp [World.setCell, Array.getElem?_modify, h]⟩
  · exact ⟨⟨x.A, v, x.C, x.D, x.K⟩, by simp [World.setCell, Array.getElem?_modify, h]⟩
  · exact ⟨⟨x.A, x.B, v, x.D, x.K⟩, by simp [World.setCell, Array.getElem?_modify, h]⟩
  · exact ⟨⟨x.A, x.B, x.C, v, x.K⟩, by simp [World.setCell, Array.getElem?_modify, h]⟩
theorem IRow.other {w : World} {b b' o : Nat} {xs : List Int} {v : Value} (h : IRow w b xs) (hn : b ≠ b') : IRow (w.setCell ⟨b', o, none⟩ v) b xs :=
  ⟨by simpa using h.1, fun i x hx => by rw [World.cell?_setCell_other _ _ _ _ (fun e => by cases e; exact hn rfl)]; exact h.2 i x hx⟩
theorem IRow.al {w : World} {b : Nat} {xs : List Int} (h : IRow w b xs) (o : Obj) : IRow (w.alloc o) b xs := h.below ((Below.refl _ w).alloc (Nat.le_refl _) o)
def T6 : List ByteArray := [⟨#[48]⟩, ⟨#[40, 49, 45, 50, 119, 43, 51, 119, 50, 45, 119, 51, 41, 47, 114, 49, 50]⟩, ⟨#[45, 119, 51]⟩, ⟨#[49, 48, 55, 51, 55, 52, 49, 56, 50, 52]⟩, ⟨#[49, 50, 43, 119]⟩, ⟨#[40, 49, 41, 47, 114, 54, 48]⟩]
def T12 : List ByteArray := [⟨#[]⟩, ⟨#[48]⟩, ⟨#[49]⟩, ⟨#[119]⟩, ⟨#[45]⟩, ⟨#[43]⟩, ⟨#[40]⟩, ⟨#[41]⟩, ⟨#[114]⟩, ⟨#[32]⟩, ⟨#[50]⟩, ⟨#[47]⟩]
theorem T6_size {i : Nat} {x : ByteArray} (h : T6[i]? = some x) : x.size ≤ 17 := by
  have : ∀ x ∈ T6, x.size ≤ 17 := by decide
  exact this x (List.mem_of_getElem? h)
theorem T12_size {i : Nat} {x : ByteArray} (h : T12[i]? = some x) : x.size ≤ 1 := by
  have : ∀ x ∈ T12, x.size ≤ 1 := by decide
  exact this x (List.mem_of_getElem? h)
end Go.Proofs.YtcdmcndjbajhlaaGreatDoor
