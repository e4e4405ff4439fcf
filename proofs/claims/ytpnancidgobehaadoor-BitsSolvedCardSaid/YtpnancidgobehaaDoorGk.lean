
/- The laws of bits: the examples. Written by gen_awake.py. -/
import Derived.Test.YtpnancidgobehaaDoorGj
import Derived.Test.YtpnancidgobehaaDoorVy
import Derived.Test.YtpnancidgobehaaDoorVq
import Derived.Test.YtpnancidgobehaaDoorVp
set_option linter.all false
set_option maxRecDepth 100000
namespace Go.Proofs.YtpnancidgobehaaDoor
open Go.RowKit Go.Shelf

/-- The table of the library's trailing zeros is there. -/
def Tabbed (w : World) : Prop := TabAt 1 Lib.deBruijn64tab w ∧ 1 < w.heap.size
theorem Tabbed.below {w w' : World} (h : Tabbed w) (hb : Below w.heap.size w w') : Tabbed w' := ⟨tab_below h.1 hb h.2, Nat.lt_of_lt_of_le h.2 hb.size⟩
theorem ints1 (w : World) (a : Int) {k : Nat} (hk : k = w.heap.size) : Ints (w.alloc (.cells #[.int .i64 a] 3)) (some ⟨k, 0, none⟩) [a] :=
  .inr ⟨k, 0, rfl, by simp [hk], fun i x hx => by
    subst hk
    rw [cell_of_row _ _ (0 + i) _ 3 (0, 0) (heap_alloc_new w _), Nat.zero_add]
    match i, hx with
    | 0, hx => simp at hx; subst hx; rfl⟩
theorem ints2 (w : World) (a b : Int) {k : Nat} (hk : k = w.heap.size) : Ints (w.alloc (.cells #[.int .i64 a, .int .i64 b] 3)) (some ⟨k, 0, none⟩) [a, b] :=
  .inr ⟨k, 0, rfl, by simp [hk], fun i x hx => by
    subst hk
    rw [cell_of_row _ _ (0 + i) _ 3 (0, 0) (heap_alloc_new w _), Nat.zero_add]
    match i, hx with
    | 0, hx => simp at hx; subst hx; rfl
    | 1, hx => simp at hx; subst hx; rfl⟩
theorem ints3 (w : World) (a b c : Int) {k : Nat} (hk : k = w.heap.size) : Ints (w.alloc (.cells #[.int .i64 a, .int .i64 b, .int .i64 c] 3)) (some ⟨k, 0, none⟩) [a, b, c] :=
  .inr ⟨k, 0, rfl, by simp [hk], fun i x hx => by
    subst hk
    rw [cell_of_row _ _ (0 + i) _ 3 (0, 0) (heap_alloc_new w _), Nat.zero_add]
    match i, hx with
    | 0, hx => simp at hx; subst hx; rfl
    | 1, hx => simp at hx; subst hx; rfl
    | 2, hx => simp at hx; subst hx; rfl⟩
theorem ints5 (w : World) (a b c d e : Int) {k : Nat} (hk : k = w.heap.size) : Ints (w.alloc (.cells #[.int .i64 a, .int .i64 b, .int .i64 c, .int .i64 d, .int .i64 e] 3)) (some ⟨k, 0, none⟩) [a, b, c, d, e] :=
  .inr ⟨k, 0, rfl, by simp [hk], fun i x hx => by
    subst hk
    rw [cell_of_row _ _ (0 + i) _ 3 (0, 0) (heap_alloc_new w _), Nat.zero_add]
    match i, hx with
    | 0, hx => simp at hx; subst hx; rfl
    | 1, hx => simp at hx; subst hx; rfl
    | 2, hx => simp at hx; subst hx; rfl
    | 3, hx => simp at hx; subst hx; rfl
    | 4, hx => simp at hx; subst hx; rfl⟩
theorem Ints.al {w : World} {p : Option Addr} {xs : List Int} (h : Ints w p xs) (o : Obj) : Ints (w.alloc o) p xs := h.below ((Below.refl _ w).alloc (Nat.le_refl _) o)
/-- Lists that lie in memory. -/
def Has (w : World) (L : List (Option Addr × List Int)) : Prop := ∀ q ∈ L, Ints w q.1 q.2
theorem Has.below {w w' : World} {L : List (Option Addr × List Int)} (h : Has w L) (hb : Below w.heap.size w w') : Has w' L := fun q hq => (h q hq).below hb
theorem Has.al {w : World} {L : List (Option Addr × List Int)} (h : Has w L) (o : Obj) : Has (w.alloc o) L := h.below ((Below.refl _ w).alloc (Nat.le_refl _) o)
theorem Has.cons {w : World} {L : List (Option Addr × List Int)} (h : Has w L) {p : Option Addr} {xs : List Int} (hx : Ints w p xs) : Has w ((p, xs) :: L) := fun q hq => by
  rcases List.mem_cons.1 hq with rfl | hq
  · exact hx
  · exact h q hq
theorem Has.get {w : World} {L : List (Option Addr × List Int)} (h : Has w L) {p : Option Addr} {xs : List Int} (hm : (p, xs) ∈ L) : Ints w p xs := h _ hm
/-- The outcome is a list that lies in memory, and an error. -/
def LitE (L : List Int) (n : Nat) (q : Int) (w : World) (e : Ending) (w' : World) : Prop := ∃ p c, e = .returned (.tuple #[.slice p n c, .int .i64 q]) ∧ Ints w' p L ∧ Below w.heap.size w w'
theorem ListE.lit {out : List Nat} {L : List Int} {n : Nat} {q : Int} {w w' : World} {e : Ending} (h : ListE out q w e w') (hL : casts out = L) (hn : out.length = n) : LitE L n q w e w' := by
  obtain ⟨v, rfl, hb, hown⟩ := h
  obtain ⟨p, c, rfl, hi⟩ := hown.ints
  rw [casts_len, hn]
  rw [hL] at hi
  exact ⟨p, c, rfl, hi, hb⟩
theorem bt_Equal_lit (L : List Int) (n : Nat) (hn : L.length = n) (hs : n ≤ 1000) (p q : Option Addr) (ca cb : Nat) (w : World) (h : Ints w p L) (hy : Ints w q L) : Calls Tryd.prog 22 #[.slice p n ca, .slice q n cb] w (Gives (.bool true) w) := by
  have := bt_Equal L L p q ca cb w h hy (by omega) (by omega)
  rw [hn] at this
  simpa using this
theorem ex_H1 : ReduceM [3, 5, 6] 4 = [5, 3] := by decide +kernel
theorem ex_H3 : NullM [3, 5, 6] 4 = [8, 7] := by decide +kernel
theorem ex_H4 : WeightsM [3, 5, 6] 4 = [1, 0, 3, 0, 0] := by decide +kernel
theorem ex_H6 : MulM [1, 3] 2 [5, 6] 3 = ([5, 3], 0) := by decide +kernel
theorem ex_H7 : TransposeM [3, 6] 3 = ([1, 3, 2], 0) := by decide +kernel
theorem ex_H8 : InvertM [3, 2, 4] 3 = ([3, 2, 4], 0) := by decide +kernel
theorem ex_H10 : MeetM [3, 4] [5, 2] 3 = [7] := by decide +kernel
theorem ex_H2 : WhichM [3, 5, 6] 4 6 = (3, 0) := by decide +kernel
theorem ex_H5 : SolveM [3, 6] 3 3 = (2, 0) := by decide +kernel
theorem ex_H9 : CosetM [3, 5, 6] 3 7 = (1, 0) := by decide +kernel
theorem ex_c1 : checkM [3, 5, 6] 4 = 0 := by decide +kernel
theorem ex_c2 : checkedM [3, 4] [5, 2] 3 = 0 := by decide +kernel
theorem aw_H1 (W : World) (l : Option Addr) : Ints W l [3, 5, 6] → Calls Tryd.prog 13 #[.slice l 3 3, .int .i64 4] W (LitE [5, 3] 2 0 W) := fun h => by
  have := bt_Reduce [3, 5, 6] 4 l 3 W h (by decide)
  rw [ex_H1, ex_c1] at this
  exact this.mono fun _ _ h => h.lit rfl rfl
theorem aw_H2 (W : World) (l : Option Addr) : Ints W l [3, 5, 6] → Calls Tryd.prog 30 #[.slice l 3 3, .int .i64 4, .int .i64 6] W (Gives (.tuple #[.int .i64 3, .int .i64 0]) W) := fun h => by
  have := bt_Which [3, 5, 6] 4 l 3 W h (by decide) 6
  rw [ex_H2] at this
  exact this
theorem aw_H3 (W : World) (l : Option Addr) : Ints W l [3, 5, 6] → Calls Tryd.prog 12 #[.slice l 3 3, .int .i64 4] W (LitE [8, 7] 2 0 W) := fun h => by
  have := bt_Null [3, 5, 6] 4 l 3 W h (by decide)
  rw [ex_H3, ex_c1] at this
  exact this.mono fun _ _ h => h.lit rfl rfl
theorem aw_H4 (W : World) (l : Option Addr) : Ints W l [3, 5, 6] → Tabbed W → Calls Tryd.prog 38 #[.slice l 3 3, .int .i64 4] W (LitE [1, 0, 3, 0, 0] 5 0 W) := fun h ht => by
  have := bt_Weights [3, 5, 6] 4 l 3 W h (by decide) ht.1 ht.2
  rw [ex_H4, ex_c1] at this
  exact this.mono fun _ _ h => h.lit rfl rfl
theorem aw_H5 (W : World) (l : Option Addr) : Ints W l [3, 6] → Calls Tryd.prog 27 #[.slice l 2 2, .int .i64 3, .int .i64 3] W (Gives (.tuple #[.int .i64 2, .int .i64 0]) W) := fun h => by
  have := bt_Solve [3, 6] 3 l 2 W h (by decide) 3
  rw [ex_H5] at this
  exact this
theorem aw_H6 (W : World) (l k : Option Addr) : Ints W l [1, 3] → Ints W k [5, 6] → Calls Tryd.prog 31 #[.slice l 2 2, .int .i64 2, .slice k 2 2, .int .i64 3] W (LitE [5, 3] 2 0 W) := fun h h2 => by
  have := bt_Mul [1, 3] 2 [5, 6] 3 l k 2 2 W h h2 (by decide) (by decide)
  rw [ex_H6] at this
  exact this.mono fun _ _ h => h.lit rfl rfl
theorem aw_H7 (W : World) (l : Option Addr) : Ints W l [3, 6] → Calls Tryd.prog 32 #[.slice l 2 2, .int .i64 3] W (LitE [1, 3, 2] 3 0 W) := fun h => by
  have := bt_Transpose [3, 6] 3 l 2 W h (by decide)
  rw [ex_H7] at this
  exact this.mono fun _ _ h => h.lit rfl rfl
theorem aw_H8 (W : World) (l : Option Addr) : Ints W l [3, 2, 4] → Calls Tryd.prog 34 #[.slice l 3 3, .int .i64 3] W (LitE [3, 2, 4] 3 0 W) := fun h => by
  have := bt_Invert [3, 2, 4] 3 l 3 W h (by decide)
  rw [ex_H8] at this
  exact this.mono fun _ _ h => h.lit rfl rfl
theorem aw_H9 (W : World) (l : Option Addr) : Ints W l [3, 5, 6] → Tabbed W → Calls Tryd.prog 40 #[.slice l 3 3, .int .i64 3, .int .i64 7] W (Gives (.tuple #[.int .i64 1, .int .i64 0]) W) := fun h ht => by
  have := bt_Coset [3, 5, 6] 3 7 l 3 W h (by decide) ht.1 ht.2
  rw [ex_H9] at this
  exact this
theorem aw_H10 (W : World) (l k : Option Addr) : Ints W l [3, 4] → Ints W k [5, 2] → Calls Tryd.prog 36 #[.slice l 2 2, .slice k 2 2, .int .i64 3] W (LitE [7] 1 0 W) := fun h h2 => by
  have := bt_Meet [3, 4] [5, 2] 3 l k 2 2 W h h2 (by decide) (by decide)
  rw [ex_H10, ex_c2] at this
  exact this.mono fun _ _ h => h.lit rfl rfl
set_option maxHeartbeats 16000000 in
theorem bt_awake (w : World) (hT : Tabbed w) : Calls Tryd.prog 23 #[] w (Gives (.bool true) w) := by
  have HT := Lib.hid hT
  clear hT
  go_enter Tryd.func23, Tryd.ntmps23
  go_wp2_with fail
  have hb0 : Below w.heap.size w (w.alloc (.cells #[.int .i64 3, .int .i64 5, .int .i64 6] 3)) := (by repeat (first | with_reducible exact Below.refl _ _ | with_reducible refine below_al ?_ _ | with_reducible refine below_dN ?_ _ | with_reducible refine Below.drew ?_ | (with_reducible refine Below.setCell ?_ (by simp <;> omega) _) | (with_reducible refine below_via (by assumption) ?_)))
  have HL0 : Hid (Has (w.alloc (.cells #[.int .i64 3, .int .i64 5, .int .i64 6] 3)) [(some ⟨w.heap.size, 0, none⟩, [3, 5, 6])]) := Has.cons (fun _ h => by cases h) (ints3 w 3 5 6 rfl)
  refine (aw_H1 _ _ (HL0.out.get (by simp))).mono ?_
  rintro e w1 ⟨p1, c1, rfl, hi, hx⟩
  have hb1 : Below w.heap.size w w1 := below_via hx hb0
  have HL1 := Lib.hid ((HL0.out.below hx).cons hi)
  clear hx hi hb0 HL0
  go_wp2_with fail
  refine (aw_H2 _ _ (HL1.out.get (by simp))).mono ?_
  rintro e w2 ⟨rfl, hx⟩
  have hb2 : Below w.heap.size w w2 := below_via hx hb1
  have HL2 := Lib.hid (HL1.out.below hx)
  clear hx hb1 HL1
  go_wp2_with fail
  refine (aw_H3 _ _ (HL2.out.get (by simp))).mono ?_
  rintro e w3 ⟨p3, c3, rfl, hi, hx⟩
  have hb3 : Below w.heap.size w w3 := below_via hx hb2
  have HL3 := Lib.hid ((HL2.out.below hx).cons hi)
  clear hx hi hb2 HL2
  go_wp2_with fail
  refine (aw_H4 _ _ (HL3.out.get (by simp)) (HT.out.below hb3)).mono ?_
  rintro e w4 ⟨p4, c4, rfl, hi, hx⟩
  have hb4 : Below w.heap.size w w4 := below_via hx hb3
  have HL4 := Lib.hid ((HL3.out.below hx).cons hi)
  clear hx hi hb3 HL3
  go_wp2_with fail
  refine (aw_H5 _ _ (ints2 _ 3 6 rfl)).mono ?_
  rintro e w5 ⟨rfl, hx⟩
  have hb5 : Below w.heap.size w w5 := below_via hx (below_al hb4 _)
  have HL5 := Lib.hid ((HL4.out.al _).below hx)
  clear hx hb4 HL4
  go_wp2_with fail
  refine (aw_H6 _ _ _ ((ints2 _ 1 3 rfl).al _) (ints2 _ 5 6 (by simp))).mono ?_
  rintro e w6 ⟨p6, c6, rfl, hi, hx⟩
  have hb6 : Below w.heap.size w w6 := below_via hx (below_al (below_al hb5 _) _)
  have HL6 := Lib.hid ((((HL5.out.al _).al _).below hx).cons hi)
  clear hx hi hb5 HL5
  go_wp2_with fail
  refine (aw_H7 _ _ (ints2 _ 3 6 rfl)).mono ?_
  rintro e w7 ⟨p7, c7, rfl, hi, hx⟩
  have hb7 : Below w.heap.size w w7 := below_via hx (below_al hb6 _)
  have HL7 := Lib.hid (((HL6.out.al _).below hx).cons hi)
  clear hx hi hb6 HL6
  go_wp2_with fail
  refine (aw_H8 _ _ (ints3 _ 3 2 4 rfl)).mono ?_
  rintro e w8 ⟨p8, c8, rfl, hi, hx⟩
  have hb8 : Below w.heap.size w w8 := below_via hx (below_al hb7 _)
  have HL8 := Lib.hid (((HL7.out.al _).below hx).cons hi)
  clear hx hi hb7 HL7
  go_wp2_with fail
  refine (aw_H9 _ _ (HL8.out.get (by simp)) (HT.out.below hb8)).mono ?_
  rintro e w9 ⟨rfl, hx⟩
  have hb9 : Below w.heap.size w w9 := below_via hx hb8
  have HL9 := Lib.hid (HL8.out.below hx)
  clear hx hb8 HL8
  go_wp2_with fail
  refine (aw_H10 _ _ _ ((ints2 _ 3 4 rfl).al _) (ints2 _ 5 2 (by simp))).mono ?_
  rintro e w10 ⟨p10, c10, rfl, hi, hx⟩
  have hb10 : Below w.heap.size w w10 := below_via hx (below_al (below_al hb9 _) _)
  have HL10 := Lib.hid ((((HL9.out.al _).al _).below hx).cons hi)
  clear hx hi hb9 HL9
  go_wp2_with fail
  refine (bt_Equal_lit [5, 3] 2 rfl (by omega) _ _ _ _ _ ((HL10.out.al _).get (by simp)) (ints2 _ 5 3 rfl)).mono ?_
  rintro e w11 ⟨rfl, hx⟩
  have hb11 : Below w.heap.size w w11 := below_via hx (below_al hb10 _)
  have HL11 := Lib.hid ((HL10.out.al _).below hx)
  clear hx hb10 HL10
  go_wp2_with fail
  refine (bt_Equal_lit [8, 7] 2 rfl (by omega) _ _ _ _ _ ((HL11.out.al _).get (by simp)) (ints2 _ 8 7 rfl)).mono ?_
  rintro e w12 ⟨rfl, hx⟩
  have hb12 : Below w.heap.size w w12 := below_via hx (below_al hb11 _)
  have HL12 := Lib.hid ((HL11.out.al _).below hx)
  clear hx hb11 HL11
  go_wp2_with fail
  refine (bt_Equal_lit [1, 0, 3, 0, 0] 5 rfl (by omega) _ _ _ _ _ ((HL12.out.al _).get (by simp)) (ints5 _ 1 0 3 0 0 rfl)).mono ?_
  rintro e w13 ⟨rfl, hx⟩
  have hb13 : Below w.heap.size w w13 := below_via hx (below_al hb12 _)
  have HL13 := Lib.hid ((HL12.out.al _).below hx)
  clear hx hb12 HL12
  go_wp2_with fail
  refine (bt_Equal_lit [5, 3] 2 rfl (by omega) _ _ _ _ _ ((HL13.out.al _).get (by simp)) (ints2 _ 5 3 rfl)).mono ?_
  rintro e w14 ⟨rfl, hx⟩
  have hb14 : Below w.heap.size w w14 := below_via hx (below_al hb13 _)
  have HL14 := Lib.hid ((HL13.out.al _).below hx)
  clear hx hb13 HL13
  go_wp2_with fail
  refine (bt_Equal_lit [1, 3, 2] 3 rfl (by omega) _ _ _ _ _ ((HL14.out.al _).get (by simp)) (ints3 _ 1 3 2 rfl)).mono ?_
  rintro e w15 ⟨rfl, hx⟩
  have hb15 : Below w.heap.size w w15 := below_via hx (below_al hb14 _)
  have HL15 := Lib.hid ((HL14.out.al _).below hx)
  clear hx hb14 HL14
  go_wp2_with fail
  refine (bt_Equal_lit [3, 2, 4] 3 rfl (by omega) _ _ _ _ _ ((HL15.out.al _).get (by simp)) (ints3 _ 3 2 4 rfl)).mono ?_
  rintro e w16 ⟨rfl, hx⟩
  have hb16 : Below w.heap.size w w16 := below_via hx (below_al hb15 _)
  have HL16 := Lib.hid ((HL15.out.al _).below hx)
  clear hx hb15 HL15
  go_wp2_with fail
  refine (bt_Equal_lit [7] 1 rfl (by omega) _ _ _ _ _ ((HL16.out.al _).get (by simp)) (ints1 _ 7 rfl)).mono ?_
  rintro e w17 ⟨rfl, hx⟩
  have hb17 : Below w.heap.size w w17 := below_via hx (below_al hb16 _)
  have HL17 := Lib.hid ((HL16.out.al _).below hx)
  clear hx hb16 HL16
  go_wp2_with fail
  go_ret
  exact ⟨rfl, hb17⟩
end Go.Proofs.YtpnancidgobehaaDoor
