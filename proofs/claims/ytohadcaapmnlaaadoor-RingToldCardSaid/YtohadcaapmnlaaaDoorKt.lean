
/- What RingTold asks of the ring; variables that are written again. -/
import Derived.Test.YtohadcaapmnlaaaDoorJg
import Derived.Test.YtohadcaapmnlaaaDoorTx
set_option linter.all false
set_option maxRecDepth 100000
namespace Go.Proofs.YtohadcaapmnlaaaDoor
open Go.RowKit

theorem printT_size {r : Nm} (h : r.chk = 0) : (printT r).size < 4294967281 := by
  have hk := chk_in h
  have ht := termsT_size r (inb_coefs (by simp [Nm.inb, inb]; omega))
  have hl := Lib.itoa_length_le r.K (by omega) (by omega)
  rw [Lib.size_eq, printT_list]
  rw [Lib.size_eq] at ht
  split
  · omega
  · simp only [List.length_cons, List.length_append, List.length_nil]
    omega
/-- What RingTold asks of the ring. -/
structure ToldT (w : World) (x y lx : Nm) (sx sy : ByteArray) (t : Bool) : Prop where
  h1 : ∀ w', Below w.heap.size w w' → Calls Tryd.prog 31 #[x.v] w' (Gives (.tuple #[.string sx, .int .i64 0]) w')
  h2 : ∀ w', Below w.heap.size w w' → Calls Tryd.prog 31 #[y.v] w' (Gives (.tuple #[.string sy, .int .i64 0]) w')
  h3 : Tells 29 #[x.v, y.v] (.tuple #[.bool t, .int .i64 0])
  h4 : Tells 20 #[x.v] (two lx)
  h5 : ∀ w', Below w.heap.size w w' → Calls Tryd.prog 32 #[.string sx] w' (Gives (two lx) w')
  same : (sx.toList == sy.toList) = t
theorem print_tells {x : Nm} {w w' : World} (hv : Vars w) (hx : Okay x) (hb : Below w.heap.size w w') : Calls Tryd.prog 31 #[x.v] w' (Gives (.tuple #[.string (printT x.least), .int .i64 0]) w') := by
  have h := Print_any x.A x.B x.C x.D x.K w' (hv.1.below hb) (Lib.tabBelow_of_tabIs hv.2.2 w' hb)
  have e : chk x.A x.B x.C x.D x.K = 0 := hx.chk
  rw [if_pos e, e] at h
  exact h
theorem told_tells {x y : Nm} {w : World} (hv : Vars w) (hx : Okay x) (hy : Okay y) : ToldT w x y x.least (printT x.least) (printT y.least) (eq5 x.least y.least) := {
  h1 := fun w' hb => print_tells hv hx hb
  h2 := fun w' hb => print_tells hv hy hb
  h3 := same_tells hx hy
  h4 := least_tells hx
  h5 := fun w' hb => by
    have h := Parse_any (printT x.least) w' (printT_size hx.least.chk) (hv.1.below hb) (hv.2.1.below hb) (Lib.tabBelow_of_tabIs hv.2.2 w' hb)
    obtain ⟨p1, p2⟩ := parse_is (s := printT x.least) (x := x.least) ⟨hx.least.chk, least_twice hx.lo, rfl⟩
    unfold parseV at h
    rw [if_pos p1, p2] at h
    exact h
  same := by
    rw [Bool.eq_iff_iff, beq_iff_eq, eq5_iff, Lib.toList_data, Lib.toList_data]
    constructor
    · intro h
      have h1 := (print_read hx.least.chk).1
      have h2 := (print_read hy.least.chk).1
      rw [h, h2] at h1
      exact h1.symm
    · intro h
      rw [h] }
theorem Box.set5 {w : World} {k T : Nat} {x : Nm} (h : Box w k T x) (z : Nm) : Box (((((w.setCell ⟨k, 0, none⟩ (.int .i64 z.A)).setCell ⟨k, 1, none⟩ (.int .i64 z.B)).setCell ⟨k, 2, none⟩ (.int .i64 z.C)).setCell ⟨k, 3, none⟩ (.int .i64 z.D)).setCell ⟨k, 4, none⟩ (.int .i64 z.K)) k T z := by
  unfold Box at *
  exact heap_set (heap_set (heap_set (heap_set (heap_set h))))
theorem Box.setK {w : World} {k T : Nat} {x : Nm} (h : Box w k T x) (z : Int) : Box (w.setCell ⟨k, 4, none⟩ (.int .i64 z)) k T ⟨x.A, x.B, x.C, x.D, z⟩ := by
  unfold Box at *
  exact heap_set h
theorem Box.aside {w : World} {k j i T : Nat} {x : Nm} (h : Box w k T x) (hn : k ≠ j) (v : Value) : Box (w.setCell ⟨j, i, none⟩ v) k T x := by
  unfold Box
  rw [Below.heap_setCell _ _ _ _ hn]
  exact h
theorem Box.aside5 {w : World} {k j T : Nat} {x : Nm} (h : Box w k T x) (hn : k ≠ j) (z : Nm) : Box (((((w.setCell ⟨j, 0, none⟩ (.int .i64 z.A)).setCell ⟨j, 1, none⟩ (.int .i64 z.B)).setCell ⟨j, 2, none⟩ (.int .i64 z.C)).setCell ⟨j, 3, none⟩ (.int .i64 z.D)).setCell ⟨j, 4, none⟩ (.int .i64 z.K)) k T x :=
  ((((h.aside hn _).aside hn _).aside hn _).aside hn _).aside hn _
/-- Two variables and a store. -/
structure Pair (w : World) (b L : Nat) (m : Int) (bx by_ : Nat) (x y : Nm) (W : World) : Prop where
  bel : Below w.heap.size w W
  sto : StoreAt W b L m
  ge : w.heap.size ≤ b ∧ w.heap.size ≤ L
  hx : Box W bx 23 x
  hy : Box W by_ 23 y
  ne : bx ≠ by_
  lx : L ≤ bx
  ly : L ≤ by_
theorem Pair.draw {w W W' : World} {b L bx by_ : Nat} {m m' : Int} {x y : Nm} (h : Pair w b L m bx by_ x y W) (hs : StoreAt W' b L m') (hb : Beside b W W') : Pair w b L m' bx by_ x y W' :=
  ⟨h.bel.trans (hb.below h.ge.1 h.bel.size), hs, h.ge, h.hx.beside hb (by have := h.lx; have := h.sto.1.1; omega), h.hy.beside hb (by have := h.ly; have := h.sto.1.1; omega), h.ne, h.lx, h.ly⟩
theorem Pair.gos {w W : World} {b L bx by_ : Nat} {m : Int} {x y : Nm} (h : Pair w b L m bx by_ x y W) : Gos w b L m [(by_, y), (bx, x)] W :=
  ⟨h.bel, (fun p hp => by
    rcases List.mem_cons.1 hp with rfl | hp
    · exact ⟨CB.of h.hy, h.ly⟩
    · rcases List.mem_cons.1 hp with rfl | hp
      · exact ⟨CB.of h.hx, h.lx⟩
      · cases hp), h.sto, h.ge⟩
theorem below_set5 {B k : Nat} {w W : World} (h : Below B w W) (hk : B ≤ k) (z : Nm) : Below B w (((((W.setCell ⟨k, 0, none⟩ (.int .i64 z.A)).setCell ⟨k, 1, none⟩ (.int .i64 z.B)).setCell ⟨k, 2, none⟩ (.int .i64 z.C)).setCell ⟨k, 3, none⟩ (.int .i64 z.D)).setCell ⟨k, 4, none⟩ (.int .i64 z.K)) :=
  ((((h.setCell hk _).setCell hk _).setCell hk _).setCell hk _).setCell hk _
theorem Pair.setx {w W : World} {b L bx by_ : Nat} {m : Int} {x y : Nm} (h : Pair w b L m bx by_ x y W) (z : Nm) : Pair w b L m bx by_ z y (((((W.setCell ⟨bx, 0, none⟩ (.int .i64 z.A)).setCell ⟨bx, 1, none⟩ (.int .i64 z.B)).setCell ⟨bx, 2, none⟩ (.int .i64 z.C)).setCell ⟨bx, 3, none⟩ (.int .i64 z.D)).setCell ⟨bx, 4, none⟩ (.int .i64 z.K)) :=
  ⟨below_set5 h.bel (Nat.le_trans h.ge.2 h.lx) z, ((((h.sto.other h.lx _ _).other h.lx _ _).other h.lx _ _).other h.lx _ _).other h.lx _ _, h.ge, h.hx.set5 z, h.hy.aside5 (Ne.symm h.ne) z, h.ne, h.lx, h.ly⟩
theorem Pair.sety {w W : World} {b L bx by_ : Nat} {m : Int} {x y : Nm} (h : Pair w b L m bx by_ x y W) (z : Nm) : Pair w b L m bx by_ x z (((((W.setCell ⟨by_, 0, none⟩ (.int .i64 z.A)).setCell ⟨by_, 1, none⟩ (.int .i64 z.B)).setCell ⟨by_, 2, none⟩ (.int .i64 z.C)).setCell ⟨by_, 3, none⟩ (.int .i64 z.D)).setCell ⟨by_, 4, none⟩ (.int .i64 z.K)) :=
  ⟨below_set5 h.bel (Nat.le_trans h.ge.2 h.ly) z, ((((h.sto.other h.ly _ _).other h.ly _ _).other h.ly _ _).other h.ly _ _).other h.ly _ _, h.ge, h.hx.aside5 h.ne z, h.hy.set5 z, h.ne, h.lx, h.ly⟩
theorem Pair.setK {w W : World} {b L bx by_ : Nat} {m : Int} {x y : Nm} (h : Pair w b L m bx by_ x y W) (z : Int) : Pair w b L m bx by_ x ⟨y.A, y.B, y.C, y.D, z⟩ (W.setCell ⟨by_, 4, none⟩ (.int .i64 z)) :=
  ⟨h.bel.setCell (Nat.le_trans h.ge.2 h.ly) _, h.sto.other h.ly _ _, h.ge, h.hx.aside h.ne _, h.hy.setK z, h.ne, h.lx, h.ly⟩
theorem Pair.dN {w W : World} {b L bx by_ : Nat} {m : Int} {x y : Nm} (h : Pair w b L m bx by_ x y W) (n : Nat) : Pair w b L m bx by_ x y (W.drewN n) := ⟨below_dN h.bel n, h.sto.dN n, h.ge, h.hx, h.hy, h.ne, h.lx, h.ly⟩
end Go.Proofs.YtohadcaapmnlaaaDoor
