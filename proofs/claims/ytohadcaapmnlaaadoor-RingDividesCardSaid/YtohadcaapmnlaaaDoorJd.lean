/- The kit's store of bytes is made: a copy of at most 300 bytes. -/
import Derived.Test.YtohadcaapmnlaaaDoorJm
import Derived.BigRegion
import Derived.RegionTactic
import Derived.ChangeAlike
import Derived.Deep.RegionWith
import Derived.Test.YtohadcaapmnlaaaDoorJe
import Derived.OwnWalk
import Derived.Laws.AppendOwnNone
set_option linter.all false
set_option maxRecDepth 100000
namespace Go.Proofs.YtohadcaapmnlaaaDoor
open Go.RowKit

/-- Only block b may have changed of what was there. -/
structure Beside (b : Nat) (w w' : World) : Prop where
  os : w'.os = w.os
  tape : w'.tape = w.tape
  output : w'.output = w.output
  size : w.heap.size ≤ w'.heap.size
  block : ∀ k, k < w.heap.size → k ≠ b → w'.heap[k]? = w.heap[k]?
theorem Beside.refl (b : Nat) (w : World) : Beside b w w := ⟨rfl, rfl, rfl, Nat.le_refl _, fun _ _ _ => rfl⟩
theorem Beside.trans {b : Nat} {w w1 w2 : World} (h : Beside b w w1) (k : Beside b w1 w2) : Beside b w w2 :=
  ⟨k.os.trans h.os, k.tape.trans h.tape, k.output.trans h.output, Nat.le_trans h.size k.size, fun i h1 h2 => (k.block i (Nat.lt_of_lt_of_le h1 h.size) h2).trans (h.block i h1 h2)⟩
theorem Beside.of {b : Nat} {w w' : World} (h : Below w.heap.size w w') : Beside b w w' := ⟨h.os, h.tape, h.output, h.size, fun k hk _ => h.block k hk⟩
theorem Beside.below {b B : Nat} {w w' : World} (h : Beside b w w') (hb : B ≤ b) (hB : B ≤ w.heap.size) : Below B w w' :=
  ⟨h.os, h.tape, h.output, h.size, fun k hk => h.block k (by omega) (by omega)⟩
theorem Beside.set {b : Nat} {w w1 : World} (h : Beside b w w1) (o : Nat) (v : Value) : Beside b w (w1.setCell ⟨b, o, none⟩ v) :=
  ⟨h.os, h.tape, h.output, by have := h.size; simp [World.setCell]; exact this, fun k h1 h2 => by rw [Below.heap_setCell _ _ _ _ h2]; exact h.block k h1 h2⟩
theorem Beside.drew {b : Nat} {w w1 : World} (h : Beside b w w1) : Beside b w w1.drew := ⟨h.os, h.tape, h.output, h.size, h.block⟩
theorem Beside.dN {b : Nat} {w w1 : World} (h : Beside b w w1) (n : Nat) : Beside b w (w1.drewN n) := ⟨h.os, h.tape, h.output, h.size, h.block⟩
theorem Beside.other {b : Nat} {w w1 : World} (h : Beside b w w1) {k : Nat} (hk : w.heap.size ≤ k) (i : Nat) (v : Value) : Beside b w (w1.setCell ⟨k, i, none⟩ v) :=
  ⟨h.os, h.tape, h.output, by have := h.size; simp [World.setCell]; exact this, fun j h1 h2 => by rw [Below.heap_setCell _ _ _ _ (show j ≠ k by omega)]; exact h.block j h1 h2⟩
theorem Beside.undrew {b : Nat} {w w1 : World} (h : Beside b w.drew w1) : Beside b w w1 := ⟨h.os, h.tape, h.output, h.size, h.block⟩
theorem Beside.undN {b n : Nat} {w w1 : World} (h : Beside b (w.drewN n) w1) : Beside b w w1 := ⟨h.os, h.tape, h.output, h.size, h.block⟩
theorem Beside.al {b : Nat} {w w1 : World} (h : Beside b w w1) (o : Obj) : Beside b w (w1.alloc o) :=
  h.trans (Beside.of ((Below.refl _ w1).alloc (Nat.le_refl _) o))

/-- What lies where the bytes of a store lie. -/
def BytesAt (w : World) (b L bb off n : Nat) : Prop := bb ≠ b ∧ (bb < L ∧ L ≤ w.heap.size) ∧ n ≤ 300 ∧ ∀ i, i < n → ∃ v : Int, 0 ≤ v ∧ v ≤ 255 ∧ w.cell? ⟨bb, off + i, none⟩ = some (.int .u8 v)
/-- Block b holds a store that has been asked at most m times. -/
def StoreAt (w : World) (b L : Nat) (m : Int) : Prop := (b < L ∧ L ≤ w.heap.size) ∧
  ∃ (p : Option Addr) (n c : Nat) (next st : Int), w.heap[b]? = some (.cells #[.slice p n c, .int .i64 next, .int .u32 st] 70 (0, 0)) ∧ 0 ≤ next ∧ next ≤ m ∧ 0 ≤ st ∧ st ≤ 4294967295 ∧
    (n = 0 ∨ ∃ bb off, p = some ⟨bb, off, none⟩ ∧ BytesAt w b L bb off n)
theorem StoreAt.lt {w : World} {b L : Nat} {m : Int} (h : StoreAt w b L m) : b < w.heap.size := Nat.lt_of_lt_of_le h.1.1 h.1.2
theorem BytesAt.beside {w w' : World} {b L bb off n : Nat} (h : BytesAt w b L bb off n) (k : Beside b w w') : BytesAt w' b L bb off n := by
  obtain ⟨h1, h2, h3, h4⟩ := h
  refine ⟨h1, ⟨h2.1, Nat.le_trans h2.2 k.size⟩, h3, fun i hi => ?_⟩
  obtain ⟨v, v1, v2, v3⟩ := h4 i hi
  refine ⟨v, v1, v2, ?_⟩
  unfold World.cell? at *
  dsimp only at *
  rw [k.block bb (Nat.lt_of_lt_of_le h2.1 h2.2) h1]
  exact v3
theorem StoreAt.below {w w' : World} {b L : Nat} {m : Int} (h : StoreAt w b L m) (k : Below L w w') : StoreAt w' b L m := by
  have hlt := h.lt
  have hL := h.1
  obtain ⟨_, p, n, c, next, st, h, h1, h2, h3, h4, h5⟩ := h
  refine ⟨⟨hL.1, Nat.le_trans hL.2 k.size⟩, p, n, c, next, st, by rw [k.block b hL.1]; exact h, h1, h2, h3, h4, ?_⟩
  rcases h5 with h5 | ⟨bb, off, e, g1, g2, g3, g4⟩
  · exact .inl h5
  · refine .inr ⟨bb, off, e, g1, ⟨g2.1, Nat.le_trans g2.2 k.size⟩, g3, fun i hi => ?_⟩
    obtain ⟨v, v1, v2, v3⟩ := g4 i hi
    refine ⟨v, v1, v2, ?_⟩
    unfold World.cell? at *
    dsimp only at *
    rw [k.block bb g2.1]
    exact v3
theorem StoreAt.mono {w : World} {b L : Nat} {m m' : Int} (h : StoreAt w b L m) (hm : m ≤ m') : StoreAt w b L m' := by
  obtain ⟨hL, p, n, c, next, st, h, h1, h2, h3⟩ := h
  exact ⟨hL, p, n, c, next, st, h, h1, by omega, h3⟩
theorem StoreAt.other {w : World} {b L : Nat} {m : Int} (h : StoreAt w b L m) {k : Nat} (hk : L ≤ k) (i : Nat) (v : Value) : StoreAt (w.setCell ⟨k, i, none⟩ v) b L m :=
  h.below ((Below.refl L w).setCell hk _)
theorem StoreAt.wider {w : World} {b L M : Nat} {m : Int} (h : StoreAt w b L m) (h1 : L ≤ M) (h2 : M ≤ w.heap.size) : StoreAt w b M m := by
  obtain ⟨hL, p, n, c, next, st, h, g1, g2, g3, g4, g5⟩ := h
  refine ⟨⟨by omega, h2⟩, p, n, c, next, st, h, g1, g2, g3, g4, ?_⟩
  rcases g5 with g5 | ⟨bb, off, e, e1, e2, e3, e4⟩
  · exact .inl g5
  · exact .inr ⟨bb, off, e, e1, ⟨by omega, h2⟩, e3, e4⟩

theorem u32_range (n : Int) : 0 ≤ IntKind.u32.wrap n ∧ IntKind.u32.wrap n ≤ 4294967295 := by
  rw [IntKind.wrap_u32]; omega
/-- What a call that draws leaves. -/
def Draws (b L : Nat) (m : Int) (w : World) (P : Value → Prop) (e : Ending) (w' : World) : Prop := ∃ v, e = .returned v ∧ P v ∧ StoreAt w' b L (m + 1) ∧ Beside b w w'

/-- Block b holds a store: its slice of bytes, how many were asked for, its state. -/
def Sto (w : World) (b : Nat) (p : Option Addr) (n c : Nat) (next st : Int) : Prop := w.heap[b]? = some (.cells #[.slice p n c, .int .i64 next, .int .u32 st] 70 (0, 0))
theorem Sto.cell {w : World} {b n c : Nat} {p : Option Addr} {next st : Int} (h : Sto w b p n c next st) :
    w.cell? ⟨b, 0, none⟩ = some (.slice p n c) ∧ w.cell? ⟨b, 1, none⟩ = some (.int .i64 next) ∧ w.cell? ⟨b, 2, none⟩ = some (.int .u32 st) := by
  unfold Sto at h
  simp [World.cell?, h]
theorem Sto.free {w : World} {b n c : Nat} {p : Option Addr} {next st : Int} (h : Sto w b p n c next st) :
    w.frozen? ⟨b, 0, none⟩ = false ∧ w.frozen? ⟨b, 1, none⟩ = false ∧ w.frozen? ⟨b, 2, none⟩ = false := by
  unfold Sto at h
  simp [World.frozen?, h]
theorem Sto.lt {w : World} {b n c : Nat} {p : Option Addr} {next st : Int} (h : Sto w b p n c next st) : b < w.heap.size := by
  rcases Nat.lt_or_ge b w.heap.size with h' | h'
  · exact h'
  · simp [Sto, Array.getElem?_eq_none h'] at h
theorem Sto.set2 {w : World} {b n c : Nat} {p : Option Addr} {next st : Int} (h : Sto w b p n c next st) (v : Int) : Sto (w.setCell ⟨b, 2, none⟩ (.int .u32 v)) b p n c next v := heap_set h
theorem Sto.dN {w : World} {b n c : Nat} {p : Option Addr} {next st : Int} (h : Sto w b p n c next st) (k : Nat) : Sto (w.drewN k) b p n c next st := h
theorem Sto.set1 {w : World} {b n c : Nat} {p : Option Addr} {next st : Int} (h : Sto w b p n c next st) (v : Int) : Sto (w.setCell ⟨b, 1, none⟩ (.int .i64 v)) b p n c v st := heap_set h
theorem bits_u32 (o : BinOp) (x y : Int) : 0 ≤ Go.bits o .u32 x y ∧ Go.bits o .u32 x y ≤ 4294967295 := u32_range _

set_option maxHeartbeats 4000000 in
theorem draw_some (b L : Nat) (m : Int) (w : World) (bb off n c : Nat) (next st : Int) (hm : m ≤ 1000000) (hh : Sto w b (some ⟨bb, off, none⟩) n c next st)
    (h1 : 0 ≤ next) (h2 : next ≤ m) (h3 : 0 ≤ st) (h4 : st ≤ 4294967295) (hn : 0 < n) (hL : b < L ∧ L ≤ w.heap.size) (hb : BytesAt w b L bb off n) :
    Calls Tryd.prog 68 #[.pointer (some ⟨b, 0, none⟩)] w (Draws b L m w fun v => ∃ z : Int, v = .int .u32 z ∧ 0 ≤ z ∧ z ≤ 4294967295) := by
  have B0 := Lib.hid hh
  obtain ⟨c0, c1, c2⟩ := hh.cell
  obtain ⟨f0, f1, f2⟩ := hh.free
  have hlt := hh.lt
  have E0 := Lib.hid (Beside.refl b w)
  clear hh
  go_enter Tryd.func68, Tryd.ntmps68
  go_wp2_with fail
  go_region
  generalize hs1 : Go.bits .xor .u32 _ _ = s1
  generalize hw1 : World.setCell w _ _ = w1
  have E1 := Lib.hid (hw1 ▸ E0.out.set 2 (.int .u32 s1))
  have hh := hw1 ▸ B0.out.set2 s1
  have B1 := Lib.hid hh
  obtain ⟨c0, c1, c2⟩ := hh.cell
  obtain ⟨f0, f1, f2⟩ := hh.free
  have hlt := hh.lt
  clear hh hw1 hs1 B0 E0
  go_wp2_with fail
  go_region
  generalize hs2 : Go.bits .xor .u32 _ _ = s2
  generalize hw2 : World.setCell w1 _ _ = w2
  have E2 := Lib.hid (hw2 ▸ E1.out.set 2 (.int .u32 s2))
  have hh := hw2 ▸ B1.out.set2 s2
  have B2 := Lib.hid hh
  obtain ⟨c0, c1, c2⟩ := hh.cell
  obtain ⟨f0, f1, f2⟩ := hh.free
  have hlt := hh.lt
  clear hh hw2 hs2 B1 E1
  go_wp2_with fail
  go_region
  generalize hs3 : Go.bits .xor .u32 _ _ = s3
  have r3 := hs3 ▸ bits_u32 .xor _ _
  generalize hw3 : World.setCell w2 _ _ = w3
  have E3 := Lib.hid (hw3 ▸ E2.out.set 2 (.int .u32 s3))
  have hh := hw3 ▸ B2.out.set2 s3
  have B3 := Lib.hid hh
  obtain ⟨c0, c1, c2⟩ := hh.cell
  obtain ⟨f0, f1, f2⟩ := hh.free
  have hlt := hh.lt
  clear hh hw3 hs3 B2 E2
  have hn1 : (0 : Int) < n := by omega
  have hn3 : (n : Int) ≤ 300 := by have := hb.2.2.1; omega
  have t1 := Int.tmod_nonneg (n : Int) h1
  have t2 := Int.tmod_lt_of_pos next hn1
  obtain ⟨k, hk⟩ : ∃ k : Nat, next.tmod n = k := ⟨(next.tmod n).toNat, by omega⟩
  obtain ⟨y, y1, y2, cy⟩ := (hb.beside E3.out).2.2.2 k (by omega)
  go_wp2_with fail
  go_quiet (fail)
  go_wp2_with fail
  go_region
  generalize hw4 : World.setCell (World.drewN w3 _) _ _ = w4
  have E4 := Lib.hid (hw4 ▸ (E3.out.dN _).set 2 (.int .u32 ((s3 + (y + 1)) % 4294967296)))
  have hh : Sto w4 b (some ⟨bb, off, none⟩) n c next ((s3 + (y + 1)) % 4294967296) := hw4 ▸ Sto.set2 (B3.out.dN _) _
  have r4 : 0 ≤ (s3 + (y + 1)) % 4294967296 ∧ (s3 + (y + 1)) % 4294967296 ≤ 4294967295 := by omega
  generalize (s3 + (y + 1)) % 4294967296 = s4 at *
  have B4 := Lib.hid hh
  obtain ⟨c0, c1, c2⟩ := hh.cell
  obtain ⟨f0, f1, f2⟩ := hh.free
  have hlt := hh.lt
  clear hh hw4 B3 E3
  go_wp2_with fail
  have B5 := B4.out.set1 (next + 1)
  have E5 := E4.out.set 1 (.int .i64 (next + 1))
  generalize hw5 : World.setCell w4 _ _ = w5 at B5 E5 ⊢
  go_ret
  exact ⟨_, rfl, ⟨_, rfl, by omega, by omega⟩, ⟨⟨hL.1, Nat.le_trans hL.2 E5.size⟩, _, _, _, _, _, B5, by omega, by omega, r4.1, r4.2, .inr ⟨_, _, rfl, hb.beside E5⟩⟩, E5⟩

set_option maxHeartbeats 4000000 in
theorem draw_none (b L : Nat) (m : Int) (w : World) (p : Option Addr) (c : Nat) (next st : Int) (hh : Sto w b p 0 c next st)
    (h1 : 0 ≤ next) (h2 : next ≤ m) (h3 : 0 ≤ st) (h4 : st ≤ 4294967295) (hL : b < L ∧ L ≤ w.heap.size) :
    Calls Tryd.prog 68 #[.pointer (some ⟨b, 0, none⟩)] w (Draws b L m w fun v => ∃ z : Int, v = .int .u32 z ∧ 0 ≤ z ∧ z ≤ 4294967295) := by
  have B0 := Lib.hid hh
  obtain ⟨c0, c1, c2⟩ := hh.cell
  obtain ⟨f0, f1, f2⟩ := hh.free
  have hlt := hh.lt
  have E0 := Lib.hid (Beside.refl b w)
  clear hh
  go_enter Tryd.func68, Tryd.ntmps68
  go_wp2_with fail
  go_region
  generalize hs1 : Go.bits .xor .u32 _ _ = s1
  generalize hw1 : World.setCell w _ _ = w1
  have E1 := Lib.hid (hw1 ▸ E0.out.set 2 (.int .u32 s1))
  have hh := hw1 ▸ B0.out.set2 s1
  have B1 := Lib.hid hh
  obtain ⟨c0, c1, c2⟩ := hh.cell
  obtain ⟨f0, f1, f2⟩ := hh.free
  have hlt := hh.lt
  clear hh hw1 hs1 B0 E0
  go_wp2_with fail
  go_region
  generalize hs2 : Go.bits .xor .u32 _ _ = s2
  generalize hw2 : World.setCell w1 _ _ = w2
  have E2 := Lib.hid (hw2 ▸ E1.out.set 2 (.int .u32 s2))
  have hh := hw2 ▸ B1.out.set2 s2
  have B2 := Lib.hid hh
  obtain ⟨c0, c1, c2⟩ := hh.cell
  obtain ⟨f0, f1, f2⟩ := hh.free
  have hlt := hh.lt
  clear hh hw2 hs2 B1 E1
  go_wp2_with fail
  go_region
  generalize hs3 : Go.bits .xor .u32 _ _ = s3
  have r3 := hs3 ▸ bits_u32 .xor _ _
  generalize hw3 : World.setCell w2 _ _ = w3
  have E3 := Lib.hid (hw3 ▸ E2.out.set 2 (.int .u32 s3))
  have hh := hw3 ▸ B2.out.set2 s3
  have B3 := Lib.hid hh
  obtain ⟨c0, c1, c2⟩ := hh.cell
  obtain ⟨f0, f1, f2⟩ := hh.free
  have hlt := hh.lt
  clear hh hw3 hs3 B2 E2
  go_wp2_with fail
  go_ret
  exact ⟨_, rfl, ⟨_, rfl, by omega, by omega⟩, ⟨⟨hL.1, Nat.le_trans hL.2 E3.out.size⟩, _, _, _, _, _, B3.out, by omega, by omega, r3.1, r3.2, .inl rfl⟩, (E3.out.drew.drew.drew)⟩
theorem draw_any (b L : Nat) (m : Int) (w : World) (hm : m ≤ 1000000) (h : StoreAt w b L m) :
    Calls Tryd.prog 68 #[.pointer (some ⟨b, 0, none⟩)] w (Draws b L m w fun v => ∃ z : Int, v = .int .u32 z ∧ 0 ≤ z ∧ z ≤ 4294967295) := by
  obtain ⟨hL, p, n, c, next, st, hh, h1, h2, h3, h4, h5⟩ := h
  by_cases hn : n = 0
  · subst hn
    exact draw_none b L m w p c next st hh h1 h2 h3 h4 hL
  · rcases h5 with h5 | ⟨bb, off, rfl, h5⟩
    · exact absurd h5 hn
    · exact draw_some b L m w bb off n c next st hm hh h1 h2 h3 h4 (by omega) hL h5

theorem less_any (b L : Nat) (m n : Int) (w : World) (hm : m ≤ 1000000) (hn : 1 ≤ n ∧ n ≤ 4294967296) (h : StoreAt w b L m) :
    Calls Tryd.prog 30 #[.pointer (some ⟨b, 0, none⟩), .int .i64 n] w (Draws b L m w fun v => ∃ z : Int, v = .int .i64 z ∧ 0 ≤ z ∧ z < n) := by
  have HD : Hid (Calls Tryd.prog 68 #[.pointer (some ⟨b, 0, none⟩)] w (Draws b L m w fun v => ∃ z : Int, v = .int .u32 z ∧ 0 ≤ z ∧ z ≤ 4294967295)) := draw_any b L m w hm h
  clear h
  obtain ⟨n1, n2⟩ := hn
  go_enter Tryd.func30, Tryd.ntmps30
  go_wp2_with fail
  refine HD.out.mono ?_
  rintro e w1 ⟨v, rfl, ⟨z, rfl, z1, z2⟩, hS, hB⟩
  have HS := Lib.hid hS
  have HB := Lib.hid hB
  clear hS hB
  have q1 : 0 ≤ z / 16 := by omega
  have t1 := Int.emod_nonneg (z / 16) (show n ≠ 0 by omega)
  have t2 := Int.emod_lt_of_pos (z / 16) (show 0 < n by omega)
  go_wp2_with fail
  go_ret
  exact ⟨_, rfl, ⟨_, rfl, t1, t2⟩, HS.out, HB.out⟩
theorem seldom_any (b L : Nat) (m n : Int) (w : World) (hm : m ≤ 1000000) (hn : 1 ≤ n ∧ n ≤ 4294967296) (h : StoreAt w b L m) :
    Calls Tryd.prog 28 #[.pointer (some ⟨b, 0, none⟩), .int .i64 n] w (Draws b L m w fun v => ∃ z : Bool, v = .bool z) := by
  have HD : Hid (Calls Tryd.prog 30 #[.pointer (some ⟨b, 0, none⟩), .int .i64 n] w (Draws b L m w fun v => ∃ z : Int, v = .int .i64 z ∧ 0 ≤ z ∧ z < n)) := less_any b L m n w hm hn h
  clear h
  obtain ⟨n1, n2⟩ := hn
  go_enter Tryd.func28, Tryd.ntmps28
  go_wp2_with fail
  refine HD.out.mono ?_
  rintro e w1 ⟨v, rfl, ⟨z, rfl, z1, z2⟩, hS, hB⟩
  have HS := Lib.hid hS
  have HB := Lib.hid hB
  clear hS hB
  go_wp2_with fail
  go_ret
  exact ⟨_, rfl, ⟨_, rfl⟩, HS.out, HB.out⟩
theorem from_any (b L : Nat) (m lo hi : Int) (w : World) (hm : m ≤ 1000000) (h1 : -2147483648 ≤ lo) (h2 : lo ≤ hi) (h3 : hi ≤ 2147483647) (h : StoreAt w b L m) :
    Calls Tryd.prog 51 #[.pointer (some ⟨b, 0, none⟩), .int .i64 lo, .int .i64 hi] w (Draws b L m w fun v => ∃ z : Int, v = .int .i64 z ∧ lo ≤ z ∧ z ≤ hi) := by
  have HD : Hid (Calls Tryd.prog 30 #[.pointer (some ⟨b, 0, none⟩), .int .i64 (hi - lo + 1)] w (Draws b L m w fun v => ∃ z : Int, v = .int .i64 z ∧ 0 ≤ z ∧ z < hi - lo + 1)) := less_any b L m (hi - lo + 1) w hm (by omega) h
  clear h
  go_enter Tryd.func51, Tryd.ntmps51
  go_wp2_with fail
  refine HD.out.mono ?_
  rintro e w1 ⟨v, rfl, ⟨z, rfl, z1, z2⟩, hS, hB⟩
  have HS := Lib.hid hS
  have HB := Lib.hid hB
  clear hS hB
  go_wp2_with fail
  go_ret
  exact ⟨_, rfl, ⟨_, rfl, by omega, by omega⟩, HS.out, HB.out⟩
/-- The variables that the closure of Num has: the store, and the greatest coefficient. -/
def Free (w : World) (b vs vz : Nat) (s : Int) : Prop := (vs ≠ b ∧ w.cell? ⟨vs, 0, none⟩ = some (.pointer (some ⟨b, 0, none⟩))) ∧ vz ≠ b ∧ w.cell? ⟨vz, 0, none⟩ = some (.int .i64 s)
theorem Beside.cell {b : Nat} {w w' : World} (h : Beside b w w') {k o : Nat} {v : Value} (hk : k ≠ b) (hc : w.cell? ⟨k, o, none⟩ = some v) : w'.cell? ⟨k, o, none⟩ = some v := by
  have hlt : k < w.heap.size := by
    rcases Nat.lt_or_ge k w.heap.size with h' | h'
    · exact h'
    · simp [World.cell?, Array.getElem?_eq_none h'] at hc
  unfold World.cell? at *
  dsimp only at *
  rw [h.block k hlt hk]
  exact hc
theorem Free.beside {w w' : World} {b vs vz : Nat} {s : Int} (h : Free w b vs vz s) (k : Beside b w w') : Free w' b vs vz s :=
  ⟨⟨h.1.1, k.cell h.1.1 h.1.2⟩, h.2.1, k.cell h.2.1 h.2.2⟩
theorem one_any (b L vs vz : Nat) (m s : Int) (w : World) (hm : m ≤ 1000000) (h1 : 0 ≤ s) (h2 : s ≤ 2147483647) (hf : Free w b vs vz s) (h : StoreAt w b L m) :
    Calls Tryd.prog 50 #[.pointer (some ⟨vs, 0, none⟩), .pointer (some ⟨vz, 0, none⟩)] w (Draws b L m w fun v => ∃ z : Int, v = .int .i64 z ∧ -s ≤ z ∧ z ≤ s) := by
  have HD : Hid (∀ w, StoreAt w b L m → Calls Tryd.prog 51 #[.pointer (some ⟨b, 0, none⟩), .int .i64 (-s), .int .i64 s] w (Draws b L m w fun v => ∃ z : Int, v = .int .i64 z ∧ -s ≤ z ∧ z ≤ s)) := fun w h => from_any b L m (-s) s w hm (by omega) (by omega) (by omega) h
  have HS0 := Lib.hid h
  obtain ⟨⟨_, cs⟩, _, cz⟩ := hf
  clear h
  go_enter Tryd.func50, Tryd.ntmps50
  go_wp2_with fail
  refine (HD.out _ HS0.out).mono ?_
  rintro e w1 ⟨v, rfl, ⟨z, rfl, z1, z2⟩, hS, hB⟩
  have HS := Lib.hid hS
  have HB := Lib.hid hB
  clear hS hB
  go_wp2_with fail
  go_ret
  exact ⟨_, rfl, ⟨_, rfl, by omega, by omega⟩, HS.out, HB.out⟩
theorem Free.dN {w : World} {b vs vz : Nat} {s : Int} (h : Free w b vs vz s) (k : Nat) : Free (w.drewN k) b vs vz s := h
theorem Free.drew {w : World} {b vs vz : Nat} {s : Int} (h : Free w b vs vz s) : Free w.drew b vs vz s := h
theorem StoreAt.dN {w : World} {b L : Nat} {m : Int} (h : StoreAt w b L m) (k : Nat) : StoreAt (w.drewN k) b L m := h
theorem StoreAt.drew {w : World} {b L : Nat} {m : Int} (h : StoreAt w b L m) : StoreAt w.drew b L m := h
theorem cell_new (w : World) (v : Value) (T : TypeId) : (w.alloc (.cells #[v] T)).cell? ⟨w.heap.size, 0, none⟩ = some v := by
  unfold World.cell?
  dsimp only
  rw [heap_alloc_new]
  rfl
theorem cell_al {w : World} {k i : Nat} {v : Value} (hc : w.cell? ⟨k, i, none⟩ = some v) (o : Obj) : (w.alloc o).cell? ⟨k, i, none⟩ = some v := by
  have hlt : k < w.heap.size := by
    rcases Nat.lt_or_ge k w.heap.size with h' | h'
    · exact h'
    · simp [World.cell?, Array.getElem?_eq_none h'] at hc
  exact ((bcell ((Below.refl w.heap.size w).alloc (Nat.le_refl _) o)).1 _ _ hlt).trans hc
theorem Box.beside {w w' : World} {b k T : Nat} {x : Nm} (h : Box w k T x) (hb : Beside b w w') (hn : k ≠ b) : Box w' k T x := by
  unfold Box; rw [hb.block k h.lt hn]; exact h
set_option maxHeartbeats 4000000 in
theorem Num_any (b L : Nat) (m s r : Int) (w : World) (hm : m ≤ 999990) (h1 : 0 ≤ s) (h2 : s ≤ 2147483647) (h3 : 0 ≤ r) (h4 : r ≤ 60) (h : StoreAt w b L m) :
    Calls Tryd.prog 15 #[.pointer (some ⟨b, 0, none⟩), .int .i64 s, .int .i64 r] w (fun e w' => ∃ x : Nm, e = .returned x.v ∧ (x.le s ∧ 0 ≤ x.K ∧ x.K ≤ r) ∧ StoreAt w' b L (m + 5) ∧ Beside b w w') := by
  have HO : Hid (∀ (vs vz : Nat) (m : Int) w, Free w b vs vz s → StoreAt w b L m → m ≤ 1000000 → Calls Tryd.prog 50 #[.pointer (some ⟨vs, 0, none⟩), .pointer (some ⟨vz, 0, none⟩)] w (Draws b L m w fun v => ∃ z : Int, v = .int .i64 z ∧ -s ≤ z ∧ z ≤ s)) := fun vs vz m w hf h hm => one_any b L vs vz m s w hm h1 h2 hf h
  have HL : Hid (∀ (m : Int) w, StoreAt w b L m → m ≤ 1000000 → Calls Tryd.prog 30 #[.pointer (some ⟨b, 0, none⟩), .int .i64 (IntKind.i64.wrap (r + 1))] w (Draws b L m w fun v => ∃ z : Int, v = .int .i64 z ∧ 0 ≤ z ∧ z < r + 1)) := fun m w h hm => by
    have e : IntKind.i64.wrap (r + 1) = r + 1 := by rw [IntKind.wrap_i64]; omega
    rw [e]
    exact less_any b L m (r + 1) w hm (by omega) h
  have hlt := h.lt
  have hL := h.1
  have hF : Free (((w.alloc (.cells #[.pointer (some ⟨b, 0, none⟩)] 30)).alloc (.cells #[.int .i64 s] 3)).alloc (.cells #[.int .i64 0, .int .i64 0, .int .i64 0, .int .i64 0, .int .i64 0] 23)) b w.heap.size (w.heap.size + 1) s := by
    refine ⟨⟨by omega, cell_al (cell_al (cell_new _ _ _) _) _⟩, by omega, ?_⟩
    have h := cell_new (w.alloc (.cells #[.pointer (some ⟨b, 0, none⟩)] 30)) (.int .i64 s) 3
    rw [World.size_alloc] at h
    exact cell_al h _
  have hS : StoreAt (((w.alloc (.cells #[.pointer (some ⟨b, 0, none⟩)] 30)).alloc (.cells #[.int .i64 s] 3)).alloc (.cells #[.int .i64 0, .int .i64 0, .int .i64 0, .int .i64 0, .int .i64 0] 23)) b L m := by
    refine h.below (Below.mono ?_ hL.2)
    exact (by repeat (first | with_reducible exact Below.refl _ _ | with_reducible refine below_al ?_ _ | with_reducible refine below_dN ?_ _ | with_reducible refine Below.drew ?_ | (with_reducible refine Below.setCell ?_ (by simp <;> omega) _) | (with_reducible refine below_via (by assumption) ?_)))
  have hB : Beside b w (((w.alloc (.cells #[.pointer (some ⟨b, 0, none⟩)] 30)).alloc (.cells #[.int .i64 s] 3)).alloc (.cells #[.int .i64 0, .int .i64 0, .int .i64 0, .int .i64 0, .int .i64 0] 23)) := by
    refine Beside.of ?_
    exact (by repeat (first | with_reducible exact Below.refl _ _ | with_reducible refine below_al ?_ _ | with_reducible refine below_dN ?_ _ | with_reducible refine Below.drew ?_ | (with_reducible refine Below.setCell ?_ (by simp <;> omega) _) | (with_reducible refine below_via (by assumption) ?_)))
  have hz : Box (((w.alloc (.cells #[.pointer (some ⟨b, 0, none⟩)] 30)).alloc (.cells #[.int .i64 s] 3)).alloc (.cells #[.int .i64 0, .int .i64 0, .int .i64 0, .int .i64 0, .int .i64 0] 23)) (w.heap.size + 1 + 1) 23 nul := by
    have h := heap_alloc_new ((w.alloc (.cells #[.pointer (some ⟨b, 0, none⟩)] 30)).alloc (.cells #[.int .i64 s] 3)) (.cells #[.int .i64 0, .int .i64 0, .int .i64 0, .int .i64 0, .int .i64 0] 23)
    simp only [World.size_alloc] at h
    exact h
  have HF := Lib.hid hF
  have HS := Lib.hid hS
  have HB := Lib.hid hB
  have HZ := Lib.hid hz
  have c3 := hF.1.2
  clear h hF hS hB hz
  go_enter Tryd.func15, Tryd.ntmps15
  go_wp2_with fail
  have n0 : True := trivial
  go_region_with (first | (go_at_call 50; clear n0; refine (HO.out _ _ _ _ (by first | exact HF.out | exact HF.out.drew | exact HF.out.dN _) (by first | exact HS.out | exact HS.out.drew | exact HS.out.dN _) (by omega)).mono ?_; rintro e w1 ⟨v, rfl, ⟨A, rfl, lA, hA⟩, hS, hB⟩; (first | (with_reducible replace hB := Beside.undrew hB) | (with_reducible replace hB := Beside.undN hB) | skip); have HF := Lib.hid (HF.out.beside hB); have HS := Lib.hid hS; have HB := Lib.hid (Beside.trans HB.out hB); have HZ := Lib.hid (HZ.out.beside hB (by omega)); obtain ⟨z0, z1, z2, z3, z4⟩ := HZ.out.cell; obtain ⟨g0, g1, g2, g3, g4⟩ := HZ.out.free; have hltz := HZ.out.lt; clear hS hB; have c3 := HF.out.1.2; have n1 : True := trivial) | (go_at_call 50; clear n1; refine (HO.out _ _ _ _ (by first | exact HF.out | exact HF.out.drew | exact HF.out.dN _) (by first | exact HS.out | exact HS.out.drew | exact HS.out.dN _) (by omega)).mono ?_; rintro e w1 ⟨v, rfl, ⟨B, rfl, lB, hB⟩, hS, hB⟩; (first | (with_reducible replace hB := Beside.undrew hB) | (with_reducible replace hB := Beside.undN hB) | skip); have HF := Lib.hid (HF.out.beside hB); have HS := Lib.hid hS; have HB := Lib.hid (Beside.trans HB.out hB); have HZ := Lib.hid (HZ.out.beside hB (by omega)); obtain ⟨z0, z1, z2, z3, z4⟩ := HZ.out.cell; obtain ⟨g0, g1, g2, g3, g4⟩ := HZ.out.free; have hltz := HZ.out.lt; clear hS hB; have c3 := HF.out.1.2; have n2 : True := trivial) | (go_at_call 50; clear n2; refine (HO.out _ _ _ _ (by first | exact HF.out | exact HF.out.drew | exact HF.out.dN _) (by first | exact HS.out | exact HS.out.drew | exact HS.out.dN _) (by omega)).mono ?_; rintro e w1 ⟨v, rfl, ⟨C, rfl, lC, hC⟩, hS, hB⟩; (first | (with_reducible replace hB := Beside.undrew hB) | (with_reducible replace hB := Beside.undN hB) | skip); have HF := Lib.hid (HF.out.beside hB); have HS := Lib.hid hS; have HB := Lib.hid (Beside.trans HB.out hB); have HZ := Lib.hid (HZ.out.beside hB (by omega)); obtain ⟨z0, z1, z2, z3, z4⟩ := HZ.out.cell; obtain ⟨g0, g1, g2, g3, g4⟩ := HZ.out.free; have hltz := HZ.out.lt; clear hS hB; have c3 := HF.out.1.2; have n3 : True := trivial) | (go_at_call 50; clear n3; refine (HO.out _ _ _ _ (by first | exact HF.out | exact HF.out.drew | exact HF.out.dN _) (by first | exact HS.out | exact HS.out.drew | exact HS.out.dN _) (by omega)).mono ?_; rintro e w1 ⟨v, rfl, ⟨D, rfl, lD, hD⟩, hS, hB⟩; (first | (with_reducible replace hB := Beside.undrew hB) | (with_reducible replace hB := Beside.undN hB) | skip); have HF := Lib.hid (HF.out.beside hB); have HS := Lib.hid hS; have HB := Lib.hid (Beside.trans HB.out hB); have HZ := Lib.hid (HZ.out.beside hB (by omega)); obtain ⟨z0, z1, z2, z3, z4⟩ := HZ.out.cell; obtain ⟨g0, g1, g2, g3, g4⟩ := HZ.out.free; have hltz := HZ.out.lt; clear hS hB; have c3 := HF.out.1.2; have n4 : True := trivial) | (go_at_call 30; refine (HL.out _ _ (by first | exact HS.out | exact HS.out.drew | exact HS.out.dN _) (by omega)).mono ?_; rintro e w1 ⟨v, rfl, ⟨K, rfl, lK, hK⟩, hS, hB⟩; (first | (with_reducible replace hB := Beside.undrew hB) | (with_reducible replace hB := Beside.undN hB) | skip); have HS := Lib.hid hS; have HB := Lib.hid (Beside.trans HB.out hB); have HZ := Lib.hid (HZ.out.beside hB (by omega)); obtain ⟨z0, z1, z2, z3, z4⟩ := HZ.out.cell; obtain ⟨g0, g1, g2, g3, g4⟩ := HZ.out.free; have hltz := HZ.out.lt; clear hS hB))
  all_goals
    go_wp2_with fail
    have hs5 := HS.out
    have hb5 := HB.out
    refine bodyPost_ret (v := nv A B C D K) (by simp [results, Tryd.results15, go_sem, z0, z1, z2, z3, z4, hltz]) rfl ⟨⟨A, B, C, D, K⟩, rfl, ⟨?_, lK, by show K ≤ r; omega⟩, ?_, ?_⟩
    · exact ⟨⟨lA, hA⟩, ⟨lB, hB⟩, ⟨lC, hC⟩, lD, hD⟩
    · exact StoreAt.mono (((((hs5.other (by omega) _ _).other (by omega) _ _).other (by omega) _ _).other (by omega) _ _).other (by omega) _ _) (by omega)
    · exact ((((hb5.other (by omega) _ _).other (by omega) _ _).other (by omega) _ _).other (by omega) _ _).other (by omega) _ _
end Go.Proofs.YtohadcaapmnlaaaDoor
namespace Go.Proofs.YtohadcaapmnlaaaDoor
open Go.RowKit

def byV1 (z : Int) : Value := .int .u8 z
/-- Bytes in a row. -/
def ByteRow (w : World) (b off : Nat) (zs : List Int) : Prop := b < w.heap.size ∧ (∀ z ∈ zs, 0 ≤ z ∧ z ≤ 255) ∧ ∀ (i : Nat) (z : Int), zs[i]? = some z → w.cell? ⟨b, off + i, none⟩ = some (.int .u8 z)
theorem ByteRow.below {w w' : World} {b off : Nat} {zs : List Int} (h : ByteRow w b off zs) (hb : Below w.heap.size w w') : ByteRow w' b off zs := by
  have hc := (bcell hb).1
  exact ⟨Nat.lt_of_lt_of_le h.1 hb.size, h.2.1, fun i z hz => by rw [hc _ _ h.1]; exact h.2.2 i z hz⟩
theorem info_u8 : (Tryd.prog.info? 5).map (fun i => (i.zero, i.size, i.bytes)) = some (some (.int .u8 0), 1, 1) := by kernel_rfl
theorem und_bytes : Tryd.prog.underlying 29 = some (.slice 5) := by kernel_rfl
theorem add_plus (b off j : Nat) : (⟨b, off, none⟩ : Addr).add j = ⟨b, off + j, none⟩ := by
  unfold Addr.add; split <;> simp_all
/-- Bytes that lie where an address leads. -/
def Src (w : World) (ad : Addr) (zs : List Int) : Prop := zs = [] ∨ ∃ b off, ad = ⟨b, off, none⟩ ∧ ByteRow w b off zs
theorem Src.range {w : World} {ad : Addr} {zs : List Int} (h : Src w ad zs) : ∀ z ∈ zs, 0 ≤ z ∧ z ≤ 255 := by
  rcases h with rfl | ⟨b, off, _, h⟩
  · simp
  · exact h.2.1
theorem Src.below {w w' : World} {ad : Addr} {zs : List Int} (h : Src w ad zs) (hb : Below w.heap.size w w') : Src w' ad zs := by
  rcases h with h | ⟨b, off, e, h⟩
  · exact .inl h
  · exact .inr ⟨b, off, e, h.below hb⟩
/-- Bytes are put behind nothing: they lie in a row of their own. -/
theorem wpList_append_bytes {w : World} {ops : Array Oper} {rest : List Oper} {o : Oper} {a : Act} {Q : Exit → Act → World → Prop} (hgd : o.guard = none) (s y : Operand)
    (ho : o.op = .call { callee := .builtin .append, args := #[s, y], argTypes := #[29, 29] }) (hB : Nat) (hs : a.eval s = .slice (some ⟨hB, 0, none⟩) 0 0) (hown : w.heap[hB]? = some (.cells #[] 5 (0, 0)))
    (ad : Addr) (m c : Nat) (zs : List Int) (hx : a.eval y = .slice (some ad) m c) (hm : zs.length = m) (hm2 : m ≤ 300) (hsrc : Src w ad zs)
    (h : ∀ g cap' w', ByteRow w' g 0 zs → hB ≤ g → w.grownBy w' (some hB) → wpList Tryd.prog ops Q rest (a.put o.dst (.slice (some ⟨g, 0, none⟩) m cap')) w') : wpList Tryd.prog ops Q (o :: rest) a w := by
  obtain ⟨i0, hi, hz0, hz1, hz2⟩ := info_parts info_u8
  have hlt := (Array.getElem?_eq_some_iff.1 hown).1
  have ho0 : w.ownsRow hB 5 1 (.slice (some ⟨hB, 0, none⟩) 0 0) 0 [] := ⟨rfl, .inr ⟨hB, 0, #[], rfl, Nat.le_refl _, hown, Nat.le_refl _, Nat.zero_le _, rfl, rfl⟩⟩
  refine wpList_append_own w hgd s y 29 ho hB 5 i0 (.int .u8 0) 1 1 und_bytes hi hz0 hz1 hz2 rfl (by decide) (.slice (some ⟨hB, 0, none⟩) 0 0) 0 [] hs ho0 ad m c (zs.map byV1) hx (by simp [hm]) ?_ ?_ (by unfold maxLen; omega) (by omega) (Nat.le_of_lt hlt) ?_
  · intro j u hu
    rw [List.getElem?_map, Option.map_eq_some_iff] at hu
    obtain ⟨z, hz, rfl⟩ := hu
    rcases hsrc with rfl | ⟨b, off, rfl, hsrc⟩
    · simp at hz
    · rw [add_plus]
      exact hsrc.2.2 j z hz
  · intro u hu
    rw [List.mem_map] at hu
    obtain ⟨z, _, rfl⟩ := hu
    rfl
  · intro v' w' hown' hgrow hnil
    obtain ⟨hl, hh | ⟨g, cap', cur, h1, h2, h3, h4, h5, h6, h7⟩⟩ := hown'
    · have := hnil.1 hh.1
      cases this.1
    · subst h1
      rw [Nat.zero_add] at h7 ⊢
      refine h g cap' w' ⟨(Array.getElem?_eq_some_iff.1 h3).1, hsrc.range, fun i z hz => ?_⟩ h2 hgrow
      have h8 : (zs.map byV1)[i]? = some (.int .u8 z) := by rw [List.getElem?_map, hz]; rfl
      have hk : i < m := by rw [← hm]; exact (List.getElem?_eq_some_iff.1 hz).1
      rw [List.nil_append] at h7
      rw [← h7, List.getElem?_take_of_lt (by omega)] at h8
      rw [Nat.zero_add]
      simp only [World.cell?, h3]
      simpa using h8

theorem empty_new' (w : World) (T : Nat) {n : Nat} (h : n = w.heap.size) : (w.alloc (.cells #[] T)).heap[n]? = some (.cells #[] T (0, 0)) := by
  subst h; exact heap_alloc_new _ _
theorem below_app' {w w' : World} {T n : Nat} (hg : (w.alloc (.cells #[] T)).grownBy w' (some n)) (hn : n = w.heap.size) : Below w.heap.size w w' :=
  ((Below.refl w.heap.size w).alloc (Nat.le_refl _) _).grown hg (by simp) (fun k e => by cases e; omega)

set_option maxHeartbeats 4000000 in
theorem clone_some (ad : Addr) (c : Nat) (zs : List Int) (w : World) (hn : zs.length ≤ 300) (hr : Src w ad zs) :
    Calls Tryd.prog 49 #[.slice (some ad) zs.length c] w (fun e w' => ∃ g c', e = .returned (.slice (some ⟨g, 0, none⟩) zs.length c') ∧ w.heap.size ≤ g ∧ ByteRow w' g 0 zs ∧ Below w.heap.size w w') := by
  have HR := Lib.hid (hr.below (below_al (Below.refl _ _) (.cells #[] 5)))
  clear hr
  have he : ∀ w : World, (binOp .eql 29 (.slice (some ad) zs.length c) (.slice none 0 0)).run Tryd.prog w = .ok (.bool false) w := fun _ => rfl
  go_enter Tryd.func49, Tryd.ntmps49
  go_wp2_with (at_builtin; refine wpList_append_bytes rfl _ _ rfl w.heap.size rfl (empty_new' w _ rfl) ad _ c zs rfl rfl hn HR.out ?_; intro g cap' wa hrow hge hgrow)
  go_ret
  exact ⟨g, cap', rfl, hge, hrow, below_app' hgrow rfl⟩
set_option maxHeartbeats 4000000 in
theorem clone_none (w : World) : Calls Tryd.prog 49 #[.slice none 0 0] w (Gives (.slice none 0 0) w) := by
  have he : ∀ w : World, (binOp .eql 29 (.slice none 0 0) (.slice none 0 0)).run Tryd.prog w = .ok (.bool true) w := fun _ => rfl
  go_enter Tryd.func49, Tryd.ntmps49
  go_wp2_with fail
  go_ret
  exact ⟨rfl, (by repeat (first | with_reducible exact Below.refl _ _ | with_reducible refine below_al ?_ _ | with_reducible refine below_dN ?_ _ | with_reducible refine Below.drew ?_ | (with_reducible refine Below.setCell ?_ (by simp <;> omega) _) | (with_reducible refine below_via (by assumption) ?_)))⟩
/-- The bytes that a law is given: none, or some in a row. -/
def Given (w : World) (p : Option Addr) (n c : Nat) : Prop := (p = none ∧ n = 0 ∧ c = 0) ∨ ∃ (ad : Addr) (zs : List Int), p = some ad ∧ zs.length = n ∧ n ≤ c ∧ n ≤ maxLen ∧ Src w ad zs
theorem ByteRow.take {w : World} {b off : Nat} {zs : List Int} (h : ByteRow w b off zs) (k : Nat) : ByteRow w b off (zs.take k) := by
  refine ⟨h.1, fun z hz => h.2.1 z (List.mem_of_mem_take hz), fun i z hz => h.2.2 i z ?_⟩
  rw [List.getElem?_take] at hz
  split at hz
  · exact hz
  · cases hz
theorem Src.take {w : World} {ad : Addr} {zs : List Int} (h : Src w ad zs) (k : Nat) : Src w ad (zs.take k) := by
  rcases h with rfl | ⟨b, off, e, h⟩
  · exact .inl (by simp)
  · exact .inr ⟨b, off, e, h.take k⟩
/-- What Of leaves: a store of its own. -/
def Stored (w : World) (e : Ending) (w' : World) : Prop := ∃ b : Nat, e = .returned (.pointer (some ⟨b, 0, none⟩)) ∧ w.heap.size ≤ b ∧ StoreAt w' b w'.heap.size 0 ∧ Below w.heap.size w w'
theorem stored_of (g c' n : Nat) (ys : List Int) (w w1 : World) (hn : ys.length = n) (hn3 : n ≤ 300) (hg : w.heap.size ≤ g) (hr : ByteRow w1 g 0 ys) (hb : Below w.heap.size w w1) :
    Stored w (.returned (.pointer (some ⟨w1.heap.size, 0, none⟩))) (w1.alloc (.cells #[.slice (some ⟨g, 0, none⟩) n c', .int .i64 0, .int .u32 2463534242] 70)) := by
  have hr2 := hr.below ((Below.refl _ _).alloc (Nat.le_refl _) (.cells #[.slice (some ⟨g, 0, none⟩) n c', .int .i64 0, .int .u32 2463534242] 70))
  have hlt := hr.1
  refine ⟨w1.heap.size, rfl, hb.size, ⟨⟨by simp, by simp⟩, some ⟨g, 0, none⟩, n, c', 0, 2463534242, heap_alloc_new _ _, by omega, by omega, by omega, by omega, .inr ⟨g, 0, rfl, by omega, ⟨hr2.1, by simp⟩, hn3, fun i hi => ?_⟩⟩, below_al hb _⟩
  have hi' : i < ys.length := by omega
  have hz := List.getElem?_eq_getElem hi'
  have hm := hr2.2.1 _ (List.getElem_mem hi')
  exact ⟨ys[i], hm.1, hm.2, hr2.2.2 i _ hz⟩
set_option maxHeartbeats 4000000 in
theorem Of_some (ad : Addr) (c : Nat) (zs : List Int) (w : World) (hc : zs.length ≤ c) (hm : zs.length ≤ maxLen) (hr : Src w ad zs) :
    Calls Tryd.prog 14 #[.slice (some ad) zs.length c] w (Stored w) := by
  unfold maxLen at hm
  obtain ⟨ys, hys⟩ : ∃ ys, ys = zs.take (min zs.length 300) := ⟨_, rfl⟩
  have hyl : ys.length = min zs.length 300 := by rw [hys, List.length_take]; omega
  have hyr : Src w ad ys := hys ▸ hr.take _
  have HY := Lib.hid hyr
  have hyn : ys.length ≤ 300 := by omega
  have HC : Hid (∀ w cc, Src w ad ys → Calls Tryd.prog 49 #[.slice (some ad) ys.length cc] w (fun e w' => ∃ g c', e = .returned (.slice (some ⟨g, 0, none⟩) ys.length c') ∧ w.heap.size ≤ g ∧ ByteRow w' g 0 ys ∧ Below w.heap.size w w')) := fun w cc h => clone_some ad cc ys w hyn h
  clear hr hys hyr
  go_enter Tryd.func14, Tryd.ntmps14
  go_wp2_with fail
  · have HC2 := HC.out w c HY.out
    rw [show ys.length = 300 by omega] at HC2
    refine HC2.mono ?_
    rintro e w1 ⟨g, c', rfl, hg, hrow, hb⟩
    have HR := Lib.hid hrow
    have HB := Lib.hid hb
    clear hrow hb HC HC2 HY
    go_wp2_with fail
    go_ret
    exact stored_of g c' 300 ys w w1 (by omega) (by omega) hg HR.out HB.out
  · have HC2 := HC.out w c HY.out
    rw [show ys.length = zs.length by omega] at HC2
    refine HC2.mono ?_
    rintro e w1 ⟨g, c', rfl, hg, hrow, hb⟩
    have HR := Lib.hid hrow
    have HB := Lib.hid hb
    clear hrow hb HC HC2 HY
    go_wp2_with fail
    go_ret
    exact stored_of g c' _ ys w w1 (by omega) (by omega) hg HR.out HB.out
set_option maxHeartbeats 4000000 in
theorem Of_none (w : World) : Calls Tryd.prog 14 #[.slice none 0 0] w (Stored w) := by
  have HC : Hid (∀ w, Calls Tryd.prog 49 #[.slice none 0 0] w (Gives (.slice none 0 0) w)) := fun w => clone_none w
  go_enter Tryd.func14, Tryd.ntmps14
  go_wp2_with fail
  refine (HC.out _).mono ?_
  rintro e w1 ⟨rfl, hb⟩
  have HB := Lib.hid hb
  clear hb HC
  go_wp2_with fail
  go_ret
  refine ⟨w1.heap.size, rfl, HB.out.size, ⟨⟨by simp, by simp⟩, none, 0, 0, 0, 2463534242, ?_, by omega, by omega, by omega, by omega, .inl rfl⟩, below_al HB.out _⟩
  exact heap_alloc_new _ _
theorem Of_any (p : Option Addr) (n c : Nat) (w : World) (h : Given w p n c) : Calls Tryd.prog 14 #[.slice p n c] w (Stored w) := by
  rcases h with ⟨rfl, rfl, rfl⟩ | ⟨ad, zs, rfl, rfl, h1, h2, h3⟩
  · exact Of_none w
  · exact Of_some ad c zs w h1 h2 h3
end Go.Proofs.YtohadcaapmnlaaaDoor
