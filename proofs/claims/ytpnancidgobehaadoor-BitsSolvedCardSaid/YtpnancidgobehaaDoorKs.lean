
/- The kit's maker of drawn numbers: what it gives lies within its bounds, and only its own block changes. -/
import Derived.Test.YtpnancidgobehaaDoorZm
import Derived.BigRegion
import Derived.RegionTactic
import Derived.ChangeAlike
import Derived.Deep.RegionWith
set_option linter.all false
set_option maxRecDepth 100000
namespace Go.Proofs.YtpnancidgobehaaDoor
open Go.RowKit

/-- Only block b may have changed of what was there. -/
structure Beside (b : Nat) (w w' : World) : Prop where
  os : w'.os = w.os
  tape : w'.tape = w.tape
  output : w'.output = w.output
  size : w.heap.size ≤ w'.heap.size
  block : ∀ k, k < w.heap.size → k ≠ b → w'.heap[k]? = w.heap[k]?
theorem Beside.refl (b : Nat) (w : World) : Beside b w w := ⟨rfl, rfl, rfl, Nat.le_refl _, fun _ _ _ => rfl⟩
theorem Beside.trans {b : Nat} {w w1 w2 : World} (h : Beside b w w1) (k : Beside b w1 w2) : Beside b w w2 :=
  ⟨k.os.trans h.os, k.tape.trans h.tape, k.output.trans h.output, Nat.le_trans h.size k.size, fun i h1 h2 => (k.block i (Nat.lt_of_lt_of_le h1 h.size) h2).trans (h.block i h1 h2)⟩
theorem Beside.of {b : Nat} {w w' : World} (h : Below w.heap.size w w') : Beside b w w' := ⟨h.os, h.tape, h.output, h.size, fun k hk _ => h.block k hk⟩
theorem Beside.below {b B : Nat} {w w' : World} (h : Beside b w w') (hb : B ≤ b) (hB : B ≤ w.heap.size) : Below B w w' :=
  ⟨h.os, h.tape, h.output, h.size, fun k hk => h.block k (by omega) (by omega)⟩
theorem Beside.set {b : Nat} {w w1 : World} (h : Beside b w w1) (o : Nat) (v : Value) : Beside b w (w1.setCell ⟨b, o, none⟩ v) :=
  ⟨h.os, h.tape, h.output, by have := h.size; simp [World.setCell]; exact this, fun k h1 h2 => by rw [Below.heap_setCell _ _ _ _ h2]; exact h.block k h1 h2⟩
theorem Beside.drew {b : Nat} {w w1 : World} (h : Beside b w w1) : Beside b w w1.drew := ⟨h.os, h.tape, h.output, h.size, h.block⟩
theorem Beside.dN {b : Nat} {w w1 : World} (h : Beside b w w1) (n : Nat) : Beside b w (w1.drewN n) := ⟨h.os, h.tape, h.output, h.size, h.block⟩
theorem Beside.other {b : Nat} {w w1 : World} (h : Beside b w w1) {k : Nat} (hk : w.heap.size ≤ k) (i : Nat) (v : Value) : Beside b w (w1.setCell ⟨k, i, none⟩ v) :=
  ⟨h.os, h.tape, h.output, by have := h.size; simp [World.setCell]; exact this, fun j h1 h2 => by rw [Below.heap_setCell _ _ _ _ (show j ≠ k by omega)]; exact h.block j h1 h2⟩
theorem Beside.undrew {b : Nat} {w w1 : World} (h : Beside b w.drew w1) : Beside b w w1 := ⟨h.os, h.tape, h.output, h.size, h.block⟩
theorem Beside.undN {b n : Nat} {w w1 : World} (h : Beside b (w.drewN n) w1) : Beside b w w1 := ⟨h.os, h.tape, h.output, h.size, h.block⟩
theorem Beside.al {b : Nat} {w w1 : World} (h : Beside b w w1) (o : Obj) : Beside b w (w1.alloc o) :=
  h.trans (Beside.of ((Below.refl _ w1).alloc (Nat.le_refl _) o))

/-- What lies where the bytes of a store lie. -/
def BytesAt (w : World) (b L bb off n : Nat) : Prop := bb ≠ b ∧ (bb < L ∧ L ≤ w.heap.size) ∧ n ≤ 300 ∧ ∀ i, i < n → ∃ v : Int, 0 ≤ v ∧ v ≤ 255 ∧ w.cell? ⟨bb, off + i, none⟩ = some (.int .u8 v)
/-- Block b holds a store that has been asked at most m times. -/
def StoreAt (w : World) (b L : Nat) (m : Int) : Prop := (b < L ∧ L ≤ w.heap.size) ∧
  ∃ (p : Option Addr) (n c : Nat) (next st : Int), w.heap[b]? = some (.cells #[.slice p n c, .int .i64 next, .int .u32 st] 58 (0, 0)) ∧ 0 ≤ next ∧ next ≤ m ∧ 0 ≤ st ∧ st ≤ 4294967295 ∧
    (n = 0 ∨ ∃ bb off, p = some ⟨bb, off, none⟩ ∧ BytesAt w b L bb off n)
theorem StoreAt.lt {w : World} {b L : Nat} {m : Int} (h : StoreAt w b L m) : b < w.heap.size := Nat.lt_of_lt_of_le h.1.1 h.1.2
theorem BytesAt.beside {w w' : World} {b L bb off n : Nat} (h : BytesAt w b L bb off n) (k : Beside b w w') : BytesAt w' b L bb off n := by
  obtain ⟨h1, h2, h3, h4⟩ := h
  refine ⟨h1, ⟨h2.1, Nat.le_trans h2.2 k.size⟩, h3, fun i hi => ?_⟩
  obtain ⟨v, v1, v2, v3⟩ := h4 i hi
  refine ⟨v, v1, v2, ?_⟩
  unfold World.cell? at *
  dsimp only at *
  rw [k.block bb (Nat.lt_of_lt_of_le h2.1 h2.2) h1]
  exact v3
theorem StoreAt.below {w w' : World} {b L : Nat} {m : Int} (h : StoreAt w b L m) (k : Below L w w') : StoreAt w' b L m := by
  have hlt := h.lt
  have hL := h.1
  obtain ⟨_, p, n, c, next, st, h, h1, h2, h3, h4, h5⟩ := h
  refine ⟨⟨hL.1, Nat.le_trans hL.2 k.size⟩, p, n, c, next, st, by rw [k.block b hL.1]; exact h, h1, h2, h3, h4, ?_⟩
  rcases h5 with h5 | ⟨bb, off, e, g1, g2, g3, g4⟩
  · exact .inl h5
  · refine .inr ⟨bb, off, e, g1, ⟨g2.1, Nat.le_trans g2.2 k.size⟩, g3, fun i hi => ?_⟩
    obtain ⟨v, v1, v2, v3⟩ := g4 i hi
    refine ⟨v, v1, v2, ?_⟩
    unfold World.cell? at *
    dsimp only at *
    rw [k.block bb g2.1]
    exact v3
theorem StoreAt.mono {w : World} {b L : Nat} {m m' : Int} (h : StoreAt w b L m) (hm : m ≤ m') : StoreAt w b L m' := by
  obtain ⟨hL, p, n, c, next, st, h, h1, h2, h3⟩ := h
  exact ⟨hL, p, n, c, next, st, h, h1, by omega, h3⟩
theorem StoreAt.other {w : World} {b L : Nat} {m : Int} (h : StoreAt w b L m) {k : Nat} (hk : L ≤ k) (i : Nat) (v : Value) : StoreAt (w.setCell ⟨k, i, none⟩ v) b L m :=
  h.below ((Below.refl L w).setCell hk _)
theorem StoreAt.wider {w : World} {b L M : Nat} {m : Int} (h : StoreAt w b L m) (h1 : L ≤ M) (h2 : M ≤ w.heap.size) : StoreAt w b M m := by
  obtain ⟨hL, p, n, c, next, st, h, g1, g2, g3, g4, g5⟩ := h
  refine ⟨⟨by omega, h2⟩, p, n, c, next, st, h, g1, g2, g3, g4, ?_⟩
  rcases g5 with g5 | ⟨bb, off, e, e1, e2, e3, e4⟩
  · exact .inl g5
  · exact .inr ⟨bb, off, e, e1, ⟨by omega, h2⟩, e3, e4⟩

theorem u32_range (n : Int) : 0 ≤ IntKind.u32.wrap n ∧ IntKind.u32.wrap n ≤ 4294967295 := by
  rw [IntKind.wrap_u32]; omega
/-- What a call that draws leaves. -/
def Draws (b L : Nat) (m : Int) (w : World) (P : Value → Prop) (e : Ending) (w' : World) : Prop := ∃ v, e = .returned v ∧ P v ∧ StoreAt w' b L (m + 1) ∧ Beside b w w'

/-- Block b holds a store: its slice of bytes, how many were asked for, its state. -/
def Sto (w : World) (b : Nat) (p : Option Addr) (n c : Nat) (next st : Int) : Prop := w.heap[b]? = some (.cells #[.slice p n c, .int .i64 next, .int .u32 st] 58 (0, 0))
theorem Sto.cell {w : World} {b n c : Nat} {p : Option Addr} {next st : Int} (h : Sto w b p n c next st) :
    w.cell? ⟨b, 0, none⟩ = some (.slice p n c) ∧ w.cell? ⟨b, 1, none⟩ = some (.int .i64 next) ∧ w.cell? ⟨b, 2, none⟩ = some (.int .u32 st) := by
  unfold Sto at h
  simp [World.cell?, h]
theorem Sto.free {w : World} {b n c : Nat} {p : Option Addr} {next st : Int} (h : Sto w b p n c next st) :
    w.frozen? ⟨b, 0, none⟩ = false ∧ w.frozen? ⟨b, 1, none⟩ = false ∧ w.frozen? ⟨b, 2, none⟩ = false := by
  unfold Sto at h
  simp [World.frozen?, h]
theorem Sto.lt {w : World} {b n c : Nat} {p : Option Addr} {next st : Int} (h : Sto w b p n c next st) : b < w.heap.size := by
  rcases Nat.lt_or_ge b w.heap.size with h' | h'
  · exact h'
  · simp [Sto, Array.getElem?_eq_none h'] at h
theorem Sto.set2 {w : World} {b n c : Nat} {p : Option Addr} {next st : Int} (h : Sto w b p n c next st) (v : Int) : Sto (w.setCell ⟨b, 2, none⟩ (.int .u32 v)) b p n c next v := heap_set h
theorem Sto.dN {w : World} {b n c : Nat} {p : Option Addr} {next st : Int} (h : Sto w b p n c next st) (k : Nat) : Sto (w.drewN k) b p n c next st := h
theorem Sto.set1 {w : World} {b n c : Nat} {p : Option Addr} {next st : Int} (h : Sto w b p n c next st) (v : Int) : Sto (w.setCell ⟨b, 1, none⟩ (.int .i64 v)) b p n c v st := heap_set h
theorem bits_u32 (o : BinOp) (x y : Int) : 0 ≤ Go.bits o .u32 x y ∧ Go.bits o .u32 x y ≤ 4294967295 := u32_range _

set_option maxHeartbeats 4000000 in
theorem draw_some (b L : Nat) (m : Int) (w : World) (bb off n c : Nat) (next st : Int) (hm : m ≤ 1000000) (hh : Sto w b (some ⟨bb, off, none⟩) n c next st)
    (h1 : 0 ≤ next) (h2 : next ≤ m) (h3 : 0 ≤ st) (h4 : st ≤ 4294967295) (hn : 0 < n) (hL : b < L ∧ L ≤ w.heap.size) (hb : BytesAt w b L bb off n) :
    Calls Tryd.prog 49 #[.pointer (some ⟨b, 0, none⟩)] w (Draws b L m w fun v => ∃ z : Int, v = .int .u32 z ∧ 0 ≤ z ∧ z ≤ 4294967295) := by
  have B0 := Lib.hid hh
  obtain ⟨c0, c1, c2⟩ := hh.cell
  obtain ⟨f0, f1, f2⟩ := hh.free
  have hlt := hh.lt
  have E0 := Lib.hid (Beside.refl b w)
  clear hh
  go_enter Tryd.func49, Tryd.ntmps49
  go_wp2_with fail
  go_region
  generalize hs1 : Go.bits .xor .u32 _ _ = s1
  generalize hw1 : World.setCell w _ _ = w1
  have E1 := Lib.hid (hw1 ▸ E0.out.set 2 (.int .u32 s1))
  have hh := hw1 ▸ B0.out.set2 s1
  have B1 := Lib.hid hh
  obtain ⟨c0, c1, c2⟩ := hh.cell
  obtain ⟨f0, f1, f2⟩ := hh.free
  have hlt := hh.lt
  clear hh hw1 hs1 B0 E0
  go_wp2_with fail
  go_region
  generalize hs2 : Go.bits .xor .u32 _ _ = s2
  generalize hw2 : World.setCell w1 _ _ = w2
  have E2 := Lib.hid (hw2 ▸ E1.out.set 2 (.int .u32 s2))
  have hh := hw2 ▸ B1.out.set2 s2
  have B2 := Lib.hid hh
  obtain ⟨c0, c1, c2⟩ := hh.cell
  obtain ⟨f0, f1, f2⟩ := hh.free
  have hlt := hh.lt
  clear hh hw2 hs2 B1 E1
  go_wp2_with fail
  go_region
  generalize hs3 : Go.bits .xor .u32 _ _ = s3
  have r3 := hs3 ▸ bits_u32 .xor _ _
  generalize hw3 : World.setCell w2 _ _ = w3
  have E3 := Lib.hid (hw3 ▸ E2.out.set 2 (.int .u32 s3))
  have hh := hw3 ▸ B2.out.set2 s3
  have B3 := Lib.hid hh
  obtain ⟨c0, c1, c2⟩ := hh.cell
  obtain ⟨f0, f1, f2⟩ := hh.free
  have hlt := hh.lt
  clear hh hw3 hs3 B2 E2
  have hn1 : (0 : Int) < n := by omega
  have hn3 : (n : Int) ≤ 300 := by have := hb.2.2.1; omega
  have t1 := Int.tmod_nonneg (n : Int) h1
  have t2 := Int.tmod_lt_of_pos next hn1
  obtain ⟨k, hk⟩ : ∃ k : Nat, next.tmod n = k := ⟨(next.tmod n).toNat, by omega⟩
  obtain ⟨y, y1, y2, cy⟩ := (hb.beside E3.out).2.2.2 k (by omega)
  go_wp2_with fail
  go_quiet (fail)
  go_wp2_with fail
  go_region
  generalize hw4 : World.setCell (World.drewN w3 _) _ _ = w4
  have E4 := Lib.hid (hw4 ▸ (E3.out.dN _).set 2 (.int .u32 ((s3 + (y + 1)) % 4294967296)))
  have hh : Sto w4 b (some ⟨bb, off, none⟩) n c next ((s3 + (y + 1)) % 4294967296) := hw4 ▸ Sto.set2 (B3.out.dN _) _
  have r4 : 0 ≤ (s3 + (y + 1)) % 4294967296 ∧ (s3 + (y + 1)) % 4294967296 ≤ 4294967295 := by omega
  generalize (s3 + (y + 1)) % 4294967296 = s4 at *
  have B4 := Lib.hid hh
  obtain ⟨c0, c1, c2⟩ := hh.cell
  obtain ⟨f0, f1, f2⟩ := hh.free
  have hlt := hh.lt
  clear hh hw4 B3 E3
  go_wp2_with fail
  have B5 := B4.out.set1 (next + 1)
  have E5 := E4.out.set 1 (.int .i64 (next + 1))
  generalize hw5 : World.setCell w4 _ _ = w5 at B5 E5 ⊢
  go_ret
  exact ⟨_, rfl, ⟨_, rfl, by omega, by omega⟩, ⟨⟨hL.1, Nat.le_trans hL.2 E5.size⟩, _, _, _, _, _, B5, by omega, by omega, r4.1, r4.2, .inr ⟨_, _, rfl, hb.beside E5⟩⟩, E5⟩

set_option maxHeartbeats 4000000 in
theorem draw_none (b L : Nat) (m : Int) (w : World) (p : Option Addr) (c : Nat) (next st : Int) (hh : Sto w b p 0 c next st)
    (h1 : 0 ≤ next) (h2 : next ≤ m) (h3 : 0 ≤ st) (h4 : st ≤ 4294967295) (hL : b < L ∧ L ≤ w.heap.size) :
    Calls Tryd.prog 49 #[.pointer (some ⟨b, 0, none⟩)] w (Draws b L m w fun v => ∃ z : Int, v = .int .u32 z ∧ 0 ≤ z ∧ z ≤ 4294967295) := by
  have B0 := Lib.hid hh
  obtain ⟨c0, c1, c2⟩ := hh.cell
  obtain ⟨f0, f1, f2⟩ := hh.free
  have hlt := hh.lt
  have E0 := Lib.hid (Beside.refl b w)
  clear hh
  go_enter Tryd.func49, Tryd.ntmps49
  go_wp2_with fail
  go_region
  generalize hs1 : Go.bits .xor .u32 _ _ = s1
  generalize hw1 : World.setCell w _ _ = w1
  have E1 := Lib.hid (hw1 ▸ E0.out.set 2 (.int .u32 s1))
  have hh := hw1 ▸ B0.out.set2 s1
  have B1 := Lib.hid hh
  obtain ⟨c0, c1, c2⟩ := hh.cell
  obtain ⟨f0, f1, f2⟩ := hh.free
  have hlt := hh.lt
  clear hh hw1 hs1 B0 E0
  go_wp2_with fail
  go_region
  generalize hs2 : Go.bits .xor .u32 _ _ = s2
  generalize hw2 : World.setCell w1 _ _ = w2
  have E2 := Lib.hid (hw2 ▸ E1.out.set 2 (.int .u32 s2))
  have hh := hw2 ▸ B1.out.set2 s2
  have B2 := Lib.hid hh
  obtain ⟨c0, c1, c2⟩ := hh.cell
  obtain ⟨f0, f1, f2⟩ := hh.free
  have hlt := hh.lt
  clear hh hw2 hs2 B1 E1
  go_wp2_with fail
  go_region
  generalize hs3 : Go.bits .xor .u32 _ _ = s3
  have r3 := hs3 ▸ bits_u32 .xor _ _
  generalize hw3 : World.setCell w2 _ _ = w3
  have E3 := Lib.hid (hw3 ▸ E2.out.set 2 (.int .u32 s3))
  have hh := hw3 ▸ B2.out.set2 s3
  have B3 := Lib.hid hh
  obtain ⟨c0, c1, c2⟩ := hh.cell
  obtain ⟨f0, f1, f2⟩ := hh.free
  have hlt := hh.lt
  clear hh hw3 hs3 B2 E2
  go_wp2_with fail
  go_ret
  exact ⟨_, rfl, ⟨_, rfl, by omega, by omega⟩, ⟨⟨hL.1, Nat.le_trans hL.2 E3.out.size⟩, _, _, _, _, _, B3.out, by omega, by omega, r3.1, r3.2, .inl rfl⟩, (E3.out.drew.drew.drew)⟩
theorem draw_any (b L : Nat) (m : Int) (w : World) (hm : m ≤ 1000000) (h : StoreAt w b L m) :
    Calls Tryd.prog 49 #[.pointer (some ⟨b, 0, none⟩)] w (Draws b L m w fun v => ∃ z : Int, v = .int .u32 z ∧ 0 ≤ z ∧ z ≤ 4294967295) := by
  obtain ⟨hL, p, n, c, next, st, hh, h1, h2, h3, h4, h5⟩ := h
  by_cases hn : n = 0
  · subst hn
    exact draw_none b L m w p c next st hh h1 h2 h3 h4 hL
  · rcases h5 with h5 | ⟨bb, off, rfl, h5⟩
    · exact absurd h5 hn
    · exact draw_some b L m w bb off n c next st hm hh h1 h2 h3 h4 (by omega) hL h5

theorem less_any (b L : Nat) (m n : Int) (w : World) (hm : m ≤ 1000000) (hn : 1 ≤ n ∧ n ≤ 4294967296) (h : StoreAt w b L m) :
    Calls Tryd.prog 16 #[.pointer (some ⟨b, 0, none⟩), .int .i64 n] w (Draws b L m w fun v => ∃ z : Int, v = .int .i64 z ∧ 0 ≤ z ∧ z < n) := by
  have HD : Hid (Calls Tryd.prog 49 #[.pointer (some ⟨b, 0, none⟩)] w (Draws b L m w fun v => ∃ z : Int, v = .int .u32 z ∧ 0 ≤ z ∧ z ≤ 4294967295)) := draw_any b L m w hm h
  clear h
  obtain ⟨n1, n2⟩ := hn
  go_enter Tryd.func16, Tryd.ntmps16
  go_wp2_with fail
  refine HD.out.mono ?_
  rintro e w1 ⟨v, rfl, ⟨z, rfl, z1, z2⟩, hS, hB⟩
  have HS := Lib.hid hS
  have HB := Lib.hid hB
  clear hS hB
  have q1 : 0 ≤ z / 16 := by omega
  have t1 := Int.emod_nonneg (z / 16) (show n ≠ 0 by omega)
  have t2 := Int.emod_lt_of_pos (z / 16) (show 0 < n by omega)
  go_wp2_with fail
  go_ret
  exact ⟨_, rfl, ⟨_, rfl, t1, t2⟩, HS.out, HB.out⟩
theorem seldom_any (b L : Nat) (m n : Int) (w : World) (hm : m ≤ 1000000) (hn : 1 ≤ n ∧ n ≤ 4294967296) (h : StoreAt w b L m) :
    Calls Tryd.prog 17 #[.pointer (some ⟨b, 0, none⟩), .int .i64 n] w (Draws b L m w fun v => ∃ z : Bool, v = .bool z) := by
  have HD : Hid (Calls Tryd.prog 16 #[.pointer (some ⟨b, 0, none⟩), .int .i64 n] w (Draws b L m w fun v => ∃ z : Int, v = .int .i64 z ∧ 0 ≤ z ∧ z < n)) := less_any b L m n w hm hn h
  clear h
  obtain ⟨n1, n2⟩ := hn
  go_enter Tryd.func17, Tryd.ntmps17
  go_wp2_with fail
  refine HD.out.mono ?_
  rintro e w1 ⟨v, rfl, ⟨z, rfl, z1, z2⟩, hS, hB⟩
  have HS := Lib.hid hS
  have HB := Lib.hid hB
  clear hS hB
  go_wp2_with fail
  go_ret
  exact ⟨_, rfl, ⟨_, rfl⟩, HS.out, HB.out⟩
/-- The variables that the closure of Num has: the store, and the greatest coefficient. -/
def Free (w : World) (b vs vz : Nat) (s : Int) : Prop := (vs ≠ b ∧ w.cell? ⟨vs, 0, none⟩ = some (.pointer (some ⟨b, 0, none⟩))) ∧ vz ≠ b ∧ w.cell? ⟨vz, 0, none⟩ = some (.int .i64 s)
theorem Beside.cell {b : Nat} {w w' : World} (h : Beside b w w') {k o : Nat} {v : Value} (hk : k ≠ b) (hc : w.cell? ⟨k, o, none⟩ = some v) : w'.cell? ⟨k, o, none⟩ = some v := by
  have hlt : k < w.heap.size := by
    rcases Nat.lt_or_ge k w.heap.size with h' | h'
    · exact h'
    · simp [World.cell?, Array.getElem?_eq_none h'] at hc
  unfold World.cell? at *
  dsimp only at *
  rw [h.block k hlt hk]
  exact hc
theorem Free.beside {w w' : World} {b vs vz : Nat} {s : Int} (h : Free w b vs vz s) (k : Beside b w w') : Free w' b vs vz s :=
  ⟨⟨h.1.1, k.cell h.1.1 h.1.2⟩, h.2.1, k.cell h.2.1 h.2.2⟩
theorem Free.dN {w : World} {b vs vz : Nat} {s : Int} (h : Free w b vs vz s) (k : Nat) : Free (w.drewN k) b vs vz s := h
theorem Free.drew {w : World} {b vs vz : Nat} {s : Int} (h : Free w b vs vz s) : Free w.drew b vs vz s := h
theorem StoreAt.dN {w : World} {b L : Nat} {m : Int} (h : StoreAt w b L m) (k : Nat) : StoreAt (w.drewN k) b L m := h
theorem StoreAt.drew {w : World} {b L : Nat} {m : Int} (h : StoreAt w b L m) : StoreAt w.drew b L m := h
theorem cell_new (w : World) (v : Value) (T : TypeId) : (w.alloc (.cells #[v] T)).cell? ⟨w.heap.size, 0, none⟩ = some v := by
  unfold World.cell?
  dsimp only
  rw [heap_alloc_new]
  rfl
theorem cell_al {w : World} {k i : Nat} {v : Value} (hc : w.cell? ⟨k, i, none⟩ = some v) (o : Obj) : (w.alloc o).cell? ⟨k, i, none⟩ = some v := by
  have hlt : k < w.heap.size := by
    rcases Nat.lt_or_ge k w.heap.size with h' | h'
    · exact h'
    · simp [World.cell?, Array.getElem?_eq_none h'] at hc
  exact ((bcell ((Below.refl w.heap.size w).alloc (Nat.le_refl _) o)).1 _ _ hlt).trans hc
theorem Box.beside {w w' : World} {b k T : Nat} {x : Nm} (h : Box w k T x) (hb : Beside b w w') (hn : k ≠ b) : Box w' k T x := by
  unfold Box; rw [hb.block k h.lt hn]; exact h
end Go.Proofs.YtpnancidgobehaaDoor
