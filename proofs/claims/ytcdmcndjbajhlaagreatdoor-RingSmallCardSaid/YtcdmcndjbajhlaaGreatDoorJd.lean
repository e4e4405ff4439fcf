/- The kit's store of bytes is made: a copy of at most 300 bytes. -/
import Derived.Test.YtcdmcndjbajhlaaGreatDoorJm
import Derived.BigRegion
import Derived.RegionTactic
import Derived.ChangeAlike
import Derived.Deep.RegionWith
import Derived.Test.YtcdmcndjbajhlaaGreatDoorJe
import Derived.OwnWalk
import Derived.Laws.AppendOwnNone
set_option linter.all false
set_option maxRecDepth 100000
namespace Go.Proofs.YtcdmcndjbajhlaaGreatDoor
open Go.RowKit

/-- Only block b may have changed of what was there. -/
structure Beside (b : Nat) (w w' : World) : Prop where
  os : w'.os = w.os
  tape : w'.tape = w.tape
  output : w'.output = w.output
  size : w.heap.size ≤ w'.heap.size
  block : ∀ k, k < w.heap.size → k ≠ b → w'.heap[k]? = w.heap[k]?
theorem Beside.refl (b : Nat) (w : World) : Beside b w w := ⟨rfl, rfl, rfl, Nat.le_refl _, fun _ _ _ => rfl⟩
theorem Beside.trans {b : Nat} {w w1 w2 : World} (h : Beside b w w1) (k : Beside b w1 w2) : Beside b w w2 :=
  ⟨k.os.trans h.os, k.tape.trans h.tape, k.output.trans h.output, Nat.le_trans h.size k.size, fun i h1 h2 => (k.block i (Nat.lt_of_lt_of_le h1 h.size) h2).trans (h.block i h1 h2)⟩
theorem Beside.of {b : Nat} {w w' : World} (h : Below w.heap.size w w') : Beside b w w' := ⟨h.os, h.tape, h.output, h.size, fun k hk _ => h.block k hk⟩
theorem Beside.below {b B : Nat} {w w' : World} (h : Beside b w w') (hb : B ≤ b) (hB : B ≤ w.heap.size) : Below B w w' :=
  ⟨h.os, h.tape, h.output, h.size, fun k hk => h.block k (by omega) (by omega)⟩
theorem Beside.set {b : Nat} {w w1 : World} (h : Beside b w w1) (o : Nat) (v : Value) : Beside b w (w1.setCell ⟨b, o, none⟩ v) :=
  ⟨h.os, h.tape, h.output, by have := h.size; simp [World.setCell]; exact this, fun k h1 h2 => by rw [Below.heap_setCell _ _ _ _ h2]; exact h.block k h1 h2⟩
theorem Beside.drew {b : Nat} {w w1 : World} (h : Beside b w w1) : Beside b w w1.drew := ⟨h.os, h.tape, h.output, h.size, h.block⟩
theorem Beside.dN {b : Nat} {w w1 : World} (h : Beside b w w1) (n : Nat) : Beside b w (w1.drewN n) := ⟨h.os, h.tape, h.output, h.size, h.block⟩
theorem Beside.other {b : Nat} {w w1 : World} (h : Beside b w w1) {k : Nat} (hk : w.heap.size ≤ k) (i : Nat) (v : Value) : Beside b w (w1.setCell ⟨k, i, none⟩ v) :=
  ⟨h.os, h.tape, h.output, by have := h.size; simp [World.setCell]; exact this, fun j h1 h2 => by rw [Below.heap_setCell _ _ _ _ (show j ≠ k by omega)]; exact h.block j h1 h2⟩
theorem Beside.undrew {b : Nat} {w w1 : World} (h : Beside b w.drew w1) : Beside b w w1 := ⟨h.os, h.tape, h.output, h.size, h.block⟩
theorem Beside.undN {b n : Nat} {w w1 : World} (h : Beside b (w.drewN n) w1) : Beside b w w1 := ⟨h.os, h.tape, h.output, h.size, h.block⟩
theorem Beside.al {b : Nat} {w w1 : World} (h : Beside b w w1) (o : Obj) : Beside b w (w1.alloc o) :=
  h.trans (Beside.of ((Below.refl _ w1).alloc (Nat.le_refl _) o))

/-- What lies where the bytes of a store lie. -/
def BytesAt (w : World) (b L bb off n : Nat) : Prop := bb ≠ b ∧ (bb < L ∧ L ≤ w.heap.size) ∧ n ≤ 300 ∧ ∀ i, i < n → ∃ v : Int, 0 ≤ v ∧ v ≤ 255 ∧ w.cell? ⟨bb, off + i, none⟩ = some (.int .u8 v)
theorem BytesAt.beside {w w' : World} {b L bb off n : Nat} (h : BytesAt w b L bb off n) (k : Beside b w w') : BytesAt w' b L bb off n := by
  obtain ⟨h1, h2, h3, h4⟩ := h
  refine ⟨h1, ⟨h2.1, Nat.le_trans h2.2 k.size⟩, h3, fun i hi => ?_⟩
  obtain ⟨v, v1, v2, v3⟩ := h4 i hi
  refine ⟨v, v1, v2, ?_⟩
  unfold World.cell? at *
  dsimp only at *
  rw [k.block bb (Nat.lt_of_lt_of_le h2.1 h2.2) h1]
  exact v3
theorem u32_range (n : Int) : 0 ≤ IntKind.u32.wrap n ∧ IntKind.u32.wrap n ≤ 4294967295 := by
  rw [IntKind.wrap_u32]; omega
theorem bits_u32 (o : BinOp) (x y : Int) : 0 ≤ Go.bits o .u32 x y ∧ Go.bits o .u32 x y ≤ 4294967295 := u32_range _

/-- The variables that the closure of Num has: the store, and the greatest coefficient. -/
def Free (w : World) (b vs vz : Nat) (s : Int) : Prop := (vs ≠ b ∧ w.cell? ⟨vs, 0, none⟩ = some (.pointer (some ⟨b, 0, none⟩))) ∧ vz ≠ b ∧ w.cell? ⟨vz, 0, none⟩ = some (.int .i64 s)
theorem Beside.cell {b : Nat} {w w' : World} (h : Beside b w w') {k o : Nat} {v : Value} (hk : k ≠ b) (hc : w.cell? ⟨k, o, none⟩ = some v) : w'.cell? ⟨k, o, none⟩ = some v := by
  have hlt : k < w.heap.size := by
    rcases Nat.lt_or_ge k w.heap.size with h' | h'
    · exact h'
    · simp [World.cell?, Array.getElem?_eq_none h'] at hc
  unfold World.cell? at *
  dsimp only at *
  rw [h.block k hlt hk]
  exact hc
theorem Free.beside {w w' : World} {b vs vz : Nat} {s : Int} (h : Free w b vs vz s) (k : Beside b w w') : Free w' b vs vz s :=
  ⟨⟨h.1.1, k.cell h.1.1 h.1.2⟩, h.2.1, k.cell h.2.1 h.2.2⟩
theorem Free.dN {w : World} {b vs vz : Nat} {s : Int} (h : Free w b vs vz s) (k : Nat) : Free (w.drewN k) b vs vz s := h
theorem Free.drew {w : World} {b vs vz : Nat} {s : Int} (h : Free w b vs vz s) : Free w.drew b vs vz s := h
theorem cell_new (w : World) (v : Value) (T : TypeId) : (w.alloc (.cells #[v] T)).cell? ⟨w.heap.size, 0, none⟩ = some v := by
  unfold World.cell?
  dsimp only
  rw [heap_alloc_new]
  rfl
theorem cell_al {w : World} {k i : Nat} {v : Value} (hc : w.cell? ⟨k, i, none⟩ = some v) (o : Obj) : (w.alloc o).cell? ⟨k, i, none⟩ = some v := by
  have hlt : k < w.heap.size := by
    rcases Nat.lt_or_ge k w.heap.size with h' | h'
    · exact h'
    · simp [World.cell?, Array.getElem?_eq_none h'] at hc
  exact ((bcell ((Below.refl w.heap.size w).alloc (Nat.le_refl _) o)).1 _ _ hlt).trans hc
theorem Box.beside {w w' : World} {b k T : Nat} {x : Nm} (h : Box w k T x) (hb : Beside b w w') (hn : k ≠ b) : Box w' k T x := by
  unfold Box; rw [hb.block k h.lt hn]; exact h
end Go.Proofs.YtcdmcndjbajhlaaGreatDoor
namespace Go.Proofs.YtcdmcndjbajhlaaGreatDoor
open Go.RowKit

def byV1 (z : Int) : Value := .int .u8 z
/-- Bytes in a row. -/
def ByteRow (w : World) (b off : Nat) (zs : List Int) : Prop := b < w.heap.size ∧ (∀ z ∈ zs, 0 ≤ z ∧ z ≤ 255) ∧ ∀ (i : Nat) (z : Int), zs[i]? = some z → w.cell? ⟨b, off + i, none⟩ = some (.int .u8 z)
theorem ByteRow.below {w w' : World} {b off : Nat} {zs : List Int} (h : ByteRow w b off zs) (hb : Below w.heap.size w w') : ByteRow w' b off zs := by
  have hc := (bcell hb).1
  exact ⟨Nat.lt_of_lt_of_le h.1 hb.size, h.2.1, fun i z hz => by rw [hc _ _ h.1]; exact h.2.2 i z hz⟩
theorem info_u8 : (Tryz.prog.info? 5).map (fun i => (i.zero, i.size, i.bytes)) = some (some (.int .u8 0), 1, 1) := by kernel_rfl
theorem und_bytes : Tryz.prog.underlying 107 = some (.slice 5) := by kernel_rfl
theorem add_plus (b off j : Nat) : (⟨b, off, none⟩ : Addr).add j = ⟨b, off + j, none⟩ := by
  unfold Addr.add; split <;> simp_all
/-- Bytes that lie where an address leads. -/
def Src (w : World) (ad : Addr) (zs : List Int) : Prop := zs = [] ∨ ∃ b off, ad = ⟨b, off, none⟩ ∧ ByteRow w b off zs
theorem Src.range {w : World} {ad : Addr} {zs : List Int} (h : Src w ad zs) : ∀ z ∈ zs, 0 ≤ z ∧ z ≤ 255 := by
  rcases h with rfl | ⟨b, off, _, h⟩
  · simp
  · exact h.2.1
theorem Src.below {w w' : World} {ad : Addr} {zs : List Int} (h : Src w ad zs) (hb : Below w.heap.size w w') : Src w' ad zs := by
  rcases h with h | ⟨b, off, e, h⟩
  · exact .inl h
  · exact .inr ⟨b, off, e, h.below hb⟩
/-- Bytes are put behind nothing: they lie in a row of their own. -/
theorem wpList_append_bytes {w : World} {ops : Array Oper} {rest : List Oper} {o : Oper} {a : Act} {Q : Exit → Act → World → Prop} (hgd : o.guard = none) (s y : Operand)
    (ho : o.op = .call { callee := .builtin .append, args := #[s, y], argTypes := #[107, 107] }) (hB : Nat) (hs : a.eval s = .slice (some ⟨hB, 0, none⟩) 0 0) (hown : w.heap[hB]? = some (.cells #[] 5 (0, 0)))
    (ad : Addr) (m c : Nat) (zs : List Int) (hx : a.eval y = .slice (some ad) m c) (hm : zs.length = m) (hm2 : m ≤ 300) (hsrc : Src w ad zs)
    (h : ∀ g cap' w', ByteRow w' g 0 zs → hB ≤ g → w.grownBy w' (some hB) → wpList Tryz.prog ops Q rest (a.put o.dst (.slice (some ⟨g, 0, none⟩) m cap')) w') : wpList Tryz.prog ops Q (o :: rest) a w := by
  obtain ⟨i0, hi, hz0, hz1, hz2⟩ := info_parts info_u8
  have hlt := (Array.getElem?_eq_some_iff.1 hown).1
  have ho0 : w.ownsRow hB 5 1 (.slice (some ⟨hB, 0, none⟩) 0 0) 0 [] := ⟨rfl, .inr ⟨hB, 0, #[], rfl, Nat.le_refl _, hown, Nat.le_refl _, Nat.zero_le _, rfl, rfl⟩⟩
  refine wpList_append_own w hgd s y 107 ho hB 5 i0 (.int .u8 0) 1 1 und_bytes hi hz0 hz1 hz2 rfl (by decide) (.slice (some ⟨hB, 0, none⟩) 0 0) 0 [] hs ho0 ad m c (zs.map byV1) hx (by simp [hm]) ?_ ?_ (by unfold maxLen; omega) (by omega) (Nat.le_of_lt hlt) ?_
  · intro j u hu
    rw [List.getElem?_map, Option.map_eq_some_iff] at hu
    obtain ⟨z, hz, rfl⟩ := hu
    rcases hsrc with rfl | ⟨b, off, rfl, hsrc⟩
    · simp at hz
    · rw [add_plus]
      exact hsrc.2.2 j z hz
  · intro u hu
    rw [List.mem_map] at hu
    obtain ⟨z, _, rfl⟩ := hu
    rfl
  · intro v' w' hown' hgrow hnil
    obtain ⟨hl, hh | ⟨g, cap', cur, h1, h2, h3, h4, h5, h6, h7⟩⟩ := hown'
    · have := hnil.1 hh.1
      cases this.1
    · subst h1
      rw [Nat.zero_add] at h7 ⊢
      refine h g cap' w' ⟨(Array.getElem?_eq_some_iff.1 h3).1, hsrc.range, fun i z hz => ?_⟩ h2 hgrow
      have h8 : (zs.map byV1)[i]? = some (.int .u8 z) := by rw [List.getElem?_map, hz]; rfl
      have hk : i < m := by rw [← hm]; exact (List.getElem?_eq_some_iff.1 hz).1
      rw [List.nil_append] at h7
      rw [← h7, List.getElem?_take_of_lt (by omega)] at h8
      rw [Nat.zero_add]
      simp only [World.cell?, h3]
      simpa using h8

theorem empty_new' (w : World) (T : Nat) {n : Nat} (h : n = w.heap.size) : (w.alloc (.cells #[] T)).heap[n]? = some (.cells #[] T (0, 0)) := by
  subst h; exact heap_alloc_new _ _
theorem below_app' {w w' : World} {T n : Nat} (hg : (w.alloc (.cells #[] T)).grownBy w' (some n)) (hn : n = w.heap.size) : Below w.heap.size w w' :=
  ((Below.refl w.heap.size w).alloc (Nat.le_refl _) _).grown hg (by simp) (fun k e => by cases e; omega)

/-- The bytes that a law is given: none, or some in a row. -/
def Given (w : World) (p : Option Addr) (n c : Nat) : Prop := (p = none ∧ n = 0 ∧ c = 0) ∨ ∃ (ad : Addr) (zs : List Int), p = some ad ∧ zs.length = n ∧ n ≤ c ∧ n ≤ maxLen ∧ Src w ad zs
theorem ByteRow.take {w : World} {b off : Nat} {zs : List Int} (h : ByteRow w b off zs) (k : Nat) : ByteRow w b off (zs.take k) := by
  refine ⟨h.1, fun z hz => h.2.1 z (List.mem_of_mem_take hz), fun i z hz => h.2.2 i z ?_⟩
  rw [List.getElem?_take] at hz
  split at hz
  · exact hz
  · cases hz
theorem Src.take {w : World} {ad : Addr} {zs : List Int} (h : Src w ad zs) (k : Nat) : Src w ad (zs.take k) := by
  rcases h with rfl | ⟨b, off, e, h⟩
  · exact .inl (by simp)
  · exact .inr ⟨b, off, e, h.take k⟩
end Go.Proofs.YtcdmcndjbajhlaaGreatDoor
