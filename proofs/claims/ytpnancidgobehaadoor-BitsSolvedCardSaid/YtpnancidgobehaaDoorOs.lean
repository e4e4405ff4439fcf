
/- Stores of drawn numbers that lie behind a bound with their bytes: what they give, and that others may be asked between. -/
import Derived.Test.YtpnancidgobehaaDoorKs
import Derived.Test.YtpnancidgobehaaDoorVf
import Derived.OwnWalk
import Derived.Laws.AppendOwnNone
set_option linter.all false
set_option maxRecDepth 100000
namespace Go.Proofs.YtpnancidgobehaaDoor
open Go.RowKit
/-- Block b holds a store that has been asked at most m times; it and its bytes lie behind lo, in front of L. -/
def StoreIn (w : World) (b L lo : Nat) (m : Int) : Prop := (lo ≤ b ∧ b < L ∧ L ≤ w.heap.size) ∧
  ∃ (p : Option Addr) (n c : Nat) (next st : Int), w.heap[b]? = some (.cells #[.slice p n c, .int .i64 next, .int .u32 st] 58 (0, 0)) ∧ 0 ≤ next ∧ next ≤ m ∧ 0 ≤ st ∧ st ≤ 4294967295 ∧
    (n = 0 ∨ ∃ bb off, p = some ⟨bb, off, none⟩ ∧ lo ≤ bb ∧ BytesAt w b L bb off n)
theorem StoreIn.lt {w : World} {b L lo : Nat} {m : Int} (h : StoreIn w b L lo m) : b < w.heap.size := Nat.lt_of_lt_of_le h.1.2.1 h.1.2.2
theorem StoreIn.below {w w' : World} {b L lo : Nat} {m : Int} (h : StoreIn w b L lo m) (k : Below L w w') : StoreIn w' b L lo m := by
  have hL := h.1
  obtain ⟨_, p, n, c, next, st, h, h1, h2, h3, h4, h5⟩ := h
  refine ⟨⟨hL.1, hL.2.1, Nat.le_trans hL.2.2 k.size⟩, p, n, c, next, st, by rw [k.block b hL.2.1]; exact h, h1, h2, h3, h4, ?_⟩
  rcases h5 with h5 | ⟨bb, off, e, g0, g1, g2, g3, g4⟩
  · exact .inl h5
  · refine .inr ⟨bb, off, e, g0, g1, ⟨g2.1, Nat.le_trans g2.2 k.size⟩, g3, fun i hi => ?_⟩
    obtain ⟨v, v1, v2, v3⟩ := g4 i hi
    refine ⟨v, v1, v2, ?_⟩
    unfold World.cell? at *
    dsimp only at *
    rw [k.block bb g2.1]
    exact v3
theorem StoreIn.mono {w : World} {b L lo : Nat} {m m' : Int} (h : StoreIn w b L lo m) (hm : m ≤ m') : StoreIn w b L lo m' := by
  obtain ⟨hL, p, n, c, next, st, h, h1, h2, h3⟩ := h
  exact ⟨hL, p, n, c, next, st, h, h1, by omega, h3⟩
/-- Another store, in front of lo, was asked. -/
theorem StoreIn.others {w w' : World} {b L lo o : Nat} {m : Int} (h : StoreIn w b L lo m) (k : Beside o w w') (ho : o < lo) : StoreIn w' b L lo m := by
  have hL := h.1
  obtain ⟨_, p, n, c, next, st, h, h1, h2, h3, h4, h5⟩ := h
  refine ⟨⟨hL.1, hL.2.1, Nat.le_trans hL.2.2 k.size⟩, p, n, c, next, st, by rw [k.block b (by omega) (by omega)]; exact h, h1, h2, h3, h4, ?_⟩
  rcases h5 with h5 | ⟨bb, off, e, g0, g1, g2, g3, g4⟩
  · exact .inl h5
  · refine .inr ⟨bb, off, e, g0, g1, ⟨g2.1, Nat.le_trans g2.2 k.size⟩, g3, fun i hi => ?_⟩
    obtain ⟨v, v1, v2, v3⟩ := g4 i hi
    refine ⟨v, v1, v2, ?_⟩
    unfold World.cell? at *
    dsimp only at *
    rw [k.block bb (by omega) (by omega)]
    exact v3
/-- What a call that draws leaves. -/
def DrawsI (b L lo : Nat) (m : Int) (w : World) (P : Value → Prop) (e : Ending) (w' : World) : Prop := ∃ v, e = .returned v ∧ P v ∧ StoreIn w' b L lo (m + 1) ∧ Beside b w w'
set_option maxHeartbeats 4000000 in
theorem draw_someI (b L lo : Nat) (m : Int) (w : World) (bb off n c : Nat) (next st : Int) (hm : m ≤ 1000000) (hh : Sto w b (some ⟨bb, off, none⟩) n c next st)
    (h1 : 0 ≤ next) (h2 : next ≤ m) (h3 : 0 ≤ st) (h4 : st ≤ 4294967295) (hn : 0 < n) (hL : lo ≤ b ∧ b < L ∧ L ≤ w.heap.size) (hlo : lo ≤ bb) (hb : BytesAt w b L bb off n) :
    Calls Tryd.prog 49 #[.pointer (some ⟨b, 0, none⟩)] w (DrawsI b L lo m w fun v => ∃ z : Int, v = .int .u32 z ∧ 0 ≤ z ∧ z ≤ 4294967295) := by
  have B0 := Lib.hid hh
  obtain ⟨c0, c1, c2⟩ := hh.cell
  obtain ⟨f0, f1, f2⟩ := hh.free
  have hlt := hh.lt
  have E0 := Lib.hid (Beside.refl b w)
  clear hh
  go_enter Tryd.func49, Tryd.ntmps49
  go_wp2_with fail
  go_region
  generalize hs1 : Go.bits .xor .u32 _ _ = s1
  generalize hw1 : World.setCell w _ _ = w1
  have E1 := Lib.hid (hw1 ▸ E0.out.set 2 (.int .u32 s1))
  have hh := hw1 ▸ B0.out.set2 s1
  have B1 := Lib.hid hh
  obtain ⟨c0, c1, c2⟩ := hh.cell
  obtain ⟨f0, f1, f2⟩ := hh.free
  have hlt := hh.lt
  clear hh hw1 hs1 B0 E0
  go_wp2_with fail
  go_region
  generalize hs2 : Go.bits .xor .u32 _ _ = s2
  generalize hw2 : World.setCell w1 _ _ = w2
  have E2 := Lib.hid (hw2 ▸ E1.out.set 2 (.int .u32 s2))
  have hh := hw2 ▸ B1.out.set2 s2
  have B2 := Lib.hid hh
  obtain ⟨c0, c1, c2⟩ := hh.cell
  obtain ⟨f0, f1, f2⟩ := hh.free
  have hlt := hh.lt
  clear hh hw2 hs2 B1 E1
  go_wp2_with fail
  go_region
  generalize hs3 : Go.bits .xor .u32 _ _ = s3
  have r3 := hs3 ▸ bits_u32 .xor _ _
  generalize hw3 : World.setCell w2 _ _ = w3
  have E3 := Lib.hid (hw3 ▸ E2.out.set 2 (.int .u32 s3))
  have hh := hw3 ▸ B2.out.set2 s3
  have B3 := Lib.hid hh
  obtain ⟨c0, c1, c2⟩ := hh.cell
  obtain ⟨f0, f1, f2⟩ := hh.free
  have hlt := hh.lt
  clear hh hw3 hs3 B2 E2
  have hn1 : (0 : Int) < n := by omega
  have hn3 : (n : Int) ≤ 300 := by have := hb.2.2.1; omega
  have t1 := Int.tmod_nonneg (n : Int) h1
  have t2 := Int.tmod_lt_of_pos next hn1
  obtain ⟨k, hk⟩ : ∃ k : Nat, next.tmod n = k := ⟨(next.tmod n).toNat, by omega⟩
  obtain ⟨y, y1, y2, cy⟩ := (hb.beside E3.out).2.2.2 k (by omega)
  go_wp2_with fail
  go_quiet (fail)
  go_wp2_with fail
  go_region
  generalize hw4 : World.setCell (World.drewN w3 _) _ _ = w4
  have E4 := Lib.hid (hw4 ▸ (E3.out.dN _).set 2 (.int .u32 ((s3 + (y + 1)) % 4294967296)))
  have hh : Sto w4 b (some ⟨bb, off, none⟩) n c next ((s3 + (y + 1)) % 4294967296) := hw4 ▸ Sto.set2 (B3.out.dN _) _
  have r4 : 0 ≤ (s3 + (y + 1)) % 4294967296 ∧ (s3 + (y + 1)) % 4294967296 ≤ 4294967295 := by omega
  generalize (s3 + (y + 1)) % 4294967296 = s4 at *
  have B4 := Lib.hid hh
  obtain ⟨c0, c1, c2⟩ := hh.cell
  obtain ⟨f0, f1, f2⟩ := hh.free
  have hlt := hh.lt
  clear hh hw4 B3 E3
  go_wp2_with fail
  have B5 := B4.out.set1 (next + 1)
  have E5 := E4.out.set 1 (.int .i64 (next + 1))
  generalize hw5 : World.setCell w4 _ _ = w5 at B5 E5 ⊢
  go_ret
  exact ⟨_, rfl, ⟨_, rfl, by omega, by omega⟩, ⟨⟨hL.1, hL.2.1, Nat.le_trans hL.2.2 E5.size⟩, _, _, _, _, _, B5, by omega, by omega, r4.1, r4.2, .inr ⟨_, _, rfl, hlo, hb.beside E5⟩⟩, E5⟩

set_option maxHeartbeats 4000000 in
theorem draw_noneI (b L lo : Nat) (m : Int) (w : World) (p : Option Addr) (c : Nat) (next st : Int) (hh : Sto w b p 0 c next st)
    (h1 : 0 ≤ next) (h2 : next ≤ m) (h3 : 0 ≤ st) (h4 : st ≤ 4294967295) (hL : lo ≤ b ∧ b < L ∧ L ≤ w.heap.size) :
    Calls Tryd.prog 49 #[.pointer (some ⟨b, 0, none⟩)] w (DrawsI b L lo m w fun v => ∃ z : Int, v = .int .u32 z ∧ 0 ≤ z ∧ z ≤ 4294967295) := by
  have B0 := Lib.hid hh
  obtain ⟨c0, c1, c2⟩ := hh.cell
  obtain ⟨f0, f1, f2⟩ := hh.free
  have hlt := hh.lt
  have E0 := Lib.hid (Beside.refl b w)
  clear hh
  go_enter Tryd.func49, Tryd.ntmps49
  go_wp2_with fail
  go_region
  generalize hs1 : Go.bits .xor .u32 _ _ = s1
  generalize hw1 : World.setCell w _ _ = w1
  have E1 := Lib.hid (hw1 ▸ E0.out.set 2 (.int .u32 s1))
  have hh := hw1 ▸ B0.out.set2 s1
  have B1 := Lib.hid hh
  obtain ⟨c0, c1, c2⟩ := hh.cell
  obtain ⟨f0, f1, f2⟩ := hh.free
  have hlt := hh.lt
  clear hh hw1 hs1 B0 E0
  go_wp2_with fail
  go_region
  generalize hs2 : Go.bits .xor .u32 _ _ = s2
  generalize hw2 : World.setCell w1 _ _ = w2
  have E2 := Lib.hid (hw2 ▸ E1.out.set 2 (.int .u32 s2))
  have hh := hw2 ▸ B1.out.set2 s2
  have B2 := Lib.hid hh
  obtain ⟨c0, c1, c2⟩ := hh.cell
  obtain ⟨f0, f1, f2⟩ := hh.free
  have hlt := hh.lt
  clear hh hw2 hs2 B1 E1
  go_wp2_with fail
  go_region
  generalize hs3 : Go.bits .xor .u32 _ _ = s3
  have r3 := hs3 ▸ bits_u32 .xor _ _
  generalize hw3 : World.setCell w2 _ _ = w3
  have E3 := Lib.hid (hw3 ▸ E2.out.set 2 (.int .u32 s3))
  have hh := hw3 ▸ B2.out.set2 s3
  have B3 := Lib.hid hh
  obtain ⟨c0, c1, c2⟩ := hh.cell
  obtain ⟨f0, f1, f2⟩ := hh.free
  have hlt := hh.lt
  clear hh hw3 hs3 B2 E2
  go_wp2_with fail
  go_ret
  exact ⟨_, rfl, ⟨_, rfl, by omega, by omega⟩, ⟨⟨hL.1, hL.2.1, Nat.le_trans hL.2.2 E3.out.size⟩, _, _, _, _, _, B3.out, by omega, by omega, r3.1, r3.2, .inl rfl⟩, (E3.out.drew.drew.drew)⟩
theorem draw_anyI (b L lo : Nat) (m : Int) (w : World) (hm : m ≤ 1000000) (h : StoreIn w b L lo m) :
    Calls Tryd.prog 49 #[.pointer (some ⟨b, 0, none⟩)] w (DrawsI b L lo m w fun v => ∃ z : Int, v = .int .u32 z ∧ 0 ≤ z ∧ z ≤ 4294967295) := by
  obtain ⟨hL, p, n, c, next, st, hh, h1, h2, h3, h4, h5⟩ := h
  by_cases hn : n = 0
  · subst hn
    exact draw_noneI b L lo m w p c next st hh h1 h2 h3 h4 hL
  · rcases h5 with h5 | ⟨bb, off, rfl, h6, h5⟩
    · exact absurd h5 hn
    · exact draw_someI b L lo m w bb off n c next st hm hh h1 h2 h3 h4 (by omega) hL h6 h5

theorem less_anyI (b L lo : Nat) (m n : Int) (w : World) (hm : m ≤ 1000000) (hn : 1 ≤ n ∧ n ≤ 4294967296) (h : StoreIn w b L lo m) :
    Calls Tryd.prog 16 #[.pointer (some ⟨b, 0, none⟩), .int .i64 n] w (DrawsI b L lo m w fun v => ∃ z : Int, v = .int .i64 z ∧ 0 ≤ z ∧ z < n) := by
  have HD : Hid (Calls Tryd.prog 49 #[.pointer (some ⟨b, 0, none⟩)] w (DrawsI b L lo m w fun v => ∃ z : Int, v = .int .u32 z ∧ 0 ≤ z ∧ z ≤ 4294967295)) := draw_anyI b L lo m w hm h
  clear h
  obtain ⟨n1, n2⟩ := hn
  go_enter Tryd.func16, Tryd.ntmps16
  go_wp2_with fail
  refine HD.out.mono ?_
  rintro e w1 ⟨v, rfl, ⟨z, rfl, z1, z2⟩, hS, hB⟩
  have HS := Lib.hid hS
  have HB := Lib.hid hB
  clear hS hB
  have q1 : 0 ≤ z / 16 := by omega
  have t1 := Int.emod_nonneg (z / 16) (show n ≠ 0 by omega)
  have t2 := Int.emod_lt_of_pos (z / 16) (show 0 < n by omega)
  go_wp2_with fail
  go_ret
  exact ⟨_, rfl, ⟨_, rfl, t1, t2⟩, HS.out, HB.out⟩
theorem seldom_anyI (b L lo : Nat) (m n : Int) (w : World) (hm : m ≤ 1000000) (hn : 1 ≤ n ∧ n ≤ 4294967296) (h : StoreIn w b L lo m) :
    Calls Tryd.prog 17 #[.pointer (some ⟨b, 0, none⟩), .int .i64 n] w (DrawsI b L lo m w fun v => ∃ z : Bool, v = .bool z) := by
  have HD : Hid (Calls Tryd.prog 16 #[.pointer (some ⟨b, 0, none⟩), .int .i64 n] w (DrawsI b L lo m w fun v => ∃ z : Int, v = .int .i64 z ∧ 0 ≤ z ∧ z < n)) := less_anyI b L lo m n w hm hn h
  clear h
  obtain ⟨n1, n2⟩ := hn
  go_enter Tryd.func17, Tryd.ntmps17
  go_wp2_with fail
  refine HD.out.mono ?_
  rintro e w1 ⟨v, rfl, ⟨z, rfl, z1, z2⟩, hS, hB⟩
  have HS := Lib.hid hS
  have HB := Lib.hid hB
  clear hS hB
  go_wp2_with fail
  go_ret
  exact ⟨_, rfl, ⟨_, rfl⟩, HS.out, HB.out⟩
def byV1I (z : Int) : Value := .int .u8 z
/-- Bytes in a row. -/
def ByteRowI (w : World) (b off : Nat) (zs : List Int) : Prop := b < w.heap.size ∧ (∀ z ∈ zs, 0 ≤ z ∧ z ≤ 255) ∧ ∀ (i : Nat) (z : Int), zs[i]? = some z → w.cell? ⟨b, off + i, none⟩ = some (.int .u8 z)
theorem ByteRowI.below {w w' : World} {b off : Nat} {zs : List Int} (h : ByteRowI w b off zs) (hb : Below w.heap.size w w') : ByteRowI w' b off zs := by
  have hc := (bcell hb).1
  exact ⟨Nat.lt_of_lt_of_le h.1 hb.size, h.2.1, fun i z hz => by rw [hc _ _ h.1]; exact h.2.2 i z hz⟩
theorem info_u8I : (Tryd.prog.info? 5).map (fun i => (i.zero, i.size, i.bytes)) = some (some (.int .u8 0), 1, 1) := by kernel_rfl
theorem und_bytesI : Tryd.prog.underlying 22 = some (.slice 5) := by kernel_rfl
theorem add_plusI (b off j : Nat) : (⟨b, off, none⟩ : Addr).add j = ⟨b, off + j, none⟩ := by
  unfold Addr.add; split <;> simp_all
/-- Bytes that lie where an address leads. -/
def SrcI (w : World) (ad : Addr) (zs : List Int) : Prop := zs = [] ∨ ∃ b off, ad = ⟨b, off, none⟩ ∧ ByteRowI w b off zs
theorem SrcI.range {w : World} {ad : Addr} {zs : List Int} (h : SrcI w ad zs) : ∀ z ∈ zs, 0 ≤ z ∧ z ≤ 255 := by
  rcases h with rfl | ⟨b, off, _, h⟩
  · simp
  · exact h.2.1
theorem SrcI.below {w w' : World} {ad : Addr} {zs : List Int} (h : SrcI w ad zs) (hb : Below w.heap.size w w') : SrcI w' ad zs := by
  rcases h with h | ⟨b, off, e, h⟩
  · exact .inl h
  · exact .inr ⟨b, off, e, h.below hb⟩
/-- Bytes are put behind nothing: they lie in a row of their own. -/
theorem wpList_append_bytesI {w : World} {ops : Array Oper} {rest : List Oper} {o : Oper} {a : Act} {Q : Exit → Act → World → Prop} (hgd : o.guard = none) (s y : Operand)
    (ho : o.op = .call { callee := .builtin .append, args := #[s, y], argTypes := #[22, 22] }) (hB : Nat) (hs : a.eval s = .slice (some ⟨hB, 0, none⟩) 0 0) (hown : w.heap[hB]? = some (.cells #[] 5 (0, 0)))
    (ad : Addr) (m c : Nat) (zs : List Int) (hx : a.eval y = .slice (some ad) m c) (hm : zs.length = m) (hm2 : m ≤ 300) (hsrc : SrcI w ad zs)
    (h : ∀ g cap' w', ByteRowI w' g 0 zs → hB ≤ g → w.grownBy w' (some hB) → wpList Tryd.prog ops Q rest (a.put o.dst (.slice (some ⟨g, 0, none⟩) m cap')) w') : wpList Tryd.prog ops Q (o :: rest) a w := by
  obtain ⟨i0, hi, hz0, hz1, hz2⟩ := info_parts info_u8I
  have hlt := (Array.getElem?_eq_some_iff.1 hown).1
  have ho0 : w.ownsRow hB 5 1 (.slice (some ⟨hB, 0, none⟩) 0 0) 0 [] := ⟨rfl, .inr ⟨hB, 0, #[], rfl, Nat.le_refl _, hown, Nat.le_refl _, Nat.zero_le _, rfl, rfl⟩⟩
  refine wpList_append_own w hgd s y 22 ho hB 5 i0 (.int .u8 0) 1 1 und_bytesI hi hz0 hz1 hz2 rfl (by decide) (.slice (some ⟨hB, 0, none⟩) 0 0) 0 [] hs ho0 ad m c (zs.map byV1I) hx (by simp [hm]) ?_ ?_ (by unfold maxLen; omega) (by omega) (Nat.le_of_lt hlt) ?_
  · intro j u hu
    rw [List.getElem?_map, Option.map_eq_some_iff] at hu
    obtain ⟨z, hz, rfl⟩ := hu
    rcases hsrc with rfl | ⟨b, off, rfl, hsrc⟩
    · simp at hz
    · rw [add_plusI]
      exact hsrc.2.2 j z hz
  · intro u hu
    rw [List.mem_map] at hu
    obtain ⟨z, _, rfl⟩ := hu
    rfl
  · intro v' w' hown' hgrow hnil
    obtain ⟨hl, hh | ⟨g, cap', cur, h1, h2, h3, h4, h5, h6, h7⟩⟩ := hown'
    · have := hnil.1 hh.1
      cases this.1
    · subst h1
      rw [Nat.zero_add] at h7 ⊢
      refine h g cap' w' ⟨(Array.getElem?_eq_some_iff.1 h3).1, hsrc.range, fun i z hz => ?_⟩ h2 hgrow
      have h8 : (zs.map byV1I)[i]? = some (.int .u8 z) := by rw [List.getElem?_map, hz]; rfl
      have hk : i < m := by rw [← hm]; exact (List.getElem?_eq_some_iff.1 hz).1
      rw [List.nil_append] at h7
      rw [← h7, List.getElem?_take_of_lt (by omega)] at h8
      rw [Nat.zero_add]
      simp only [World.cell?, h3]
      simpa using h8

theorem empty_new'I (w : World) (T : Nat) {n : Nat} (h : n = w.heap.size) : (w.alloc (.cells #[] T)).heap[n]? = some (.cells #[] T (0, 0)) := by
  subst h; exact heap_alloc_new _ _
theorem below_app'I {w w' : World} {T n : Nat} (hg : (w.alloc (.cells #[] T)).grownBy w' (some n)) (hn : n = w.heap.size) : Below w.heap.size w w' :=
  ((Below.refl w.heap.size w).alloc (Nat.le_refl _) _).grown hg (by simp) (fun k e => by cases e; omega)

set_option maxHeartbeats 4000000 in
theorem clone_someI (ad : Addr) (c : Nat) (zs : List Int) (w : World) (hn : zs.length ≤ 300) (hr : SrcI w ad zs) :
    Calls Tryd.prog 43 #[.slice (some ad) zs.length c] w (fun e w' => ∃ g c', e = .returned (.slice (some ⟨g, 0, none⟩) zs.length c') ∧ w.heap.size ≤ g ∧ ByteRowI w' g 0 zs ∧ Below w.heap.size w w') := by
  have HR := Lib.hid (hr.below (below_al (Below.refl _ _) (.cells #[] 5)))
  clear hr
  have he : ∀ w : World, (binOp .eql 22 (.slice (some ad) zs.length c) (.slice none 0 0)).run Tryd.prog w = .ok (.bool false) w := fun _ => rfl
  go_enter Tryd.func43, Tryd.ntmps43
  go_wp2_with (at_builtin; refine wpList_append_bytesI rfl _ _ rfl w.heap.size rfl (empty_new'I w _ rfl) ad _ c zs rfl rfl hn HR.out ?_; intro g cap' wa hrow hge hgrow)
  go_ret
  exact ⟨g, cap', rfl, hge, hrow, below_app'I hgrow rfl⟩
set_option maxHeartbeats 4000000 in
theorem clone_noneI (w : World) : Calls Tryd.prog 43 #[.slice none 0 0] w (Gives (.slice none 0 0) w) := by
  have he : ∀ w : World, (binOp .eql 22 (.slice none 0 0) (.slice none 0 0)).run Tryd.prog w = .ok (.bool true) w := fun _ => rfl
  go_enter Tryd.func43, Tryd.ntmps43
  go_wp2_with fail
  go_ret
  exact ⟨rfl, (by repeat (first | with_reducible exact Below.refl _ _ | with_reducible refine below_al ?_ _ | with_reducible refine below_dN ?_ _ | with_reducible refine Below.drew ?_ | (with_reducible refine Below.setCell ?_ (by simp <;> omega) _) | (with_reducible refine below_via (by assumption) ?_)))⟩
/-- The bytes that a law is given: none, or some in a row. -/
def GivenI (w : World) (p : Option Addr) (n c : Nat) : Prop := (p = none ∧ n = 0 ∧ c = 0) ∨ ∃ (ad : Addr) (zs : List Int), p = some ad ∧ zs.length = n ∧ n ≤ c ∧ n ≤ maxLen ∧ SrcI w ad zs
theorem ByteRowI.take {w : World} {b off : Nat} {zs : List Int} (h : ByteRowI w b off zs) (k : Nat) : ByteRowI w b off (zs.take k) := by
  refine ⟨h.1, fun z hz => h.2.1 z (List.mem_of_mem_take hz), fun i z hz => h.2.2 i z ?_⟩
  rw [List.getElem?_take] at hz
  split at hz
  · exact hz
  · cases hz
theorem SrcI.take {w : World} {ad : Addr} {zs : List Int} (h : SrcI w ad zs) (k : Nat) : SrcI w ad (zs.take k) := by
  rcases h with rfl | ⟨b, off, e, h⟩
  · exact .inl (by simp)
  · exact .inr ⟨b, off, e, h.take k⟩
/-- What Of leaves: a store of its own. -/
def StoredI (w : World) (e : Ending) (w' : World) : Prop := ∃ b : Nat, e = .returned (.pointer (some ⟨b, 0, none⟩)) ∧ w.heap.size ≤ b ∧ StoreIn w' b w'.heap.size w.heap.size 0 ∧ Below w.heap.size w w'
theorem stored_ofI (g c' n : Nat) (ys : List Int) (w w1 : World) (hn : ys.length = n) (hn3 : n ≤ 300) (hg : w.heap.size ≤ g) (hr : ByteRowI w1 g 0 ys) (hb : Below w.heap.size w w1) :
    StoredI w (.returned (.pointer (some ⟨w1.heap.size, 0, none⟩))) (w1.alloc (.cells #[.slice (some ⟨g, 0, none⟩) n c', .int .i64 0, .int .u32 2463534242] 58)) := by
  have hr2 := hr.below ((Below.refl _ _).alloc (Nat.le_refl _) (.cells #[.slice (some ⟨g, 0, none⟩) n c', .int .i64 0, .int .u32 2463534242] 58))
  have hlt := hr.1
  refine ⟨w1.heap.size, rfl, hb.size, ⟨⟨hb.size, by simp, by simp⟩, some ⟨g, 0, none⟩, n, c', 0, 2463534242, heap_alloc_new _ _, by omega, by omega, by omega, by omega, .inr ⟨g, 0, rfl, hg, by omega, ⟨hr2.1, by simp⟩, hn3, fun i hi => ?_⟩⟩, below_al hb _⟩
  have hi' : i < ys.length := by omega
  have hz := List.getElem?_eq_getElem hi'
  have hm := hr2.2.1 _ (List.getElem_mem hi')
  exact ⟨ys[i], hm.1, hm.2, hr2.2.2 i _ hz⟩
set_option maxHeartbeats 4000000 in
theorem Of_someI (ad : Addr) (c : Nat) (zs : List Int) (w : World) (hc : zs.length ≤ c) (hm : zs.length ≤ maxLen) (hr : SrcI w ad zs) :
    Calls Tryd.prog 10 #[.slice (some ad) zs.length c] w (StoredI w) := by
  unfold maxLen at hm
  obtain ⟨ys, hys⟩ : ∃ ys, ys = zs.take (min zs.length 300) := ⟨_, rfl⟩
  have hyl : ys.length = min zs.length 300 := by rw [hys, List.length_take]; omega
  have hyr : SrcI w ad ys := hys ▸ hr.take _
  have HY := Lib.hid hyr
  have hyn : ys.length ≤ 300 := by omega
  have HC : Hid (∀ w cc, SrcI w ad ys → Calls Tryd.prog 43 #[.slice (some ad) ys.length cc] w (fun e w' => ∃ g c', e = .returned (.slice (some ⟨g, 0, none⟩) ys.length c') ∧ w.heap.size ≤ g ∧ ByteRowI w' g 0 ys ∧ Below w.heap.size w w')) := fun w cc h => clone_someI ad cc ys w hyn h
  clear hr hys hyr
  go_enter Tryd.func10, Tryd.ntmps10
  go_wp2_with fail
  · have HC2 := HC.out w c HY.out
    rw [show ys.length = 300 by omega] at HC2
    refine HC2.mono ?_
    rintro e w1 ⟨g, c', rfl, hg, hrow, hb⟩
    have HR := Lib.hid hrow
    have HB := Lib.hid hb
    clear hrow hb HC HC2 HY
    go_wp2_with fail
    go_ret
    exact stored_ofI g c' 300 ys w w1 (by omega) (by omega) hg HR.out HB.out
  · have HC2 := HC.out w c HY.out
    rw [show ys.length = zs.length by omega] at HC2
    refine HC2.mono ?_
    rintro e w1 ⟨g, c', rfl, hg, hrow, hb⟩
    have HR := Lib.hid hrow
    have HB := Lib.hid hb
    clear hrow hb HC HC2 HY
    go_wp2_with fail
    go_ret
    exact stored_ofI g c' _ ys w w1 (by omega) (by omega) hg HR.out HB.out
set_option maxHeartbeats 4000000 in
theorem Of_noneI (w : World) : Calls Tryd.prog 10 #[.slice none 0 0] w (StoredI w) := by
  have HC : Hid (∀ w, Calls Tryd.prog 43 #[.slice none 0 0] w (Gives (.slice none 0 0) w)) := fun w => clone_noneI w
  go_enter Tryd.func10, Tryd.ntmps10
  go_wp2_with fail
  refine (HC.out _).mono ?_
  rintro e w1 ⟨rfl, hb⟩
  have HB := Lib.hid hb
  clear hb HC
  go_wp2_with fail
  go_ret
  refine ⟨w1.heap.size, rfl, HB.out.size, ⟨⟨HB.out.size, by simp, by simp⟩, none, 0, 0, 0, 2463534242, ?_, by omega, by omega, by omega, by omega, .inl rfl⟩, below_al HB.out _⟩
  exact heap_alloc_new _ _
theorem Of_anyI (p : Option Addr) (n c : Nat) (w : World) (h : GivenI w p n c) : Calls Tryd.prog 10 #[.slice p n c] w (StoredI w) := by
  rcases h with ⟨rfl, rfl, rfl⟩ | ⟨ad, zs, rfl, rfl, h1, h2, h3⟩
  · exact Of_noneI w
  · exact Of_someI ad c zs w h1 h2 h3
end Go.Proofs.YtpnancidgobehaaDoor
