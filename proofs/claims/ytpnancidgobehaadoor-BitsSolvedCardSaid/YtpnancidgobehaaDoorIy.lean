
/- The outright laws of bits: rows that are made from draws. -/
import Derived.Test.YtpnancidgobehaaDoorZi
import Derived.Test.YtpnancidgobehaaDoorOs
set_option linter.all false
set_option maxRecDepth 100000
namespace Go.Proofs.YtpnancidgobehaaDoor
open Go.RowKit

/-- A list of one's own that grows beside a store. -/
structure GrowS (w : World) (b : Nat) (v : Value) (l : List Nat) (wr : World) : Prop where
  bes : Beside b w wr
  old : b < w.heap.size
  own : Mine wr w.heap.size v (casts l)
theorem GrowS.beside {w wr wx : World} {b : Nat} {v : Value} {l : List Nat} (h : GrowS w b v l wr) (hb : Beside b wr wx) : GrowS w b v l wx := by
  refine ⟨h.bes.trans hb, h.old, ?_⟩
  obtain ⟨h1, h2 | ⟨g, cap, cur, h3, h4, h5, h6⟩⟩ := h.own
  · exact ⟨h1, .inl h2⟩
  · exact ⟨h1, .inr ⟨g, cap, cur, h3, h4, (hb.block g ((Array.getElem?_eq_some_iff.1 h5).1) (by have := h.old; omega)).trans h5, h6⟩⟩
def MadePost (w : World) (b L lo : Nat) (m : Int) (n most : Nat) (e : Ending) (w' : World) : Prop := ∃ (v : Value) (l : List Nat), e = .returned v ∧ l.length ≤ most ∧ (∀ x ∈ l, x < 2 ^ n) ∧ GrowS w b v l w' ∧ StoreIn w' b L lo (m + 200)
theorem GrowS.some_ {w wr : World} {b : Nat} {v : Value} {l : List Nat} (h : GrowS w b v l wr) (h0 : 0 < l.length) : ∃ g c, v = .slice (some ⟨g, 0, none⟩) l.length c := by
  obtain ⟨h1, h2 | ⟨g, cap, cur, h3, _⟩⟩ := h.own
  · have := h2.2; rw [casts_len] at this; omega
  · rw [casts_len] at h3; exact ⟨g, cap, h3⟩
theorem GrowS.al {w wr : World} {b : Nat} {v : Value} {l : List Nat} (h : GrowS w b v l wr) (o : Obj) : GrowS w b v l (wr.alloc o) := h.beside (Beside.of ((Below.refl _ wr).alloc (Nat.le_refl _) o))
theorem GrowS.put {w wr wx : World} {b x : Nat} {v nv : Value} {l : List Nat} (h : GrowS w b v l wr) (hm : Mine wx w.heap.size nv (casts l ++ [(x : Int)])) (hg : wr.grownBy wx v.ownBlock) : GrowS w b nv (l ++ [x]) wx := by
  have e : casts (l ++ [x]) = casts l ++ [(x : Int)] := by simp [casts]
  refine ⟨⟨hg.os.trans h.bes.os, hg.tape.trans h.bes.tape, hg.output.trans h.bes.output, Nat.le_trans h.bes.size hg.size, fun k hk hn => ?_⟩, h.old, by rw [e]; exact hm⟩
  rw [hg.block k (Nat.lt_of_lt_of_le hk h.bes.size) (fun e => by have := (World.ownsRow.lt h.own k e.symm).1; omega)]
  exact h.bes.block k hk hn
theorem StoreIn.put {w wr wx : World} {b L lo : Nat} {m : Int} {v : Value} {l : List Nat} (h : StoreIn wr b L lo m) (hG : GrowS w b v l wr) (hL : L ≤ w.heap.size) (hg : wr.grownBy wx v.ownBlock) : StoreIn wx b L lo m :=
  h.below ((Below.refl L wr).grown hg (Nat.le_trans hL hG.bes.size) (fun k hk => by have := (World.ownsRow.lt hG.own k hk).1; omega))
theorem GrowS.ints {w wr : World} {b n c : Nat} {p : Option Addr} {l : List Nat} (h : GrowS w b (.slice p n c) l wr) : Ints wr p (casts l) := by
  obtain ⟨p', c', e, h2⟩ := h.own.ints
  cases e
  exact h2
theorem GrowS.cell {w wr : World} {b n c g off : Nat} {l : List Nat} (h : GrowS w b (.slice (some ⟨g, off, none⟩) n c) l wr) {k x : Nat} (hx : l[k]? = some x) : wr.cell? ⟨g, off + k, none⟩ = some (.int .i64 (x : Int)) := by
  obtain ⟨b', o', e, _, hc⟩ := h.ints.at_ (casts_at hx)
  cases e
  exact hc
theorem StoreIn.drew {w : World} {b L lo : Nat} {m : Int} (h : StoreIn w b L lo m) : StoreIn w.drew b L lo m := h
theorem StoreIn.dN {w : World} {b L lo : Nat} {m : Int} (h : StoreIn w b L lo m) (k : Nat) : StoreIn (w.drewN k) b L lo m := h
theorem Beside.plain {b n : Nat} {w w1 : World} (h : Beside b (w.drewN n) w1) : Beside b w w1 := ⟨h.os, h.tape, h.output, h.size, h.block⟩
set_option maxHeartbeats 4000000 in
theorem lw_Made (b L lo : Nat) (m : Int) (n most : Nat) (hm : m ≤ 900000) (hn : n ≤ 16) (hmost : most ≤ 30) (w : World) (h : StoreIn w b L lo m) :
    Calls Tryd.prog 11 #[.pointer (some ⟨b, 0, none⟩), .int .i64 (n : Int), .int .i64 (most : Int)] w (MadePost w b L lo m n most) := by
  have HL : Hid (∀ (m k : Int) w, StoreIn w b L lo m → m ≤ 1000000 → 1 ≤ k ∧ k ≤ 4294967296 → Calls Tryd.prog 16 #[.pointer (some ⟨b, 0, none⟩), .int .i64 k] w (DrawsI b L lo m w fun v => ∃ z : Int, v = .int .i64 z ∧ 0 ≤ z ∧ z < k)) := fun m k w h hm hk => less_anyI b L lo m k w hm hk h
  have HD : Hid (∀ (m k : Int) w, StoreIn w b L lo m → m ≤ 1000000 → 1 ≤ k ∧ k ≤ 4294967296 → Calls Tryd.prog 17 #[.pointer (some ⟨b, 0, none⟩), .int .i64 k] w (DrawsI b L lo m w fun v => ∃ z : Bool, v = .bool z)) := fun m k w h hm hk => seldom_anyI b L lo m k w hm hk h
  have HS := Lib.hid h
  have hpw := pow_wrap (show n < 40 by omega)
  have hpi : ((2 : Int) ^ n) = ((2 ^ n : Nat) : Int) := by simp
  have hpn : (2 ^ n : Nat) ≤ 65536 := Nat.pow_le_pow_right (by omega) hn
  have hp0 := Nat.two_pow_pos n
  have hb := h.lt
  have HLw : Hid (L ≤ w.heap.size) := h.1.2.2
  clear h
  go_enter Tryd.func11, Tryd.ntmps11
  go_wp2_with fail
  refine (HL.out m ((most : Int) + 1) _ HS.out (by omega) (by omega)).mono ?_
  rintro e w1 ⟨v, rfl, ⟨z, rfl, z0, z1⟩, hS, hB⟩
  obtain ⟨cnt, rfl⟩ : ∃ cnt : Nat, z = cnt := ⟨z.toNat, by omega⟩
  have HS1 := Lib.hid hS
  have HG1 : Hid (GrowS w b (.slice none 0 0) [] w1) := ⟨hB, hb, Mine.nil _ _⟩
  clear hS hB HS
  go_wp2_with fail
  have hLw : L ≤ w.heap.size := HLw.out
  go_loopw [7, 13] (fun vo vi wr => ∃ (v : Value) (l : List Nat), l.length ≤ cnt ∧ vo = v ∧ vi = .int .i64 (l.length : Int) ∧ (∀ x ∈ l, x < 2 ^ n) ∧ Hid (GrowS w b v l wr) ∧ Hid (StoreIn wr b L lo (m + 1 + 4 * (l.length : Int)))) (fun _ vi _ => cnt - (intOf vi).toNat)
  case atStart => exact ⟨_, [], Nat.zero_le _, rfl, rfl, fun _ h => by simp at h, HG1, by simpa using HS1⟩
  case round =>
    obtain ⟨v, l, hk, rfl, rfl, hlt, HG, HSk⟩ := hrel
    clear HG1 HS1
    by_cases hkc : l.length < cnt
    · have hpx : IntKind.i64.wrap ((2 : Int) ^ n) = ((2 ^ n : Nat) : Int) := (IntWalk.i64_left _).trans hpw
      have HXQ : Hid (∀ a c, a < 2 ^ n → c < 2 ^ n → a ^^^ c < 2 ^ n) := fun _ _ h1 h2 => Nat.xor_lt_two_pow h1 h2
      generalize 2 ^ n = q at *
      go_wp2_with fail
      (try rw [hpw])
      (try rw [hpx])
      refine (HL.out _ _ _ HSk.out (by omega) (by omega)).mono ?_
      rintro e w2 ⟨v2, rfl, ⟨z2, rfl, y0, y1⟩, hS2, hB2⟩
      obtain ⟨x, rfl⟩ : ∃ x : Nat, z2 = x := ⟨z2.toNat, by omega⟩
      have hx : x < q := by omega
      have HG2 := Lib.hid (HG.out.beside hB2)
      have HS2 := Lib.hid hS2
      clear hS2 hB2 HG HSk
      obtain ⟨pv, cv, rfl, hints⟩ := HG2.out.own.ints
      rw [casts_len] at HG2
      rw [casts_len]
      have HI2 := Lib.hid hints
      clear hints
      by_cases hl0 : l.length = 0
      · have hl1 : ¬ (0 : Int) < l.length := by omega
        clear hl0
        have HO := Lib.hid (HG2.out.al (.cells #[.int .i64 (x : Int)] 3)).own
        have HC := Lib.hid (cell1_new w2 (x : Int) 3)
        have hB4 : w.heap.size ≤ (w2.alloc (.cells #[.int .i64 (x : Int)] 3)).heap.size := by rw [World.size_alloc]; have := HG2.out.bes.size; omega
        have hL4 : (casts l).length ≤ 1000000 := by rw [casts_len]; omega
        have HB4 := Lib.hid hB4
        have HL4 := Lib.hid hL4
        clear hB4 hL4
        go_wp2_with (at_builtin; refine wpList_app rfl (.tmp 41) (.tmp 43) rfl w.heap.size _ (casts l) rfl HO.out HB4.out HL4.out w2.heap.size 1 (x : Int) rfl HC.out ?_; intro g4 cap4 w4 hm4 hg4 hat4 hlt4)
        have HG4 := Lib.hid ((HG2.out.al _).put hm4 hg4)
        have HS4 := Lib.hid ((HS2.out.below ((Below.refl L w2).alloc (Nat.le_trans hLw HG2.out.bes.size) (.cells #[.int .i64 (x : Int)] 3))).put (HG2.out.al _) hLw hg4)
        clear hm4 hg4 hat4 HO HC HB4 HL4 HG2 HS2
        rw [casts_len] at HG4
        go_wp2_with fail
        go_roundw
        case rel =>
          refine ⟨_, l ++ [x], by rw [List.length_append]; show l.length + 1 ≤ cnt; omega, by rw [casts_len], by rw [List.length_append]; show _ = Value.int .i64 ((l.length + 1 : Nat) : Int); go_num, fun y hy => ?_, HG4, Lib.hid (HS4.out.mono (by rw [List.length_append]; show _ ≤ m + 1 + 4 * ((l.length + 1 : Nat) : Int); omega))⟩
          rcases List.mem_append.1 hy with hy | hy
          · exact hlt y hy
          · rw [List.mem_singleton.1 hy]; exact hx
        case measure => simp [intOf]; omega
      · have hl1 : (0 : Int) < l.length := by omega
        go_wp2_with fail
        refine (HD.out _ 3 _ HS2.out (by omega) (by omega)).mono ?_
        rintro e w3 ⟨v3, rfl, ⟨z3, rfl⟩, hS3, hB3⟩
        have HG3 := Lib.hid (HG2.out.beside hB3)
        have HS3 := Lib.hid hS3
        obtain ⟨x0, hx0⟩ : ∃ x0, l[0]? = some x0 := ⟨_, List.getElem?_eq_getElem (by omega)⟩
        obtain ⟨g, off, rfl, _, _⟩ := HI2.out.at_ (casts_at hx0)
        clear hS3 hB3 HG2 HS2 HI2 hx0
        cases z3
        · have H0 : True := trivial
          have HO := Lib.hid (HG3.out.al (.cells #[.int .i64 (x : Int)] 3)).own
          have HC := Lib.hid (cell1_new w3 (x : Int) 3)
          have hB4 : w.heap.size ≤ (w3.alloc (.cells #[.int .i64 (x : Int)] 3)).heap.size := by rw [World.size_alloc]; have := HG3.out.bes.size; omega
          have hL4 : (casts l).length ≤ 1000000 := by rw [casts_len]; omega
          have HB4 := Lib.hid hB4
          have HL4 := Lib.hid hL4
          clear hB4 hL4
          go_wp2_with (at_builtin; refine wpList_app rfl (.tmp 41) (.tmp 43) rfl w.heap.size _ (casts l) rfl HO.out HB4.out HL4.out w3.heap.size 1 (x : Int) rfl HC.out ?_; intro g4 cap4 w4 hm4 hg4 hat4 hlt4)
          have HG4 := Lib.hid ((HG3.out.al _).put hm4 hg4)
          have HS4 := Lib.hid ((HS3.out.below ((Below.refl L w3).alloc (Nat.le_trans hLw HG3.out.bes.size) (.cells #[.int .i64 (x : Int)] 3))).put (HG3.out.al _) hLw hg4)
          clear hm4 hg4 hat4 HO HC HB4 HL4 HG3 HS3
          rw [casts_len] at HG4
          go_wp2_with fail
          go_roundw
          case rel =>
            refine ⟨_, l ++ [x], by rw [List.length_append]; show l.length + 1 ≤ cnt; omega, by rw [casts_len], by rw [List.length_append]; show _ = Value.int .i64 ((l.length + 1 : Nat) : Int); go_num, fun y hy => ?_, HG4, Lib.hid (HS4.out.mono (by rw [List.length_append]; show _ ≤ m + 1 + 4 * ((l.length + 1 : Nat) : Int); omega))⟩
            rcases List.mem_append.1 hy with hy | hy
            · exact hlt y hy
            · rw [List.mem_singleton.1 hy]; exact hx
          case measure => simp [intOf]; omega
        · go_wp2_with fail
          go_region_with (first | (go_at_call 16; (with_reducible refine (HL.out _ _ _ (by first | exact HS3.out | exact HS3.out.drew | exact HS3.out.dN _) (by omega) (by omega)).mono ?_); rintro e w4 ⟨v4, rfl, ⟨z4, rfl, a4, c4⟩, hS4, hB4⟩; obtain ⟨y4, rfl⟩ : ∃ y : Nat, z4 = y := ⟨z4.toNat, by omega⟩; obtain ⟨X4, hX4⟩ : ∃ X, l[y4]? = some X := ⟨_, List.getElem?_eq_getElem (by omega)⟩; have HG4 := Lib.hid (HG3.out.beside (by first | exact hB4 | exact hB4.undrew | exact hB4.plain)); have HS4 := Lib.hid hS4; have hc44 := HG4.out.cell hX4; clear hS4 hB4 HG3 HS3) | (go_at_call 16; (with_reducible refine (HL.out _ _ _ (by first | exact HS4.out | exact HS4.out.drew | exact HS4.out.dN _) (by omega) (by omega)).mono ?_); rintro e w5 ⟨v5, rfl, ⟨z5, rfl, a5, c5⟩, hS5, hB5⟩; obtain ⟨y5, rfl⟩ : ∃ y : Nat, z5 = y := ⟨z5.toNat, by omega⟩; obtain ⟨X5, hX5⟩ : ∃ X, l[y5]? = some X := ⟨_, List.getElem?_eq_getElem (by omega)⟩; have HG5 := Lib.hid (HG4.out.beside (by first | exact hB5 | exact hB5.undrew | exact hB5.plain)); have HS5 := Lib.hid hS5; have hc55 := HG5.out.cell hX5; have hc45 := HG5.out.cell hX4; clear hS5 hB5 HG4 HS4))
          all_goals
            have hX4q := hlt _ (List.mem_of_getElem? hX4)
            have hX5q := hlt _ (List.mem_of_getElem? hX5)
            have hxor := i64_xor_nat X4 X5 (by omega) (by omega)
            have hxq : X4 ^^^ X5 < q := HXQ.out _ _ hX4q hX5q
            simp only [hxor]
            clear hc44 hc45 hc55 hxor hX4 hX5 hX4q hX5q
            generalize X4 ^^^ X5 = xx at *
            have HO := Lib.hid (HG5.out.al (.cells #[.int .i64 (xx : Int)] 3)).own
            have HC := Lib.hid (cell1_new w5 (xx : Int) 3)
            have hB4 : w.heap.size ≤ (w5.alloc (.cells #[.int .i64 (xx : Int)] 3)).heap.size := by rw [World.size_alloc]; have := HG5.out.bes.size; omega
            have hL4 : (casts l).length ≤ 1000000 := by rw [casts_len]; omega
            have HB4 := Lib.hid hB4
            have HL4 := Lib.hid hL4
            clear hB4 hL4
            go_wp2_with (at_builtin; refine wpList_app rfl (.tmp 41) (.tmp 43) rfl w.heap.size _ (casts l) rfl HO.out HB4.out HL4.out w5.heap.size 1 (xx : Int) rfl HC.out ?_; intro g4 cap4 w4 hm4 hg4 hat4 hlt4)
            have HG4 := Lib.hid ((HG5.out.al _).put hm4 hg4)
            have HS4 := Lib.hid ((HS5.out.below ((Below.refl L w5).alloc (Nat.le_trans hLw HG5.out.bes.size) (.cells #[.int .i64 (xx : Int)] 3))).put (HG5.out.al _) hLw hg4)
            clear hm4 hg4 hat4 HO HC HB4 HL4 HG5 HS5
            rw [casts_len] at HG4
            go_wp2_with fail
            go_roundw
            case rel =>
              refine ⟨_, l ++ [xx], by rw [List.length_append]; show l.length + 1 ≤ cnt; omega, by rw [casts_len], by rw [List.length_append]; show _ = Value.int .i64 ((l.length + 1 : Nat) : Int); go_num, fun y hy => ?_, HG4, Lib.hid (HS4.out.mono (by rw [List.length_append]; show _ ≤ m + 1 + 4 * ((l.length + 1 : Nat) : Int); omega))⟩
              rcases List.mem_append.1 hy with hy | hy
              · exact hlt y hy
              · rw [List.mem_singleton.1 hy]; exact hxq
            case measure => simp [intOf]; omega
    · go_wp2_with fail
      go_ret
      exact ⟨_, l, rfl, by omega, hlt, HG.out, HSk.out.mono (by omega)⟩
end Go.Proofs.YtpnancidgobehaaDoor
