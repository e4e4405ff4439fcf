
/- The outright laws of bits: slices.Concat. -/
import Derived.Test.YtpnancidgobehaaDoorYk
set_option linter.all false
set_option maxRecDepth 100000
namespace Go.Proofs.YtpnancidgobehaaDoor
open Go.RowKit
theorem nsc (n : Nat) : Builtin.nextslicecap n 0 = n := by
  unfold Builtin.nextslicecap
  by_cases h : n = 0
  · subst h; decide
  · simp; omega
theorem gr_bytes : Tryd.t3.bytes = 8 := by kernel_rfl
set_option maxHeartbeats 1000000 in
theorem lw_Grow (n : Nat) (hn : n ≤ 100) (w : World) : Calls Tryd.prog 64 #[.slice none 0 0, .int .i64 (n : Int)] w (fun e w' => ∃ v, e = .returned v ∧ Grow w v [] w') := by
  have h0 : ¬ (n : Int) < 0 := by omega
  by_cases hn0 : n = 0
  · subst hn0
    go_enter Tryd.func64, Tryd.ntmps64
    go_wp2_with fail
    go_ret
    exact ⟨_, rfl, Below.refl _ _, Mine.nil _ _⟩
  · have h1 := nsc n
    have h2 := gr_bytes
    have h3 : ¬ 281474976710656 < n * 8 := by omega
    have h4 : (n : Int) * 8 ≤ 281474976710656 := by omega
    have h5 : (n : Int) ≤ 9223372036854775807 := by omega
    go_enter Tryd.func64, Tryd.ntmps64
    go_wp2_with fail
    have c1 : n ≤ (Question.appendCap n 0 3).cut (w.tape w.drawn (Question.appendCap n 0 3)) := grownCap_ge w n 0 3
    have c2 : (Question.appendCap n 0 3).cut (w.tape w.drawn (Question.appendCap n 0 3)) ≤ maxLen := grownCap_le_maxLen w n 0 3 (by unfold maxLen; omega)
    generalize (Question.appendCap n 0 3).cut (w.tape w.drawn (Question.appendCap n 0 3)) = cap at *
    go_ret
    refine ⟨_, rfl, ((Below.refl _ w).alloc (Nat.le_refl _) _).drew, rfl, .inr ⟨_, cap, _, rfl, Nat.le_refl _, heap_alloc_new w _, Nat.zero_le _, c2, ?_, List.take_zero⟩⟩
    rw [Array.size_append, size_zeroCells, size_zeroCells]
    show n * 1 + (cap - n) * 1 = cap * 1
    omega
set_option maxHeartbeats 1000000 in
theorem lw_Concat (l m : List Nat) (u v : Value) (B : Nat) (k : Nat) (hl : l.length ≤ 24) (hm : m.length ≤ 24) (w : World) (hu : Mine w B u (casts l)) (hv : Mine w B v (casts m)) (hk : k < w.heap.size) (h0 : w.cell? ⟨k, 0, none⟩ = some u) (h1 : w.cell? ⟨k, 1, none⟩ = some v) :
    Calls Tryd.prog 37 #[.slice (some ⟨k, 0, none⟩) 2 2] w (fun e w' => ∃ v, e = .returned v ∧ Grow w v (l ++ m) w') := by
  have HG : Hid (∀ n : Nat, n ≤ 100 → ∀ w, Calls Tryd.prog 64 #[.slice none 0 0, .int .i64 (n : Int)] w (fun e w' => ∃ v, e = .returned v ∧ Grow w v [] w')) := fun n hn w => lw_Grow n hn w
  go_enter Tryd.func37, Tryd.ntmps37
  obtain ⟨p, ca, rfl⟩ := hu.slice
  obtain ⟨q, cb, rfl⟩ := hv.slice
  rw [casts_len] at hu hv h0 h1
  have HU := Lib.hid hu
  have HV := Lib.hid hv
  have HK : Hid (∀ wr, Below w.heap.size w wr → wr.cell? ⟨k, 0, none⟩ = some (.slice p l.length ca) ∧ wr.cell? ⟨k, 1, none⟩ = some (.slice q m.length cb)) := fun wr hb => ⟨by rw [(bcell hb).1 _ _ hk]; exact h0, by rw [(bcell hb).1 _ _ hk]; exact h1⟩
  clear hu hv h0 h1
  go_wp2_with fail
  go_loopw [3, 11] (fun vs vi wr => ∃ j s : Nat, j ≤ 2 ∧ vi = .int .i64 j ∧ vs = .int .i64 s ∧ (j = 0 ∧ s = 0 ∨ j = 1 ∧ s = l.length ∨ j = 2 ∧ s = l.length + m.length) ∧ wr = w) (fun _ vi _ => 2 - (intOf vi).toNat)
  case atStart => exact ⟨0, 0, by omega, rfl, rfl, .inl ⟨rfl, rfl⟩, rfl⟩
  case round =>
    obtain ⟨j, s, hj, rfl, rfl, hjs, hww⟩ := hrel
    subst wr
    obtain ⟨k0, k1⟩ := HK.out _ (Below.refl _ _)
    rcases hjs with ⟨rfl, rfl⟩ | ⟨rfl, rfl⟩ | ⟨rfl, rfl⟩
    · go_wp2_with fail
      go_roundw
      case rel => exact ⟨1, l.length, by omega, by go_num, by go_num, .inr (.inl ⟨rfl, rfl⟩), by first | rfl | trivial⟩
      case measure => simp [intOf]
    · have hs : ¬ ((l.length : Int) + m.length) < 0 := by omega
      go_wp2_with fail
      go_roundw
      case rel => exact ⟨2, l.length + m.length, by omega, by go_num, by go_num, .inr (.inr ⟨rfl, rfl⟩), by first | rfl | trivial⟩
      case measure => simp [intOf]
    · have hg := HG.out (l.length + m.length) (by omega) w
      rw [Int.natCast_add] at hg
      have HGG := Lib.hid hg
      clear hg HG
      go_wp2_with fail
      refine HGG.out.mono ?_
      rintro e w2 ⟨v0, rfl, hgr⟩
      have HR := Lib.hid hgr
      clear hgr HGG k0 k1
      go_wp2_with fail
      go_loopw [6, 27] (fun vs vi wx => ∃ (j : Nat) (v3 : Value) (o : List Nat), j ≤ 2 ∧ vi = .int .i64 j ∧ vs = v3 ∧ Hid (Grow w v3 o wx) ∧ (j = 0 ∧ o = [] ∨ j = 1 ∧ o = l ∨ j = 2 ∧ o = l ++ m)) (fun _ vi _ => 2 - (intOf vi).toNat)
      case atStart => exact ⟨0, _, [], by omega, rfl, rfl, HR, .inl ⟨rfl, rfl⟩⟩
      case round =>
        obtain ⟨j, v3, o, hj, rfl, rfl, HG4, hjs⟩ := hrel
        have hg4 := HG4.out
        clear HR HG4
        rcases hjs with ⟨rfl, ho⟩ | ⟨rfl, ho⟩ | ⟨rfl, ho⟩ <;> rw [ho] at hg4
        · have HO := Lib.hid hg4.own
          have HZ := Lib.hid hg4.bel.size
          have hL : (casts ([])).length + (casts l).length ≤ 1000000 := by simp only [casts_len, List.length_nil]; omega
          have HL := Lib.hid hL
          have HS := Lib.hid (HU.out.call hg4.bel)
          obtain ⟨k0, k1⟩ := HK.out _ hg4.bel
          go_wp2_with (at_builtin; refine wpList_appMany rfl (.tmp 31) (.tmp 32) rfl w.heap.size _ (casts ([])) rfl HO.out HZ.out HL.out (.slice p l.length ca) rfl _ HS.out ?_; intro v5 w5 hm5 hg5)
          have hb5 := below_grown hg4.bel hg4.own hg5 (Nat.le_refl _) hg4.bel.size
          rw [← casts_append] at hm5
          clear HO HZ HL HS k0 k1 hL
          go_wp2_with fail
          go_roundw
          case rel => exact ⟨1, v5, l, by omega, by go_num, rfl, Lib.hid ⟨hb5, hm5⟩, .inr (.inl ⟨rfl, rfl⟩)⟩
          case measure => simp [intOf]
        · have HO := Lib.hid hg4.own
          have HZ := Lib.hid hg4.bel.size
          have hL : (casts l).length + (casts m).length ≤ 1000000 := by simp only [casts_len, List.length_nil]; omega
          have HL := Lib.hid hL
          have HS := Lib.hid (HV.out.call hg4.bel)
          obtain ⟨k0, k1⟩ := HK.out _ hg4.bel
          go_wp2_with (at_builtin; refine wpList_appMany rfl (.tmp 31) (.tmp 32) rfl w.heap.size _ (casts l) rfl HO.out HZ.out HL.out (.slice q m.length cb) rfl _ HS.out ?_; intro v5 w5 hm5 hg5)
          have hb5 := below_grown hg4.bel hg4.own hg5 (Nat.le_refl _) hg4.bel.size
          rw [← casts_append] at hm5
          clear HO HZ HL HS k0 k1 hL
          go_wp2_with fail
          go_roundw
          case rel => exact ⟨2, v5, l ++ m, by omega, by go_num, rfl, Lib.hid ⟨hb5, hm5⟩, .inr (.inr ⟨rfl, rfl⟩)⟩
          case measure => simp [intOf]
        · go_wp2_with fail
          go_ret
          exact ⟨_, rfl, hg4⟩
end Go.Proofs.YtpnancidgobehaaDoor
