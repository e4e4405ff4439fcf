
/- The text of one term. -/
import Derived.Test.YtcdmcndjbajhlaaGreatDoorJa
import Derived.Test.YtcdmcndjbajhlaaGreatDoorShelf
import Derived.Lib.ItoaLen
import Derived.Lib.AppendIntMem
set_option linter.all false
set_option maxRecDepth 100000
namespace Go.Proofs.YtcdmcndjbajhlaaGreatDoor
open Go.RowKit Go.Shelf

theorem below_grow (w : World) (k : Nat) (os : Array Obj) : Below w.heap.size w (Sort.grow (w.drewN k) os) := by
  have h : Below w.heap.size w (w.drewN k) := below_dN (Below.refl _ _) k
  exact ⟨h.os, h.tape, h.output, by rw [Sort.size_grow]; have := h.size; omega, fun i hi => by rw [Sort.heap_grow_old _ _ (by have := h.size; omega)]; exact h.block i hi⟩
abbrev bytesOf (n : Int) : ByteArray := ⟨(Lib.itoa n).toArray⟩
def termT (n : Int) (name : ByteArray) : ByteArray := if name.toList.isEmpty = true ∨ (n ≠ 1 ∧ n ≠ -1) then bytesOf n ++ name else if n < 0 then { data := #[45] } ++ name else name

set_option maxHeartbeats 2000000 in
theorem printTerm_any (n : Int) (name : ByteArray) (w : World) (h0 : -9223372036854775808 ≤ n) (h1 : n ≤ 9223372036854775807) (hn : name.size ≤ 2) (htab : Lib.TabIs Tryz.prog w "internal/strconv.uint64pow10" .u64 Lib.pow10Tab) :
    Calls Tryz.prog 60 #[.int .i64 n, .string name] w (Gives (.string (termT n name)) w) := by
  have hlen : ¬ 9223372036854775807 < (Lib.itoa n).length + name.size := by have := Lib.itoa_length_le n h0 h1; omega
  have hlen2 : ¬ 9223372036854775807 < 1 + name.size := by omega
  have HI : Hid (∀ w', Lib.TabIs Tryz.prog w' "internal/strconv.uint64pow10" .u64 Lib.pow10Tab → Calls Tryz.prog 19 #[.int .i64 n] w' (Gives (.string (bytesOf n)) w')) := fun w' ht => by
    refine (Tryz.strconv_Itoa n h0 h1 _ ht).mono ?_
    rintro e w1 ⟨rfl, k1, os1, hg⟩
    exact ⟨rfl, hg ▸ below_grow _ _ _⟩
  cases he : name.toList.isEmpty with
  | true =>
    have ht : termT n name = bytesOf n ++ name := by unfold termT; rw [if_pos (.inl he)]
    rw [ht]
    clear ht
    go_enter Tryz.func60, Tryz.ntmps60
    go_wp2_with (go_at_call 19; (with_reducible refine (HI.out _ htab).mono ?_); rintro e w1 ⟨rfl, hb⟩)
    go_ret
    exact ⟨rfl, hb⟩
  | false =>
    by_cases hn1 : n = 1
    · subst hn1
      have ht : termT 1 name = name := by unfold termT; rw [if_neg (by simp [he]), if_neg (by omega)]
      rw [ht]
      clear ht
      go_enter Tryz.func60, Tryz.ntmps60
      go_wp2_with fail
      go_ret
      exact ⟨rfl, Below.refl _ _⟩
    · by_cases hn2 : n = -1
      · subst hn2
        have ht : termT (-1) name = { data := #[45] } ++ name := by unfold termT; rw [if_neg (by simp [he]), if_pos (by omega)]
        rw [ht]
        clear ht
        go_enter Tryz.func60, Tryz.ntmps60
        go_wp2_with fail
        go_ret
        exact ⟨rfl, Below.refl _ _⟩
      · have ht : termT n name = bytesOf n ++ name := by unfold termT; rw [if_pos (.inr ⟨hn1, hn2⟩)]
        have b1 : (n != 1) = true := by simp [hn1]
        have b2 : (n != -1) = true := by simp [hn2]
        rw [ht]
        clear ht
        go_enter Tryz.func60, Tryz.ntmps60
        go_wp2_with (go_at_call 19; (with_reducible refine (HI.out _ htab).mono ?_); rintro e w1 ⟨rfl, hb⟩)
        go_ret
        exact ⟨rfl, hb⟩

theorem termT_size (n : Int) (name : ByteArray) (h0 : -9223372036854775808 ≤ n) (h1 : n ≤ 9223372036854775807) (hn : name.size ≤ 2) : (termT n name).size ≤ 23 := by
  have h := Lib.itoa_length_le n h0 h1
  have h2 : (bytesOf n).size = (Lib.itoa n).length := by simp [ByteArray.size]
  unfold termT
  split
  · rw [ByteArray.size_append]; omega
  · split
    · rw [ByteArray.size_append]; have : ByteArray.size { data := #[45] } = 1 := rfl; omega
    · omega
def nameB : Nat → ByteArray
  | 0 => { data := #[] }
  | 1 => { data := #[119] }
  | 2 => { data := #[119, 50] }
  | _ => { data := #[119, 51] }
def coefAt (x : Nm) : Nat → Int
  | 0 => x.A
  | 1 => x.B
  | 2 => x.C
  | _ => x.D
def stepT (t : ByteArray) (n : Int) (name : ByteArray) : ByteArray :=
  if n = 0 then t else (if 0 < n ∧ t.toList.isEmpty = false then t ++ { data := #[43] } else t) ++ termT n name
def textU (x : Nm) : Nat → ByteArray
  | 0 => { data := #[] }
  | k + 1 => stepT (textU x k) (coefAt x k) (nameB k)
def termsT (x : Nm) : ByteArray := if (textU x 4).toList.isEmpty = true then { data := #[48] } else textU x 4
theorem stepT_size (t : ByteArray) (n : Int) (name : ByteArray) (h0 : -9223372036854775808 ≤ n) (h1 : n ≤ 9223372036854775807) (hn : name.size ≤ 2) : (stepT t n name).size ≤ t.size + 24 := by
  have h := termT_size n name h0 h1 hn
  have h3 : ByteArray.size { data := #[43] } = 1 := rfl
  unfold stepT
  split
  · omega
  · rw [ByteArray.size_append]
    split
    · rw [ByteArray.size_append]; omega
    · omega
theorem nameB_size (k : Nat) : (nameB k).size ≤ 2 := by
  unfold nameB; split <;> decide
theorem textU_size (x : Nm) (hx : ∀ k, -9223372036854775808 ≤ coefAt x k ∧ coefAt x k ≤ 9223372036854775807) : ∀ k, (textU x k).size ≤ 24 * k
  | 0 => by simp [textU, ByteArray.size]
  | k + 1 => by
    have h := stepT_size (textU x k) (coefAt x k) (nameB k) (hx k).1 (hx k).2 (nameB_size k)
    have := textU_size x hx k
    show (stepT (textU x k) (coefAt x k) (nameB k)).size ≤ _
    omega
/-- The four names lie in the program's variable. -/
def NamesAre (w : World) : Prop := 0 < w.heap.size ∧ w.cell? ⟨0, 0, none⟩ = some (.string (nameB 0)) ∧ w.cell? ⟨0, 1, none⟩ = some (.string (nameB 1)) ∧ w.cell? ⟨0, 2, none⟩ = some (.string (nameB 2)) ∧ w.cell? ⟨0, 3, none⟩ = some (.string (nameB 3))
theorem NamesAre.below {w w' : World} (h : NamesAre w) (hb : Below w.heap.size w w') : NamesAre w' := by
  obtain ⟨h0, h1, h2, h3, h4⟩ := h
  obtain ⟨hc, _⟩ := bcell hb
  have := hb.size
  exact ⟨by omega, (hc _ _ h0).trans h1, (hc _ _ h0).trans h2, (hc _ _ h0).trans h3, (hc _ _ h0).trans h4⟩

set_option maxHeartbeats 4000000 in
theorem printTerms_any (x : Nm) (w : World) (hx : ∀ k, -9223372036854775808 ≤ coefAt x k ∧ coefAt x k ≤ 9223372036854775807) (hN : NamesAre w) (htab : Lib.TabIs Tryz.prog w "internal/strconv.uint64pow10" .u64 Lib.pow10Tab) :
    Calls Tryz.prog 17 #[.agg #[.int .i64 x.A, .int .i64 x.B, .int .i64 x.C, .int .i64 x.D]] w (Gives (.string (termsT x)) w) := by
  have HP : Hid (∀ (n : Int) (name : ByteArray) (w' : World), -9223372036854775808 ≤ n → n ≤ 9223372036854775807 → name.size ≤ 2 → Below w.heap.size w w' → Calls Tryz.prog 60 #[.int .i64 n, .string name] w' (Gives (.string (termT n name)) w')) :=
    fun n name w' h0 h1 h2 hb => printTerm_any n name w' h0 h1 h2 (Lib.tabBelow_of_tabIs htab w' hb)
  have HS := textU_size x hx
  obtain ⟨A, B, C, D, K⟩ := x
  go_enter Tryz.func17, Tryz.ntmps17
  go_wp2_with fail
  go_loopw [3, 7] (fun t i wr => ∃ k : Nat, k ≤ 4 ∧ i = .int .i64 k ∧ t = .string (textU ⟨A, B, C, D, K⟩ k) ∧ Below w.heap.size w wr) (fun _ i _ => 4 - (intOf i).toNat)
  case atStart => exact ⟨0, by omega, rfl, rfl, (by repeat (first | with_reducible exact Below.refl _ _ | with_reducible refine below_al ?_ _ | with_reducible refine below_dN ?_ _ | with_reducible refine Below.drew ?_ | (with_reducible refine Below.setCell ?_ (by simp <;> omega) _) | (with_reducible refine below_via (by assumption) ?_)))⟩
  case round =>
    obtain ⟨k, hk, rfl, rfl, hwr⟩ := hrel
    have hNr := hN.below hwr
    obtain ⟨hw0, m0, m1, m2, m3⟩ := hNr
    dsimp only [nameB] at m0 m1 m2 m3
    have hk4 : k = 4 ∨ k = 0 ∨ k = 1 ∨ k = 2 ∨ k = 3 := by omega
    rcases hk4 with rfl | rfl | rfl | rfl | rfl
    · have hs := HS 4
      have ht : termsT ⟨A, B, C, D, K⟩ = if (textU ⟨A, B, C, D, K⟩ 4).toList.isEmpty = true then { data := #[48] } else textU ⟨A, B, C, D, K⟩ 4 := rfl
      clear hx hN HS HP
      generalize textU ⟨A, B, C, D, K⟩ 4 = tx at *
      cases he : tx.toList.isEmpty
      · rw [he, if_neg (by simp)] at ht
        have HT := Lib.hid ht
        clear ht
        go_wp2_with fail
        go_ret
        rw [HT.out]
        exact ⟨rfl, hwr⟩
      · rw [he, if_pos rfl] at ht
        have HT := Lib.hid ht
        clear ht
        go_wp2_with fail
        go_ret
        rw [HT.out]
        exact ⟨rfl, hwr⟩
    · have hs := HS 0
      have hn := hx 0
      have hix : ∀ w, (Instr.index 44 (.agg #[.int .i64 A, .int .i64 B, .int .i64 C, .int .i64 D]) (.int .i64 0)).run Tryz.prog w = .ok (.int .i64 A) w := fun _ => by kernel_rfl
      dsimp only [coefAt] at hn
      have hnext : textU ⟨A, B, C, D, K⟩ 1 = stepT (textU ⟨A, B, C, D, K⟩ 0) A (nameB 0) := rfl
      have hz2 := termT_size A (nameB 0) hn.1 hn.2 (nameB_size 0)
      generalize textU ⟨A, B, C, D, K⟩ 0 = tx at *
      have hcall := fun w' hb => HP.out A (nameB 0) w' hn.1 hn.2 (nameB_size 0) hb
      have o1 : ¬ 9223372036854775807 < tx.size + 1 := by omega
      have o2 : ¬ 9223372036854775807 < tx.size + (termT A (nameB 0)).size := by omega
      have o3 : ¬ 9223372036854775807 < tx.size + 1 + (termT A (nameB 0)).size := by omega
      dsimp only [nameB] at hcall o2 o3 hnext
      clear hx hN HS hs hz2 HP
      rcases Int.lt_trichotomy A 0 with hz | hz | hz
      · have z0 : ¬ A = 0 := by omega
        have z1 : ¬ 0 < A := by omega
        rw [stepT, if_neg z0, if_neg (by omega)] at hnext
        go_wp2_with (go_at_call 60; (with_reducible refine (hcall _ hwr).mono ?_); rintro e w1 ⟨rfl, hb⟩)
        go_roundw
        case rel => exact ⟨1, by omega, by go_num, by rw [hnext], below_via hb hwr⟩
        case measure => simp [intOf]
      · subst hz
        rw [stepT, if_pos rfl] at hnext
        go_wp2_with fail
        go_roundw
        case rel => exact ⟨1, by omega, by go_num, by rw [hnext], hwr⟩
        case measure => simp [intOf]
      · have z0 : ¬ A = 0 := by omega
        rw [stepT, if_neg z0] at hnext
        cases he : tx.toList.isEmpty
        · rw [if_pos ⟨hz, he⟩] at hnext
          go_wp2_with (go_at_call 60; (with_reducible refine (hcall _ hwr).mono ?_); rintro e w1 ⟨rfl, hb⟩)
          go_roundw
          case rel => exact ⟨1, by omega, by go_num, by rw [hnext], below_via hb hwr⟩
          case measure => simp [intOf]
        · rw [if_neg (by simp [he])] at hnext
          go_wp2_with (go_at_call 60; (with_reducible refine (hcall _ hwr).mono ?_); rintro e w1 ⟨rfl, hb⟩)
          go_roundw
          case rel => exact ⟨1, by omega, by go_num, by rw [hnext], below_via hb hwr⟩
          case measure => simp [intOf]
    · have hs := HS 1
      have hn := hx 1
      have hix : ∀ w, (Instr.index 44 (.agg #[.int .i64 A, .int .i64 B, .int .i64 C, .int .i64 D]) (.int .i64 1)).run Tryz.prog w = .ok (.int .i64 B) w := fun _ => by kernel_rfl
      dsimp only [coefAt] at hn
      have hnext : textU ⟨A, B, C, D, K⟩ 2 = stepT (textU ⟨A, B, C, D, K⟩ 1) B (nameB 1) := rfl
      have hz2 := termT_size B (nameB 1) hn.1 hn.2 (nameB_size 1)
      generalize textU ⟨A, B, C, D, K⟩ 1 = tx at *
      have hcall := fun w' hb => HP.out B (nameB 1) w' hn.1 hn.2 (nameB_size 1) hb
      have o1 : ¬ 9223372036854775807 < tx.size + 1 := by omega
      have o2 : ¬ 9223372036854775807 < tx.size + (termT B (nameB 1)).size := by omega
      have o3 : ¬ 9223372036854775807 < tx.size + 1 + (termT B (nameB 1)).size := by omega
      dsimp only [nameB] at hcall o2 o3 hnext
      clear hx hN HS hs hz2 HP
      rcases Int.lt_trichotomy B 0 with hz | hz | hz
      · have z0 : ¬ B = 0 := by omega
        have z1 : ¬ 0 < B := by omega
        rw [stepT, if_neg z0, if_neg (by omega)] at hnext
        go_wp2_with (go_at_call 60; (with_reducible refine (hcall _ hwr).mono ?_); rintro e w1 ⟨rfl, hb⟩)
        go_roundw
        case rel => exact ⟨2, by omega, by go_num, by rw [hnext], below_via hb hwr⟩
        case measure => simp [intOf]
      · subst hz
        rw [stepT, if_pos rfl] at hnext
        go_wp2_with fail
        go_roundw
        case rel => exact ⟨2, by omega, by go_num, by rw [hnext], hwr⟩
        case measure => simp [intOf]
      · have z0 : ¬ B = 0 := by omega
        rw [stepT, if_neg z0] at hnext
        cases he : tx.toList.isEmpty
        · rw [if_pos ⟨hz, he⟩] at hnext
          go_wp2_with (go_at_call 60; (with_reducible refine (hcall _ hwr).mono ?_); rintro e w1 ⟨rfl, hb⟩)
          go_roundw
          case rel => exact ⟨2, by omega, by go_num, by rw [hnext], below_via hb hwr⟩
          case measure => simp [intOf]
        · rw [if_neg (by simp [he])] at hnext
          go_wp2_with (go_at_call 60; (with_reducible refine (hcall _ hwr).mono ?_); rintro e w1 ⟨rfl, hb⟩)
          go_roundw
          case rel => exact ⟨2, by omega, by go_num, by rw [hnext], below_via hb hwr⟩
          case measure => simp [intOf]
    · have hs := HS 2
      have hn := hx 2
      have hix : ∀ w, (Instr.index 44 (.agg #[.int .i64 A, .int .i64 B, .int .i64 C, .int .i64 D]) (.int .i64 2)).run Tryz.prog w = .ok (.int .i64 C) w := fun _ => by kernel_rfl
      dsimp only [coefAt] at hn
      have hnext : textU ⟨A, B, C, D, K⟩ 3 = stepT (textU ⟨A, B, C, D, K⟩ 2) C (nameB 2) := rfl
      have hz2 := termT_size C (nameB 2) hn.1 hn.2 (nameB_size 2)
      generalize textU ⟨A, B, C, D, K⟩ 2 = tx at *
      have hcall := fun w' hb => HP.out C (nameB 2) w' hn.1 hn.2 (nameB_size 2) hb
      have o1 : ¬ 9223372036854775807 < tx.size + 1 := by omega
      have o2 : ¬ 9223372036854775807 < tx.size + (termT C (nameB 2)).size := by omega
      have o3 : ¬ 9223372036854775807 < tx.size + 1 + (termT C (nameB 2)).size := by omega
      dsimp only [nameB] at hcall o2 o3 hnext
      clear hx hN HS hs hz2 HP
      rcases Int.lt_trichotomy C 0 with hz | hz | hz
      · have z0 : ¬ C = 0 := by omega
        have z1 : ¬ 0 < C := by omega
        rw [stepT, if_neg z0, if_neg (by omega)] at hnext
        go_wp2_with (go_at_call 60; (with_reducible refine (hcall _ hwr).mono ?_); rintro e w1 ⟨rfl, hb⟩)
        go_roundw
        case rel => exact ⟨3, by omega, by go_num, by rw [hnext], below_via hb hwr⟩
        case measure => simp [intOf]
      · subst hz
        rw [stepT, if_pos rfl] at hnext
        go_wp2_with fail
        go_roundw
        case rel => exact ⟨3, by omega, by go_num, by rw [hnext], hwr⟩
        case measure => simp [intOf]
      · have z0 : ¬ C = 0 := by omega
        rw [stepT, if_neg z0] at hnext
        cases he : tx.toList.isEmpty
        · rw [if_pos ⟨hz, he⟩] at hnext
          go_wp2_with (go_at_call 60; (with_reducible refine (hcall _ hwr).mono ?_); rintro e w1 ⟨rfl, hb⟩)
          go_roundw
          case rel => exact ⟨3, by omega, by go_num, by rw [hnext], below_via hb hwr⟩
          case measure => simp [intOf]
        · rw [if_neg (by simp [he])] at hnext
          go_wp2_with (go_at_call 60; (with_reducible refine (hcall _ hwr).mono ?_); rintro e w1 ⟨rfl, hb⟩)
          go_roundw
          case rel => exact ⟨3, by omega, by go_num, by rw [hnext], below_via hb hwr⟩
          case measure => simp [intOf]
    · have hs := HS 3
      have hn := hx 3
      have hix : ∀ w, (Instr.index 44 (.agg #[.int .i64 A, .int .i64 B, .int .i64 C, .int .i64 D]) (.int .i64 3)).run Tryz.prog w = .ok (.int .i64 D) w := fun _ => by kernel_rfl
      dsimp only [coefAt] at hn
      have hnext : textU ⟨A, B, C, D, K⟩ 4 = stepT (textU ⟨A, B, C, D, K⟩ 3) D (nameB 3) := rfl
      have hz2 := termT_size D (nameB 3) hn.1 hn.2 (nameB_size 3)
      generalize textU ⟨A, B, C, D, K⟩ 3 = tx at *
      have hcall := fun w' hb => HP.out D (nameB 3) w' hn.1 hn.2 (nameB_size 3) hb
      have o1 : ¬ 9223372036854775807 < tx.size + 1 := by omega
      have o2 : ¬ 9223372036854775807 < tx.size + (termT D (nameB 3)).size := by omega
      have o3 : ¬ 9223372036854775807 < tx.size + 1 + (termT D (nameB 3)).size := by omega
      dsimp only [nameB] at hcall o2 o3 hnext
      clear hx hN HS hs hz2 HP
      rcases Int.lt_trichotomy D 0 with hz | hz | hz
      · have z0 : ¬ D = 0 := by omega
        have z1 : ¬ 0 < D := by omega
        rw [stepT, if_neg z0, if_neg (by omega)] at hnext
        go_wp2_with (go_at_call 60; (with_reducible refine (hcall _ hwr).mono ?_); rintro e w1 ⟨rfl, hb⟩)
        go_roundw
        case rel => exact ⟨4, by omega, by go_num, by rw [hnext], below_via hb hwr⟩
        case measure => simp [intOf]
      · subst hz
        rw [stepT, if_pos rfl] at hnext
        go_wp2_with fail
        go_roundw
        case rel => exact ⟨4, by omega, by go_num, by rw [hnext], hwr⟩
        case measure => simp [intOf]
      · have z0 : ¬ D = 0 := by omega
        rw [stepT, if_neg z0] at hnext
        cases he : tx.toList.isEmpty
        · rw [if_pos ⟨hz, he⟩] at hnext
          go_wp2_with (go_at_call 60; (with_reducible refine (hcall _ hwr).mono ?_); rintro e w1 ⟨rfl, hb⟩)
          go_roundw
          case rel => exact ⟨4, by omega, by go_num, by rw [hnext], below_via hb hwr⟩
          case measure => simp [intOf]
        · rw [if_neg (by simp [he])] at hnext
          go_wp2_with (go_at_call 60; (with_reducible refine (hcall _ hwr).mono ?_); rintro e w1 ⟨rfl, hb⟩)
          go_roundw
          case rel => exact ⟨4, by omega, by go_num, by rw [hnext], below_via hb hwr⟩
          case measure => simp [intOf]
end Go.Proofs.YtcdmcndjbajhlaaGreatDoor
