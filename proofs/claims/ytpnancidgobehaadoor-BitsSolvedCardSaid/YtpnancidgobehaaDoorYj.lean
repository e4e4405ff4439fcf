
/- The outright laws of bits: slices.ContainsFunc with closures; rows. Written by gen_contains.py. -/
import Derived.Test.YtpnancidgobehaaDoorYa
set_option linter.all false
set_option maxRecDepth 100000
namespace Go.Proofs.YtpnancidgobehaaDoor
open Go.RowKit
def idxF (f : Nat → Bool) : List Nat → Nat → Int
  | [], _ => -1
  | x :: l, i => if f x then i else idxF f l (i + 1)
theorem idx_any (f : Nat → Bool) : ∀ (l : List Nat) (i : Nat), decide (0 ≤ idxF f l i) = l.any f
  | [], i => by simp [idxF]
  | x :: l, i => by
    unfold idxF
    cases h : f x
    · simp [h, idx_any f l (i + 1)]
    · simp [h]
theorem idx_drop {f : Nat → Bool} {l : List Nat} {k x : Nat} (h : l[k]? = some x) : idxF f (l.drop k) k = if f x then (k : Int) else idxF f (l.drop (k + 1)) (k + 1) := by
  obtain ⟨hk, rfl⟩ := List.getElem?_eq_some_iff.1 h
  rw [List.drop_eq_getElem_cons hk]
  rfl
set_option maxHeartbeats 1000000 in
theorem idx_rows (f : Nat → Bool) (l : List Nat) (hl : l.length ≤ 1000000) (p : Option Addr) (cap bn : Nat) (w : World) (h : Ints w p (casts l))
    (hc : ∀ x ∈ l, ∀ w', Below w.heap.size w w' → Calls Tryd.prog 48 #[.int .i64 (x : Int), .pointer (some ⟨bn, 0, none⟩)] w' (Gives (.bool (f x)) w')) :
    Calls Tryd.prog 50 #[.slice p l.length cap, .func (.func 48) #[] #[.pointer (some ⟨bn, 0, none⟩)]] w (Gives (.int .i64 (idxF f l 0)) w) := by
  have HC := Lib.hid hc
  obtain ⟨R, hR⟩ : ∃ R, idxF f l 0 = R := ⟨_, rfl⟩
  rw [hR]
  have HR : Hid (R = idxF f (l.drop 0) 0) := hR.symm
  have HI := Lib.hid h
  clear hR h hc
  go_enter Tryd.func50, Tryd.ntmps50
  go_wp2_with fail
  go_loopw [8] (fun i wr => ∃ k : Nat, k ≤ l.length ∧ i = .int .i64 k ∧ Below w.heap.size w wr ∧ Hid (R = idxF f (l.drop k) k)) (fun i _ => l.length - (intOf i).toNat)
  case atStart => exact ⟨0, by omega, rfl, Below.refl _ _, HR⟩
  case round =>
    obtain ⟨k, hk, rfl, hwr, HK⟩ := hrel
    by_cases hlk : k < l.length
    · obtain ⟨x, hxk⟩ : ∃ x, l[k]? = some x := ⟨_, List.getElem?_eq_getElem hlk⟩
      obtain ⟨b, off, rfl, hb, hcx⟩ := (HI.out.below hwr).at_ (casts_at hxk)
      have HD := Lib.hid (HK.out.trans (idx_drop hxk))
      have HX := Lib.hid (List.mem_of_getElem? hxk)
      clear hxk HK
      go_wp2_with fail
      refine (HC.out x HX.out _ hwr).mono ?_
      rintro e w1 ⟨rfl, hb1⟩
      have hw1 := below_via hb1 hwr
      cases hf : f x
      · have hd := HD.out
        rw [hf, if_neg (by decide)] at hd
        have HD2 := Lib.hid hd
        clear hf HD hd
        go_wp2_with fail
        go_roundw
        case rel => exact ⟨k + 1, by omega, by go_num, hw1, HD2⟩
        case measure => simp [intOf]; omega
      · have hd := HD.out
        rw [hf, if_pos rfl] at hd
        subst hd
        clear hf HD
        go_wp2_with fail
        go_ret
        exact ⟨rfl, hw1⟩
    · have hd : R = -1 := by rw [HK.out, List.drop_eq_nil_of_le (by omega)]; rfl
      subst hd
      clear HK
      go_wp2_with fail
      go_ret
      exact ⟨rfl, hwr⟩
theorem has_rows (f : Nat → Bool) (l : List Nat) (hl : l.length ≤ 1000000) (p : Option Addr) (cap bn : Nat) (w : World) (h : Ints w p (casts l))
    (hc : ∀ x ∈ l, ∀ w', Below w.heap.size w w' → Calls Tryd.prog 48 #[.int .i64 (x : Int), .pointer (some ⟨bn, 0, none⟩)] w' (Gives (.bool (f x)) w')) :
    Calls Tryd.prog 19 #[.slice p l.length cap, .func (.func 48) #[] #[.pointer (some ⟨bn, 0, none⟩)]] w (Gives (.bool (l.any f)) w) := by
  have H1 : Hid (Calls Tryd.prog 50 #[.slice p l.length cap, .func (.func 48) #[] #[.pointer (some ⟨bn, 0, none⟩)]] w (Gives (.int .i64 (idxF f l 0)) w)) := idx_rows f l hl p cap bn w h hc
  rw [← idx_any f l 0]
  generalize idxF f l 0 = z at *
  clear h hc
  go_enter Tryd.func19, Tryd.ntmps19
  go_wp2_with fail
  refine H1.out.mono ?_
  rintro e w1 ⟨rfl, hb1⟩
  go_wp2_with fail
  go_ret
  exact ⟨rfl, hb1⟩
set_option maxHeartbeats 1000000 in
theorem idx_orth (f : Nat → Bool) (l : List Nat) (hl : l.length ≤ 1000000) (p : Option Addr) (cap bn : Nat) (w : World) (h : Ints w p (casts l))
    (hc : ∀ x ∈ l, ∀ w', Below w.heap.size w w' → Calls Tryd.prog 20 #[.int .i64 (x : Int), .pointer (some ⟨bn, 0, none⟩)] w' (Gives (.bool (f x)) w')) :
    Calls Tryd.prog 50 #[.slice p l.length cap, .func (.func 20) #[] #[.pointer (some ⟨bn, 0, none⟩)]] w (Gives (.int .i64 (idxF f l 0)) w) := by
  have HC := Lib.hid hc
  obtain ⟨R, hR⟩ : ∃ R, idxF f l 0 = R := ⟨_, rfl⟩
  rw [hR]
  have HR : Hid (R = idxF f (l.drop 0) 0) := hR.symm
  have HI := Lib.hid h
  clear hR h hc
  go_enter Tryd.func50, Tryd.ntmps50
  go_wp2_with fail
  go_loopw [8] (fun i wr => ∃ k : Nat, k ≤ l.length ∧ i = .int .i64 k ∧ Below w.heap.size w wr ∧ Hid (R = idxF f (l.drop k) k)) (fun i _ => l.length - (intOf i).toNat)
  case atStart => exact ⟨0, by omega, rfl, Below.refl _ _, HR⟩
  case round =>
    obtain ⟨k, hk, rfl, hwr, HK⟩ := hrel
    by_cases hlk : k < l.length
    · obtain ⟨x, hxk⟩ : ∃ x, l[k]? = some x := ⟨_, List.getElem?_eq_getElem hlk⟩
      obtain ⟨b, off, rfl, hb, hcx⟩ := (HI.out.below hwr).at_ (casts_at hxk)
      have HD := Lib.hid (HK.out.trans (idx_drop hxk))
      have HX := Lib.hid (List.mem_of_getElem? hxk)
      clear hxk HK
      go_wp2_with fail
      refine (HC.out x HX.out _ hwr).mono ?_
      rintro e w1 ⟨rfl, hb1⟩
      have hw1 := below_via hb1 hwr
      cases hf : f x
      · have hd := HD.out
        rw [hf, if_neg (by decide)] at hd
        have HD2 := Lib.hid hd
        clear hf HD hd
        go_wp2_with fail
        go_roundw
        case rel => exact ⟨k + 1, by omega, by go_num, hw1, HD2⟩
        case measure => simp [intOf]; omega
      · have hd := HD.out
        rw [hf, if_pos rfl] at hd
        subst hd
        clear hf HD
        go_wp2_with fail
        go_ret
        exact ⟨rfl, hw1⟩
    · have hd : R = -1 := by rw [HK.out, List.drop_eq_nil_of_le (by omega)]; rfl
      subst hd
      clear HK
      go_wp2_with fail
      go_ret
      exact ⟨rfl, hwr⟩
theorem has_orth (f : Nat → Bool) (l : List Nat) (hl : l.length ≤ 1000000) (p : Option Addr) (cap bn : Nat) (w : World) (h : Ints w p (casts l))
    (hc : ∀ x ∈ l, ∀ w', Below w.heap.size w w' → Calls Tryd.prog 20 #[.int .i64 (x : Int), .pointer (some ⟨bn, 0, none⟩)] w' (Gives (.bool (f x)) w')) :
    Calls Tryd.prog 19 #[.slice p l.length cap, .func (.func 20) #[] #[.pointer (some ⟨bn, 0, none⟩)]] w (Gives (.bool (l.any f)) w) := by
  have H1 : Hid (Calls Tryd.prog 50 #[.slice p l.length cap, .func (.func 20) #[] #[.pointer (some ⟨bn, 0, none⟩)]] w (Gives (.int .i64 (idxF f l 0)) w)) := idx_orth f l hl p cap bn w h hc
  rw [← idx_any f l 0]
  generalize idxF f l 0 = z at *
  clear h hc
  go_enter Tryd.func19, Tryd.ntmps19
  go_wp2_with fail
  refine H1.out.mono ?_
  rintro e w1 ⟨rfl, hb1⟩
  go_wp2_with fail
  go_ret
  exact ⟨rfl, hb1⟩
theorem row_in (n x : Nat) (hn : n ≤ 16) (hx : x < 2 ^ n) (bn : Nat) (w : World) (hc : w.cell? ⟨bn, 0, none⟩ = some (.int .i64 (n : Int))) :
    Calls Tryd.prog 48 #[.int .i64 (x : Int), .pointer (some ⟨bn, 0, none⟩)] w (Gives (.bool false) w) := by
  have hpw := pow_wrap (show n < 40 by omega)
  have hin : ¬ wrap64 (2 ^ n) ≤ (x : Int) := by
    rw [hpw]
    exact Int.not_le.2 (by exact_mod_cast hx)
  have h2 : decide (wrap64 (2 ^ n) ≤ (x : Int)) = false := decide_eq_false hin
  clear hpw hx
  go_enter Tryd.func48, Tryd.ntmps48
  have h3 : decide ((x : Int) < 0) = false := decide_eq_false (by omega)
  go_wp2_with fail

  go_ret
  exact ⟨rfl, Below.refl _ _⟩
theorem lw_rows (l : List Nat) (n : Nat) (hn : n ≤ 16) (hl : l.length ≤ 1000000) (hx : ∀ x ∈ l, x < 2 ^ n) (p : Option Addr) (cap : Nat) (w : World) (h : Ints w p (casts l)) :
    Calls Tryd.prog 14 #[.slice p l.length cap, .int .i64 (n : Int)] w (Gives (.bool true) w) := by
  have H1 : Hid (∀ w' bn, Below w.heap.size w w' → w'.cell? ⟨bn, 0, none⟩ = some (.int .i64 (n : Int)) → bn < w'.heap.size → Calls Tryd.prog 19 #[.slice p l.length cap, .func (.func 48) #[] #[.pointer (some ⟨bn, 0, none⟩)]] w' (Gives (.bool false) w')) := fun w' bn hb hc hlt => by
    have := has_rows (fun _ => false) l hl p cap bn w' (h.below hb) (fun x hxl w'' hb2 => row_in n x hn (hx x hxl) bn w'' (by rw [(bcell hb2).1 _ _ hlt]; exact hc))
    rw [show l.any (fun _ => false) = false by simp] at this
    exact this
  clear h hx
  go_enter Tryd.func14, Tryd.ntmps14
  go_wp2_with fail
  have hb0 : Below w.heap.size w (w.alloc (Obj.cells #[Value.int IntKind.i64 (n : Int)] 3)) := (Below.refl _ w).alloc (Nat.le_refl _) _
  refine (H1.out _ _ hb0 (cell1_new w (n : Int) 3) (by rw [World.size_alloc]; omega)).mono ?_
  rintro e w1 ⟨rfl, hb1⟩
  have hb2 := below_via hb1 hb0
  clear hb1 hb0
  go_wp2_with fail
  go_ret
  exact ⟨rfl, hb2⟩
end Go.Proofs.YtpnancidgobehaaDoor
