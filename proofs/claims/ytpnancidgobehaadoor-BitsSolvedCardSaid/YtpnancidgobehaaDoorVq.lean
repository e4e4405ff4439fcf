
/- Rows of bits: inverses. -/
import Derived.Test.YtpnancidgobehaaDoorZk
set_option linter.all false
set_option maxRecDepth 100000
namespace Go.Proofs.YtpnancidgobehaaDoor
open Go.RowKit

def InvertM (xs : List Int) (n : Int) : List Nat × Int := if checkM xs n = 0 then (if (xs.length : Int) = n then (if (spanned (nats xs)).rel = [] then ((List.range n.toNat).map fun k => (rowAt (spanned (nats xs)).at_ k).of, 0) else ([], 6)) else ([], 7)) else ([], checkM xs n)
set_option maxHeartbeats 4000000 in
theorem bt_Invert (xs : List Int) (n : Int) (p : Option Addr) (cap : Nat) (w : World) (h : Ints w p xs) (hm : xs.length ≤ 9223372036854775807) :
    Calls Tryd.prog 34 #[.slice p xs.length cap, .int .i64 n] w (ListE (InvertM xs n).1 (InvertM xs n).2 w) := by
  have H1 : Hid (Calls Tryd.prog 44 #[.slice p xs.length cap, .int .i64 n] w (Gives (.int .i64 (checkM xs n)) w)) := bt_Check xs n p cap w h hm
  unfold InvertM
  by_cases hc : checkM xs n = 0
  · have R := right_of hc
    rw [if_pos hc]
    rw [hc] at H1
    by_cases hl : (xs.length : Int) = n
    · rw [if_pos hl]
      have HS : Hid (∀ w', Below w.heap.size w w' → Calls Tryd.prog 46 #[.slice p xs.length cap] w' (Spans (nats xs) w')) := fun w' hb => by
        have := bt_spanned (nats xs) R.r24 (by have := R.len; omega) p cap w' (by have := h.below hb; rwa [R.hx] at this)
        rwa [nats_len] at this
      have h16 := R.h16
      have hnn := R.hn
      have hrl : (spanned (nats xs)).rel.length ≤ 1000 := by
        have := (spanned_ok R.r24 (by have := R.len; omega)).2.1
        have := R.len
        omega
      unfold Spans at HS
      by_cases hr : (spanned (nats xs)).rel = []
      · rw [if_pos hr]
        rw [hr] at HS
        generalize (spanned (nats xs)).at_ = A at *
        subst hl
        rw [show ((xs.length : Int)).toNat = xs.length by omega]
        obtain ⟨m, hxl⟩ : ∃ m, xs.length = m := ⟨_, rfl⟩
        rw [hxl] at H1 HS h16 ⊢
        obtain ⟨RR, hR⟩ : ∃ RR, ((List.range m).map fun k => (rowAt A k).of) = RR := ⟨_, rfl⟩
        unfold ListE
        rw [hR]
        have HR := Lib.hid hR
        have hm16 : m ≤ 16 := by omega
        clear hc hr R h hm hR hrl hnn hxl
        go_enter Tryd.func34, Tryd.ntmps34
        go_wp2_with fail
        refine H1.out.mono ?_
        rintro e w1 ⟨rfl, hb1⟩
        go_wp2_with fail
        refine (HS.out _ hb1).mono ?_
        rintro e w2 ⟨rv, rfl, h1, h2, hb2⟩
        obtain ⟨pr, cr, rfl, hi⟩ := h2.ints
        rw [show (casts ([] : List Nat)).length = 0 from rfl] at h1
        have c48 := h1.rel
        have hsz1 := hb1.size
        have hlt1 := h1.lt
        have hb12 := below_via hb2 hb1
        have HS2 := Lib.hid h1
        have HG0 : Hid (Grow w2 (.slice none 0 0) [] w2) := Grow.start w2
        clear h1 h2 hi hb1
        go_wp2_with fail
        go_loopw [8, 29] (fun v i wr => ∃ k : Nat, k ≤ m ∧ i = .int .i64 k ∧ Hid (Grow w2 v ((List.range k).map fun k => (rowAt A k).of) wr)) (fun _ i _ => m - (intOf i).toNat)
        case atStart => exact ⟨0, by omega, rfl, HG0⟩
        case round =>
          obtain ⟨k, hk, rfl, HG⟩ := hrel
          have hol : ((List.range k).map fun k => (rowAt A k).of).length = k := by simp
          by_cases hlt : k < m
          · obtain ⟨c0, c1⟩ := (HS2.out.below HG.out.bel hlt1).row (show k < 24 by omega)
            have hki : (k : Int) < 24 := by omega
            have hnx : ((List.range (k + 1)).map fun k => (rowAt A k).of) = ((List.range k).map fun k => (rowAt A k).of) ++ [(rowAt A k).of] := by rw [List.range_succ, List.map_append]; rfl
            have HNX := Lib.hid hnx
            have hsz := HG.out.bel.size
            generalize (List.range k).map (fun k => (rowAt A k).of) = out at *
            generalize (rowAt A k).of = y at *
            clear hnx c0
            have HO := Lib.hid ((HG.out.own).al (.cells #[.int .i64 (y : Int)] 3))
            have HC1 := Lib.hid (cell1_new wr (y : Int) 3)
            have hB : w2.heap.size ≤ (wr.alloc (.cells #[.int .i64 (y : Int)] 3)).heap.size := by rw [World.size_alloc]; omega
            have hL : (casts out).length ≤ 1000000 := by rw [casts_len]; omega
            have HB := Lib.hid hB
            have HL := Lib.hid hL
            clear hB hL
            go_wp2_with (at_builtin; refine wpList_app rfl (.tmp 32) (.tmp 41) rfl (w2.heap.size) _ (casts out) rfl HO.out HB.out HL.out wr.heap.size 1 (y : Int) rfl HC1.out ?_; intro g4 cap4 w4 hm4 hg4 hat4 hlt4)
            have HG4 := (HG.out.al _).put hm4 hg4
            rw [← HNX.out] at HG4
            have HG5 := Lib.hid HG4
            clear hm4 hg4 hat4 HG HO HC1 HB HL HNX HG4
            go_wp2_with fail
            go_roundw
            case rel => exact ⟨k + 1, by omega, by go_num, HG5⟩
            case measure => simp [intOf]; omega
          · obtain rfl : k = m := by omega
            have hG := HG.out
            rw [HR.out] at hG
            clear HG
            go_wp2_with fail
            go_ret2
            exact ⟨_, rfl, below_via hG.bel hb12, hG.own.low hb12.size⟩
      · rw [if_neg hr]
        have hpos : (0 : Int) < (spanned (nats xs)).rel.length := by
          have := List.length_pos_iff.2 hr
          omega
        generalize (spanned (nats xs)).rel = rel at *
        clear hc hr R h hm hnn
        subst hl
        generalize xs.length = m at *
        have hmm : (m != m) = false := by simp
        go_enter Tryd.func34, Tryd.ntmps34
        go_wp2_with fail
        refine H1.out.mono ?_
        rintro e w1 ⟨rfl, hb1⟩
        go_wp2_with fail
        refine (HS.out _ hb1).mono ?_
        rintro e w2 ⟨rv, rfl, h1, h2, hb2⟩
        obtain ⟨pr, cr, rfl, hi⟩ := h2.ints
        have c48 := h1.rel
        rw [casts_len] at c48
        generalize rel.length = rl at *
        clear h1 h2 hi HS H1 hrl
        go_wp2_with fail
        go_ret2
        exact ListE.error _ (below_via hb2 hb1)
    · rw [if_neg hl]
      have hne : ((xs.length : Int) != n) = true := bne_iff_ne.2 hl
      clear hc R h hm hl
      go_enter Tryd.func34, Tryd.ntmps34
      go_wp2_with fail
      refine H1.out.mono ?_
      rintro e w1 ⟨rfl, hb1⟩
      go_wp2_with fail
      go_ret2
      exact ListE.error _ hb1
  · rw [if_neg hc]
    have hne : (checkM xs n != 0) = true := bne_iff_ne.2 hc
    generalize checkM xs n = q1 at *
    clear hc h hm
    go_enter Tryd.func34, Tryd.ntmps34
    go_wp2_with fail
    refine H1.out.mono ?_
    rintro e w1 ⟨rfl, hb1⟩
    go_wp2_with fail
    go_ret2
    exact ListE.error _ hb1
end Go.Proofs.YtpnancidgobehaaDoor
