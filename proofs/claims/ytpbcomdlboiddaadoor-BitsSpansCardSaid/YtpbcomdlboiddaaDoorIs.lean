
/- The reference of bits: Free. -/
import Derived.Test.YtpbcomdlboiddaaDoorGi
import Derived.Test.YtpbcomdlboiddaaDoorIr
set_option linter.all false
set_option maxRecDepth 100000
namespace Go.Proofs.YtpbcomdlboiddaaDoor
open Go.RowKit

/-- No row has its lead at the column. -/
def noneL (R : List Nat) (c : Nat) : Bool := R.all fun r => decide (r.log2 ≠ c)
theorem noneL_lead (R : List Nat) (c : Nat) : (!(leadsM R).testBit c) = noneL R c := by
  rw [leads_bit]
  unfold noneL
  induction R with
  | nil => rfl
  | cons r R ih => rw [List.any_cons, List.all_cons, Bool.not_or, ih]; by_cases h : r.log2 = c <;> simp [h]
theorem noneL_next {R : List Nat} {k r : Nat} (h : R[k]? = some r) (c : Nat) : noneL (R.take (k + 1)) c = (noneL (R.take k) c && decide (r.log2 ≠ c)) := by
  obtain ⟨hk, rfl⟩ := List.getElem?_eq_some_iff.1 h
  unfold noneL
  rw [List.take_succ_eq_append_getElem hk, List.all_append, List.all_cons, List.all_nil, Bool.and_true]
def goN (R : List Nat) (k : Nat) : List Nat := (List.range k).filter (noneL R)
theorem goN_next (R : List Nat) (k : Nat) : goN R (k + 1) = if noneL R k then goN R k ++ [k] else goN R k := by
  unfold goN
  rw [List.range_succ, List.filter_append]
  by_cases h : noneL R k = true <;> simp [h]
theorem goN_len (R : List Nat) (k : Nat) : (goN R k).length ≤ k := by
  unfold goN
  exact Nat.le_trans (List.length_filter_le _ _) (by simp)
set_option maxHeartbeats 4000000 in
theorem rf_Free (xs : List Int) (n : Int) (p : Option Addr) (cap : Nat) (w : World) (h : Ints w p xs) (hp : p = none → cap = 0) (hm : xs.length ≤ 9223372036854775807) :
    Calls Tryd.prog 21 #[.slice p xs.length cap, .int .i64 n] w (ListE (FreeM xs n) (checkM xs n) w) := by
  have H1 : Hid (Calls Tryd.prog 28 #[.slice p xs.length cap, .int .i64 n] w (Gives (.int .i64 (checkM xs n)) w)) := rf_Check xs n p cap w h hm
  unfold FreeM
  by_cases hc : checkM xs n = 0
  · have R := right_of hc
    rw [if_pos hc]
    rw [hc] at H1 ⊢
    obtain ⟨m, rfl⟩ : ∃ m : Nat, n = m := ⟨n.toNat, by have := R.hn; omega⟩
    have h16 := R.h16
    have hlt := R.lt
    have hll := R.len
    rw [Int.toNat_natCast] at h16 hlt ⊢
    have hx24 : ∀ x ∈ nats xs, x < R24 := red24 (by omega) hlt
    obtain ⟨r1, r2⟩ := redR_spec hlt
    have hRt : ∀ r ∈ redR (nats xs) m, r ≠ 0 ∧ r < R24 := fun r hr => ⟨r1.nz r hr, red24 (by omega) (span_lt hlt r2) r hr⟩
    have hRl : (redR (nats xs) m).length ≤ 24 := by rw [← reduced_eq (by omega) hlt (by omega)]; exact reducedM_len (spanned_ok hx24 (by omega)).1
    rw [free_same (by omega) hlt hll]
    simp only [noneL_lead]
    show Calls _ _ _ _ (ListE (goN (redR (nats xs) m) m) 0 w)
    have HR : Hid (∀ w', Below w.heap.size w w' → Calls Tryd.prog 70 #[.slice p xs.length cap, .int .i64 (m : Int)] w' (Lists (redR (nats xs) m) w')) := fun w' hb => by
      have := rf_Reduced (nats xs) (by omega) (fun x hx => Nat.lt_of_lt_of_le (hx24 x hx) (by decide)) m (by omega) p cap w' (by have := h.below hb; rwa [R.hx] at this) hp
      rwa [nats_len] at this
    generalize redR (nats xs) m = RR at *
    have HRt := Lib.hid hRt
    clear hRt r1 r2 hx24 hll hlt R hc h hm hp
    have HG0 : Hid (Grow w (.slice none 0 0) (goN RR 0) w) := ⟨Below.refl _ _, Mine.nil _ _⟩
    go_enter Tryd.func21, Tryd.ntmps21
    go_wp2_with fail
    with_reducible refine H1.out.mono ?_
    rintro e w1 ⟨rfl, hb1⟩
    have HG1 := Lib.hid (HG0.out.call hb1)
    clear HG0 hb1
    go_wp2_with fail
    go_loopw [7, 8] (fun vo vi wr => ∃ (k : Nat) (v : Value), k ≤ m ∧ vo = v ∧ vi = .int .i64 k ∧ Hid (Grow w v (goN RR k) wr)) (fun _ vi _ => m - (intOf vi).toNat)
    case atStart => exact ⟨0, _, by omega, rfl, rfl, HG1.out⟩
    case round =>
      obtain ⟨k, v, hk, hvo, rfl, HG⟩ := hrel
      have hvo2 := hvo.symm
      clear hvo
      subst hvo2
      clear HG1
      by_cases hlk : k < m
      · have HN := Lib.hid (goN_next RR k)
        have HOl := Lib.hid (goN_len RR k)
        generalize goN RR k = O at *
        go_wp2_with fail
        with_reducible refine (HR.out _ HG.out.bel).mono ?_
        rintro e w3 ⟨v3, rfl, hg3⟩
        obtain ⟨p3, c3, rfl, hi3⟩ := hg3.own.ints
        rw [casts_len]
        have HG3 := Lib.hid (HG.out.call hg3.bel)
        have HI3 : Hid (Ints w3 p3 (casts RR)) := hi3
        clear hg3 hi3 HG
        go_wp2_with fail
        go_loopw [9, 27] (fun vz vj wr => ∃ (j : Nat) (z : Bool), j ≤ RR.length ∧ vz = .bool z ∧ vj = .int .i64 j ∧ Hid (noneL (RR.take j) k = z) ∧ Hid (Grow w v O wr) ∧ Hid (Ints wr p3 (casts RR))) (fun _ vj _ => RR.length - (intOf vj).toNat)
        case atStart => exact ⟨0, true, by omega, rfl, rfl, Lib.hid rfl, HG3, HI3⟩
        case round =>
          obtain ⟨j, z, hj, rfl, rfl, HZ, HGj, HIj⟩ := hrel
          clear HG3 HI3
          by_cases hlj : j < RR.length
          · obtain ⟨r, hrj⟩ : ∃ r, RR[j]? = some r := ⟨_, List.getElem?_eq_getElem hlj⟩
            obtain ⟨b4, off, rfl, hb4, hcx⟩ := HIj.out.at_ (casts_at hrj)
            obtain ⟨hr0, hr24⟩ := HRt.out r (List.mem_of_getElem? hrj)
            have HL := Lib.hid (fun w' => rf_Lead_of r hr0 hr24 w')
            have hnx := noneL_next hrj k
            rw [HZ.out] at hnx
            clear hrj hr0 hr24 HZ
            generalize r.log2 = lg at *
            cases z
            · rw [Bool.false_and] at hnx
              have HNX := Lib.hid hnx
              clear hnx
              go_wp2_with fail
              go_roundw
              case rel => exact ⟨j + 1, false, by omega, rfl, by go_num, HNX, HGj, HIj⟩
              case measure => simp [intOf]; omega
            · by_cases hlg : lg = k
              · have he : ((lg : Int) != (k : Int)) = false := by simp [hlg]
                rw [decide_eq_false (fun h => h hlg), Bool.and_false] at hnx
                have HNX := Lib.hid hnx
                clear hnx hlg
                go_wp2_with fail
                with_reducible refine (HL.out _).mono ?_
                rintro e w5 ⟨rfl, hb5⟩
                have HG5 := Lib.hid (HGj.out.call hb5)
                have HI5 : Hid (Ints w5 (some ⟨b4, off, none⟩) (casts RR)) := HIj.out.below hb5
                clear hb5 HGj HIj
                go_wp2_with fail
                go_roundw
                case rel => exact ⟨j + 1, false, by omega, rfl, by go_num, HNX, HG5, HI5⟩
                case measure => simp [intOf]; omega
              · have he : ((lg : Int) != (k : Int)) = true := by rw [bne_iff_ne]; omega
                rw [decide_eq_true hlg, Bool.and_true] at hnx
                have HNX := Lib.hid hnx
                clear hnx
                go_wp2_with fail
                with_reducible refine (HL.out _).mono ?_
                rintro e w5 ⟨rfl, hb5⟩
                have HG5 := Lib.hid (HGj.out.call hb5)
                have HI5 : Hid (Ints w5 (some ⟨b4, off, none⟩) (casts RR)) := HIj.out.below hb5
                clear hb5 HGj HIj
                go_wp2_with fail
                go_roundw
                case rel => exact ⟨j + 1, true, by omega, rfl, by go_num, HNX, HG5, HI5⟩
                case measure => simp [intOf]; omega
          · obtain rfl : j = RR.length := by omega
            have hz := HZ.out
            rw [List.take_length] at hz
            clear HZ HIj
            cases z
            · have HN2 : Hid (goN RR (k + 1) = O) := by rw [HN.out, hz]; rfl
              have HG6 : Hid (Grow w v (goN RR (k + 1)) wr) := by rw [HN2.out]; exact HGj.out
              clear hz HN HN2 HGj
              go_wp2_with fail
              go_roundw
              case rel => exact ⟨k + 1, v, by omega, rfl, by go_num, HG6⟩
              case measure => simp [intOf]; omega
            · have HN2 : Hid (goN RR (k + 1) = O ++ [k]) := by rw [HN.out, hz]; rfl
              clear hz HN
              have HO5 := Lib.hid (HGj.out.own.al (.cells #[.int .i64 (k : Int)] 3))
              have HC1 := Lib.hid (cell1_new wr (k : Int) 3)
              have hBB : w.heap.size ≤ (wr.alloc (.cells #[.int .i64 (k : Int)] 3)).heap.size := by rw [World.size_alloc]; have := HGj.out.bel.size; omega
              have hLL : (casts O).length ≤ 1000000 := by rw [casts_len]; have := HOl.out; omega
              have HBB := Lib.hid hBB
              have HLL := Lib.hid hLL
              have HG5 := Lib.hid HGj.out
              clear hBB hLL HGj
              go_wp2_with (at_builtin; refine wpList_app rfl (.tmp 40) (.tmp 42) rfl w.heap.size _ (casts O) rfl HO5.out HBB.out HLL.out wr.heap.size 1 (k : Int) rfl HC1.out ?_; intro g4 cap4 w4 hm4 hg4 hat4 hlt4)
              have HG6 := Lib.hid ((HG5.out.al _).put hm4 hg4)
              rw [← HN2.out] at HG6
              clear hm4 hg4 hat4 HO5 HBB HLL HG5 HC1 HN2
              go_wp2_with fail
              go_roundw
              case rel => exact ⟨k + 1, _, by omega, rfl, by go_num, HG6⟩
              case measure => simp [intOf]; omega
      · obtain rfl : k = m := by omega
        go_wp2_with fail
        go_ret2
        exact ⟨_, rfl, HG.out.bel, HG.out.own⟩
  · rw [if_neg hc]
    have hne : (checkM xs n != 0) = true := bne_iff_ne.2 hc
    generalize checkM xs n = q at *
    clear hc h hm hp
    go_enter Tryd.func21, Tryd.ntmps21
    go_wp2_with fail
    with_reducible refine H1.out.mono ?_
    rintro e w1 ⟨rfl, hb1⟩
    go_wp2_with fail
    go_ret2
    exact ListE.error _ hb1
end Go.Proofs.YtpbcomdlboiddaaDoor
