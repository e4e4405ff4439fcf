
/- The reference of bits: which rows give a row, solutions, members, same spans, what two spans have in common. -/
import Derived.Test.YtpbcomdlboiddaaDoorGg
set_option linter.all false
set_option maxRecDepth 100000
namespace Go.Proofs.YtpbcomdlboiddaaDoor
open Go.RowKit

def solP : Option Nat → Nat × Bool
  | some y => (y, true)
  | none => (0, false)
def solE : Option Nat → Nat × Int
  | some y => (y, 0)
  | none => (0, 6)
theorem which_solP {l : List Nat} {n x : Nat} (hl : ∀ x ∈ l, x < 2 ^ n) (hll : l.length ≤ 24) (hn : n ≤ 24) (hx : x < 2 ^ n) : madeM (spanned l).at_ x = solP (solR (transposedM l n) l.length x) := by
  have := which_same hl hll hn hx
  generalize solR (transposedM l n) l.length x = S at *
  cases S <;> exact this
theorem sol_solP {l : List Nat} {n b : Nat} (hl : ∀ x ∈ l, x < 2 ^ n) (hll : l.length ≤ 24) (hn : n ≤ 40) (hb : b < 2 ^ l.length) : madeM (spanned (transposedM l n)).at_ b = solP (solR l n b) := by
  have := sol_same hl hll hn hb
  generalize solR l n b = S at *
  cases S <;> exact this
theorem leastM_sol {l : List Nat} {row : Nat} {S : Option Nat} (h : madeM (spanned l).at_ row = solP S) : leastM l row = solE S := by
  unfold leastM
  rw [h]
  cases S with
  | none => exact if_neg (by decide)
  | some y => exact if_pos rfl
section
variable (xs : List Int) (n row : Int) (p : Option Addr) (cap : Nat) (w : World) (h : Ints w p xs) (hp : p = none → cap = 0) (hm : xs.length ≤ 9223372036854775807)
include h hp hm
set_option maxHeartbeats 2000000 in
theorem rf_Which : Calls Tryd.prog 33 #[.slice p xs.length cap, .int .i64 n, .int .i64 row] w (Gives (.tuple #[.int .i64 ((WhichM xs n row).1 : Int), .int .i64 (WhichM xs n row).2]) w) := by
  have H1 : Hid (Calls Tryd.prog 28 #[.slice p xs.length cap, .int .i64 n] w (Gives (.int .i64 (checkM xs n)) w)) := rf_Check xs n p cap w h hm
  unfold WhichM checkedWithM
  by_cases hc : checkM xs n = 0
  · have R := right_of hc
    rw [if_pos hc]
    rw [hc] at H1
    obtain ⟨m, rfl⟩ : ∃ m : Nat, n = m := ⟨n.toNat, by have := R.hn; omega⟩
    have h16 := R.h16
    rw [Int.toNat_natCast] at h16 ⊢
    have HF : Hid (∀ w', Calls Tryd.prog 82 #[.int .i64 row, .int .i64 (m : Int)] w' (Gives (.bool (fitsM row m)) w')) := fun w' => rf_row row m (by omega) w'
    cases hf : fitsM row m
    · rw [hf] at HF
      rw [if_neg (by decide), if_neg (by decide)]
      clear hf hc R h hm hp
      go_enter Tryd.func33, Tryd.ntmps33
      go_wp2_with fail
      refine H1.out.mono ?_
      rintro e w1 ⟨rfl, hb1⟩
      go_wp2_with fail
      refine (HF.out _).mono ?_
      rintro e w2 ⟨rfl, hb2⟩
      have hw2 := below_via hb2 hb1
      clear hb2
      go_wp2_with fail
      go_ret2
      exact ⟨rfl, hw2⟩
    · rw [hf] at HF
      rw [if_pos rfl, if_pos rfl]
      have hr := fitsM_of hf
      obtain ⟨X, rfl⟩ : ∃ X : Nat, row = X := ⟨row.toNat, by omega⟩
      have hX : X < 2 ^ m := by have := hr.2; generalize 2 ^ m = q at *; omega
      rw [Int.toNat_natCast]
      have hlt : ∀ x ∈ nats xs, x < 2 ^ m := by have := R.lt; rwa [Int.toNat_natCast] at this
      have hws := leastM_sol (which_solP hlt R.len (by omega) hX)
      have hxl := nats_len xs
      have HT : Hid (∀ w', Below w.heap.size w w' → Calls Tryd.prog 85 #[.slice p xs.length cap, .int .i64 (m : Int)] w' (Lists (transposedM (nats xs) m) w')) := fun w' hb => by
        have := rf_Turned (nats xs) (by have := R.len; omega) R.r24 m (by omega) p cap w' (by have := h.below hb; rwa [R.hx] at this)
        rwa [nats_len] at this
      have hXr : X < R24 := Nat.lt_of_lt_of_le hX (pow16 (by omega))
      have HSo : Hid (∀ v w', Mine w' w.heap.size v (casts (transposedM (nats xs) m)) → ∃ q c, v = .slice q m c ∧ Calls Tryd.prog 84 #[.slice q m c, .int .i64 (xs.length : Nat), .int .i64 (X : Int)] w' (Gives (solV (solR (transposedM (nats xs) m) (nats xs).length X)) w')) := fun v w' hm' => by
        obtain ⟨q, c, hv, hi⟩ := hm'.ints
        rw [casts_len, trans_len] at hv
        have := rf_Solution (transposedM (nats xs) m) (by rw [trans_len]; omega) (nats xs).length (trans_lt (Nat.le_refl _) m) R.len X hXr q c w' hi (fun hq => by subst hq; subst hv; exact hm'.nil_cap)
        rw [trans_len] at this
        rw [hxl] at this ⊢
        exact ⟨q, c, hv, this⟩
      rw [hws]
      generalize transposedM (nats xs) m = TT at *
      obtain ⟨S, hS⟩ : ∃ S, S = solR TT (nats xs).length X := ⟨_, rfl⟩
      rw [← hS] at HSo ⊢
      clear hf hc R hp hr hX hlt hws hxl hS
      cases S with
      | none =>
        unfold solE
        go_enter Tryd.func33, Tryd.ntmps33
        go_wp2_with fail
        refine H1.out.mono ?_
        rintro e w1 ⟨rfl, hb1⟩
        go_wp2_with fail
        refine (HF.out _).mono ?_
        rintro e w2 ⟨rfl, hb2⟩
        have hw2 := below_via hb2 hb1
        clear hb2
        go_wp2_with fail
        refine (HT.out _ hw2).mono ?_
        rintro e w3 ⟨v3, rfl, h3⟩
        obtain ⟨q3, c3, hv3, hC⟩ := HSo.out _ _ (h3.own.low hw2.size)
        have hw3 := below_via h3.bel hw2
        have HC := Lib.hid hC
        subst hv3
        clear h3 hC HSo
        unfold solV at HC
        go_wp2_with fail
        refine HC.out.mono ?_
        rintro e w4 ⟨rfl, hb4⟩
        have hw4 := below_via hb4 hw3
        clear hb4
        go_wp2_with fail
        go_ret2
        exact ⟨rfl, hw4⟩
      | some y =>
        unfold solE
        go_enter Tryd.func33, Tryd.ntmps33
        go_wp2_with fail
        refine H1.out.mono ?_
        rintro e w1 ⟨rfl, hb1⟩
        go_wp2_with fail
        refine (HF.out _).mono ?_
        rintro e w2 ⟨rfl, hb2⟩
        have hw2 := below_via hb2 hb1
        clear hb2
        go_wp2_with fail
        refine (HT.out _ hw2).mono ?_
        rintro e w3 ⟨v3, rfl, h3⟩
        obtain ⟨q3, c3, hv3, hC⟩ := HSo.out _ _ (h3.own.low hw2.size)
        have hw3 := below_via h3.bel hw2
        have HC := Lib.hid hC
        subst hv3
        clear h3 hC HSo
        unfold solV at HC
        go_wp2_with fail
        refine HC.out.mono ?_
        rintro e w4 ⟨rfl, hb4⟩
        have hw4 := below_via hb4 hw3
        clear hb4
        go_wp2_with fail
        go_ret2
        exact ⟨rfl, hw4⟩
  · rw [if_neg hc, if_neg hc]
    have hne : (checkM xs n != 0) = true := bne_iff_ne.2 hc
    generalize checkM xs n = q at *
    clear hc h hp hm
    go_enter Tryd.func33, Tryd.ntmps33
    go_wp2_with fail
    refine H1.out.mono ?_
    rintro e w1 ⟨rfl, hb1⟩
    go_wp2_with fail
    go_ret2
    exact ⟨rfl, hb1⟩
set_option maxHeartbeats 2000000 in
theorem rf_Solve : Calls Tryd.prog 39 #[.slice p xs.length cap, .int .i64 n, .int .i64 row] w (Gives (.tuple #[.int .i64 ((SolveM xs n row).1 : Int), .int .i64 (SolveM xs n row).2]) w) := by
  have H1 : Hid (Calls Tryd.prog 28 #[.slice p xs.length cap, .int .i64 n] w (Gives (.int .i64 (checkM xs n)) w)) := rf_Check xs n p cap w h hm
  unfold SolveM
  by_cases hc : checkM xs n = 0
  · have R := right_of hc
    rw [if_pos hc]
    rw [hc] at H1
    obtain ⟨m, rfl⟩ : ∃ m : Nat, n = m := ⟨n.toNat, by have := R.hn; omega⟩
    have h16 := R.h16
    rw [Int.toNat_natCast] at h16 ⊢
    have hlen := R.len
    rw [nats_len] at hlen
    have HF : Hid (∀ w', Calls Tryd.prog 82 #[.int .i64 row, .int .i64 (xs.length : Int)] w' (Gives (.bool (fitsM row xs.length)) w')) := fun w' => rf_row row xs.length (by omega) w'
    cases hf : fitsM row xs.length
    · rw [hf] at HF
      rw [if_neg (by decide)]
      clear hf hc R h hm hp
      go_enter Tryd.func39, Tryd.ntmps39
      go_wp2_with fail
      refine H1.out.mono ?_
      rintro e w1 ⟨rfl, hb1⟩
      go_wp2_with fail
      refine (HF.out _).mono ?_
      rintro e w2 ⟨rfl, hb2⟩
      have hw2 := below_via hb2 hb1
      clear hb2
      go_wp2_with fail
      go_ret2
      exact ⟨rfl, hw2⟩
    · rw [hf] at HF
      rw [if_pos rfl]
      have hr := fitsM_of hf
      obtain ⟨X, rfl⟩ : ∃ X : Nat, row = X := ⟨row.toNat, by omega⟩
      have hX : X < 2 ^ (nats xs).length := by rw [nats_len]; have := hr.2; generalize 2 ^ xs.length = q at *; omega
      rw [Int.toNat_natCast]
      have hlt : ∀ x ∈ nats xs, x < 2 ^ m := by have := R.lt; rwa [Int.toNat_natCast] at this
      have hws := leastM_sol (sol_solP hlt R.len (by omega) hX)
      have hXr : X < R24 := Nat.lt_of_lt_of_le hX (pow16 R.len)
      have HSo : Hid (∀ w', Below w.heap.size w w' → Calls Tryd.prog 84 #[.slice p xs.length cap, .int .i64 (m : Int), .int .i64 (X : Int)] w' (Gives (solV (solR (nats xs) m X)) w')) := fun w' hb => by
        have := rf_Solution (nats xs) R.len m hlt (by omega) X hXr p cap w' (by have := h.below hb; rwa [R.hx] at this) hp
        rwa [nats_len] at this
      rw [hws]
      obtain ⟨S, hS⟩ : ∃ S, S = solR (nats xs) m X := ⟨_, rfl⟩
      rw [← hS] at HSo ⊢
      clear hf hc R hp hr hX hlt hws hS h
      cases S with
      | none =>
        unfold solE
        unfold solV at HSo
        go_enter Tryd.func39, Tryd.ntmps39
        go_wp2_with fail
        refine H1.out.mono ?_
        rintro e w1 ⟨rfl, hb1⟩
        go_wp2_with fail
        refine (HF.out _).mono ?_
        rintro e w2 ⟨rfl, hb2⟩
        have hw2 := below_via hb2 hb1
        clear hb2
        go_wp2_with fail
        refine (HSo.out _ hw2).mono ?_
        rintro e w4 ⟨rfl, hb4⟩
        have hw4 := below_via hb4 hw2
        clear hb4
        go_wp2_with fail
        go_ret2
        exact ⟨rfl, hw4⟩
      | some y =>
        unfold solE
        unfold solV at HSo
        go_enter Tryd.func39, Tryd.ntmps39
        go_wp2_with fail
        refine H1.out.mono ?_
        rintro e w1 ⟨rfl, hb1⟩
        go_wp2_with fail
        refine (HF.out _).mono ?_
        rintro e w2 ⟨rfl, hb2⟩
        have hw2 := below_via hb2 hb1
        clear hb2
        go_wp2_with fail
        refine (HSo.out _ hw2).mono ?_
        rintro e w4 ⟨rfl, hb4⟩
        have hw4 := below_via hb4 hw2
        clear hb4
        go_wp2_with fail
        go_ret2
        exact ⟨rfl, hw4⟩
  · rw [if_neg hc]
    have hne : (checkM xs n != 0) = true := bne_iff_ne.2 hc
    generalize checkM xs n = q at *
    clear hc h hp hm
    go_enter Tryd.func39, Tryd.ntmps39
    go_wp2_with fail
    refine H1.out.mono ?_
    rintro e w1 ⟨rfl, hb1⟩
    go_wp2_with fail
    go_ret2
    exact ⟨rfl, hb1⟩
set_option maxHeartbeats 2000000 in
theorem rf_Member : Calls Tryd.prog 32 #[.slice p xs.length cap, .int .i64 n, .int .i64 row] w (Gives (.tuple #[.bool (MemberM xs n row).1, .int .i64 (MemberM xs n row).2]) w) := by
  have H1 : Hid (Calls Tryd.prog 28 #[.slice p xs.length cap, .int .i64 n] w (Gives (.int .i64 (checkM xs n)) w)) := rf_Check xs n p cap w h hm
  unfold MemberM checkedWithM
  by_cases hc : checkM xs n = 0
  · have R := right_of hc
    rw [if_pos hc]
    rw [hc] at H1
    have HRd := Lib.hid (ref_red xs n p cap w h hp R)
    obtain ⟨m, rfl⟩ : ∃ m : Nat, n = m := ⟨n.toNat, by have := R.hn; omega⟩
    have h16 := R.h16
    rw [Int.toNat_natCast] at h16 ⊢
    have HF : Hid (∀ w', Calls Tryd.prog 82 #[.int .i64 row, .int .i64 (m : Int)] w' (Gives (.bool (fitsM row m)) w')) := fun w' => rf_row row m (by omega) w'
    cases hf : fitsM row m
    · rw [hf] at HF
      rw [if_neg (by decide), if_neg (by decide)]
      clear hf hc R h hm hp
      go_enter Tryd.func32, Tryd.ntmps32
      go_wp2_with fail
      refine H1.out.mono ?_
      rintro e w1 ⟨rfl, hb1⟩
      go_wp2_with fail
      refine (HF.out _).mono ?_
      rintro e w2 ⟨rfl, hb2⟩
      have hw2 := below_via hb2 hb1
      clear hb2
      go_wp2_with fail
      go_ret2
      exact ⟨rfl, hw2⟩
    · rw [hf] at HF
      rw [if_pos rfl, if_pos rfl]
      have hr := fitsM_of hf
      obtain ⟨X, rfl⟩ : ∃ X : Nat, row = X := ⟨row.toNat, by omega⟩
      have hX : X < 2 ^ m := by have := hr.2; generalize 2 ^ m = q at *; omega
      rw [Int.toNat_natCast]
      have hlt : ∀ x ∈ nats xs, x < 2 ^ m := by have := R.lt; rwa [Int.toNat_natCast] at this
      have hms := member_same hlt R.len (by omega) hX
      have hlt2 : ∀ y ∈ nats xs ++ [X], y < 2 ^ m := fun y hy => by
        rcases List.mem_append.1 hy with hy | hy
        · exact hlt y hy
        · simp at hy; rw [hy]; exact hX
      have hll := R.len
      have hI : Ints w p (casts (nats xs)) := by rw [← R.hx]; exact h
      have hRd2 : reducedM (spanned (nats xs)).at_ = redR (nats xs) m := by have := R.maths.1; rwa [Int.toNat_natCast] at this
      rw [hRd2] at HRd
      have HR2 : Hid (∀ v w', Mine w' w.heap.size v (casts (nats xs) ++ [(X : Int)]) → ∃ q c, v = .slice q ((nats xs).length + 1) c ∧ Calls Tryd.prog 70 #[.slice q ((nats xs).length + 1) c, .int .i64 (m : Int)] w' (Lists (redR (nats xs ++ [X]) m) w')) := fun v w' hm' => by
        have e : casts (nats xs ++ [X]) = casts (nats xs) ++ [(X : Int)] := by simp [casts]
        rw [← e] at hm'
        obtain ⟨q, c, hv, hi⟩ := hm'.ints
        rw [casts_len, List.length_append] at hv
        have := rf_Reduced (nats xs ++ [X]) (by simp; omega) (fun x hx => Nat.lt_of_lt_of_le (red24 (by omega) hlt2 x hx) (by decide)) m (by omega) q c w' hi (fun hq => by subst hq; subst hv; exact hm'.nil_cap)
        rw [List.length_append] at this
        exact ⟨q, c, hv, this⟩
      rw [hms]
      have hxl := nats_len xs
      rw [← hxl] at HRd H1 ⊢
      generalize nats xs = l at *
      generalize redR (l ++ [X]) m = R1 at *
      generalize redR l m = R2 at *
      have HI := Lib.hid hI
      have HLc := Lib.hid (casts_len l)
      clear hf hc R hr hX hlt hms hlt2 hI hRd2 hxl h
      go_enter Tryd.func32, Tryd.ntmps32
      go_wp2_with fail
      refine H1.out.mono ?_
      rintro e w1 ⟨rfl, hb1⟩
      go_wp2_with fail
      refine (HF.out _).mono ?_
      rintro e w2 ⟨rfl, hb2⟩
      have hw2 := below_via hb2 hb1
      clear hb2 hb1
      have HM := Lib.hid (mine_empty w2 w.heap.size hw2.size)
      have HI2 := Lib.hid ((HI.out.below hw2).below ((Below.refl _ w2).alloc (Nat.le_refl _) (.cells #[] 3)))
      have HS0 : Hid (w.heap.size ≤ (w2.alloc (.cells #[] 3)).heap.size) := by
        have := hw2.size
        show w.heap.size ≤ _
        rw [World.size_alloc]; omega
      have HW2 := Lib.hid (below_al hw2 (.cells #[] 3))
      have HP := Lib.hid hp
      clear hp hw2 HI
      go_wp2_with (first
        | (at_builtin; refine wpList_appInts rfl (.tmp 19) (.tmp 20) rfl w.heap.size _ [] rfl HM.out HS0.out p l.length cap (casts l) rfl HLc.out.symm (by rw [HLc.out]; simp; omega) HI2.out HP.out ?_; intro v5 w5 hm5 hg5 hnn5; have HM5 := Lib.hid (hm5.al (.cells #[.int .i64 (X : Int)] 3)); have HB5 := Lib.hid (below_al (HW2.out.grown hg5 HS0.out (fun k e => by cases e; exact (HM.out.lt rfl).1)) (.cells #[.int .i64 (X : Int)] 3)); have HC5 := Lib.hid (cell1_new w5 (X : Int) 3); clear hm5 hg5 hnn5)
        | (at_builtin; refine wpList_app rfl (.tmp 21) (.tmp 23) rfl w.heap.size _ ([] ++ casts l) rfl HM5.out HB5.out.size (by rw [List.nil_append, HLc.out]; omega) w5.heap.size 1 (X : Int) rfl HC5.out ?_; intro g6 cap6 w6 hm6 hg6 hat6 hlt6))
      have hb6 : Below w.heap.size w w6 := HB5.out.grown hg6 HB5.out.size (fun k e => (HM5.out.lt e).1)
      obtain ⟨q6, c6, hv6, hC⟩ := HR2.out _ _ hm6
      simp only [List.nil_append, HLc.out] at hv6 ⊢
      have HC := Lib.hid hC
      rw [← hv6] at HC
      clear hm6 hg6 hat6 HM5 HC5 hv6 hC HM HI2 HS0 HW2 HP HB5 HR2
      refine HC.out.mono ?_
      rintro e w7 ⟨v7, rfl, h7⟩
      obtain ⟨p7, c7, hv7⟩ := h7.own.slice
      rw [casts_len] at hv7
      have hb7 := below_via h7.bel hb6
      subst hv7
      clear h7 HC hb6
      go_wp2_with fail
      refine (HRd.out _ hb7).mono ?_
      rintro e w8 ⟨v8, rfl, h8⟩
      obtain ⟨p8, c8, hv8⟩ := h8.own.slice
      rw [casts_len] at hv8
      have hb8 := below_via h8.bel hb7
      subst hv8
      clear h8 HRd hb7
      have hd : ((R1.length : Int) == (R2.length : Int)) = decide (R1.length = R2.length) := by
        rw [Bool.eq_iff_iff]; simp; omega
      generalize decide (R1.length = R2.length) = z at *
      go_wp2_with fail
      go_ret2
      exact ⟨rfl, hb8⟩
  · rw [if_neg hc, if_neg hc]
    have hne : (checkM xs n != 0) = true := bne_iff_ne.2 hc
    generalize checkM xs n = q at *
    clear hc h hp hm
    go_enter Tryd.func32, Tryd.ntmps32
    go_wp2_with fail
    refine H1.out.mono ?_
    rintro e w1 ⟨rfl, hb1⟩
    go_wp2_with fail
    go_ret2
    exact ⟨rfl, hb1⟩
end
end Go.Proofs.YtpbcomdlboiddaaDoor
