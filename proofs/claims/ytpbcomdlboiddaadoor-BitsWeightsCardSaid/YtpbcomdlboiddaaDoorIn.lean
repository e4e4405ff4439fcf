
/- The reference of bits: the weights of all members of a span, the lightest of a coset. -/
import Derived.Test.YtpbcomdlboiddaaDoorIg
import Derived.Test.YtpbcomdlboiddaaDoorIj
import Derived.Test.YtpbcomdlboiddaaDoorVy
set_option linter.all false
set_option maxRecDepth 100000
namespace Go.Proofs.YtpbcomdlboiddaaDoor
open Go.RowKit

/-- How often each weight is met in a list of rows. -/
def tallyL (n : Nat) (pre : List Nat) : List Nat := pre.foldl (fun c x => c.set (weightM x) (c.getD (weightM x) 0 + 1)) (List.replicate (n + 1) 0)
theorem tallyL_snoc (n : Nat) (pre : List Nat) (x : Nat) : tallyL n (pre ++ [x]) = (tallyL n pre).set (weightM x) ((tallyL n pre).getD (weightM x) 0 + 1) := by
  unfold tallyL
  rw [List.foldl_append, List.foldl_cons, List.foldl_nil]
theorem tallyL_facts (n : Nat) : ∀ (m : Nat) (pre : List Nat), pre.length = m → (tallyL n pre).length = n + 1 ∧ ∀ c ∈ tallyL n pre, c ≤ m
  | 0, pre, h => by
    rw [List.length_eq_zero_iff.1 h]
    exact ⟨List.length_replicate, fun c hc => by rw [List.eq_of_mem_replicate hc]; exact Nat.le_refl _⟩
  | m + 1, pre, h => by
    have hne : pre ≠ [] := fun e => by rw [e] at h; simp at h
    obtain ⟨q, x, rfl⟩ : ∃ q x, pre = q ++ [x] := ⟨pre.dropLast, pre.getLast hne, (List.dropLast_concat_getLast hne).symm⟩
    obtain ⟨h1, h2⟩ := tallyL_facts n m q (by simpa using h)
    rw [tallyL_snoc]
    refine ⟨by rw [List.length_set]; exact h1, fun c hc => ?_⟩
    rcases List.mem_or_eq_of_mem_set hc with hc | rfl
    · have := h2 c hc; omega
    · rw [List.getD_eq_getElem?_getD]
      cases hg : (tallyL n q)[weightM x]? with
      | none => simp
      | some y => have := h2 y (List.mem_of_getElem? hg); simpa using this
theorem tallyL_all (R : List Nat) (n : Nat) (hR : R.length ≤ 24) : tallyL n (membersR R) = countL R n (List.range (2 ^ R.length)) := (weights_same R n hR).symm
theorem rf_Ones_weight (x : Nat) (hx : x < R24) (w : World) : Calls Tryd.prog 99 #[.int .i64 (x : Int)] w (Gives (.int .i64 ((weightM x : Nat) : Int)) w) := by
  have h63 : x < 2 ^ 63 := Nat.lt_of_lt_of_le hx (by decide)
  have := rf_Ones x h63 w
  have e : weightM x = popF 63 x := pop_more 63 1 x h63
  rwa [← e] at this
/-- Lists of one's own in memory, above. -/
structure InTa (w0 : World) (rows : List Nat) (B : Nat) (v : Value) (Ms : List Nat) (wr : World) : Prop where
  bel : Below w0.heap.size w0 wr
  rows : Rows_ wr w0.heap.size rows
  own : Mine wr B v (casts Ms)
theorem InTa.call {w0 wr wx : World} {rows Ms : List Nat} {B : Nat} {v : Value} (h : InTa w0 rows B v Ms wr) (hb : Below wr.heap.size wr wx) : InTa w0 rows B v Ms wx := ⟨below_via hb h.bel, h.rows.call hb, Mine.call h.own hb⟩
theorem InTa.drew {w0 wr : World} {rows Ms : List Nat} {B : Nat} {v : Value} (h : InTa w0 rows B v Ms wr) : InTa w0 rows B v Ms wr.drew := ⟨h.bel.drew, h.rows, h.own⟩
theorem InTa.set_ {w0 wr : World} {rows Ms : List Nat} {B : Nat} {v : Value} (h : InTa w0 rows B v Ms wr) (hB : w0.heap.size < B) (i x : Nat) : InTa w0 (rows.set i x) B v Ms (wr.setCell ⟨w0.heap.size, i, none⟩ (.int .i64 (x : Int))) :=
  ⟨h.bel.setCell (Nat.le_refl _) _, h.rows.set_ i x, h.own.of_heap fun k hk => Below.heap_setCell _ _ _ k (by show k ≠ w0.heap.size; omega)⟩
set_option maxHeartbeats 4000000 in
theorem rf_Weights (xs : List Int) (n : Int) (p : Option Addr) (cap : Nat) (w : World) (h : Ints w p xs) (hp : p = none → cap = 0) (hm : xs.length ≤ 9223372036854775807) :
    Calls Tryd.prog 52 #[.slice p xs.length cap, .int .i64 n] w (ListE (WeightsM xs n) (checkM xs n) w) := by
  have H1 : Hid (Calls Tryd.prog 28 #[.slice p xs.length cap, .int .i64 n] w (Gives (.int .i64 (checkM xs n)) w)) := rf_Check xs n p cap w h hm
  unfold WeightsM
  by_cases hc : checkM xs n = 0
  · have R := right_of hc
    rw [if_pos hc]
    rw [hc] at H1 ⊢
    obtain ⟨m, rfl⟩ : ∃ m : Nat, n = m := ⟨n.toNat, by have := R.hn; omega⟩
    have h16 := R.h16
    have hlt := R.lt
    have hll := R.len
    rw [Int.toNat_natCast] at h16 hlt ⊢
    have hx24 : ∀ x ∈ nats xs, x < R24 := red24 (by omega) hlt
    have hRl : (reducedM (spanned (nats xs)).at_).length ≤ 24 := reducedM_len (spanned_ok hx24 (by omega)).1
    have hRt : ∀ x ∈ reducedM (spanned (nats xs)).at_, x < 2 ^ m := reducedM_lt2 (spanned_row hlt)
    rw [← tallyL_all _ _ hRl]
    have heq := reduced_eq (show m ≤ 24 by omega) hlt (by omega)
    have HR : Hid (∀ w', Below w.heap.size w w' → Calls Tryd.prog 70 #[.slice p xs.length cap, .int .i64 (m : Int)] w' (Lists (reducedM (spanned (nats xs)).at_) w')) := fun w' hb => by
      have := rf_Reduced (nats xs) (by omega) (fun x hx => Nat.lt_of_lt_of_le (hx24 x hx) (by decide)) m (by omega) p cap w' (by have := h.below hb; rwa [R.hx] at this) hp
      rwa [nats_len, ← heq] at this
    generalize reducedM (spanned (nats xs)).at_ = RR at *
    have HMem : Hid (∀ v w' B, Mine w' B v (casts RR) → Calls Tryd.prog 100 #[v] w' (Lists (membersR RR) w')) := fun v w' B hm => by
      obtain ⟨q, c, hv, hi⟩ := hm.ints
      rw [casts_len] at hv
      rw [hv]
      exact rf_Members RR hRl (red24 (by omega) hRt) q c w' hi
    have hMt := membersR_lt hRt
    have hMl : (membersR RR).length ≤ 16777216 := by
      rw [membersR_len]
      have h2 : 2 ^ RR.length ≤ 2 ^ 24 := Nat.pow_le_pow_right (by omega) hRl
      exact h2
    generalize membersR RR = Ms at *
    have HMt := Lib.hid hMt
    obtain ⟨i0, hi, hz0, hz1, hz2⟩ := info_parts info_int
    have HMK : Hid (∀ w' : World, ∃ w1, _ ∧ _ ∧ _) := fun w' => run_make_full (P := Tryd.prog) w' w'.heap.size 22 3 i0 (.int .i64 0) 1 und_ints hi hz0 hz1 .i64 .i64 (m + 1) (by rw [hz2]; omega) (by unfold maxLen; omega) (Nat.le_refl _)
    clear hi hz0 hz1 hz2 heq hRl hRt hMt hx24 hll hlt R hc h hm hp
    go_enter Tryd.func52, Tryd.ntmps52
    go_wp2_with fail
    with_reducible refine H1.out.mono ?_
    rintro e w1 ⟨rfl, hb1⟩
    obtain ⟨w2, hmk, hown, hgr⟩ := HMK.out w1
    simp only [Int.natCast_add, Int.natCast_one] at hmk
    have hbm : Below w1.heap.size w1 w2 := (Below.refl _ w1).grown hgr (Nat.le_refl _) (by simp)
    have hR : Rows_ w2 w1.heap.size (List.replicate (m + 1) 0) := by
      rcases hown.2 with ⟨h', _⟩ | ⟨g, cap', cur, h1, h2, h3, h4, h5, h6, h7⟩
      · simp at h'
      · simp only [Value.slice.injEq, Option.some.injEq, Addr.mk.injEq, and_true, true_and] at h1
        obtain ⟨rfl, rfl⟩ := h1
        have e1 : cur.toList = vals (List.replicate (m + 1) 0) := by
          rw [List.take_of_length_le (by rw [Array.length_toList]; omega), show (Value.int IntKind.i64 0).cells = #[.int .i64 0] from rfl] at h7
          rw [h7]
          refine List.ext_getElem? fun i => ?_
          unfold madeCells vals casts
          by_cases hi : i < m + 1
          · simp [hi, Nat.mod_one, iv, List.getElem?_replicate]
          · simp [hi, List.getElem?_replicate]
        unfold Rows_
        rw [h3, ← e1]
    have HBM := Lib.hid hbm
    have HRW := Lib.hid hR
    have HB1 := Lib.hid hb1
    clear hown HMK hbm hR hgr hb1 H1
    go_wp2_with fail
    clear hmk
    with_reducible refine (HR.out _ (below_via HBM.out HB1.out)).mono ?_
    rintro e w3 ⟨v, rfl, hg3⟩
    have HG3 := Lib.hid hg3
    clear hg3
    go_wp2_with fail
    with_reducible refine (HMem.out _ _ _ HG3.out.own).mono ?_
    rintro e w4 ⟨v4, rfl, hg4⟩
    have hB : w1.heap.size < w3.heap.size := Nat.lt_of_lt_of_le HRW.out.lt HG3.out.bel.size
    have HK : Hid (InTa w1 (tallyL m (Ms.take 0)) w3.heap.size v4 Ms w4) := ⟨below_via (below_via hg4.bel HG3.out.bel) HBM.out, by rw [List.take_zero]; exact (HRW.out.call HG3.out.bel).call hg4.bel, hg4.own⟩
    obtain ⟨p4, c4, hv4⟩ := hg4.own.slice
    rw [casts_len] at hv4
    subst hv4
    clear hg4 HG3 HRW HBM HMem HR
    go_wp2_with fail
    go_loopw [24] (fun vi wr => ∃ k : Nat, k ≤ Ms.length ∧ vi = .int .i64 k ∧ Hid (InTa w1 (tallyL m (Ms.take k)) w3.heap.size (.slice p4 Ms.length c4) Ms wr)) (fun vi _ => Ms.length - (intOf vi).toNat)
    case atStart => exact ⟨0, by omega, rfl, HK.out⟩
    case round =>
      obtain ⟨k, hk, rfl, HI⟩ := hrel
      clear HK
      by_cases hlk : k < Ms.length
      · obtain ⟨x, hxk⟩ : ∃ x, Ms[k]? = some x := ⟨_, List.getElem?_eq_getElem hlk⟩
        obtain ⟨p5, c5, hv5, hi5⟩ := HI.out.own.ints
        rw [casts_len] at hv5
        cases hv5
        obtain ⟨b4, off, rfl, hb4, hcx⟩ := hi5.at_ (casts_at hxk)
        have hxm := HMt.out x (List.mem_of_getElem? hxk)
        have hx24 : x < R24 := Nat.lt_of_lt_of_le hxm (pow16 (by omega))
        have HY := Lib.hid (fun w' => rf_Ones_weight x hx24 w')
        have hwt : weightM x ≤ m := popF_bound 64 m _ hxm
        obtain ⟨f1, f2⟩ := tallyL_facts m k (Ms.take k) (by rw [List.length_take]; omega)
        obtain ⟨c, hc⟩ : ∃ c, (tallyL m (Ms.take k))[weightM x]? = some c := ⟨_, List.getElem?_eq_getElem (by omega)⟩
        have hcm := f2 c (List.mem_of_getElem? hc)
        have hcb : c < 16777217 := by omega
        have hsn : tallyL m (Ms.take (k + 1)) = (tallyL m (Ms.take k)).set (weightM x) (c + 1) := by
          obtain ⟨hk', rfl⟩ := List.getElem?_eq_some_iff.1 hxk
          rw [List.take_succ_eq_append_getElem hk', tallyL_snoc, List.getD_eq_getElem?_getD, hc, Option.getD_some]
        have HSN := Lib.hid hsn
        have hck := HI.out.rows.cell hc
        have hfk := HI.out.rows.free (weightM x)
        have hl1 := HI.out.rows.lt
        generalize weightM x = y at *
        generalize tallyL m (Ms.take k) = T at *
        have hym : (y : Int) < (m : Int) + 1 := by omega
        clear hxk hi5 f1 f2 hsn hc
        go_wp2_with fail
        with_reducible refine (HY.out _).mono ?_
        rintro e w5 ⟨rfl, hb5⟩
        obtain ⟨hcw, hfw⟩ := bcell hb5
        have hck5 := (hcw _ y hl1).trans hck
        have hfk5 := (hfw _ y hl1).trans hfk
        have HI5 := Lib.hid (HI.out.call hb5)
        clear hcw hfw hck hfk hb5 HI hcx hb4
        have hw5 := HI5.out.rows.lt
        have hin : IntKind.i64.wrap ((c : Int) + 1) = ((c + 1 : Nat) : Int) := by rw [IntKind.wrap_i64]; omega
        have HN : Hid (InTa w1 (tallyL m (Ms.take (k + 1))) w3.heap.size (.slice (some ⟨b4, off, none⟩) Ms.length c4) Ms (w5.setCell ⟨w1.heap.size, y, none⟩ (.int .i64 ((c + 1 : Nat) : Int)))) := by rw [HSN.out]; exact HI5.out.set_ hB y (c + 1)
        clear HI5 HSN hw5
        go_wp2_with fail
        go_roundw
        case rel => exact ⟨k + 1, by omega, by go_num, HN.out⟩
        case measure => simp [intOf]; omega
      · obtain rfl : k = Ms.length := by omega
        have hf := HI.out
        rw [List.take_length] at hf
        have HF := Lib.hid hf
        clear HI hf
        go_wp2_with fail
        go_ret2
        have h8 := (tallyL_facts m _ Ms rfl).1
        refine ⟨.slice (some ⟨w1.heap.size, 0, none⟩) (m + 1) (m + 1), rfl, below_via HF.out.bel HB1.out, ?_⟩
        refine ⟨by simp [casts, h8], .inr ⟨w1.heap.size, m + 1, (vals (tallyL m Ms)).toArray, by rw [casts_len, h8], HB1.out.size, HF.out.rows, by rw [casts_len, h8]; exact Nat.le_refl _, by unfold maxLen; omega, by simp [vals_len, h8], ?_⟩⟩
        rw [List.take_of_length_le (by simp [vals_len, casts_len])]
        rfl
  · rw [if_neg hc]
    have hne : (checkM xs n != 0) = true := bne_iff_ne.2 hc
    generalize checkM xs n = q at *
    clear hc h hm hp
    go_enter Tryd.func52, Tryd.ntmps52
    go_wp2_with fail
    with_reducible refine H1.out.mono ?_
    rintro e w1 ⟨rfl, hb1⟩
    go_wp2_with fail
    go_ret2
    exact ListE.error _ hb1
/-- The lightest sum met so far. -/
def lightL (x : Nat) (pre : List Nat) : Nat := pre.foldl (fun b m => if lighterM (x ^^^ m) b then x ^^^ m else b) x
theorem lightL_snoc (x : Nat) (pre : List Nat) (m : Nat) : lightL x (pre ++ [m]) = if lighterM (x ^^^ m) (lightL x pre) then x ^^^ m else lightL x pre := by
  unfold lightL
  rw [List.foldl_append, List.foldl_cons, List.foldl_nil]
theorem lightL_next {x k m : Nat} {Ms : List Nat} (h : Ms[k]? = some m) : lightL x (Ms.take (k + 1)) = if lighterM (x ^^^ m) (lightL x (Ms.take k)) then x ^^^ m else lightL x (Ms.take k) := by
  obtain ⟨hk, rfl⟩ := List.getElem?_eq_some_iff.1 h
  rw [List.take_succ_eq_append_getElem hk, lightL_snoc]
theorem lightL_all (R : List Nat) (x : Nat) (hR : R.length ≤ 24) : lightL x (membersR R) = bestL R x (List.range (2 ^ R.length)) := (coset_same R x hR).symm
set_option maxHeartbeats 8000000 in
theorem rf_Coset (xs : List Int) (n row : Int) (p : Option Addr) (cap : Nat) (w : World) (h : Ints w p xs) (hp : p = none → cap = 0) (hm : xs.length ≤ 9223372036854775807) :
    Calls Tryd.prog 53 #[.slice p xs.length cap, .int .i64 n, .int .i64 row] w (Gives (.tuple #[.int .i64 ((CosetM xs n row).1 : Int), .int .i64 (CosetM xs n row).2]) w) := by
  have H1 : Hid (Calls Tryd.prog 28 #[.slice p xs.length cap, .int .i64 n] w (Gives (.int .i64 (checkM xs n)) w)) := rf_Check xs n p cap w h hm
  unfold CosetM checkedWithM
  by_cases hc : checkM xs n = 0
  · have R := right_of hc
    rw [if_pos hc]
    rw [hc] at H1
    obtain ⟨m, rfl⟩ : ∃ m : Nat, n = m := ⟨n.toNat, by have := R.hn; omega⟩
    have h16 := R.h16
    have hlt := R.lt
    have hll := R.len
    rw [Int.toNat_natCast] at h16 hlt ⊢
    have HF : Hid (∀ w', Calls Tryd.prog 82 #[.int .i64 row, .int .i64 (m : Int)] w' (Gives (.bool (fitsM row m)) w')) := fun w' => rf_row row m (by omega) w'
    cases hf : fitsM row m
    · rw [hf] at HF
      rw [if_neg (by decide), if_neg (by decide)]
      clear hf hc R h hm hp hlt hll
      go_enter Tryd.func53, Tryd.ntmps53
      go_wp2_with fail
      with_reducible refine H1.out.mono ?_
      rintro e w1 ⟨rfl, hb1⟩
      go_wp2_with fail
      refine (HF.out _).mono ?_
      rintro e w2 ⟨rfl, hb2⟩
      have hw2 := below_via hb2 hb1
      clear hb2
      go_wp2_with fail
      go_ret2
      exact ⟨rfl, hw2⟩
    · rw [hf] at HF
      rw [if_pos rfl, if_pos rfl]
      have hr := fitsM_of hf
      obtain ⟨x, rfl⟩ : ∃ x : Nat, row = x := ⟨row.toNat, by have := hr.1; omega⟩
      have hxm : x < 2 ^ m := by have := hr.2; omega
      rw [Int.toNat_natCast]
      have hx24 : ∀ x ∈ nats xs, x < R24 := red24 (by omega) hlt
      have hRl : (reducedM (spanned (nats xs)).at_).length ≤ 24 := reducedM_len (spanned_ok hx24 (by omega)).1
      have hRt : ∀ x ∈ reducedM (spanned (nats xs)).at_, x < 2 ^ m := reducedM_lt2 (spanned_row hlt)
      rw [← lightL_all _ _ hRl]
      have heq := reduced_eq (show m ≤ 24 by omega) hlt (by omega)
      have HR : Hid (∀ w', Below w.heap.size w w' → Calls Tryd.prog 70 #[.slice p xs.length cap, .int .i64 (m : Int)] w' (Lists (reducedM (spanned (nats xs)).at_) w')) := fun w' hb => by
        have := rf_Reduced (nats xs) (by omega) (fun x hx => Nat.lt_of_lt_of_le (hx24 x hx) (by decide)) m (by omega) p cap w' (by have := h.below hb; rwa [R.hx] at this) hp
        rwa [nats_len, ← heq] at this
      generalize reducedM (spanned (nats xs)).at_ = RR at *
      have HMem : Hid (∀ v w' B, Mine w' B v (casts RR) → Calls Tryd.prog 100 #[v] w' (Lists (membersR RR) w')) := fun v w' B hm => by
        obtain ⟨q, c, hv, hi⟩ := hm.ints
        rw [casts_len] at hv
        rw [hv]
        exact rf_Members RR hRl (red24 (by omega) hRt) q c w' hi
      have hMt := membersR_lt hRt
      have hMl : (membersR RR).length ≤ 16777216 := by
        rw [membersR_len]
        have h2 : 2 ^ RR.length ≤ 2 ^ 24 := Nat.pow_le_pow_right (by omega) hRl
        exact h2
      generalize membersR RR = Ms at *
      have HMt := Lib.hid hMt
      have HO : Hid (∀ (x : Nat), x < 2 ^ m → ∀ w', Calls Tryd.prog 99 #[.int .i64 (x : Int)] w' (Gives (.int .i64 ((weightM x : Nat) : Int)) w')) := fun x hx w' => rf_Ones_weight x (Nat.lt_of_lt_of_le hx (pow16 (by omega))) w'
      clear heq hRl hRt hMt hx24 hll hlt R hc h hm hp hf hr
      go_enter Tryd.func53, Tryd.ntmps53
      go_wp2_with fail
      with_reducible refine H1.out.mono ?_
      rintro e w1 ⟨rfl, hb1⟩
      go_wp2_with fail
      refine (HF.out _).mono ?_
      rintro e w2 ⟨rfl, hb2⟩
      have hw2 := below_via hb2 hb1
      clear hb2 hb1 HF
      go_wp2_with fail
      with_reducible refine (HR.out _ hw2).mono ?_
      rintro e w3 ⟨v, rfl, hg3⟩
      have hw3 := below_via hg3.bel hw2
      have HG3 := Lib.hid hg3
      clear hg3 hw2
      go_wp2_with fail
      with_reducible refine (HMem.out _ _ _ HG3.out.own).mono ?_
      rintro e w4 ⟨v4, rfl, hg4⟩
      have hw4 := below_via hg4.bel hw3
      obtain ⟨p4, c4, rfl, hi4⟩ := hg4.own.ints
      rw [casts_len]
      have HB : Hid (Below w.heap.size w w4) := hw4
      have HI : Hid (Ints w4 p4 (casts Ms)) := hi4
      clear hg4 HG3 HMem HR hw3 hw4 hi4
      go_wp2_with fail
      go_loopw [9, 29] (fun vo vi wr => ∃ (k z : Nat), k ≤ Ms.length ∧ vo = .int .i64 z ∧ vi = .int .i64 k ∧ z < 2 ^ m ∧ Hid (lightL x (Ms.take k) = z) ∧ Hid (Below w.heap.size w wr) ∧ Hid (Ints wr p4 (casts Ms))) (fun _ vi _ => Ms.length - (intOf vi).toNat)
      case atStart => exact ⟨0, x, by omega, rfl, rfl, hxm, Lib.hid rfl, HB, HI⟩
      case round =>
        obtain ⟨k, z, hk, rfl, rfl, hz, HZ, HBr, HIr⟩ := hrel
        clear HB HI
        by_cases hlk : k < Ms.length
        · obtain ⟨q, hqk⟩ : ∃ q, Ms[k]? = some q := ⟨_, List.getElem?_eq_getElem hlk⟩
          obtain ⟨b4, off, rfl, hb4, hcx⟩ := HIr.out.at_ (casts_at hqk)
          have hqm := HMt.out q (List.mem_of_getElem? hqk)
          have hxq : x ^^^ q < 2 ^ m := Nat.xor_lt_two_pow hxm hqm
          have hp24 := pow16 (show m ≤ 24 by omega)
          have hxor := i64_xor_nat x q (Nat.lt_of_lt_of_le (Nat.lt_of_lt_of_le hxm hp24) (by decide)) (Nat.lt_of_lt_of_le (Nat.lt_of_lt_of_le hqm hp24) (by decide))
          have hnx := lightL_next (x := x) hqk
          rw [HZ.out] at hnx
          have HOy := Lib.hid (HO.out (x ^^^ q) hxq)
          have HOz := Lib.hid (HO.out z hz)
          unfold lighterM at hnx
          generalize x ^^^ q = y at *
          generalize weightM y = wy at *
          generalize weightM z = wz at *
          clear hqk hqm hp24 HZ
          by_cases h1 : wy < wz
          · rw [if_pos (by simp [h1])] at hnx
            have hlt : (wy : Int) < wz := by omega
            have HNX := Lib.hid hnx
            clear hnx h1
            go_wp2_with fail
            with_reducible refine (HOy.out _).mono ?_
            rintro e w5 ⟨rfl, hb5⟩
            have hw5 := below_via hb5 HBr.out
            have hi5 := HIr.out.below hb5
            clear hb5
            go_wp2_with fail
            with_reducible refine (HOz.out _).mono ?_
            rintro e w6 ⟨rfl, hb6⟩
            have HB6 := Lib.hid (below_via hb6 hw5)
            have HI6 := Lib.hid (hi5.below hb6)
            clear hb6 hw5 hi5 HBr HIr
            go_wp2_with fail
            go_roundw
            case rel => exact ⟨k + 1, y, by omega, rfl, by go_num, hxq, HNX, HB6, HI6⟩
            case measure => simp [intOf]; omega
          · have hlt : ¬ (wy : Int) < wz := by omega
            by_cases h2 : wy = wz
            · subst h2
              by_cases h3 : y < z
              · rw [if_pos (by simp [h3])] at hnx
                have hyz : (y : Int) < z := by omega
                have HNX := Lib.hid hnx
                clear hnx h1 h3
                go_wp2_with fail
                with_reducible refine (HOy.out _).mono ?_
                rintro e w5 ⟨rfl, hb5⟩
                have hw5 := below_via hb5 HBr.out
                have hi5 := HIr.out.below hb5
                clear hb5
                go_wp2_with fail
                with_reducible refine (HOz.out _).mono ?_
                rintro e w6 ⟨rfl, hb6⟩
                have HB6 := Lib.hid (below_via hb6 hw5)
                have HI6 := Lib.hid (hi5.below hb6)
                clear hb6 hw5 hi5 HBr HIr
                go_wp2_with fail
                with_reducible refine (HOy.out _).mono ?_
                rintro e w7 ⟨rfl, hb7⟩
                have hw7 := below_via hb7 HB6.out
                have hi7 := HI6.out.below hb7
                clear hb7
                go_wp2_with fail
                with_reducible refine (HOz.out _).mono ?_
                rintro e w8 ⟨rfl, hb8⟩
                have HB8 := Lib.hid (below_via hb8 hw7)
                have HI8 := Lib.hid (hi7.below hb8)
                clear hb8 hw7 hi7 HB6 HI6
                go_wp2_with fail
                go_roundw
                case rel => exact ⟨k + 1, y, by omega, rfl, by go_num, hxq, HNX, HB8, HI8⟩
                case measure => simp [intOf]; omega
              · rw [if_neg (by simp [h3])] at hnx
                have hyz : ¬ (y : Int) < z := by omega
                have HNX := Lib.hid hnx
                clear hnx h1 h3
                go_wp2_with fail
                with_reducible refine (HOy.out _).mono ?_
                rintro e w5 ⟨rfl, hb5⟩
                have hw5 := below_via hb5 HBr.out
                have hi5 := HIr.out.below hb5
                clear hb5
                go_wp2_with fail
                with_reducible refine (HOz.out _).mono ?_
                rintro e w6 ⟨rfl, hb6⟩
                have HB6 := Lib.hid (below_via hb6 hw5)
                have HI6 := Lib.hid (hi5.below hb6)
                clear hb6 hw5 hi5 HBr HIr
                go_wp2_with fail
                with_reducible refine (HOy.out _).mono ?_
                rintro e w7 ⟨rfl, hb7⟩
                have hw7 := below_via hb7 HB6.out
                have hi7 := HI6.out.below hb7
                clear hb7
                go_wp2_with fail
                with_reducible refine (HOz.out _).mono ?_
                rintro e w8 ⟨rfl, hb8⟩
                have HB8 := Lib.hid (below_via hb8 hw7)
                have HI8 := Lib.hid (hi7.below hb8)
                clear hb8 hw7 hi7 HB6 HI6
                go_wp2_with fail
                go_roundw
                case rel => exact ⟨k + 1, z, by omega, rfl, by go_num, hz, HNX, HB8, HI8⟩
                case measure => simp [intOf]; omega
            · rw [if_neg (by simp [h1, h2])] at hnx
              have heq : ((wy : Int) == wz) = false := by simp; omega
              have HNX := Lib.hid hnx
              clear hnx h1 h2
              go_wp2_with fail
              with_reducible refine (HOy.out _).mono ?_
              rintro e w5 ⟨rfl, hb5⟩
              have hw5 := below_via hb5 HBr.out
              have hi5 := HIr.out.below hb5
              clear hb5
              go_wp2_with fail
              with_reducible refine (HOz.out _).mono ?_
              rintro e w6 ⟨rfl, hb6⟩
              have HB6 := Lib.hid (below_via hb6 hw5)
              have HI6 := Lib.hid (hi5.below hb6)
              clear hb6 hw5 hi5 HBr HIr
              go_wp2_with fail
              with_reducible refine (HOy.out _).mono ?_
              rintro e w7 ⟨rfl, hb7⟩
              have hw7 := below_via hb7 HB6.out
              have hi7 := HI6.out.below hb7
              clear hb7
              go_wp2_with fail
              with_reducible refine (HOz.out _).mono ?_
              rintro e w8 ⟨rfl, hb8⟩
              have HB8 := Lib.hid (below_via hb8 hw7)
              have HI8 := Lib.hid (hi7.below hb8)
              clear hb8 hw7 hi7 HB6 HI6
              go_wp2_with fail
              go_roundw
              case rel => exact ⟨k + 1, z, by omega, rfl, by go_num, hz, HNX, HB8, HI8⟩
              case measure => simp [intOf]; omega
        · obtain rfl : k = Ms.length := by omega
          have hz2 : lightL x Ms = z := by have := HZ.out; rwa [List.take_length] at this
          have HZ2 := Lib.hid hz2
          clear hz2 HZ
          go_wp2_with fail
          go_ret2
          rw [HZ2.out]
          exact ⟨rfl, HBr.out⟩
  · rw [if_neg hc]
    have hne : (checkM xs n != 0) = true := bne_iff_ne.2 hc
    rw [if_neg hc]
    generalize checkM xs n = q at *
    clear hc h hm hp
    go_enter Tryd.func53, Tryd.ntmps53
    go_wp2_with fail
    with_reducible refine H1.out.mono ?_
    rintro e w1 ⟨rfl, hb1⟩
    go_wp2_with fail
    go_ret2
    exact ⟨rfl, hb1⟩
end Go.Proofs.YtpbcomdlboiddaaDoor
