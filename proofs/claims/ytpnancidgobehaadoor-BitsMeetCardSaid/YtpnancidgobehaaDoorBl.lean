
/- Plain maths: the ranks of two spans are together those of what they have in common and of both together. -/
import Derived.Test.YtpnancidgobehaaDoorZb
set_option linter.all false
set_option maxRecDepth 100000
namespace Go.Proofs.YtpnancidgobehaaDoor
theorem totF_shift : ∀ (R : List Nat) (i j z : Nat), totF R (i + j) z = totF R j (z >>> i)
  | [], _, _, _ => rfl
  | r :: R, i, j, z => by
    unfold totF
    rw [Nat.testBit_shiftRight, ← totF_shift R i (j + 1) z]
    rfl
theorem ind_bits {R : List Nat} (hR : Ind R) {i z : Nat} (h : totF R i z = 0) {k : Nat} (hk : k < R.length) : z.testBit (i + k) = false := by
  have h1 : tot R (z >>> i) = 0 := by rw [← h]; exact (totF_shift R i 0 z).symm
  have hlt : (z >>> i) % 2 ^ R.length < 2 ^ R.length := Nat.mod_lt _ (Nat.two_pow_pos _)
  have h2 : tot R ((z >>> i) ^^^ (z >>> i) % 2 ^ R.length) = 0 := totF_none fun j _ hj => by
    rw [Nat.testBit_xor, Nat.testBit_mod_two_pow]
    have : j < R.length := by omega
    simp [this]
  have h3 : tot R ((z >>> i) % 2 ^ R.length) = 0 := by
    rw [tot_xor, h1, Nat.zero_xor] at h2
    exact h2
  have h4 := hR _ hlt h3
  have h5 : ((z >>> i) % 2 ^ R.length).testBit k = false := by rw [h4]; exact Nat.zero_testBit k
  rw [Nat.testBit_mod_two_pow, Nat.testBit_shiftRight] at h5
  simpa [hk] using h5
theorem in_shift {R : List Nat} {x : Nat} (h : InSp R x) (i : Nat) : ∃ y, (∀ k, k < i → y.testBit k = false) ∧ y < 2 ^ (i + R.length) ∧ totF R i y = x := by
  obtain ⟨y, hy, e⟩ := in_tot h
  refine ⟨y <<< i, fun k hk => by rw [Nat.testBit_shiftLeft]; simp; omega, ?_, ?_⟩
  · rw [Nat.shiftLeft_eq, Nat.pow_add, Nat.mul_comm]
    exact Nat.mul_lt_mul_of_pos_left hy (Nat.two_pow_pos i)
  · have := totF_shift R i 0 (y <<< i)
    rw [Nat.add_zero] at this
    rw [this, ← e, Nat.shiftLeft_shiftRight]
theorem ind_rel {d : List Nat} {S : Sys} (h : Inv d S) : Ind S.rel.reverse := (rel_red h).ind
/-- As many relations of two lists of independent rows as rows of what they have in common. -/
theorem rel_meet {A B M : List Nat} (hA : Ind A) (hB : Ind B) (hM : Ind M) (hm : ∀ x, InSp M x ↔ InSp A x ∧ InSp B x) {S : Sys} (hS : Inv (A ++ B) S) : S.rel.length = M.length := by
  have hR := ind_rel hS
  have hrel : ∀ y, InSp S.rel.reverse y ↔ y < 2 ^ (A ++ B).length ∧ tot (A ++ B) y = 0 := fun y => by rw [inSp_reverse, rel_span hS]
  have hsum : ∀ y, tot (A ++ B) y = tot A y ^^^ totF B A.length y := fun y => by
    have := totF_append A B 0 y
    rwa [Nat.zero_add] at this
  have hinj : ∀ y ∈ allOf S.rel.reverse, ∀ z ∈ allOf S.rel.reverse, tot A y = tot A z → y = z := by
    intro y hy z hz e
    obtain ⟨y1, y2⟩ := (hrel y).1 (mem_allOf.1 hy)
    obtain ⟨z1, z2⟩ := (hrel z).1 (mem_allOf.1 hz)
    apply xor_eq0
    have ha : tot A (y ^^^ z) = 0 := by rw [tot_xor, e, Nat.xor_self]
    have hb : totF B A.length (y ^^^ z) = 0 := by
      rw [hsum] at y2 z2
      rw [totF_xor, ← xor_eq0 y2, ← xor_eq0 z2, e, Nat.xor_self]
    refine Nat.eq_of_testBit_eq fun k => ?_
    rw [Nat.zero_testBit]
    by_cases hk : k < A.length
    · have := ind_bits hA (i := 0) ha hk
      rwa [Nat.zero_add] at this
    · by_cases hk2 : k < (A ++ B).length
      · rw [List.length_append] at hk2
        have := ind_bits hB hb (k := k - A.length) (by omega)
        rwa [show A.length + (k - A.length) = k by omega] at this
      · exact no_bit (Nat.xor_lt_two_pow y1 z1) (by omega)
  have hmem : ∀ x, x ∈ (allOf S.rel.reverse).map (tot A) ↔ x ∈ allOf M := by
    intro x
    rw [List.mem_map, mem_allOf, hm]
    constructor
    · rintro ⟨y, hy, rfl⟩
      obtain ⟨_, y2⟩ := (hrel y).1 (mem_allOf.1 hy)
      rw [hsum] at y2
      refine ⟨tot_in A y, ?_⟩
      rw [xor_eq0 y2]
      exact totF_in (fun _ hr => InSp.of_mem hr) _ _
    · rintro ⟨ha, hb⟩
      obtain ⟨y1, h1, e1⟩ := in_tot ha
      obtain ⟨y2, h2, h3, e2⟩ := in_shift hb A.length
      have ez : tot A y2 = 0 := totF_none fun k _ hk => h2 k (by omega)
      have eh : totF B A.length y1 = 0 := totF_none fun k hk _ => no_bit h1 hk
      refine ⟨y1 ^^^ y2, mem_allOf.2 ((hrel _).2 ⟨?_, ?_⟩), ?_⟩
      · rw [List.length_append]
        exact Nat.xor_lt_two_pow (Nat.lt_of_lt_of_le h1 (Nat.pow_le_pow_right (by omega) (by omega))) h3
      · rw [hsum, tot_xor, totF_xor, e1, ez, eh, e2, Nat.xor_zero, Nat.zero_xor, Nat.xor_self]
      · rw [tot_xor, e1, ez, Nat.xor_zero]
  have := same_len (map_nodup hR.nodup hinj) hM.nodup hmem
  rw [List.length_map, allOf_len, allOf_len, List.length_reverse] at this
  exact (Nat.pow_right_inj (by omega)).1 this
/-- What two spans have in common. -/
def meetR (a b : List Nat) (n : Nat) : List Nat := orthR (orthR a n ++ orthR b n) n
theorem inSp_append {a b : List Nat} {m : List Nat} : (∀ r ∈ a ++ b, InSp m r) ↔ (∀ r ∈ a, InSp m r) ∧ ∀ r ∈ b, InSp m r :=
  ⟨fun h => ⟨fun r hr => h r (by simp [hr]), fun r hr => h r (by simp [hr])⟩, fun h r hr => by
    rcases List.mem_append.1 hr with hr | hr
    · exact h.1 r hr
    · exact h.2 r hr⟩
theorem meetR_spec {a b : List Nat} {n : Nat} (ha : ∀ x ∈ a, x < 2 ^ n) (hb : ∀ x ∈ b, x < 2 ^ n) : Red (meetR a b n) ∧ ∀ x, InSp (meetR a b n) x ↔ InSp a x ∧ InSp b x := by
  have hl : ∀ x ∈ orthR a n ++ orthR b n, x < 2 ^ n := fun x hx => by
    rcases List.mem_append.1 hx with hx | hx
    · exact orthR_lt ha x hx
    · exact orthR_lt hb x hx
  have h := orthR_spec hl
  refine ⟨h.1, fun x => ?_⟩
  show InSp (orthR (orthR a n ++ orthR b n) n) x ↔ _
  rw [h.2, ← orth_orth ha, ← orth_orth hb]
  constructor
  · intro hx
    exact ⟨⟨hx.1, fun r hr => hx.2 r (by simp [hr])⟩, ⟨hx.1, fun r hr => hx.2 r (by simp [hr])⟩⟩
  · rintro ⟨h1, h2⟩
    refine ⟨h1.1, fun r hr => ?_⟩
    rcases List.mem_append.1 hr with hr | hr
    · exact h1.2 r hr
    · exact h2.2 r hr
theorem meet_comm {a b : List Nat} {n : Nat} (ha : ∀ x ∈ a, x < 2 ^ n) (hb : ∀ x ∈ b, x < 2 ^ n) : meetR a b n = meetR b a n :=
  (meetR_spec ha hb).1.unique (meetR_spec hb ha).1 fun x => by rw [(meetR_spec ha hb).2, (meetR_spec hb ha).2]; exact And.comm
theorem meet_rank {a b : List Nat} {n : Nat} (hn : n ≤ 16) (ha : ∀ x ∈ a, x < 2 ^ n) (hb : ∀ x ∈ b, x < 2 ^ n) : (redR a n).length + (redR b n).length = (redR (a ++ b) n).length + (meetR a b n).length := by
  have hA := redR_spec ha
  have hB := redR_spec hb
  have la := rank_null ha
  have lb := rank_null hb
  have hlt : ∀ x ∈ redR a n ++ redR b n, x < 2 ^ n := fun x hx => by
    rcases List.mem_append.1 hx with hx | hx
    · exact redR_lt ha x hx
    · exact redR_lt hb x hx
  have hlt2 : ∀ x ∈ a ++ b, x < 2 ^ n := fun x hx => by
    rcases List.mem_append.1 hx with hx | hx
    · exact ha x hx
    · exact hb x hx
  have hlen : (redR a n ++ redR b n).length ≤ 40 := by rw [List.length_append]; omega
  have hM := meetR_spec ha hb
  have h1 := rel_rank hlt (by omega) hlen
  have h2 := rel_meet hA.1.ind hB.1.ind hM.1.ind (fun x => by rw [hM.2, hA.2, hB.2]) (inv_spanned (red24 (by omega) hlt) hlen)
  have h3 : redR (redR a n ++ redR b n) n = redR (a ++ b) n := redR_eq hlt hlt2 (InSp.iff
    (inSp_append.2 ⟨fun r hr => ((hA.2 r).1 (.of_mem hr)).sub fun s hs => .of_mem (by simp [hs]), fun r hr => ((hB.2 r).1 (.of_mem hr)).sub fun s hs => .of_mem (by simp [hs])⟩)
    (inSp_append.2 ⟨fun r hr => ((hA.2 r).2 (.of_mem hr)).sub fun s hs => .of_mem (by simp [hs]), fun r hr => ((hB.2 r).2 (.of_mem hr)).sub fun s hs => .of_mem (by simp [hs])⟩))
  rw [h3, h2, List.length_append] at h1
  omega
end Go.Proofs.YtpnancidgobehaaDoor
