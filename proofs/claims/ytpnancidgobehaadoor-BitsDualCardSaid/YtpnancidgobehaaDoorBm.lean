
/- Plain maths: the weights of a span tell those of all that is orthogonal to it. -/
import Derived.Test.YtpnancidgobehaaDoorBk
set_option linter.all false
set_option maxRecDepth 100000
namespace Go.Proofs.YtpnancidgobehaaDoor
def sg : List Nat → (Nat → Int) → Int
  | [], _ => 0
  | a :: l, f => f a + sg l f
theorem sg_append (l m : List Nat) (f : Nat → Int) : sg (l ++ m) f = sg l f + sg m f := by
  induction l with
  | nil => simp [sg]
  | cons a l ih => simp only [List.cons_append, sg, ih]; omega
theorem sg_map (g : Nat → Nat) (l : List Nat) (f : Nat → Int) : sg (l.map g) f = sg l fun x => f (g x) := by
  induction l with
  | nil => rfl
  | cons a l ih => simp only [List.map_cons, sg, ih]
theorem sg_congr {l : List Nat} {f g : Nat → Int} (h : ∀ x ∈ l, f x = g x) : sg l f = sg l g := by
  induction l with
  | nil => rfl
  | cons a l ih => simp only [sg, h a (by simp), ih fun x hx => h x (by simp [hx])]
theorem sg_add (l : List Nat) (f g : Nat → Int) : sg l (fun x => f x + g x) = sg l f + sg l g := by
  induction l with
  | nil => rfl
  | cons a l ih => simp only [sg, ih]; omega
theorem sg_mul (l : List Nat) (c : Int) (f : Nat → Int) : sg l (fun x => f x * c) = sg l f * c := by
  induction l with
  | nil => simp [sg]
  | cons a l ih => simp only [sg, ih, Int.add_mul]
theorem sg_zero (l : List Nat) : sg l (fun _ => 0) = 0 := by
  induction l with
  | nil => rfl
  | cons a l ih => simp only [sg, ih]; rfl
theorem sg_swap (l m : List Nat) (f : Nat → Nat → Int) : sg l (fun x => sg m fun y => f x y) = sg m fun y => sg l fun x => f x y := by
  induction l with
  | nil => exact (sg_zero m).symm
  | cons a l ih => simp only [sg, ih]; rw [← sg_add]
theorem sg_perm {l m : List Nat} (h : l.Perm m) (f : Nat → Int) : sg l f = sg m f := by
  induction h with
  | nil => rfl
  | cons a _ ih => simp only [sg, ih]
  | swap a b l => simp only [sg]; omega
  | trans _ _ h1 h2 => exact h1.trans h2
def sn (b : Bool) : Int := if b then -1 else 1
theorem sn_ne (a b : Bool) : sn (a != b) = sn a * sn b := by cases a <;> cases b <;> decide
/-- How many bits of the first n are 1. -/
def wtB : Nat → Nat → Nat
  | 0, _ => 0
  | n + 1, x => wtB n x + (if x.testBit n then 1 else 0)
theorem wtB_low : ∀ n x, wtB (n + 1) x = x % 2 + wtB n (x / 2)
  | 0, x => by
    have h : x.testBit 0 = decide (x % 2 = 1) := Nat.testBit_zero x
    simp only [wtB, h]
    rcases Nat.mod_two_eq_zero_or_one x with h | h <;> simp [h]
  | n + 1, x => by
    have h1 : wtB (n + 1 + 1) x = wtB (n + 1) x + (if x.testBit (n + 1) then 1 else 0) := rfl
    have h2 : wtB (n + 1) (x / 2) = wtB n (x / 2) + (if (x / 2).testBit n then 1 else 0) := rfl
    rw [h1, wtB_low n, h2, Nat.testBit_succ]
    omega
theorem wtB_pop : ∀ n x, popF n x = wtB n x
  | 0, _ => rfl
  | n + 1, x => by rw [popF_succ, wtB_pop n, wtB_low]
theorem weight_wt {n x : Nat} (hn : n ≤ 64) (hx : x < 2 ^ n) : weightM x = wtB n x := by
  have := popF_up n (64 - n) x hx
  rw [show n + (64 - n) = 64 by omega] at this
  rw [← wtB_pop]
  exact this
theorem wtB_le : ∀ n x, wtB n x ≤ n
  | 0, _ => Nat.le_refl 0
  | n + 1, x => by
    have := wtB_le n x
    unfold wtB
    split <;> omega
theorem wtB_congr {n : Nat} {x y : Nat} (h : ∀ k, k < n → x.testBit k = y.testBit k) : wtB n x = wtB n y := by
  induction n with
  | zero => rfl
  | succ n ih => unfold wtB; rw [ih fun k hk => h k (by omega), h n (by omega)]
theorem dotB_congrR {n r x y : Nat} (h : ∀ k, k < n → x.testBit k = y.testBit k) : dotB n r x = dotB n r y := by
  induction n with
  | zero => rfl
  | succ n ih => unfold dotB; rw [ih fun k hk => h k (by omega), h n (by omega)]
theorem low_bits {n y k : Nat} (hk : k < n) : (2 ^ n + y).testBit k = y.testBit k := Nat.testBit_two_pow_add_gt hk y
theorem top_set {n y : Nat} (h : y < 2 ^ n) : (2 ^ n + y).testBit n = true := by
  rw [Nat.testBit_two_pow_add_eq, no_bit h (Nat.le_refl _)]; rfl
theorem range_two (n : Nat) : List.range (2 ^ (n + 1)) = List.range (2 ^ n) ++ (List.range (2 ^ n)).map (2 ^ n + ·) := by
  rw [Nat.pow_succ, Nat.mul_two, List.range_add]
/-- The members in the order of choices. -/
theorem allOf_snoc (R : List Nat) (r : Nat) : allOf (R ++ [r]) = allOf R ++ (allOf R).map (· ^^^ r) := by
  unfold allOf
  rw [List.length_append, show ([r] : List Nat).length = 1 from rfl, range_two, List.map_append, List.map_map, List.map_map]
  congr 1
  · refine List.map_congr_left fun y hy => ?_
    exact tot_low r (List.mem_range.1 hy)
  · refine List.map_congr_left fun y hy => ?_
    have hy' := List.mem_range.1 hy
    show tot (R ++ [r]) (2 ^ R.length + y) = tot R y ^^^ r
    rw [tot_snoc, top_set hy', if_pos rfl]
    congr 1
    apply xor_eq0
    rw [← tot_xor]
    exact totF_none fun k _ hk => by rw [Nat.testBit_xor, low_bits (by omega)]; simp
theorem allOf_members : ∀ (n : Nat) (R : List Nat), R.length = n → allOf R = membersR R
  | 0, R, h => by
    rw [List.length_eq_zero_iff.1 h]
    rfl
  | n + 1, R, h => by
    obtain ⟨S, r, rfl⟩ : ∃ S r, R = S ++ [r] := ⟨R.dropLast, R.getLast (by intro e; simp [e] at h), (List.dropLast_concat_getLast _).symm⟩
    rw [allOf_snoc, membersR_snoc, allOf_members n S (by simpa using h)]
/-- The sum of all signs over a span. -/
theorem char_sum (n v : Nat) : ∀ (R out : List Nat), sg (R.foldl (fun out r => out ++ out.map (· ^^^ r)) out) (fun u => sn (dotB n u v)) = sg out (fun u => sn (dotB n u v)) * (if ∀ r ∈ R, dotB n r v = false then (2 : Int) ^ R.length else 0)
  | [], out => by simp
  | r :: R, out => by
    rw [List.foldl_cons, char_sum n v R, sg_append, sg_map]
    have h1 : sg out (fun x => sn (dotB n (x ^^^ r) v)) = sg out (fun u => sn (dotB n u v)) * sn (dotB n r v) := by
      rw [← sg_mul]
      exact sg_congr fun x _ => by rw [dotB_xorL, sn_ne]
    rw [h1]
    by_cases hr : dotB n r v = false
    · have e : (∀ s ∈ r :: R, dotB n s v = false) ↔ ∀ s ∈ R, dotB n s v = false := by simp [hr]
      rw [hr]
      by_cases h : ∀ s ∈ R, dotB n s v = false
      · rw [if_pos h, if_pos (e.2 h), List.length_cons, Int.pow_succ]
        show (_ + _ * 1) * _ = _
        rw [Int.mul_one, Int.add_mul, ← Int.mul_assoc]
        omega
      · rw [if_neg h, if_neg fun h' => h (e.1 h'), Int.mul_zero, Int.mul_zero]
    · have hr' : dotB n r v = true := by simpa using hr
      have hne : ¬ ∀ s ∈ r :: R, dotB n s v = false := fun h => hr (h r (by simp))
      rw [if_neg hne, hr']
      show (_ + _ * (-1)) * _ = _
      rw [Int.mul_neg, Int.mul_one, ← Int.sub_eq_add_neg, Int.sub_self, Int.zero_mul, Int.mul_zero]
/-- Products of row sums. -/
def conv (f g : Nat → Int) (j : Nat) : Int := sg (List.range (j + 1)) fun i => f i * g (j - i)
def shf (f : Nat → Int) : Nat → Int
  | 0 => 0
  | i + 1 => f i
theorem conv_shr (f g : Nat → Int) (j : Nat) : conv f (shf g) (j + 1) = conv f g j := by
  unfold conv
  rw [List.range_succ, sg_append]
  have h : sg [j + 1] (fun i => f i * shf g (j + 1 - i)) = 0 := by simp [sg, shf]
  rw [h, Int.add_zero]
  refine sg_congr fun i hi => ?_
  have := List.mem_range.1 hi
  rw [show j + 1 - i = (j - i) + 1 by omega]
  rfl
theorem conv_shl (f g : Nat → Int) (j : Nat) : conv (shf f) g (j + 1) = conv f g j := by
  unfold conv
  rw [List.range_succ_eq_map, sg, sg_map]
  show 0 * _ + _ = _
  rw [Int.zero_mul, Int.zero_add]
  refine sg_congr fun i _ => ?_
  rw [show j + 1 - (Nat.succ i) = j - i by omega]
  rfl
theorem conv_addr (f g h : Nat → Int) (j : Nat) : conv f (fun i => g i + h i) j = conv f g j + conv f h j := by
  unfold conv
  rw [← sg_add]
  exact sg_congr fun i _ => Int.mul_add _ _ _
theorem conv_subl (f g h : Nat → Int) (j : Nat) : conv (fun i => f i - g i) h j = conv f h j - conv g h j := by
  show sg (List.range (j + 1)) (fun i => (f i - g i) * h (j - i)) = sg (List.range (j + 1)) (fun i => f i * h (j - i)) - sg (List.range (j + 1)) (fun i => g i * h (j - i))
  have := sg_add (List.range (j + 1)) (fun i => (f i - g i) * h (j - i)) (fun i => g i * h (j - i))
  rw [show sg (List.range (j + 1)) (fun i => (f i - g i) * h (j - i) + g i * h (j - i)) = sg (List.range (j + 1)) (fun i => f i * h (j - i)) from sg_congr fun i _ => by rw [← Int.add_mul]; congr 1; omega] at this
  omega
def bin : Nat → Nat → Nat
  | _, 0 => 1
  | 0, _ + 1 => 0
  | n + 1, k + 1 => bin n k + bin n (k + 1)
def sb (k i : Nat) : Int := if i % 2 = 1 then -(bin k i : Int) else (bin k i : Int)
def kr (n j k : Nat) : Int := conv (sb k) (fun i => (bin (n - k) i : Int)) j
theorem bin_step (m : Nat) : (fun i => (bin (m + 1) i : Int)) = fun i => (bin m i : Int) + shf (fun i => (bin m i : Int)) i := by
  funext i
  cases i with
  | zero => simp [shf, bin]
  | succ i =>
    show ((bin m i + bin m (i + 1) : Nat) : Int) = _
    simp only [shf]
    omega
theorem sb_step (k : Nat) : sb (k + 1) = fun i => sb k i - shf (sb k) i := by
  funext i
  cases i with
  | zero => simp [sb, shf, bin]
  | succ i =>
    simp only [sb, shf]
    have h : bin (k + 1) (i + 1) = bin k i + bin k (i + 1) := rfl
    rw [h]
    rcases Nat.mod_two_eq_zero_or_one i with hi | hi
    · rw [if_pos (by omega), if_pos (by omega), if_neg (by omega)]; omega
    · rw [if_neg (by omega), if_neg (by omega), if_pos (by omega)]; omega
theorem conv0 (f g : Nat → Int) : conv f g 0 = f 0 * g 0 := by simp [conv, sg, List.range_succ]
/-- The signs over all rows of one weight. -/
def tr (n j u : Nat) : Int := sg (List.range (2 ^ n)) fun v => if wtB n v = j then sn (dotB n u v) else 0
theorem tr_succ (n j u : Nat) : tr (n + 1) j u = tr n j u + (if j = 0 then 0 else tr n (j - 1) u) * sn (u.testBit n) := by
  unfold tr
  rw [range_two, sg_append, sg_map]
  congr 1
  · refine sg_congr fun v hv => ?_
    have hv' := no_bit (List.mem_range.1 hv) (Nat.le_refl _)
    have h1 : wtB (n + 1) v = wtB n v := by
      have e : wtB (n + 1) v = wtB n v + (if v.testBit n then 1 else 0) := rfl
      rw [e, hv']; simp
    have h2 : dotB (n + 1) u v = dotB n u v := by
      have e : dotB (n + 1) u v = (dotB n u v != (u.testBit n && v.testBit n)) := rfl
      rw [e, hv']; simp
    rw [h1, h2]
  · have h1 : ∀ v, v < 2 ^ n → wtB (n + 1) (2 ^ n + v) = wtB n v + 1 := fun v hv => by
      have e : wtB (n + 1) (2 ^ n + v) = wtB n (2 ^ n + v) + (if (2 ^ n + v).testBit n then 1 else 0) := rfl
      rw [e, top_set hv, wtB_congr fun k hk => low_bits hk]
      rfl
    have h2 : ∀ v, v < 2 ^ n → dotB (n + 1) u (2 ^ n + v) = (dotB n u v != u.testBit n) := fun v hv => by
      have e : dotB (n + 1) u (2 ^ n + v) = (dotB n u (2 ^ n + v) != (u.testBit n && (2 ^ n + v).testBit n)) := rfl
      rw [e, top_set hv, dotB_congrR fun k hk => low_bits hk, Bool.and_true]
    by_cases hj : j = 0
    · rw [if_pos hj, Int.zero_mul]
      refine Eq.trans (sg_congr (g := fun _ => 0) fun v hv => ?_) (sg_zero _)
      rw [h1 v (List.mem_range.1 hv), if_neg (by omega)]
    · rw [if_neg hj, ← sg_mul]
      refine sg_congr fun v hv => ?_
      rw [h1 v (List.mem_range.1 hv), h2 v (List.mem_range.1 hv), sn_ne]
      by_cases hw : wtB n v + 1 = j
      · rw [if_pos hw, if_pos (by omega)]
      · rw [if_neg hw, if_neg (by omega), Int.zero_mul]
theorem kr_up (n j k : Nat) (hk : k ≤ n) : kr (n + 1) j k = kr n j k + (if j = 0 then 0 else kr n (j - 1) k) := by
  unfold kr
  rw [show n + 1 - k = (n - k) + 1 by omega, bin_step, conv_addr]
  congr 1
  cases j with
  | zero => rw [if_pos rfl, conv0]; simp [shf]
  | succ j => rw [if_neg (by omega), conv_shr]; rfl
theorem kr_both (n j k : Nat) : kr (n + 1) j (k + 1) = kr n j k - (if j = 0 then 0 else kr n (j - 1) k) := by
  unfold kr
  rw [show n + 1 - (k + 1) = n - k by omega, sb_step, conv_subl]
  congr 1
  cases j with
  | zero => rw [if_pos rfl, conv0]; simp [shf]
  | succ j => rw [if_neg (by omega), conv_shl]; rfl
theorem tr_kr : ∀ (n j u : Nat), tr n j u = kr n j (wtB n u)
  | 0, j, u => by
    have h : wtB 0 u = 0 := rfl
    rw [h]
    cases j with
    | zero => rfl
    | succ j =>
      have h1 : tr 0 (j + 1) u = 0 := by simp [tr, sg, wtB]
      rw [h1]
      unfold kr
      have hz : ∀ i, i ∈ List.range (j + 1 + 1) → sb 0 i * (fun i => (bin (0 - 0) i : Int)) (j + 1 - i) = (fun _ => 0) i := by
        intro i hi
        have := List.mem_range.1 hi
        cases i with
        | zero => simp [bin]
        | succ i => simp [sb, bin]
      unfold conv
      rw [sg_congr hz]
      exact (sg_zero _).symm
  | n + 1, j, u => by
    have hw := wtB_le n u
    rw [tr_succ, tr_kr n j u, tr_kr n (j - 1) u]
    have h : wtB (n + 1) u = wtB n u + (if u.testBit n then 1 else 0) := rfl
    rw [h]
    cases hb : u.testBit n
    · show _ = kr (n + 1) j (wtB n u)
      rw [kr_up n j _ hw]
      show _ + _ * 1 = _
      rw [Int.mul_one]
    · show _ = kr (n + 1) j (wtB n u + 1)
      rw [kr_both]
      show _ + _ * (-1) = _
      rw [Int.mul_neg, Int.mul_one, ← Int.sub_eq_add_neg]
/-- How many members have a weight. -/
def cnt (l : List Nat) (n j : Nat) : Nat := l.countP fun u => decide (wtB n u = j)
theorem sg_cnt (l : List Nat) (n j : Nat) (c : Int) : sg l (fun u => if wtB n u = j then c else 0) = cnt l n j * c := by
  induction l with
  | nil => simp [sg, cnt]
  | cons a l ih =>
    have e : cnt (a :: l) n j = cnt l n j + (if wtB n a = j then 1 else 0) := by
      unfold cnt
      rw [List.countP_cons]
      simp
    rw [sg, ih, e]
    split
    · rw [Int.natCast_add, Int.add_mul]; omega
    · simp
/-- Sums over members by their weights. -/
theorem sg_wt (n : Nat) (f : Nat → Int) (l : List Nat) : sg l (fun u => f (wtB n u)) = sg (List.range (n + 1)) fun k => cnt l n k * f k := by
  have h : ∀ u, f (wtB n u) = sg (List.range (n + 1)) fun k => if wtB n u = k then f k else 0 := by
    intro u
    have hw := wtB_le n u
    have key : ∀ (m : Nat), sg (List.range m) (fun k => if wtB n u = k then f k else 0) = if wtB n u < m then f (wtB n u) else 0 := by
      intro m
      induction m with
      | zero => rfl
      | succ m ih =>
        rw [List.range_succ, sg_append, ih]
        simp only [sg]
        by_cases h1 : wtB n u < m
        · rw [if_pos h1, if_neg (by omega), if_pos (by omega)]; omega
        · by_cases h2 : wtB n u = m
          · rw [if_neg h1, if_pos h2, if_pos (by omega), h2]; omega
          · rw [if_neg h1, if_neg h2, if_neg (by omega)]; rfl
    rw [key, if_pos (by omega)]
  rw [sg_congr fun u _ => h u, sg_swap]
  exact sg_congr fun k _ => sg_cnt l n k (f k)
/-- The weights of a span tell those of what is orthogonal. -/
theorem macwilliams {l : List Nat} {n j : Nat} (hl : ∀ x ∈ l, x < 2 ^ n) :
    (cnt (membersR (orthR l n)) n j : Int) * 2 ^ (redR l n).length = sg (List.range (n + 1)) fun k => cnt (membersR (redR l n)) n k * kr n j k := by
  have hR := redR_spec hl
  have hN := orthR_spec hl
  have h1 : sg (List.range (n + 1)) (fun k => cnt (membersR (redR l n)) n k * kr n j k) = sg (membersR (redR l n)) fun u => tr n j u := by
    rw [← sg_wt n (kr n j)]
    exact sg_congr fun u _ => (tr_kr n j u).symm
  have hch : ∀ v, sg (membersR (redR l n)) (fun u => sn (dotB n u v)) = if ∀ r ∈ redR l n, dotB n r v = false then (2 : Int) ^ (redR l n).length else 0 := fun v => by
    unfold membersR
    rw [char_sum]
    have : sg [0] (fun u => sn (dotB n u v)) = 1 := by simp [sg, dotB_zeroL, sn]
    rw [this, Int.one_mul]
  rw [h1]
  unfold tr
  rw [sg_swap]
  have h2 : ∀ v, sg (membersR (redR l n)) (fun u => if wtB n v = j then sn (dotB n u v) else 0) = if wtB n v = j then (if ∀ r ∈ redR l n, dotB n r v = false then (2 : Int) ^ (redR l n).length else 0) else 0 := fun v => by
    by_cases h : wtB n v = j
    · rw [if_pos h, ← hch v]
      exact sg_congr fun u _ => by rw [if_pos h]
    · rw [if_neg h]
      exact (sg_congr fun u _ => by rw [if_neg h]).trans (sg_zero _)
  rw [sg_congr fun v _ => h2 v]
  have hperm : (membersR (orthR l n)).Perm ((List.range (2 ^ n)).filter fun v => decide (∀ r ∈ redR l n, dotB n r v = false)) := by
    rw [← allOf_members _ _ rfl]
    refine (List.perm_ext_iff_of_nodup hN.1.ind.nodup (filter_nodup _ List.nodup_range)).2 fun v => ?_
    rw [mem_allOf, hN.2, ← orth_iff hR.2, List.mem_filter, List.mem_range]
    unfold Orth
    simp
  have hflt : ∀ (L : List Nat), sg L (fun v => if wtB n v = j then (if ∀ r ∈ redR l n, dotB n r v = false then (2 : Int) ^ (redR l n).length else 0) else 0) = sg (L.filter fun v => decide (∀ r ∈ redR l n, dotB n r v = false)) fun v => if wtB n v = j then (2 : Int) ^ (redR l n).length else 0 := by
    intro L
    induction L with
    | nil => rfl
    | cons a L ih =>
      rw [sg, ih, List.filter_cons]
      by_cases h : ∀ r ∈ redR l n, dotB n r a = false
      · rw [if_pos (decide_eq_true h), sg, if_pos h]
      · rw [if_neg h, decide_eq_false h]
        simp
  rw [hflt, ← sg_perm hperm, sg_cnt]
end Go.Proofs.YtpnancidgobehaaDoor
