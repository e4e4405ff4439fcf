
/- Contracts of package ring: what is settled; one number, two numbers. -/
import Derived.Test.YtjalpolciofphaaDoorWd
set_option linter.all false
set_option maxRecDepth 100000
namespace Go.Proofs.YtjalpolciofphaaDoor
open Go.RowKit

set_option maxHeartbeats 4000000 in
theorem settle_ok (A B C D K : Int) (r : Nm) (w : World) (hK : 0 ≤ K) (HL : Hid (∀ w, Calls Tryd.prog 62 #[nv A B C D K] w (Gives r.v w))) (HC : Hid (chk r.A r.B r.C r.D r.K = 0)) :
    Calls Tryd.prog 65 #[nv A B C D K] w (Gives (.tuple #[r.v, .int .i64 0]) w) := by
  go_enter Tryd.func65, Tryd.ntmps65
  go_wp2_with fail
  refine (HL.out _).mono ?_
  rintro e w1 ⟨rfl, hb⟩
  obtain ⟨hc, hf⟩ := bcell hb
  have hz0 : w.heap.size < w1.heap.size := by have := hb.size; simp at this; omega
  have hz1 : w.heap.size + 1 < w1.heap.size := by have := hb.size; simp at this; omega
  go_wp2_with fail
  refine (check_any _ _ _ _ _ _).mono ?_
  rw [HC.out]
  rintro e w2 ⟨rfl, hb2⟩
  obtain ⟨hc2, hf2⟩ := bcell hb2
  go_wp2_with fail
  exact bodyPost_ret (v := (.tuple #[r.v, .int .i64 0])) (by simp [results, Tryd.results65, go_sem, hc2, hc, hz0, hz1]) rfl ⟨rfl, (by repeat (first | with_reducible exact Below.refl _ _ | with_reducible refine below_al ?_ _ | with_reducible refine below_dN ?_ _ | with_reducible refine Below.drew ?_ | (with_reducible refine Below.setCell ?_ (by simp <;> omega) _) | (with_reducible refine below_via (by assumption) ?_)))⟩

set_option maxHeartbeats 4000000 in
theorem settle_bad (A B C D K : Int) (r : Nm) (w : World) (hK : 0 ≤ K) (HL : Hid (∀ w, Calls Tryd.prog 62 #[nv A B C D K] w (Gives r.v w))) (HC : (chk r.A r.B r.C r.D r.K != 0) = true) :
    Calls Tryd.prog 65 #[nv A B C D K] w (Gives (.tuple #[nul.v, .int .i64 8]) w) := by
  go_enter Tryd.func65, Tryd.ntmps65
  go_wp2_with fail
  refine (HL.out _).mono ?_
  rintro e w1 ⟨rfl, hb⟩
  obtain ⟨hc, hf⟩ := bcell hb
  have hz0 : w.heap.size < w1.heap.size := by have := hb.size; simp at this; omega
  have hz1 : w.heap.size + 1 < w1.heap.size := by have := hb.size; simp at this; omega
  go_wp2_with fail
  refine (check_any _ _ _ _ _ _).mono ?_
  rintro e w2 ⟨rfl, hb2⟩
  obtain ⟨hc2, hf2⟩ := bcell hb2
  go_wp2_with fail
  exact bodyPost_ret (v := (.tuple #[nul.v, .int .i64 8])) (by simp [results, Tryd.results65, go_sem, hc2, hc, hz0, hz1]) rfl ⟨rfl, (by repeat (first | with_reducible exact Below.refl _ _ | with_reducible refine below_al ?_ _ | with_reducible refine below_dN ?_ _ | with_reducible refine Below.drew ?_ | (with_reducible refine Below.setCell ?_ (by simp <;> omega) _) | (with_reducible refine below_via (by assumption) ?_)))⟩

theorem settle_any (A B C D K : Int) (w : World) (hx : Nm.wide ⟨A, B, C, D, K⟩) (hK : 0 ≤ K ∧ K ≤ 1000) :
    Calls Tryd.prog 65 #[nv A B C D K] w (Gives (.tuple #[(fitN ⟨A, B, C, D, K⟩).v, .int .i64 (fitE ⟨A, B, C, D, K⟩)]) w) := by
  have HL : Hid (∀ w, Calls Tryd.prog 62 #[nv A B C D K] w (Gives (Nm.least ⟨A, B, C, D, K⟩).v w)) := fun w => least_any A B C D K w hx hK
  unfold fitN fitE
  by_cases h : (Nm.least ⟨A, B, C, D, K⟩).chk = 0
  · rw [if_pos h, if_pos h]
    exact settle_ok A B C D K _ w hK.1 HL h
  · rw [if_neg h, if_neg h]
    exact settle_bad A B C D K _ w hK.1 HL (bne_iff_ne.2 h)

set_option maxHeartbeats 4000000 in
theorem checked_any (A B C D K a b c d k : Int) (w : World) :
    Calls Tryd.prog 61 #[nv A B C D K, nv a b c d k] w (Gives (.int .i64 (if chk A B C D K = 0 then chk a b c d k else chk A B C D K)) w) := by
  by_cases hc : chk A B C D K = 0
  · rw [if_pos hc]
    have HC := Lib.hid hc
    clear hc
    go_enter Tryd.func61, Tryd.ntmps61
    go_wp2_with fail
    refine (check_any _ _ _ _ _ _).mono ?_
    rw [HC.out]
    rintro e w1 ⟨rfl, hb⟩
    obtain ⟨hc, hf⟩ := bcell hb
    go_wp2_with fail
    refine (check_any _ _ _ _ _ _).mono ?_
    rintro e w2 ⟨rfl, hb2⟩
    go_wp2
    go_ret
    exact ⟨rfl, (by repeat (first | with_reducible exact Below.refl _ _ | with_reducible refine below_al ?_ _ | with_reducible refine below_dN ?_ _ | with_reducible refine Below.drew ?_ | (with_reducible refine Below.setCell ?_ (by simp <;> omega) _) | (with_reducible refine below_via (by assumption) ?_)))⟩
  · rw [if_neg hc]
    have hb0 : (chk A B C D K != 0) = true := bne_iff_ne.2 hc
    clear hc
    go_enter Tryd.func61, Tryd.ntmps61
    go_wp2_with fail
    refine (check_any _ _ _ _ _ _).mono ?_
    rintro e w1 ⟨rfl, hb⟩
    obtain ⟨hc, hf⟩ := bcell hb
    go_wp2
    go_ret
    exact ⟨rfl, (by repeat (first | with_reducible exact Below.refl _ _ | with_reducible refine below_al ?_ _ | with_reducible refine below_dN ?_ _ | with_reducible refine Below.drew ?_ | (with_reducible refine Below.setCell ?_ (by simp <;> omega) _) | (with_reducible refine below_via (by assumption) ?_)))⟩

/-- What is made of one number by way of f, settled: y is what f makes of a right number. -/
def aloneN (x y : Nm) : Nm := if x.chk = 0 then fitN y else nul
def aloneE (x y : Nm) : Int := if x.chk = 0 then fitE y else x.chk

set_option maxHeartbeats 4000000 in
theorem alone_ok (A B C D K : Int) (f : FuncId) (hfn : Enters f) (y : Nm) (w : World) (hf : Hid (∀ w, Calls Tryd.prog f #[nv A B C D K] w (Gives y.v w))) (hy : y.wide) (hK : 0 ≤ y.K ∧ y.K ≤ 1000) (HC : Hid (chk A B C D K = 0)) :
    Calls Tryd.prog 79 #[nv A B C D K, .func (.func f) #[] #[]] w (Gives (.tuple #[(fitN y).v, .int .i64 (fitE y)]) w) := by
  obtain ⟨r, hr⟩ : ∃ r, r = fitN y := ⟨_, rfl⟩
  obtain ⟨q, hq⟩ : ∃ q, q = fitE y := ⟨_, rfl⟩
  have HS : Hid (∀ w, Calls Tryd.prog 65 #[nv y.A y.B y.C y.D y.K] w (Gives (.tuple #[r.v, .int .i64 q]) w)) := by
    intro w; rw [hr, hq]; exact settle_any _ _ _ _ _ w hy hK
  rw [← hr, ← hq]
  clear hr hq
  unfold Enters at hfn
  go_enter Tryd.func79, Tryd.ntmps79
  go_wp2_with fail
  refine (check_any _ _ _ _ _ _).mono ?_
  rw [HC.out]
  rintro e w1 ⟨rfl, hb⟩
  obtain ⟨hc, hfz⟩ := bcell hb
  have hz0 : w.heap.size < w1.heap.size := by have := hb.size; simp at this; omega
  have hz1 : w.heap.size + 1 < w1.heap.size := by have := hb.size; simp at this; omega
  go_wp2_with fail
  refine (hf.out _).mono ?_
  rintro e w2 ⟨rfl, hb2⟩
  obtain ⟨hc2, hf2⟩ := bcell hb2
  have hz02 : w.heap.size < w2.heap.size := by have := hb2.size; omega
  have hz12 : w.heap.size + 1 < w2.heap.size := by have := hb2.size; omega
  go_wp2_with fail
  refine (HS.out _).mono ?_
  rintro e w3 ⟨rfl, hb3⟩
  obtain ⟨hc3, hf3⟩ := bcell hb3
  go_wp2_with fail
  exact bodyPost_ret (v := .tuple #[r.v, .int .i64 q]) (by simp [results, Tryd.results79, go_sem, hc3, hc2, hc, hz0, hz1, hz02, hz12]) rfl ⟨rfl, (by repeat (first | with_reducible exact Below.refl _ _ | with_reducible refine below_al ?_ _ | with_reducible refine below_dN ?_ _ | with_reducible refine Below.drew ?_ | (with_reducible refine Below.setCell ?_ (by simp <;> omega) _) | (with_reducible refine below_via (by assumption) ?_)))⟩

set_option maxHeartbeats 4000000 in
theorem alone_bad (A B C D K : Int) (f : FuncId) (w : World) (HC : (chk A B C D K != 0) = true) :
    Calls Tryd.prog 79 #[nv A B C D K, .func (.func f) #[] #[]] w (Gives (.tuple #[nul.v, .int .i64 (chk A B C D K)]) w) := by
  go_enter Tryd.func79, Tryd.ntmps79
  go_wp2_with fail
  refine (check_any _ _ _ _ _ _).mono ?_
  rintro e w1 ⟨rfl, hb⟩
  obtain ⟨hc, hfz⟩ := bcell hb
  go_wp2_with fail
  exact bodyPost_ret (v := .tuple #[nul.v, .int .i64 (chk A B C D K)]) (by simp [results, Tryd.results79, go_sem, hc]) rfl ⟨rfl, (by repeat (first | with_reducible exact Below.refl _ _ | with_reducible refine below_al ?_ _ | with_reducible refine below_dN ?_ _ | with_reducible refine Below.drew ?_ | (with_reducible refine Below.setCell ?_ (by simp <;> omega) _) | (with_reducible refine below_via (by assumption) ?_)))⟩

theorem alone_any (A B C D K : Int) (f : FuncId) (hfn : Enters f) (y : Nm) (w : World) (hf : chk A B C D K = 0 → (∀ w, Calls Tryd.prog f #[nv A B C D K] w (Gives y.v w)) ∧ y.wide ∧ 0 ≤ y.K ∧ y.K ≤ 1000) :
    Calls Tryd.prog 79 #[nv A B C D K, .func (.func f) #[] #[]] w (Gives (.tuple #[(aloneN ⟨A, B, C, D, K⟩ y).v, .int .i64 (aloneE ⟨A, B, C, D, K⟩ y)]) w) := by
  unfold aloneN aloneE
  by_cases h : Nm.chk ⟨A, B, C, D, K⟩ = 0
  · rw [if_pos h, if_pos h]
    obtain ⟨h1, h2, h3⟩ := hf h
    exact alone_ok A B C D K f hfn y w h1 h2 h3 h
  · rw [if_neg h, if_neg h]
    exact alone_bad A B C D K f w (bne_iff_ne.2 h)

/-- The first error of two numbers. -/
def chk2 (x y : Nm) : Int := if x.chk = 0 then y.chk else x.chk
def jointN (x y z : Nm) : Nm := if chk2 x y = 0 then fitN z else nul
def jointE (x y z : Nm) : Int := if chk2 x y = 0 then fitE z else chk2 x y

set_option maxHeartbeats 4000000 in
theorem joint_ok (A B C D K a b c d k : Int) (f : FuncId) (hfn : Enters f) (y : Nm) (w : World) (hf : Hid (∀ w, Calls Tryd.prog f #[nv A B C D K, nv a b c d k] w (Gives y.v w))) (hy : y.wide) (hK : 0 ≤ y.K ∧ y.K ≤ 1000) (HC : Hid (chk2 ⟨A, B, C, D, K⟩ ⟨a, b, c, d, k⟩ = 0)) :
    Calls Tryd.prog 42 #[.agg #[.func (.func f) #[] #[]], nv A B C D K, nv a b c d k] w (Gives (.tuple #[(fitN y).v, .int .i64 (fitE y)]) w) := by
  obtain ⟨r, hr⟩ : ∃ r, r = fitN y := ⟨_, rfl⟩
  obtain ⟨q, hq⟩ : ∃ q, q = fitE y := ⟨_, rfl⟩
  have HS : Hid (∀ w, Calls Tryd.prog 65 #[nv y.A y.B y.C y.D y.K] w (Gives (.tuple #[r.v, .int .i64 q]) w)) := by
    intro w; rw [hr, hq]; exact settle_any _ _ _ _ _ w hy hK
  rw [← hr, ← hq]
  clear hr hq
  have HC2 : Hid (∀ w, Calls Tryd.prog 61 #[nv A B C D K, nv a b c d k] w (Gives (.int .i64 0) w)) := by
    intro w
    have := checked_any A B C D K a b c d k w
    have h2 := HC.out
    unfold chk2 Nm.chk at h2
    dsimp only at h2
    rw [h2] at this
    exact this
  unfold Enters at hfn
  go_enter Tryd.func42, Tryd.ntmps42
  go_wp2_with fail
  refine (HC2.out _).mono ?_
  rintro e w1 ⟨rfl, hb⟩
  obtain ⟨hc, hfz⟩ := bcell hb
  have hz0 : w.heap.size < w1.heap.size := by have := hb.size; simp at this; omega
  have hz1 : w.heap.size + 1 < w1.heap.size := by have := hb.size; simp at this; omega
  have hz2 : w.heap.size + 1 + 1 < w1.heap.size := by have := hb.size; simp at this; omega
  have hz3 : w.heap.size + 1 + 1 + 1 < w1.heap.size := by have := hb.size; simp at this; omega
  go_wp2_with fail
  refine (hf.out _).mono ?_
  rintro e w2 ⟨rfl, hb2⟩
  obtain ⟨hc2, hf2⟩ := bcell hb2
  have hz02 : w.heap.size < w2.heap.size := by have := hb2.size; omega
  have hz12 : w.heap.size + 1 < w2.heap.size := by have := hb2.size; omega
  have hz22 : w.heap.size + 1 + 1 < w2.heap.size := by have := hb2.size; omega
  have hz32 : w.heap.size + 1 + 1 + 1 < w2.heap.size := by have := hb2.size; omega
  go_wp2_with fail
  refine (HS.out _).mono ?_
  rintro e w3 ⟨rfl, hb3⟩
  obtain ⟨hc3, hf3⟩ := bcell hb3
  go_wp2_with fail
  exact bodyPost_ret (v := .tuple #[r.v, .int .i64 q]) (by simp [results, Tryd.results42, go_sem, hc3, hc2, hc, hz0, hz1, hz2, hz3, hz02, hz12, hz22, hz32]) rfl ⟨rfl, (by repeat (first | with_reducible exact Below.refl _ _ | with_reducible refine below_al ?_ _ | with_reducible refine below_dN ?_ _ | with_reducible refine Below.drew ?_ | (with_reducible refine Below.setCell ?_ (by simp <;> omega) _) | (with_reducible refine below_via (by assumption) ?_)))⟩

set_option maxHeartbeats 4000000 in
theorem joint_bad (A B C D K a b c d k : Int) (f : FuncId) (w : World) (HC : Hid (chk2 ⟨A, B, C, D, K⟩ ⟨a, b, c, d, k⟩ ≠ 0)) :
    Calls Tryd.prog 42 #[.agg #[.func (.func f) #[] #[]], nv A B C D K, nv a b c d k] w (Gives (.tuple #[nul.v, .int .i64 (chk2 ⟨A, B, C, D, K⟩ ⟨a, b, c, d, k⟩)]) w) := by
  obtain ⟨q, hq⟩ : ∃ q, q = chk2 ⟨A, B, C, D, K⟩ ⟨a, b, c, d, k⟩ := ⟨_, rfl⟩
  have HC2 : Hid (∀ w, Calls Tryd.prog 61 #[nv A B C D K, nv a b c d k] w (Gives (.int .i64 q) w)) := by
    intro w; rw [hq]; exact checked_any A B C D K a b c d k w
  rw [← hq]
  have hq0 : (q != 0) = true := by rw [hq]; exact bne_iff_ne.2 HC.out
  clear hq
  go_enter Tryd.func42, Tryd.ntmps42
  go_wp2_with fail
  refine (HC2.out _).mono ?_
  rintro e w1 ⟨rfl, hb⟩
  obtain ⟨hc, hfz⟩ := bcell hb
  go_wp2_with fail
  exact bodyPost_ret (v := .tuple #[nul.v, .int .i64 q]) (by simp [results, Tryd.results42, go_sem, hc]) rfl ⟨rfl, (by repeat (first | with_reducible exact Below.refl _ _ | with_reducible refine below_al ?_ _ | with_reducible refine below_dN ?_ _ | with_reducible refine Below.drew ?_ | (with_reducible refine Below.setCell ?_ (by simp <;> omega) _) | (with_reducible refine below_via (by assumption) ?_)))⟩

theorem joint_any (A B C D K a b c d k : Int) (f : FuncId) (hfn : Enters f) (y : Nm) (w : World) (hf : chk2 ⟨A, B, C, D, K⟩ ⟨a, b, c, d, k⟩ = 0 → (∀ w, Calls Tryd.prog f #[nv A B C D K, nv a b c d k] w (Gives y.v w)) ∧ y.wide ∧ 0 ≤ y.K ∧ y.K ≤ 1000) :
    Calls Tryd.prog 42 #[.agg #[.func (.func f) #[] #[]], nv A B C D K, nv a b c d k] w (Gives (.tuple #[(jointN ⟨A, B, C, D, K⟩ ⟨a, b, c, d, k⟩ y).v, .int .i64 (jointE ⟨A, B, C, D, K⟩ ⟨a, b, c, d, k⟩ y)]) w) := by
  unfold jointN jointE
  by_cases h : chk2 ⟨A, B, C, D, K⟩ ⟨a, b, c, d, k⟩ = 0
  · rw [if_pos h, if_pos h]
    obtain ⟨h1, h2, h3⟩ := hf h
    exact joint_ok A B C D K a b c d k f hfn y w h1 h2 h3 h
  · rw [if_neg h, if_neg h]
    exact joint_bad A B C D K a b c d k f w h
end Go.Proofs.YtjalpolciofphaaDoor
