
/- The reference's decimal digits. -/
import Derived.Test.YtjalpolciofphaaDoorTx
set_option linter.all false
set_option maxRecDepth 100000
namespace Go.Proofs.YtjalpolciofphaaDoor
open Go.RowKit

theorem digit_one : ∀ i : Fin 10, (ByteArray.extract { data := #[48, 49, 50, 51, 52, 53, 54, 55, 56, 57] } i.val (i.val + 1)) = ⟨(Lib.decDigits i.val).toArray⟩ := by decide +kernel
set_option maxHeartbeats 2000000 in
theorem r_digits (n : Nat) : ∀ (w : World), n ≤ 1099511627776 → Calls Tryd.prog 84 #[.int .i64 n] w (Gives (.string ⟨(Lib.decDigits n).toArray⟩) w) := by
  induction n using Nat.strongRecOn with
  | _ n ih =>
    intro w hn
    by_cases h : n < 10
    · have hd := digit_one ⟨n, h⟩
      dsimp only at hd
      rw [← hd]
      clear hd ih
      go_enter Tryd.func84, Tryd.ntmps84
      go_wp2_with fail
      go_ret
      exact ⟨rfl, (by repeat (first | with_reducible exact Below.refl _ _ | with_reducible refine below_al ?_ _ | with_reducible refine below_dN ?_ _ | with_reducible refine Below.drew ?_ | (with_reducible refine Below.setCell ?_ (by simp <;> omega) _) | (with_reducible refine below_via (by assumption) ?_)))⟩
    · have H1 : Hid (∀ w, Calls Tryd.prog 84 #[.int .i64 ((n / 10 : Nat) : Int)] w (Gives (.string ⟨(Lib.decDigits (n / 10)).toArray⟩) w)) := fun w => ih (n / 10) (by omega) w (by omega)
      have H2 : Hid (∀ w, Calls Tryd.prog 84 #[.int .i64 ((n % 10 : Nat) : Int)] w (Gives (.string ⟨(Lib.decDigits (n % 10)).toArray⟩) w)) := fun w => ih (n % 10) (by omega) w (by omega)
      have e1 : (n : Int) / 10 = ((n / 10 : Nat) : Int) := by omega
      have e2 : (n : Int) % 10 = ((n % 10 : Nat) : Int) := by omega
      rw [← e1] at H1
      rw [← e2] at H2
      have he : Lib.decDigits n = Lib.decDigits (n / 10) ++ Lib.decDigits (n % 10) := by
        have h2 := Lib.decDigits_one (i := n % 10) (by omega)
        rw [Lib.decDigits, dif_neg h, h2]
      have hlen : ¬ 9223372036854775807 < (Lib.decDigits (n / 10)).length + (Lib.decDigits (n % 10)).length := by
        rw [Lib.decDigits_length, Lib.decDigits_length]
        have h1 := Lib.nDigits_le20 (n / 10) (by omega)
        have h2 := Lib.nDigits_le20 (n % 10) (by omega)
        omega
      have he2 : (⟨(Lib.decDigits (n / 10)).toArray⟩ : ByteArray) ++ ⟨(Lib.decDigits (n % 10)).toArray⟩ = ⟨(Lib.decDigits n).toArray⟩ := list_inj (by rw [bytes_app, he])
      have HE := Lib.hid he2
      clear he2
      clear he e1 e2 ih
      go_enter Tryd.func84, Tryd.ntmps84
      go_wp2_with fail
      refine (H1.out _).mono ?_
      rintro e w1 ⟨rfl, hb⟩
      go_wp2_with fail
      refine (H2.out _).mono ?_
      rintro e w2 ⟨rfl, hb2⟩
      go_wp2_with fail
      go_ret
      rw [HE.out]
      exact ⟨rfl, (by repeat (first | with_reducible exact Below.refl _ _ | with_reducible refine below_al ?_ _ | with_reducible refine below_dN ?_ _ | with_reducible refine Below.drew ?_ | (with_reducible refine Below.setCell ?_ (by simp <;> omega) _) | (with_reducible refine below_via (by assumption) ?_)))⟩
end Go.Proofs.YtjalpolciofphaaDoor
