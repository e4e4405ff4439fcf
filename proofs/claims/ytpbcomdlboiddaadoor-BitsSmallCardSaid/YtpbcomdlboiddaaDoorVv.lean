
/- The library's count of trailing zeros at this program: what the library's text asks of the program, and its contract. -/
import Derived.Test.YtpbcomdlboiddaaDoorVk
import Derived.Shelf.Spec.TrailingZeros
set_option linter.all false
set_option maxRecDepth 100000
namespace Go.Proofs.YtpbcomdlboiddaaDoor
open Go.RowKit Go.Shelf

def bt_tz_ren : Go.Shelf.Ren := ⟨fun | 27 => 125 | 28 => 131 | 29 => 132 | n => n, fun | 0 => 0 | 3 => 3 | 4 => 4 | 5 => 5 | 22 => 115 | 25 => 55 | 27 => 92 | 53 => 122 | 54 => 123 | n => n, fun | 0 => 0 | 1 => 1 | n => n⟩
theorem bt_tz_lays : Go.Proofs.Lays7.n27 Tryd.prog bt_tz_ren := {
  mixed := by kernel_rfl
  f27 := Tryd.func125.trans (congrArg some (by kernel_rfl))
  f28 := Tryd.func131.trans (congrArg some (by kernel_rfl))
  f29 := Tryd.func132.trans (congrArg some (by kernel_rfl))
  t0 := Tryd.underlying0
  a0 := Tryd.isAgg0
  z0 := Tryd.sizeOf0
  v0 := Tryd.zeroValue0
  i0 := by kernel_rfl
  t3 := Tryd.underlying3
  a3 := Tryd.isAgg3
  z3 := Tryd.sizeOf3
  v3 := Tryd.zeroValue3
  i3 := by kernel_rfl
  t4 := Tryd.underlying4
  a4 := Tryd.isAgg4
  z4 := Tryd.sizeOf4
  v4 := Tryd.zeroValue4
  i4 := by kernel_rfl
  t5 := Tryd.underlying5
  a5 := Tryd.isAgg5
  z5 := Tryd.sizeOf5
  v5 := Tryd.zeroValue5
  i5 := by kernel_rfl
  t22 := Tryd.underlying115
  a22 := Tryd.isAgg115
  z22 := Tryd.sizeOf115
  v22 := Tryd.zeroValue115
  i22 := by kernel_rfl
  t25 := Tryd.underlying55
  a25 := Tryd.isAgg55
  z25 := Tryd.sizeOf55
  v25 := Tryd.zeroValue55
  i25 := by kernel_rfl
  t27 := Tryd.underlying92
  a27 := Tryd.isAgg92
  z27 := Tryd.sizeOf92
  v27 := Tryd.zeroValue92
  i27 := by kernel_rfl
  t53 := Tryd.underlying122
  a53 := Tryd.isAgg122
  z53 := Tryd.sizeOf122
  v53 := Tryd.zeroValue122
  i53 := by kernel_rfl
  t54 := Tryd.underlying123
  a54 := Tryd.isAgg123
  z54 := Tryd.sizeOf123
  g0 := by kernel_rfl
  g1 := by kernel_rfl }
/-- How many trailing zeros; the table is asked for only where the number is not 0. -/
theorem bt_tz (x : Nat) (hx : x < 18446744073709551616) (w : World) (hT : TabAt 1 Lib.deBruijn64tab w) : Calls Tryd.prog 125 #[.int .u64 x] w (Gives (.int .i64 (Lib.ctz 64 x)) w) :=
  (Any7.bits_TrailingZeros bt_tz_lays x hx w (fun _ => hT)).mono fun _ _ h => ⟨h.1, by rw [h.2]; exact Below.refl _ _⟩
end Go.Proofs.YtpbcomdlboiddaaDoor
