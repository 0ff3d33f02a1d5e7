/- The cost of a pair, its tests told: of the program, of the reference. -/
import Derived.Test.YtcakcdolijgjeaaYw
import Derived.Test.YtcakcdolijgjeaaPb
set_option linter.unusedVariables false
namespace Go.Ab
open Go Go.RowKit Go.Proofs Go.Proofs.Ytcakcdolijgjeaa
def wr (n : Int) : Int := IntKind.i64.wrap n
def dK (x y : Int) : Int := match decide (wr (y - x) > wr (x - y)) with | true => wr (y - x) | false => wr (x - y)
theorem cost_0 (a0 a1 a2 a3 b0 b1 b2 b3 w0 w1 w2 w3 m0 m1 m2 m3 : Int) : reckons (callO Try.prog noKn 40 20 61 [uV w0 w1 w2 w3 m0 m1 m2 m3, gV a0 a1 a2 a3, gV b0 b1 b2 b3] [true, true]) (.tuple #[.int .i64 0, .bool false]) [(.bool (decide (dK a0 b0 > m0)), true), (.bool true, true)] := by
  unfold reckons
  kernel_rfl
theorem cost_1 (a0 a1 a2 a3 b0 b1 b2 b3 w0 w1 w2 w3 m0 m1 m2 m3 : Int) : reckons (callO Try.prog noKn 40 20 61 [uV w0 w1 w2 w3 m0 m1 m2 m3, gV a0 a1 a2 a3, gV b0 b1 b2 b3] [true, false, true, true]) (.tuple #[.int .i64 0, .bool false]) [(.bool (decide (dK a1 b1 > m1)), true), (.bool true, true), (.bool (decide (dK a0 b0 > m0)), false), (.bool true, true)] := by
  unfold reckons
  kernel_rfl
theorem cost_2 (a0 a1 a2 a3 b0 b1 b2 b3 w0 w1 w2 w3 m0 m1 m2 m3 : Int) : reckons (callO Try.prog noKn 40 20 61 [uV w0 w1 w2 w3 m0 m1 m2 m3, gV a0 a1 a2 a3, gV b0 b1 b2 b3] [true, false, true, false, true, true]) (.tuple #[.int .i64 0, .bool false]) [(.bool (decide (dK a2 b2 > m2)), true), (.bool true, true), (.bool (decide (dK a1 b1 > m1)), false), (.bool true, true), (.bool (decide (dK a0 b0 > m0)), false), (.bool true, true)] := by
  unfold reckons
  kernel_rfl
theorem cost_3 (a0 a1 a2 a3 b0 b1 b2 b3 w0 w1 w2 w3 m0 m1 m2 m3 : Int) : reckons (callO Try.prog noKn 40 20 61 [uV w0 w1 w2 w3 m0 m1 m2 m3, gV a0 a1 a2 a3, gV b0 b1 b2 b3] [true, false, true, false, true, false, true, true]) (.tuple #[.int .i64 0, .bool false]) [(.bool (decide (dK a3 b3 > m3)), true), (.bool true, true), (.bool (decide (dK a2 b2 > m2)), false), (.bool true, true), (.bool (decide (dK a1 b1 > m1)), false), (.bool true, true), (.bool (decide (dK a0 b0 > m0)), false), (.bool true, true)] := by
  unfold reckons
  kernel_rfl
theorem cost_4 (a0 a1 a2 a3 b0 b1 b2 b3 w0 w1 w2 w3 m0 m1 m2 m3 : Int) : reckons (callO Try.prog noKn 40 20 61 [uV w0 w1 w2 w3 m0 m1 m2 m3, gV a0 a1 a2 a3, gV b0 b1 b2 b3] [true, false, true, false, true, false, true, false, false]) (.tuple #[.int .i64 (wr (wr (wr (wr (0 + wr (dK a0 b0 * w0)) + wr (dK a1 b1 * w1)) + wr (dK a2 b2 * w2)) + wr (dK a3 b3 * w3))), .bool true]) [(.bool false, false), (.bool (decide (dK a3 b3 > m3)), false), (.bool true, true), (.bool (decide (dK a2 b2 > m2)), false), (.bool true, true), (.bool (decide (dK a1 b1 > m1)), false), (.bool true, true), (.bool (decide (dK a0 b0 > m0)), false), (.bool true, true)] := by
  unfold reckons
  kernel_rfl
theorem price_0 (a0 a1 a2 a3 b0 b1 b2 b3 w0 w1 w2 w3 m0 m1 m2 m3 : Int) : reckons (callO Try.prog noKn 40 20 48 [gV a0 a1 a2 a3, gV b0 b1 b2 b3, uV w0 w1 w2 w3 m0 m1 m2 m3] [true, true]) (.int .i64 (-1)) [(.bool (decide (dK a0 b0 > m0)), true), (.bool true, true)] := by
  unfold reckons
  kernel_rfl
theorem price_1 (a0 a1 a2 a3 b0 b1 b2 b3 w0 w1 w2 w3 m0 m1 m2 m3 : Int) : reckons (callO Try.prog noKn 40 20 48 [gV a0 a1 a2 a3, gV b0 b1 b2 b3, uV w0 w1 w2 w3 m0 m1 m2 m3] [true, false, true, true]) (.int .i64 (-1)) [(.bool (decide (dK a1 b1 > m1)), true), (.bool true, true), (.bool (decide (dK a0 b0 > m0)), false), (.bool true, true)] := by
  unfold reckons
  kernel_rfl
theorem price_2 (a0 a1 a2 a3 b0 b1 b2 b3 w0 w1 w2 w3 m0 m1 m2 m3 : Int) : reckons (callO Try.prog noKn 40 20 48 [gV a0 a1 a2 a3, gV b0 b1 b2 b3, uV w0 w1 w2 w3 m0 m1 m2 m3] [true, false, true, false, true, true]) (.int .i64 (-1)) [(.bool (decide (dK a2 b2 > m2)), true), (.bool true, true), (.bool (decide (dK a1 b1 > m1)), false), (.bool true, true), (.bool (decide (dK a0 b0 > m0)), false), (.bool true, true)] := by
  unfold reckons
  kernel_rfl
theorem price_3 (a0 a1 a2 a3 b0 b1 b2 b3 w0 w1 w2 w3 m0 m1 m2 m3 : Int) : reckons (callO Try.prog noKn 40 20 48 [gV a0 a1 a2 a3, gV b0 b1 b2 b3, uV w0 w1 w2 w3 m0 m1 m2 m3] [true, false, true, false, true, false, true, true]) (.int .i64 (-1)) [(.bool (decide (dK a3 b3 > m3)), true), (.bool true, true), (.bool (decide (dK a2 b2 > m2)), false), (.bool true, true), (.bool (decide (dK a1 b1 > m1)), false), (.bool true, true), (.bool (decide (dK a0 b0 > m0)), false), (.bool true, true)] := by
  unfold reckons
  kernel_rfl
theorem price_4 (a0 a1 a2 a3 b0 b1 b2 b3 w0 w1 w2 w3 m0 m1 m2 m3 : Int) : reckons (callO Try.prog noKn 40 20 48 [gV a0 a1 a2 a3, gV b0 b1 b2 b3, uV w0 w1 w2 w3 m0 m1 m2 m3] [true, false, true, false, true, false, true, false, false]) (.int .i64 (wr (wr (wr (wr (0 + wr (dK a0 b0 * w0)) + wr (dK a1 b1 * w1)) + wr (dK a2 b2 * w2)) + wr (dK a3 b3 * w3)))) [(.bool false, false), (.bool (decide (dK a3 b3 > m3)), false), (.bool true, true), (.bool (decide (dK a2 b2 > m2)), false), (.bool true, true), (.bool (decide (dK a1 b1 > m1)), false), (.bool true, true), (.bool (decide (dK a0 b0 > m0)), false), (.bool true, true)] := by
  unfold reckons
  kernel_rfl
end Go.Ab
