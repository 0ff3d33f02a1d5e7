/- SkinNobody's walk. -/
import Derived.Test.YtkajcbjacjfhnaaKs
namespace Go.Proofs.Ytkajcbjacjfhnaa
open Go Go.RowKit Go.Proofs Go.Ab
set_option maxRecDepth 100000
theorem nobody_any (x y b h : Int) (w : World) (_ : In64 x) (_ : In64 y) (_ : In64 b) (_ : In64 h) : Calls Try.prog 5 #[.agg #[.int .i64 x, .int .i64 y, .int .i64 b, .int .i64 h]] w fun e w' => e = .returned (.bool true) ∧ Below w.heap.size w w' :=
  plain_call prims2_ok (n := 10) (d := 10) (args := [.agg #[.int .i64 x, .int .i64 y, .int .i64 b, .int .i64 h]]) rfl rfl (by kernel_rfl) w
end Go.Proofs.Ytkajcbjacjfhnaa
