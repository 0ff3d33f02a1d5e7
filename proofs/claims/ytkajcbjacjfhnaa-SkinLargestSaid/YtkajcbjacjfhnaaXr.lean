import Derived.Test.YtkajcbjacjfhnaaXq
namespace Go.Ab
open Go Go.RowKit Go.Proofs Go.Proofs.Ytkajcbjacjfhnaa
set_option maxRecDepth 100000
theorem awake_reckoned : saysA true (callA Try.prog prims 60 30 25 [] Hp.empty) = true := by kernel_rfl
theorem awake_any (w : World) : Calls Try.prog 25 #[] w fun e w' => e = .returned (.bool true) ∧ Below w.heap.size w w' := closed_call prims_ok awake_reckoned w
end Go.Ab
