/- The worth of the law's own small board is found: in whatever world. -/
import Derived.Test.YtgkonocjafoblaaYr
namespace Go.Ab
open Go Go.RowKit Go.Proofs Go.Proofs.Ytgkonocjafoblaa
theorem awake_any (w : World) : Calls Try.prog 23 #[] w fun e w' => e = .returned (.bool true) ∧ Below w.heap.size w w' :=
  closed_call (kn := ⟨pr2, fun f => f == 122 || f == 119⟩) pr2_ok (n := 40) (d := 20) (by kernel_rfl) w
end Go.Ab
