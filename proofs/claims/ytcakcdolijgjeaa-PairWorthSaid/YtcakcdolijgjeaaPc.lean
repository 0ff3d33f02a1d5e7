/- Two pairs are made without a cost: in whatever world. -/
import Derived.Test.YtcakcdolijgjeaaPb
namespace Go.Ab
open Go Go.RowKit Go.Proofs Go.Proofs.Ytcakcdolijgjeaa
theorem awake_any (w : World) : Calls Try.prog 25 #[] w fun e w' => e = .returned (.bool true) ∧ Below w.heap.size w w' :=
  closed_call (kn := ⟨noPr, fun f => f == 118 || f == 108 || f == 83 || f == 103 || f == 59 || f == 60 || f == 61 || f == 101 || f == 119 || f == 110, maxMem⟩) ⟨noPr_ok _, maxMem_ok⟩ (n := 40) (d := 20) (by kernel_rfl) w
end Go.Ab
