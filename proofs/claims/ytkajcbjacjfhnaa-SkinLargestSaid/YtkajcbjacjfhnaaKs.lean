/- What is known without a reckoning, the wake among it. -/
import Derived.Test.YtkajcbjacjfhnaaXr
namespace Go.Proofs.Ytkajcbjacjfhnaa
open Go Go.RowKit Go.Proofs Go.Ab
def In64 (n : Int) : Prop := -9223372036854775808 ≤ n ∧ n ≤ 9223372036854775807
/-- the wake too is known -/
def prims2 : Prim := fun f args =>
  match f with
  | 25 => match args with | [] => some (.bool true) | _ => none
  | _ => prims f args
theorem prims2_ok : PrimOk Try.prog prims2 := by
  intro f args v h
  unfold prims2 at h
  split at h
  · split at h
    · cases h; exact ⟨rfl, rfl, fun w => awake_any w⟩
    · cases h
  · exact prims_ok _ _ _ h
end Go.Proofs.Ytkajcbjacjfhnaa
