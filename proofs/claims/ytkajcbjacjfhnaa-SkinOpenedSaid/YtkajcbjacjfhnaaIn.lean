/- The picks; the closure of sweptRows. -/
import Derived.Test.YtkajcbjacjfhnaaIm
import Derived.Test.YtkajcbjacjfhnaaIi
import Derived.Laws.EntriesVeiled
set_option linter.unusedVariables false
namespace Go.Proofs.Ytkajcbjacjfhnaa
open Go.RowKit Go.Ab
/-- a pick as a function of the program -/
def Pick (gk : Nat) (mn : Bool) : Prop := (∀ args w, (callFunc gk args).run Try.prog w = .ok (.enter gk args) w) ∧ ∀ W (a b : UInt8), Calls Try.prog gk #[.int .u8 (a.toNat : Int), .int .u8 (b.toNat : Int)] W fun e w' => e = .returned (.int .u8 ((pkU mn a b).toNat : Int)) ∧ W = w'
theorem pick_min : Pick 90 true := ⟨fun args w => enters_of Try.func90 (by kernel_rfl) rfl args w, fun W a b => by
  have e1 : (if b.toNat < a.toNat then (b.toNat : Int) else (a.toNat : Int)) = ((pkU true a b).toNat : Int) := by
    rw [pkU_nat]; unfold pkN; simp only [if_true]; split <;> omega
  go_enter Try.func90, Try.ntmps90
  go_wp2
  go_ret
  exact ⟨by rw [← e1]; rfl, rfl⟩⟩
theorem pick_max : Pick 92 false := ⟨fun args w => enters_of Try.func92 (by kernel_rfl) rfl args w, fun W a b => by
  have e1 : (if a.toNat < b.toNat then (b.toNat : Int) else (a.toNat : Int)) = ((pkU false a b).toNat : Int) := by
    rw [pkU_nat]; unfold pkN; simp only [Bool.false_eq_true, if_false]; split <;> omega
  go_enter Try.func92, Try.ntmps92
  go_wp2
  go_ret
  exact ⟨by rw [← e1]; rfl, rfl⟩⟩
end Go.Proofs.Ytkajcbjacjfhnaa
