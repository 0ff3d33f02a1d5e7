/- Calls with plain arguments. -/
import Derived.Test.YtcakcdolijgjeaaYp
import Derived.KernelRfl
namespace Go.Ab
open Go Go.RowKit
def noPr : Prim := fun _ _ => none
theorem noPr_ok (P : Program) : PrimOk P noPr := fun _ _ _ h => by simp [noPr] at h

abbrev Mem := FuncId → List Value → Hp → Option Value
def noMem : Mem := fun _ _ _ => none
theorem noMem_ok (P : Program) : MemOk P noMem := fun _ _ _ _ h => by simp [noMem] at h
/-- known answers without those of the memory -/
theorem kn_ok {P : Program} {pr : Prim} (h : PrimOk P pr) (own : FuncId → Bool) : KnOk P ⟨pr, own, noMem⟩ := ⟨h, noMem_ok P⟩

/-- a call with plain arguments and answer that is reckoned -/
theorem plain_call {P : Program} {kn : Known} (hpr : KnOk P kn) {n d : Nat} {f : FuncId} {args : List Value} {v : Value} (ha : args.all (plain 3) = true) (hv : plain 3 v = true)
    (h : (callA P kn n d f args Hp.empty).map (·.1) = some v) (w : World) : Calls P f ⟨args⟩ w fun e w' => e = .returned v ∧ Below w.heap.size w w' := by
  cases hc : callA P kn n d f args Hp.empty with
  | none => rw [hc] at h; simp at h
  | some r =>
    obtain ⟨u, h'⟩ := r
    rw [hc] at h
    simp at h
    subst h
    refine (callA_ok hpr n d f args Hp.empty _ h' hc w _ w args (rel_empty P w) (VRs.of_all (fun v h => plain_refl 3 v h) args ha)).2.mono ?_
    rintro e w' ⟨v', ρ', rfl, hv', _, hR⟩
    exact ⟨by rw [plain_eq 3 hv hv'], hR.below⟩

end Go.Ab
