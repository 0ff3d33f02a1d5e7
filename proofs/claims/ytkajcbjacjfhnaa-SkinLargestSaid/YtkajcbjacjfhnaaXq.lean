/- Known answers. -/
import Derived.Test.YtkajcbjacjfhnaaXn
import Derived.Test.YtkajcbjacjfhnaaRows
import Derived.WalkKit
import Derived.WalkSpells
import Derived.Handy
import Derived.KernelRfl
namespace Go.Ab
open Go Go.RowKit Go.Proofs Go.Proofs.Ytkajcbjacjfhnaa
def noPr : Prim := fun _ _ => none
theorem noPr_ok (P : Program) : PrimOk P noPr := fun _ _ _ h => by simp [noPr] at h
set_option maxHeartbeats 400000 in
theorem has_any (x y b h cx cy : Int) (w : World) :
    Calls Try.prog 81 #[.agg #[.int .i64 x, .int .i64 y, .int .i64 b, .int .i64 h], .agg #[.int .i64 cx, .int .i64 cy]] w fun e w' => e = .returned (.bool (decide (x ≤ cx) && decide (cx < wrap64 (x + b)) && decide (y ≤ cy) && decide (cy < wrap64 (y + h)))) ∧ Below w.heap.size w w' := by
  go_enter Try.func81, Try.ntmps81
  go_wp2
  all_goals
    go_ret
    refine ⟨?_, ((Below.refl _ _).alloc (Nat.le_refl _) _).alloc (by simp) _⟩
    show Ending.returned (.bool _) = Ending.returned (.bool _)
    congr 2
    simp [*]
    try omega

/-- a call with plain arguments and answer that is reckoned -/
theorem plain_call {P : Program} {pr : Prim} (hpr : PrimOk P pr) {n d : Nat} {f : FuncId} {args : List Value} {v : Value} (ha : args.all (plain 3) = true) (hv : plain 3 v = true)
    (h : (callA P pr n d f args Hp.empty).map (·.1) = some v) (w : World) : Calls P f ⟨args⟩ w fun e w' => e = .returned v ∧ Below w.heap.size w w' := by
  cases hc : callA P pr n d f args Hp.empty with
  | none => rw [hc] at h; simp at h
  | some r =>
    obtain ⟨u, h'⟩ := r
    rw [hc] at h
    simp at h
    subst h
    refine (callA_ok hpr n d f args Hp.empty _ h' hc w _ w args (rel_empty P w) (VRs.of_all (fun v h => plain_refl 3 v h) args ha)).2.mono ?_
    rintro e w' ⟨v', ρ', rfl, hv', _, hR⟩
    exact ⟨by rw [plain_eq 3 hv hv'], hR.below⟩

theorem plus_any (a b c d : Int) (w : World) : Calls Try.prog 128 #[.agg #[.int .i64 a, .int .i64 b], .agg #[.int .i64 c, .int .i64 d]] w fun e w' => e = .returned (.agg #[.int .i64 (IntKind.i64.wrap (a + c)), .int .i64 (IntKind.i64.wrap (b + d))]) ∧ Below w.heap.size w w' :=
  plain_call (pr := noPr) (noPr_ok _) (n := 5) (d := 5) (args := [.agg #[.int .i64 a, .int .i64 b], .agg #[.int .i64 c, .int .i64 d]]) rfl rfl (by kernel_rfl) w

def prims : Prim := fun f args =>
  match f with
  | 81 =>
    match args with
    | [.agg ⟨[.int .i64 x, .int .i64 y, .int .i64 b, .int .i64 h]⟩, .agg ⟨[.int .i64 cx, .int .i64 cy]⟩] => some (.bool (decide (x ≤ cx) && decide (cx < wrap64 (x + b)) && decide (y ≤ cy) && decide (cy < wrap64 (y + h))))
    | _ => none
  | 128 =>
    match args with
    | [.agg ⟨[.int .i64 a, .int .i64 b]⟩, .agg ⟨[.int .i64 c, .int .i64 d]⟩] => some (.agg ⟨[.int .i64 (IntKind.i64.wrap (a + c)), .int .i64 (IntKind.i64.wrap (b + d))]⟩)
    | _ => none
  | _ => none

theorem prims_ok : PrimOk Try.prog prims := by
  intro f args v h
  unfold prims at h
  split at h
  · split at h
    · cases h; exact ⟨rfl, rfl, fun w => has_any _ _ _ _ _ _ w⟩
    · cases h
  · split at h
    · cases h; exact ⟨rfl, rfl, fun w => plus_any _ _ _ _ w⟩
    · cases h
  · cases h
end Go.Ab
