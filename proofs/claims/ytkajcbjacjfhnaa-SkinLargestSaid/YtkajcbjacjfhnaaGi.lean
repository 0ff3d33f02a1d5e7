/- SkinGrades' walk. -/
import Derived.Test.YtkajcbjacjfhnaaGh
namespace Go.Proofs.Ytkajcbjacjfhnaa
open Go.RowKit Go.Ab
theorem Ten.below {w w' : World} {B : Nat} {C : Nat → Int} (h : Ten w B C) (hb : Below w.heap.size w w') : Ten w' B C := fun d hd => by
  have := h d hd
  rw [hb.cell (World.block_lt_of_cell? _ _ this)]; exact this
set_option maxHeartbeats 1000000 in
theorem equal_nil (w : World) : Calls Try.prog 24 #[.slice none 0 0, .slice none 0 0] w fun e w' => e = .returned (.bool true) ∧ Below w.heap.size w w' := by
  go_enter Try.func24, Try.ntmps24
  go_wp2
  go_loop [13] (fun i => i = .int .i64 0) (fun _ => 0)
  case atStart => rfl
  case round =>
    subst hrel
    go_wp2
    go_ret
    exact ⟨rfl, Below.refl _ _⟩
set_option maxHeartbeats 1000000 in
theorem equal_ten (B B' : Nat) (C : Nat → Int) (w : World) (h : Ten w B C) (h' : Ten w B' C) :
    Calls Try.prog 24 #[.slice (some ⟨B, 0, none⟩) 10 10, .slice (some ⟨B', 0, none⟩) 10 10] w fun e w' => e = .returned (.bool true) ∧ Below w.heap.size w w' := by
  have H := hide h; clear h
  have H' := hide h'; clear h'
  go_enter Try.func24, Try.ntmps24
  go_wp2
  go_loopw [13] (fun i wr => ∃ k : Nat, k ≤ 10 ∧ i = .int .i64 k ∧ ∃ n, wr = w.drewN n) (fun i _ => 10 - (intOf i).toNat)
  case atStart => exact ⟨0, by omega, rfl, 0, rfl⟩
  case round =>
    obtain ⟨k, hk, rfl, n, rfl⟩ := hrel
    by_cases hlt : k < 10
    · have hlt2 : (k : Int) < 10 := by omega
      have h0 : (0 : Int) ≤ (k : Int) := by omega
      have c1 : w.cell? ⟨B, k, none⟩ = some (.int .i64 (C k)) := H.out k hlt
      have c2 : w.cell? ⟨B', k, none⟩ = some (.int .i64 (C k)) := H'.out k hlt
      go_wp2_with fail
      go_quiet (fail)
      go_wp2_with fail
      go_roundw
      case rel => exact ⟨k + 1, by omega, by go_num, _, rfl⟩
      case measure => simp [intOf]; omega
    · obtain rfl : k = 10 := by omega
      go_wp2_with fail
      go_ret
      exact ⟨rfl, ⟨rfl, rfl, rfl, Nat.le_refl _, fun _ _ => rfl⟩⟩
end Go.Proofs.Ytkajcbjacjfhnaa
