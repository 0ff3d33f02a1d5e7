/- FirstFit, of the program: no strips; bad arguments. -/
import Derived.Test.YtgkonocjafoblaaVi
set_option linter.unusedVariables false
namespace Go.Proofs.Ytgkonocjafoblaa
open Go Go.RowKit Go.Ab
set_option maxRecDepth 20000 in
set_option maxHeartbeats 1000000 in
theorem insertion_none (bs : Nat) (w : World) : Calls Try.prog 153 #[.slice none 0 0, .int .i64 0, .int .i64 0, .func (.func 102) #[] #[.pointer (some ⟨bs, 0, none⟩)]] w fun e w' => e = .returned (.tuple #[]) ∧ w = w' := by
  go_enter Try.func153, Try.ntmps153
  go_wp2_with fail
  go_loop [8] (fun v => v = .int .i64 1) (fun _ => 0)
  case atStart => rfl
  case round =>
    subst hrel
    go_wp2_with fail
    go_end0
    first | exact ⟨rfl, rfl⟩ | exact rfl
set_option maxRecDepth 20000 in
set_option maxHeartbeats 1000000 in
theorem stable_none (bs : Nat) (w : World) : Calls Try.prog 137 #[.slice none 0 0, .int .i64 0, .func (.func 102) #[] #[.pointer (some ⟨bs, 0, none⟩)]] w fun e w' => e = .returned (.tuple #[]) ∧ w = w' := by
  go_enter Try.func137, Try.ntmps137
  go_wp2_with fail
  go_loop [7, 8] (fun u v => u = .int .i64 0 ∧ v = .int .i64 20) (fun _ _ => 0)
  case atStart => exact ⟨rfl, rfl⟩
  case round =>
    obtain ⟨rfl, rfl⟩ := hrel
    go_wp2_with fail
    refine (insertion_none bs w).mono ?_
    rintro e w1 ⟨rfl, rfl⟩
    go_wp2_with fail
    go_loop [6] (fun v => v = .int .i64 20) (fun _ => 0)
    case atStart => rfl
    case round =>
      subst hrel
      go_wp2_with fail
      go_end0
      first | exact ⟨rfl, rfl⟩ | exact rfl
set_option maxRecDepth 20000 in
set_option maxHeartbeats 1000000 in
theorem sorted_none (bs : Nat) (w : World) : Calls Try.prog 101 #[.slice none 0 0, .func (.func 102) #[] #[.pointer (some ⟨bs, 0, none⟩)]] w fun e w' => e = .returned (.tuple #[]) ∧ w = w' := by
  go_enter Try.func101, Try.ntmps101
  go_wp2_with fail
  refine (stable_none bs w).mono ?_
  rintro e w1 ⟨rfl, rfl⟩
  go_wp2_with fail
  go_end0
  first | exact ⟨rfl, rfl⟩ | exact rfl
set_option maxRecDepth 20000 in
set_option maxHeartbeats 2000000 in
theorem firstFit_none (N c : Nat) (a : Option Addr) (f : Nat → Int) (w : World) (hs : Ls w a 0 f) (HB : Hid (stB N f 0 = true)) :
    Calls Try.prog 59 #[.int .i64 N, .slice a 0 c] w fun e w' => ∃ C, e = .returned (.tuple #[.slice (some ⟨C, 0, none⟩) 0 0, .int .i64 0]) ∧ Below w.heap.size w w' := by
  have b1 : Below w.heap.size w (w.alloc (.cells #[.slice a 0 c] 57)) := (Below.refl _ _).alloc (Nat.le_refl _) _
  have HS1 : Hid (Ls (w.alloc (.cells #[.slice a 0 c] 57)) a 0 f) := hide (hs.below b1)
  have B1 := hide b1
  clear b1 hs
  have hmk : ∀ w, (Instr.makeSlice 57 (.int .i64 0) (.int .i64 0)).run Try.prog w = .ok (.slice (some ⟨w.heap.size, 0, none⟩) 0 0) (w.alloc (.cells (madeCells #[.int .i64 0] 0) 3)) := fun w => run_make_row' 57 3 _ 8 Try.underlying57 Try.info3 rfl .i64 .i64 0 (by omega) (by omega) w
  go_enter Try.func59, Try.ntmps59
  go_wp2_with (go_at_call 99; (with_reducible refine (strips_is N a 0 c f _ HS1.out (Nat.zero_le _)).mono ?_); rintro e w1 ⟨rfl, rfl⟩; rw [HB.out])
  go_loop [6, 19] (fun u v => u = .slice none 0 0 ∧ v = .int .i64 0) (fun _ _ => 0)
  case atStart => exact ⟨rfl, rfl⟩
  case round =>
    obtain ⟨rfl, rfl⟩ := hrel
    go_wp2_with fail
    refine (sorted_none _ _).mono ?_
    rintro e w1 ⟨rfl, rfl⟩
    go_wp2_with fail
    go_loop [7, 35] (fun u v => v = .int .i64 0) (fun _ _ => 0)
    case atStart => rfl
    case round =>
      subst hrel
      go_wp2_with fail
      go_ret2
      exact ⟨⟨_, rfl⟩, B1.out.alloc B1.out.size _⟩
set_option maxRecDepth 20000 in
set_option maxHeartbeats 2000000 in
theorem firstFit_no (n : Int) (l c : Nat) (a : Option Addr) (f : Nat → Int) (w : World) (hs : Ls w a l f) (hl : l ≤ maxLen) (hno : stB n f l = false) :
    Calls Try.prog 59 #[.int .i64 n, .slice a l c] w fun e w' => e = .returned (.tuple #[.slice none 0 0, .int .i64 2]) ∧ Below w.heap.size w w' := by
  have b1 : Below w.heap.size w (w.alloc (.cells #[.slice a l c] 57)) := (Below.refl _ _).alloc (Nat.le_refl _) _
  have HS1 : Hid (Ls (w.alloc (.cells #[.slice a l c] 57)) a l f) := hide (hs.below b1)
  have B1 := hide b1
  have HB := hide hno
  clear b1 hs hno
  go_enter Try.func59, Try.ntmps59
  go_wp2_with (go_at_call 99; (with_reducible refine (strips_is n a l c f _ HS1.out hl).mono ?_); rintro e w1 ⟨rfl, rfl⟩; rw [HB.out])
  go_ret2
  exact ⟨rfl, B1.out⟩
set_option maxRecDepth 20000 in
set_option maxHeartbeats 2000000 in
theorem rfirstFit_no (n : Int) (l c : Nat) (a : Option Addr) (f : Nat → Int) (w : World) (hs : Ls w a l f) (hl : l ≤ maxLen) (hno : stB n f l = false) :
    Calls Try.prog 60 #[.int .i64 n, .slice a l c] w fun e w' => e = .returned (.tuple #[.slice none 0 0, .int .i64 2]) ∧ w = w' := by
  have HS := hide hs
  have HB := hide hno
  clear hs hno
  go_enter Try.func60, Try.ntmps60
  go_wp2_with (go_at_call 63; (with_reducible refine (rstrips_is n a l c f _ HS.out hl).mono ?_); rintro e w1 ⟨rfl, rfl⟩; rw [HB.out])
  go_ret2
  exact ⟨rfl, rfl⟩
end Go.Proofs.Ytgkonocjafoblaa
