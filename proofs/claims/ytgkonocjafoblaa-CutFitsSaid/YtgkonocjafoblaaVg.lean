/- The library's stable sort of at most 14; its index by a function; how strips fit. -/
import Derived.Test.YtgkonocjafoblaaVf
set_option linter.unusedVariables false
namespace Go.Proofs.Ytgkonocjafoblaa
open Go Go.RowKit Go.Ab
set_option maxRecDepth 20000 in
set_option maxHeartbeats 2000000 in
theorem stable_is (bs g l N c cg : Nat) (a : Option Addr) (f : Nat → Int) (x p0 : Nat → Nat) (w : World) (HS : Hid (Sw w bs g l N c cg a f x p0)) (HP : Hid (∀ q, p0 q = q)) :
    Calls Try.prog 137 #[.slice (some ⟨g, 0, none⟩) l cg, .int .i64 l, .func (.func 102) #[] #[.pointer (some ⟨bs, 0, none⟩)]] w fun e w' => ∃ p, e = .returned (.tuple #[]) ∧ Sw w' bs g l N c cg a f x p ∧ Ord x p l ∧ Ob w w' g := by
  have hl := HS.out.st.hl
  go_enter Try.func137, Try.ntmps137
  go_wp2_with fail
  go_loop [7, 8] (fun u v => u = .int .i64 0 ∧ v = .int .i64 20) (fun _ _ => 0)
  case atStart => exact ⟨rfl, rfl⟩
  case round =>
    obtain ⟨rfl, rfl⟩ := hrel
    go_wp2_with fail
    refine (insertion_is bs g l N c cg a f x p0 w HS HP).mono ?_
    rintro e w1 ⟨p, rfl, h1, h2, h3⟩
    have H1 := hide h1
    have H2 := hide h2
    have H3 := hide h3
    clear h1 h2 h3
    go_wp2_with fail
    go_loop [6] (fun v => v = .int .i64 20) (fun _ => 0)
    case atStart => rfl
    case round =>
      subst hrel
      go_wp2_with fail
      go_end0
      first | exact ⟨rfl, p, H1.out, H2.out, H3.out⟩ | exact ⟨p, rfl, H1.out, H2.out, H3.out⟩
set_option maxRecDepth 20000 in
set_option maxHeartbeats 2000000 in
theorem sorted_is (bs g l N c cg : Nat) (a : Option Addr) (f : Nat → Int) (x p0 : Nat → Nat) (w : World) (HS : Hid (Sw w bs g l N c cg a f x p0)) (HP : Hid (∀ q, p0 q = q)) :
    Calls Try.prog 101 #[.slice (some ⟨g, 0, none⟩) l cg, .func (.func 102) #[] #[.pointer (some ⟨bs, 0, none⟩)]] w fun e w' => ∃ p, e = .returned (.tuple #[]) ∧ Sw w' bs g l N c cg a f x p ∧ Ord x p l ∧ Ob w w' g := by
  have hl := HS.out.st.hl
  go_enter Try.func101, Try.ntmps101
  go_wp2_with fail
  refine (stable_is bs g l N c cg a f x p0 w HS HP).mono ?_
  rintro e w1 ⟨p, rfl, h1, h2, h3⟩
  have H1 := hide h1
  have H2 := hide h2
  have H3 := hide h3
  clear h1 h2 h3
  go_wp2_with fail
  go_end0
  exact ⟨p, rfl, H1.out, H2.out, H3.out⟩
end Go.Proofs.Ytgkonocjafoblaa
