/- areStrips, of the program; Strips, of the reference; what Floor counts, plain. -/
import Derived.Test.YtgkonocjafoblaaUg
set_option linter.unusedVariables false
namespace Go.Proofs.Ytgkonocjafoblaa
open Go Go.RowKit Go.Ab
def stB (n : Int) (f : Nat → Int) (l : Nat) : Bool := decide (1 ≤ n) && decide (n ≤ 2000) && (allB f n l && decide (l ≤ 14))
theorem stB_get {n : Int} {f : Nat → Int} {l : Nat} (h : stB n f l = true) : (1 ≤ n ∧ n ≤ 2000) ∧ allB f n l = true ∧ l ≤ 14 := by
  unfold stB at h
  simp only [Bool.and_eq_true, decide_eq_true_eq] at h
  exact ⟨h.1, h.2⟩
theorem stB_yes {n : Int} {f : Nat → Int} {l : Nat} (h1 : 1 ≤ n) (h2 : n ≤ 2000) : stB n f l = (allB f n l && decide (l ≤ 14)) := by unfold stB; simp [h1, h2]
theorem stB_no {n : Int} {f : Nat → Int} {l : Nat} (h : ¬ (1 ≤ n ∧ n ≤ 2000)) : stB n f l = false := by
  cases e : stB n f l with
  | false => rfl
  | true => exact absurd (stB_get e).1 h
set_option maxHeartbeats 1000000 in
theorem lengths14_is (a : Option Addr) (l c : Nat) (f : Nat → Int) (n : Int) (w : World) (hs : Ls w a l f) (hl : l ≤ maxLen) :
    Calls Try.prog 96 #[.slice a l c, .int .i64 n, .int .i64 14] w fun e w' => e = .returned (.bool (allB f n l && decide (l ≤ 14))) ∧ w = w' := lengths_is a l c f n 14 w hs hl (by omega)
set_option maxRecDepth 20000 in
set_option maxHeartbeats 1000000 in
theorem strips_is (n : Int) (a : Option Addr) (l c : Nat) (f : Nat → Int) (w : World) (hs : Ls w a l f) (hl : l ≤ maxLen) :
    Calls Try.prog 99 #[.int .i64 n, .slice a l c] w fun e w' => e = .returned (.bool (stB n f l)) ∧ w = w' := by
  have H1 := hide hs
  have ml := hl
  unfold maxLen at hl
  clear hs
  by_cases g1 : 1 ≤ n
  · by_cases g2 : n ≤ 2000
    · have HS : Hid (stB n f l = (allB f n l && decide (l ≤ 14))) := hide (stB_yes g1 g2)
      obtain ⟨Z, hZ⟩ : ∃ Z, Z = (allB f n l && decide (l ≤ 14)) := ⟨_, rfl⟩
      have HZ := hide hZ
      clear hZ
      go_enter Try.func99, Try.ntmps99
      go_wp2_with (go_at_call 96; (with_reducible refine (lengths14_is a l c f n _ H1.out ml).mono ?_); rintro e w1 ⟨rfl, rfl⟩; rw [← HZ.out])
      go_ret
      exact ⟨by rw [HS.out, HZ.out]; rfl, rfl⟩
    · have HS : Hid (stB n f l = false) := hide (stB_no (by omega))
      go_enter Try.func99, Try.ntmps99
      go_wp2_with fail
      go_ret
      exact ⟨by rw [HS.out]; rfl, rfl⟩
  · have HS : Hid (stB n f l = false) := hide (stB_no (by omega))
    go_enter Try.func99, Try.ntmps99
    go_wp2_with fail
    go_ret
    exact ⟨by rw [HS.out]; rfl, rfl⟩
set_option maxRecDepth 20000 in
set_option maxHeartbeats 1000000 in
theorem rstrips_is (n : Int) (a : Option Addr) (l c : Nat) (f : Nat → Int) (w : World) (hs : Ls w a l f) (hl : l ≤ maxLen) :
    Calls Try.prog 63 #[.int .i64 n, .slice a l c] w fun e w' => e = .returned (.bool (stB n f l)) ∧ w = w' := by
  have H1 := hide hs
  unfold maxLen at hl
  clear hs
  by_cases g1 : 1 ≤ n
  · by_cases g2 : n ≤ 2000
    · by_cases g3 : (l : Int) ≤ 14
      · have HS : Hid (stB n f l = allB f n l) := hide (by rw [stB_yes g1 g2, decide_eq_true (show l ≤ 14 by omega), Bool.and_true])
        go_enter Try.func63, Try.ntmps63
        go_wp2_with fail
        go_loop [20] (fun i => ∃ k : Nat, k ≤ l ∧ i = .int .i64 k ∧ Hid (allB f n k = true)) (fun i => l - (intOf i).toNat)
        case atStart => exact ⟨0, Nat.zero_le _, rfl, hide rfl⟩
        case round =>
          obtain ⟨k, hk, rfl, HK⟩ := hrel
          by_cases hlt : k < l
          · obtain ⟨b, off, rfl, hc⟩ : ∃ b off, a = some ⟨b, off, none⟩ ∧ LsAt w b off l f := by
              rcases H1.out with h | h
              · omega
              · exact h
            have ck := (hc k hlt).1
            clear hc
            by_cases h1 : 1 ≤ f k
            · by_cases h2 : f k ≤ n
              · have HK2 := hide (allB_yes HK.out h1 h2)
                go_wp2_with fail
                go_round
                case rel => exact ⟨k + 1, by omega, by go_num, HK2⟩
                case measure => simp [intOf]; omega
              · have HN : Hid (allB f n l = false) := hide (allB_no (by omega) l hlt)
                go_wp2_with fail
                go_ret
                exact ⟨by rw [HS.out, HN.out]; rfl, rfl⟩
            · have HN : Hid (allB f n l = false) := hide (allB_no (by omega) l hlt)
              go_wp2_with fail
              go_ret
              exact ⟨by rw [HS.out, HN.out]; rfl, rfl⟩
          · obtain rfl : k = l := by omega
            go_wp2_with fail
            go_ret
            exact ⟨by rw [HS.out, HK.out]; rfl, rfl⟩
      · have HS : Hid (stB n f l = false) := hide (by rw [stB_yes g1 g2, decide_eq_false (show ¬ l ≤ 14 by omega), Bool.and_false])
        go_enter Try.func63, Try.ntmps63
        go_wp2_with fail
        go_ret
        exact ⟨by rw [HS.out]; rfl, rfl⟩
    · have HS : Hid (stB n f l = false) := hide (stB_no (by omega))
      go_enter Try.func63, Try.ntmps63
      go_wp2_with fail
      go_ret
      exact ⟨by rw [HS.out]; rfl, rfl⟩
  · have HS : Hid (stB n f l = false) := hide (stB_no (by omega))
    go_enter Try.func63, Try.ntmps63
    go_wp2_with fail
    go_ret
    exact ⟨by rw [HS.out]; rfl, rfl⟩
end Go.Proofs.Ytgkonocjafoblaa
