/- Fill of other arguments, of the program and of the reference. -/
import Derived.Test.YtgkonocjafoblaaUf
set_option linter.unusedVariables false
namespace Go.Proofs.Ytgkonocjafoblaa
open Go Go.RowKit Go.Ab
def okF (n : Int) (l m : Nat) (fL fV : Nat → Int) : Bool := decide (0 ≤ n) && decide (n ≤ 2000) && (allB fL 2000 l && decide (l ≤ 12)) && allB fV 1000000 m && decide (l = m)
set_option maxRecDepth 20000 in
set_option maxHeartbeats 4000000 in
theorem fill_no (n : Int) (l m c1 c2 : Nat) (a1 a2 : Option Addr) (fL fV : Nat → Int) (w : World) (h1 : Ls w a1 l fL) (h2 : Ls w a2 m fV) (hl : l ≤ maxLen) (hm : m ≤ maxLen) (hno : okF n l m fL fV = false) :
    Calls Try.prog 54 #[.int .i64 n, .slice a1 l c1, .slice a2 m c2] w fun e w' => e = .returned (.tuple #[.int .i64 0, .slice none 0 0, .int .i64 2]) ∧ w = w' := by
  have H1 := hide h1
  have H2 := hide h2
  have ml := hl
  have mm := hm
  unfold maxLen at hl hm
  clear h1 h2
  by_cases g1 : 0 ≤ n
  · by_cases g2 : n ≤ 2000
    · cases g3 : (allB fL 2000 l && decide (l ≤ 12)) with
      | false =>
        have HL := hide g3
        clear g3 hno
        go_enter Try.func54, Try.ntmps54
        go_wp2_with (go_at_call 96; (with_reducible refine (lengths12_is a1 l c1 fL _ H1.out ml).mono ?_); rintro e w1 ⟨rfl, rfl⟩; rw [HL.out])
        go_ret3
        exact ⟨rfl, rfl⟩
      | true =>
        have HL := hide g3
        cases g4 : allB fV 1000000 m with
        | false =>
          have HV := hide g4
          clear g3 g4 hno
          go_enter Try.func54, Try.ntmps54
          go_wp2_with (first
            | (go_at_call 96; (with_reducible refine (lengths12_is a1 l c1 fL _ H1.out ml).mono ?_); rintro e w1 ⟨rfl, rfl⟩; rw [HL.out])
            | (go_at_call 97; (with_reducible refine (worths_is a2 m c2 fV _ H2.out mm).mono ?_); rintro e w1 ⟨rfl, rfl⟩; rw [HV.out]))
          go_ret3
          exact ⟨rfl, rfl⟩
        | true =>
          have HV := hide g4
          have g5 : ¬ (l : Int) = (m : Int) := fun e => by
            have e' : l = m := by omega
            unfold okF at hno
            rw [g3, g4, decide_eq_true g1, decide_eq_true g2, decide_eq_true e'] at hno
            cases hno
          have gb : ((l : Int) != (m : Int)) = true := by rw [bne_iff_ne]; exact g5
          clear g3 g4 hno
          go_enter Try.func54, Try.ntmps54
          go_wp2_with (first
            | (go_at_call 96; (with_reducible refine (lengths12_is a1 l c1 fL _ H1.out ml).mono ?_); rintro e w1 ⟨rfl, rfl⟩; rw [HL.out])
            | (go_at_call 97; (with_reducible refine (worths_is a2 m c2 fV _ H2.out mm).mono ?_); rintro e w1 ⟨rfl, rfl⟩; rw [HV.out]))
          go_ret3
          exact ⟨rfl, rfl⟩
    · clear hno
      go_enter Try.func54, Try.ntmps54
      go_wp2_with fail
      go_ret3
      exact ⟨rfl, rfl⟩
  · clear hno
    go_enter Try.func54, Try.ntmps54
    go_wp2_with fail
    go_ret3
    exact ⟨rfl, rfl⟩
set_option maxRecDepth 20000 in
set_option maxHeartbeats 4000000 in
theorem rfill_no (n : Int) (l m c1 c2 : Nat) (a1 a2 : Option Addr) (fL fV : Nat → Int) (w : World) (h1 : Ls w a1 l fL) (h2 : Ls w a2 m fV) (hl : l ≤ maxLen) (hm : m ≤ maxLen) (hno : okF n l m fL fV = false) :
    Calls Try.prog 55 #[.int .i64 n, .slice a1 l c1, .slice a2 m c2] w fun e w' => e = .returned (.tuple #[.int .i64 0, .slice none 0 0, .int .i64 2]) ∧ w = w' := by
  have H1 := hide h1
  have H2 := hide h2
  unfold maxLen at hl hm
  clear h1 h2
  by_cases g1 : 0 ≤ n
  · by_cases g2 : n ≤ 2000
    · by_cases g5 : (l : Int) = (m : Int)
      · obtain rfl : l = m := by omega
        by_cases g6 : (l : Int) ≤ 12
        · have HNo : Hid (allB fL 2000 l = true → allB fV 1000000 l = true → False) := hide (fun g3 g4 => by
            unfold okF at hno
            rw [g3, g4, decide_eq_true g1, decide_eq_true g2, decide_eq_true (show l ≤ 12 by omega), decide_eq_true (show l = l from rfl)] at hno
            cases hno)
          clear hno
          go_enter Try.func55, Try.ntmps55
          go_wp2_with fail
          go_loopw [38] (fun i wr => ∃ k : Nat, k ≤ l ∧ i = .int .i64 (k : Int) ∧ wr = w ∧ Hid (allB fL 2000 k = true ∧ allB fV 1000000 k = true)) (fun i _ => l - (intOf i).toNat)
          case atStart => exact ⟨0, Nat.zero_le _, rfl, rfl, hide ⟨rfl, rfl⟩⟩
          case round =>
            obtain ⟨k, hk, rfl, hw, HK⟩ := hrel
            obtain rfl : w = _ := hw.symm
            by_cases hlt : k < l
            · obtain ⟨b1, o1, rfl, e1⟩ : ∃ b off, a1 = some ⟨b, off, none⟩ ∧ LsAt w b off l fL := by
                rcases H1.out with h | h
                · omega
                · exact h
              obtain ⟨b2, o2, rfl, e2⟩ : ∃ b off, a2 = some ⟨b, off, none⟩ ∧ LsAt w b off l fV := by
                rcases H2.out with h | h
                · omega
                · exact h
              have c1' := (e1 k hlt).1
              have c2' := (e2 k hlt).1
              clear e1 e2
              by_cases x1 : 1 ≤ fL k
              · by_cases x2 : fL k ≤ 2000
                · by_cases x3 : 1 ≤ fV k
                  · by_cases x4 : fV k ≤ 1000000
                    · have HK2 := hide (And.intro (allB_yes HK.out.1 x1 x2) (allB_yes HK.out.2 x3 x4))
                      go_wp2_with fail
                      refine ⟨⟨k + 1, by omega, rfl, trivial, HK2⟩, ?_⟩
                      show l - ((k : Int) + 1).toNat < l - (k : Int).toNat
                      omega
                    · go_wp2_with fail
                      go_ret3
                      exact ⟨rfl, rfl⟩
                  · go_wp2_with fail
                    go_ret3
                    exact ⟨rfl, rfl⟩
                · go_wp2_with fail
                  go_ret3
                  exact ⟨rfl, rfl⟩
              · go_wp2_with fail
                go_ret3
                exact ⟨rfl, rfl⟩
            · obtain rfl : l = k := by omega
              exact (HNo.out HK.out.1 HK.out.2).elim
        · clear hno
          go_enter Try.func55, Try.ntmps55
          go_wp2_with fail
          go_ret3
          exact ⟨rfl, rfl⟩
      · clear hno
        go_enter Try.func55, Try.ntmps55
        go_wp2_with fail
        go_ret3
        exact ⟨rfl, rfl⟩
    · clear hno
      go_enter Try.func55, Try.ntmps55
      go_wp2_with fail
      go_ret3
      exact ⟨rfl, rfl⟩
  · clear hno
    go_enter Try.func55, Try.ntmps55
    go_wp2_with fail
    go_ret3
    exact ⟨rfl, rfl⟩
end Go.Proofs.Ytgkonocjafoblaa
