/- Numbers in memory; lengths and worths, of the program. -/
import Derived.Test.YtgkonocjafoblaaUa
set_option linter.unusedVariables false
namespace Go.Proofs.Ytgkonocjafoblaa
open Go Go.RowKit Go.Ab
def LsAt (w : World) (b off l : Nat) (f : Nat → Int) : Prop := ∀ i, i < l → w.cell? ⟨b, off + i, none⟩ = some (.int .i64 (f i)) ∧ In64 (f i)
def Ls (w : World) (a : Option Addr) (l : Nat) (f : Nat → Int) : Prop := l = 0 ∨ ∃ b off, a = some ⟨b, off, none⟩ ∧ LsAt w b off l f
theorem LsAt.below {w w' : World} {b off l : Nat} {f : Nat → Int} (h : LsAt w b off l f) (hb : Below w.heap.size w w') : LsAt w' b off l f := fun i hi => ⟨kc hb (h i hi).1, (h i hi).2⟩
theorem Ls.below {w w' : World} {a : Option Addr} {l : Nat} {f : Nat → Int} (h : Ls w a l f) (hb : Below w.heap.size w w') : Ls w' a l f := by
  rcases h with h | ⟨b, off, e, h⟩
  · exact .inl h
  · exact .inr ⟨b, off, e, h.below hb⟩
/-- each of the first k is from 1 to g -/
def allB (f : Nat → Int) (g : Int) : Nat → Bool
  | 0 => true
  | k + 1 => allB f g k && (decide (1 ≤ f k) && decide (f k ≤ g))
theorem allB_yes {f : Nat → Int} {g : Int} {k : Nat} (h : allB f g k = true) (h1 : 1 ≤ f k) (h2 : f k ≤ g) : allB f g (k + 1) = true := by unfold allB; simp [h, h1, h2]
theorem allB_no {f : Nat → Int} {g : Int} {k : Nat} (h : ¬ (1 ≤ f k ∧ f k ≤ g)) : ∀ l, k < l → allB f g l = false
  | 0, hk => by omega
  | l + 1, hk => by
    unfold allB
    rcases Nat.lt_or_ge k l with h1 | h1
    · rw [allB_no h l h1]; rfl
    · obtain rfl : k = l := by omega
      have : (decide (1 ≤ f k) && decide (f k ≤ g)) = false := by
        by_cases e1 : 1 ≤ f k
        · have e2 : ¬ f k ≤ g := fun e2 => h ⟨e1, e2⟩
          rw [decide_eq_true e1, decide_eq_false e2]; rfl
        · rw [decide_eq_false e1]; rfl
      rw [this, Bool.and_false]
theorem allB_get {f : Nat → Int} {g : Int} : ∀ l, allB f g l = true → ∀ k, k < l → 1 ≤ f k ∧ f k ≤ g
  | 0, _, k, hk => by omega
  | l + 1, h, k, hk => by
    unfold allB at h
    simp only [Bool.and_eq_true, decide_eq_true_eq] at h
    rcases Nat.lt_or_ge k l with h1 | h1
    · exact allB_get l h.1 k h1
    · obtain rfl : k = l := by omega
      exact h.2
set_option maxRecDepth 20000 in
set_option maxHeartbeats 1000000 in
theorem lengths_is (a : Option Addr) (l c : Nat) (f : Nat → Int) (g : Int) (m : Nat) (w : World) (hs : Ls w a l f) (hl : l ≤ maxLen) (hm : (m : Int) ≤ 1000) :
    Calls Try.prog 96 #[.slice a l c, .int .i64 g, .int .i64 m] w fun e w' => e = .returned (.bool (allB f g l && decide (l ≤ m))) ∧ w = w' := by
  have HL := hide hl
  unfold maxLen at hl
  have HS := hide hs; clear hs
  go_enter Try.func96, Try.ntmps96
  go_wp2
  go_loop [11] (fun i => ∃ k : Nat, k ≤ l ∧ i = .int .i64 k ∧ Hid (allB f g k = true)) (fun i => l - (intOf i).toNat)
  case atStart => exact ⟨0, Nat.zero_le _, rfl, hide rfl⟩
  case round =>
    obtain ⟨k, hk, rfl, HK⟩ := hrel
    by_cases hlt : k < l
    · obtain ⟨b, off, rfl, hc⟩ : ∃ b off, a = some ⟨b, off, none⟩ ∧ LsAt w b off l f := by
        rcases HS.out with h | h
        · omega
        · exact h
      have ck := (hc k hlt).1
      have HC := hide hc; clear hc
      by_cases h1 : 1 ≤ f k
      · by_cases h2 : f k ≤ g
        · have HK2 := hide (allB_yes HK.out h1 h2)
          go_wp2
          go_round
          case rel => exact ⟨k + 1, by omega, by go_num, HK2⟩
          case measure => simp [intOf]; omega
        · have HN : Hid (allB f g l = false) := hide (allB_no (by omega) l hlt)
          go_wp2
          go_ret
          exact ⟨by rw [HN.out]; rfl, rfl⟩
      · have HN : Hid (allB f g l = false) := hide (allB_no (by omega) l hlt)
        go_wp2
        go_ret
        exact ⟨by rw [HN.out]; rfl, rfl⟩
    · obtain rfl : k = l := by omega
      by_cases h3 : (k : Int) ≤ m
      · have HD : Hid (decide (k ≤ m) = true) := hide (decide_eq_true (by omega))
        go_wp2
        go_ret
        exact ⟨by rw [HK.out, HD.out]; rfl, rfl⟩
      · have HD : Hid (decide (k ≤ m) = false) := hide (decide_eq_false (by omega))
        go_wp2
        go_ret
        exact ⟨by rw [HK.out, HD.out]; rfl, rfl⟩
set_option maxRecDepth 20000 in
set_option maxHeartbeats 1000000 in
theorem worths_is (a : Option Addr) (l c : Nat) (f : Nat → Int) (w : World) (hs : Ls w a l f) (hl : l ≤ maxLen) :
    Calls Try.prog 97 #[.slice a l c] w fun e w' => e = .returned (.bool (allB f 1000000 l)) ∧ w = w' := by
  have HL := hide hl
  unfold maxLen at hl
  have HS := hide hs; clear hs
  go_enter Try.func97, Try.ntmps97
  go_wp2
  go_loop [7] (fun i => ∃ k : Nat, k ≤ l ∧ i = .int .i64 k ∧ Hid (allB f 1000000 k = true)) (fun i => l - (intOf i).toNat)
  case atStart => exact ⟨0, Nat.zero_le _, rfl, hide rfl⟩
  case round =>
    obtain ⟨k, hk, rfl, HK⟩ := hrel
    by_cases hlt : k < l
    · obtain ⟨b, off, rfl, hc⟩ : ∃ b off, a = some ⟨b, off, none⟩ ∧ LsAt w b off l f := by
        rcases HS.out with h | h
        · omega
        · exact h
      have ck := (hc k hlt).1
      have HC := hide hc; clear hc
      by_cases h1 : 1 ≤ f k
      · by_cases h2 : f k ≤ 1000000
        · have HK2 := hide (allB_yes HK.out h1 h2)
          go_wp2
          go_round
          case rel => exact ⟨k + 1, by omega, by go_num, HK2⟩
          case measure => simp [intOf]; omega
        · have HN : Hid (allB f 1000000 l = false) := hide (allB_no (by omega) l hlt)
          go_wp2
          go_ret
          exact ⟨by rw [HN.out]; rfl, rfl⟩
      · have HN : Hid (allB f 1000000 l = false) := hide (allB_no (by omega) l hlt)
        go_wp2
        go_ret
        exact ⟨by rw [HN.out]; rfl, rfl⟩
    · obtain rfl : k = l := by omega
      go_wp2
      go_ret
      exact ⟨by rw [HK.out]; rfl, rfl⟩
end Go.Proofs.Ytgkonocjafoblaa
