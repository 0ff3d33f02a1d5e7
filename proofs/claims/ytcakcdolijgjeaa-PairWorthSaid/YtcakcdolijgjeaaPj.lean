/- Sides: valid, of the program and of the reference; Good. -/
import Derived.Test.YtcakcdolijgjeaaPi
set_option linter.unusedVariables false
namespace Go.Proofs.Ytcakcdolijgjeaa
open Go Go.RowKit Go.Ab
def allG (gs : Nat → G4) : Nat → Bool
  | 0 => true
  | n + 1 => allG gs n && gOk (gs n)
def handsB (gs : Nat → G4) (l : Nat) : Bool := allG gs l && decide (l ≤ 32)
theorem allG_get {gs : Nat → G4} : ∀ {n : Nat}, allG gs n = true → ∀ i, i < n → gOk (gs i) = true
  | n + 1, h, i, hi => by
    unfold allG at h
    simp only [Bool.and_eq_true] at h
    by_cases e : i = n
    · rw [e]; exact h.2
    · exact allG_get h.1 i (by omega)
theorem allG_yes {gs : Nat → G4} {n : Nat} (h : allG gs n = true) (hg : gOk (gs n) = true) : allG gs (n + 1) = true := by unfold allG; rw [h, hg]; rfl
theorem allG_no {gs : Nat → G4} : ∀ {n i : Nat}, i < n → gOk (gs i) = false → allG gs n = false
  | n + 1, i, hi, h => by
    unfold allG
    by_cases e : i = n
    · rw [← e, h, Bool.and_false]
    · rw [allG_no (show i < n by omega) h, Bool.false_and]
theorem handsB_get {gs : Nat → G4} {l : Nat} (h : handsB gs l = true) : allG gs l = true ∧ l ≤ 32 := by
  unfold handsB at h
  simpa using h
theorem handsB_min (gs : Nat → G4) (l : Nat) : handsB gs (min l 34) = handsB gs l := by
  by_cases h : l ≤ 34
  · rw [Nat.min_eq_left h]
  · unfold handsB
    rw [decide_eq_false (show ¬ min l 34 ≤ 32 by omega), decide_eq_false (show ¬ l ≤ 32 by omega), Bool.and_false, Bool.and_false]
set_option maxRecDepth 20000 in
set_option maxHeartbeats 2000000 in
theorem hands_is (a : Option Addr) (l c : Nat) (gs : Nat → G4) (w : World) (hs : Gs w a l gs) (hl : l ≤ 34) :
    Calls Try.prog 103 #[.slice a l c] w fun e w' => e = .returned (.bool (handsB gs l)) ∧ Below w.heap.size w w' := by
  have H1 := hide hs
  go_enter Try.func103, Try.ntmps103
  go_wp2_with fail
  go_loopw [7] (fun i wr => ∃ (wq : World) (k : Nat), wq = wr ∧ k ≤ l ∧ i = .int .i64 k ∧ Hid (allG gs k = true) ∧ Below w.heap.size w wr) (fun i _ => l - (intOf i).toNat)
  case atStart => exact ⟨_, 0, rfl, Nat.zero_le _, rfl, hide rfl, Below.refl _ _⟩
  case round =>
    obtain ⟨wr, k, rfl, hk, rfl, HK, hbel⟩ := hrel
    have HB := hide hbel; clear hbel
    by_cases hlt : k < l
    · obtain ⟨b, off, rfl, hc⟩ : ∃ b off, a = some ⟨b, off, none⟩ ∧ GsAt w b off l gs := by
        rcases H1.out with h | h
        · omega
        · exact h
      obtain ⟨⟨c0, c1⟩, c2, c3⟩ := hc k hlt
      have c0 := kc HB.out c0
      have c1 := kc HB.out c1
      have c2 := kc HB.out c2
      have c3 := kc HB.out c3
      clear hc
      have HBx := hide (bt HB.out (ba wr (.cells #[.int .i64 (gs k).1, .int .i64 (gs k).2.1, .int .i64 (gs k).2.2.1, .int .i64 (gs k).2.2.2] 29)))
      go_wp2_with fail
      refine (gval_is (gs k) _).mono ?_
      rintro e w1 ⟨rfl, hb⟩
      have HB1 := hide (bt HBx.out hb)
      clear hb HBx HB c0 c1 c2 c3
      cases hg : gOk (gs k) with
      | false =>
        have HR : Hid (handsB gs l = false) := hide (by unfold handsB; rw [allG_no hlt hg, Bool.false_and])
        go_wp2_with fail
        go_ret
        exact ⟨by rw [HR.out]; rfl, HB1.out⟩
      | true =>
        have HK2 := hide (allG_yes HK.out hg)
        go_wp2_with fail
        go_roundw
        case rel => exact ⟨_, k + 1, rfl, by omega, by go_num, HK2, HB1.out⟩
        case measure => simp [intOf]; omega
    · obtain rfl : k = l := by omega
      have HR : Hid (handsB gs k = decide ((k : Int) ≤ 32)) := hide (by unfold handsB; rw [HK.out, Bool.true_and]; simp only [decide_eq_decide]; omega)
      go_wp2_with fail
      go_ret
      exact ⟨by rw [HR.out]; rfl, HB.out⟩
set_option maxRecDepth 20000 in
set_option maxHeartbeats 2000000 in
theorem rhands_is (a : Option Addr) (l c : Nat) (gs : Nat → G4) (w : World) (hs : Gs w a l gs) (hl : l ≤ maxLen) :
    Calls Try.prog 58 #[.slice a l c] w fun e w' => e = .returned (.bool (handsB gs l)) ∧ Below w.heap.size w w' := by
  have H1 := hide hs
  unfold maxLen at hl
  by_cases h32 : (32 : Int) < (l : Int)
  · have HR : Hid (handsB gs l = false) := hide (by unfold handsB; rw [decide_eq_false (show ¬ l ≤ 32 by omega), Bool.and_false])
    go_enter Try.func58, Try.ntmps58
    go_wp2_with fail
    go_ret
    exact ⟨by rw [HR.out]; rfl, Below.refl _ _⟩
  go_enter Try.func58, Try.ntmps58
  go_wp2_with fail
  go_loopw [10] (fun i wr => ∃ (wq : World) (k : Nat), wq = wr ∧ k ≤ l ∧ i = .int .i64 k ∧ Hid (allG gs k = true) ∧ Below w.heap.size w wr) (fun i _ => l - (intOf i).toNat)
  case atStart => exact ⟨_, 0, rfl, Nat.zero_le _, rfl, hide rfl, Below.refl _ _⟩
  case round =>
    obtain ⟨wr, k, rfl, hk, rfl, HK, hbel⟩ := hrel
    have HB := hide hbel; clear hbel
    by_cases hlt : k < l
    · obtain ⟨b, off, rfl, hc⟩ : ∃ b off, a = some ⟨b, off, none⟩ ∧ GsAt w b off l gs := by
        rcases H1.out with h | h
        · omega
        · exact h
      obtain ⟨⟨c0, c1⟩, c2, c3⟩ := hc k hlt
      have c0 := kc HB.out c0
      have c1 := kc HB.out c1
      have c2 := kc HB.out c2
      have c3 := kc HB.out c3
      clear hc
      have HBx := hide (bt HB.out (ba wr (.cells #[.int .i64 (gs k).1, .int .i64 (gs k).2.1, .int .i64 (gs k).2.2.1, .int .i64 (gs k).2.2.2] 23)))
      go_wp2_with fail
      refine (rgval_is (gs k) _).mono ?_
      rintro e w1 ⟨rfl, hb⟩
      have HB1 := hide (bt HBx.out hb)
      clear hb HBx HB c0 c1 c2 c3
      cases hg : gOk (gs k) with
      | false =>
        have HR : Hid (handsB gs l = false) := hide (by unfold handsB; rw [allG_no hlt hg, Bool.false_and])
        go_wp2_with fail
        go_ret
        exact ⟨by rw [HR.out]; rfl, HB1.out⟩
      | true =>
        have HK2 := hide (allG_yes HK.out hg)
        go_wp2_with fail
        go_roundw
        case rel => exact ⟨_, k + 1, rfl, by omega, by go_num, HK2, HB1.out⟩
        case measure => simp [intOf]; omega
    · obtain rfl : k = l := by omega
      have HR : Hid (handsB gs k = true) := hide (by unfold handsB; rw [HK.out, Bool.true_and]; exact decide_eq_true (by omega))
      go_wp2_with fail
      go_ret
      exact ⟨by rw [HR.out]; rfl, HB.out⟩
def goodB (gl gr : Nat → G4) (l r : Nat) (u m : G4) : Bool := handsB gl l && handsB gr r && (gOk u && gOk m)
theorem goodB_get {gl gr : Nat → G4} {l r : Nat} {u m : G4} (h : goodB gl gr l r u m = true) : (handsB gl l = true ∧ handsB gr r = true) ∧ gOk u = true ∧ gOk m = true := by
  unfold goodB at h
  simp only [Bool.and_eq_true] at h
  exact h
set_option maxRecDepth 20000 in
set_option maxHeartbeats 2000000 in
theorem good_is (a b : Option Addr) (l r c d : Nat) (gl gr : Nat → G4) (u m : G4) (w : World) (hs : Gs w a l gl) (ht : Gs w b r gr) (hl : l ≤ maxLen) (hr : r ≤ maxLen) :
    Calls Try.prog 36 #[.slice a l c, .slice b r d, uVal u m] w fun e w' => e = .returned (.bool (goodB gl gr l r u m)) ∧ Below w.heap.size w w' := by
  have H1 := hide hs
  have H2 := hide ht
  clear hs ht
  unfold uVal
  obtain ⟨w0, w1, w2, w3⟩ := u
  obtain ⟨m0, m1, m2, m3⟩ := m
  have H8 := hide (bx8_new w w0 w1 w2 w3 m0 m1 m2 m3 25)
  have HB0 := hide (ba w (.cells #[.int .i64 w0, .int .i64 w1, .int .i64 w2, .int .i64 w3, .int .i64 m0, .int .i64 m1, .int .i64 m2, .int .i64 m3] 25))
  go_enter Try.func36, Try.ntmps36
  go_wp2_with fail
  refine (rhands_is a l c gl _ (H1.out.below HB0.out) hl).mono ?_
  rintro e W1 ⟨rfl, hb⟩
  have HB := hide (bt HB0.out hb)
  have HX := hide (H8.out.below hb)
  clear hb H8 HB0
  cases hv : handsB gl l with
  | false =>
    have HR : Hid (goodB gl gr l r (w0, w1, w2, w3) (m0, m1, m2, m3) = false) := hide (by unfold goodB; rw [hv]; rfl)
    go_wp2_with fail
    go_ret
    exact ⟨by rw [HR.out]; rfl, HB.out⟩
  | true =>
    go_wp2_with fail
    refine (rhands_is b r d gr _ (H2.out.below HB.out) hr).mono ?_
    rintro e W2 ⟨rfl, hb⟩
    have HB2 := hide (bt HB.out hb)
    have HX2 := hide (HX.out.below hb)
    clear hb HX HB
    cases hv2 : handsB gr r with
    | false =>
      have HR : Hid (goodB gl gr l r (w0, w1, w2, w3) (m0, m1, m2, m3) = false) := hide (by unfold goodB; rw [hv, hv2]; rfl)
      go_wp2_with fail
      go_ret
      exact ⟨by rw [HR.out]; rfl, HB2.out⟩
    | true =>
      obtain ⟨⟨⟨q0, q1⟩, q2, q3⟩, ⟨r0, r1⟩, r2, r3⟩ := HX2.out
      have HR : Hid (goodB gl gr l r (w0, w1, w2, w3) (m0, m1, m2, m3) = (okG w0 w1 w2 w3 && okG m0 m1 m2 m3)) := hide (by unfold goodB; rw [hv, hv2]; rfl)
      go_wp2_with fail
      refine (law_is _ _ _ _ _ _ _ _ _).mono ?_
      rintro e W3 ⟨rfl, hb⟩
      have HB3 := hide (bt HB2.out hb)
      clear hb q0 q1 q2 q3 r0 r1 r2 r3
      go_wp2_with fail
      go_ret
      exact ⟨by rw [HR.out]; rfl, HB3.out⟩
end Go.Proofs.Ytcakcdolijgjeaa
