/- open's refusal; allows, cost, joins, heaped. -/
import Derived.Test.YtcakcdolijgjeaaPk
set_option linter.unusedVariables false
namespace Go.Proofs.Ytcakcdolijgjeaa
open Go Go.RowKit Go.Ab
set_option maxRecDepth 20000 in
set_option maxHeartbeats 2000000 in
theorem open_bad (a b : Option Addr) (l r c d : Nat) (gl gr : Nat → G4) (u m : G4) (w : World) (hs : Gs w a l gl) (ht : Gs w b r gr) (hl : l ≤ 34) (hr : r ≤ 34) (hg : goodB gl gr l r u m = false) :
    Calls Try.prog 68 #[.slice a l c, .slice b r d, uVal u m] w fun e w' => e = .returned (.tuple #[.pointer none, .bool false]) ∧ Below w.heap.size w w' := by
  have H1 := hide hs
  have H2 := hide ht
  have HG := hide hg
  clear hs ht hg
  unfold uVal
  obtain ⟨w0, w1, w2, w3⟩ := u
  obtain ⟨m0, m1, m2, m3⟩ := m
  have H8 := hide (bx8_new w w0 w1 w2 w3 m0 m1 m2 m3 32)
  have HB0 := hide (ba w (.cells #[.int .i64 w0, .int .i64 w1, .int .i64 w2, .int .i64 w3, .int .i64 m0, .int .i64 m1, .int .i64 m2, .int .i64 m3] 32))
  go_enter Try.func68, Try.ntmps68
  go_wp2_with fail
  refine (hands_is a l c gl _ (H1.out.below HB0.out) hl).mono ?_
  rintro e W1 ⟨rfl, hb⟩
  have HB := hide (bt HB0.out hb)
  have HX := hide (H8.out.below hb)
  clear hb H8 HB0
  cases hv : handsB gl l with
  | false =>
    go_wp2_with fail
    go_ret2
    exact ⟨rfl, HB.out⟩
  | true =>
    go_wp2_with fail
    refine (hands_is b r d gr _ (H2.out.below HB.out) hr).mono ?_
    rintro e W2 ⟨rfl, hb⟩
    have HB2 := hide (bt HB.out hb)
    have HX2 := hide (HX.out.below hb)
    clear hb HX HB
    cases hv2 : handsB gr r with
    | false =>
      go_wp2_with fail
      go_ret2
      exact ⟨rfl, HB2.out⟩
    | true =>
      obtain ⟨⟨⟨q0, q1⟩, q2, q3⟩, ⟨r0, r1⟩, r2, r3⟩ := HX2.out
      have HR : Hid ((okG w0 w1 w2 w3 && okG m0 m1 m2 m3) = false) := hide (by have := HG.out; unfold goodB at this; rw [hv, hv2] at this; exact this)
      go_wp2_with fail
      refine (ruleOk_is _ _ _ _ _ _ _ _ _).mono ?_
      rintro e W3 ⟨rfl, hb⟩
      have HB3 := hide (bt HB2.out hb)
      clear hb q0 q1 q2 q3 r0 r1 r2 r3
      rw [HR.out]
      go_wp2_with fail
      go_ret2
      exact ⟨rfl, HB3.out⟩
set_option maxRecDepth 20000 in
set_option maxHeartbeats 1000000 in
theorem allows_is (T l r i j : Nat) (f : Nat → Nat → Int) (w : World) (ht : Tb w T l r f) (hi : i < 32) (hj : j < 32) :
    Calls Try.prog 83 #[.pointer (some ⟨T, 0, none⟩), .int .i64 i, .int .i64 j] w fun e w' => e = .returned (.bool (decide (f i j > 0))) ∧ Below w.heap.size w w' := by
  have ct := ht.at hi hj
  have hi2 : (i : Int) < 32 := by omega
  have hj2 : (j : Int) < 32 := by omega
  clear ht
  go_enter Try.func83, Try.ntmps83
  go_wp2_with fail
  go_ret
  exact ⟨rfl, Below.refl _ _⟩
set_option maxRecDepth 20000 in
set_option maxHeartbeats 1000000 in
theorem tcost_is (T l r i j : Nat) (f : Nat → Nat → Int) (w : World) (ht : Tb w T l r f) (hi : i < 32) (hj : j < 32) (h0 : 0 ≤ f i j) (h1 : f i j ≤ 1000000000) :
    Calls Try.prog 65 #[.pointer (some ⟨T, 0, none⟩), .int .i64 i, .int .i64 j] w fun e w' => e = .returned (.int .i64 (1000000000 - f i j)) ∧ Below w.heap.size w w' := by
  have ct := ht.at hi hj
  have hi2 : (i : Int) < 32 := by omega
  have hj2 : (j : Int) < 32 := by omega
  have hw : IntKind.i64.wrap (1000000000 - f i j) = 1000000000 - f i j := IntWalk.i64_in _ (by omega)
  clear ht
  go_enter Try.func65, Try.ntmps65
  go_wp2_with fail
  go_ret
  exact ⟨rfl, Below.refl _ _⟩
set_option maxRecDepth 20000 in
set_option maxHeartbeats 1000000 in
theorem joins_is (T l r i j : Nat) (f : Nat → Nat → Int) (w : World) (ht : Tb w T l r f) (hi : i < 32) (hj : j < 32) :
    Calls Try.prog 97 #[.pointer (some ⟨T, 0, none⟩), .int .i64 i, .int .i64 j] w fun e w' => e = .returned (.bool (decide (i ≠ j) && decide (f i j > 0))) ∧ Below w.heap.size w w' := by
  have HT := hide ht
  clear ht
  by_cases e : i = j
  · subst e
    go_enter Try.func97, Try.ntmps97
    go_wp2_with fail
    go_ret
    exact ⟨by simp, Below.refl _ _⟩
  · have hne : ((i : Int) == (j : Int)) = false := by simp; omega
    have hne2 : ¬ (i : Int) = (j : Int) := by omega
    go_enter Try.func97, Try.ntmps97
    go_wp2_with fail
    refine (allows_is T l r i j f _ HT.out hi hj).mono ?_
    rintro e1 w1 ⟨rfl, hb⟩
    have HB := hide hb
    clear hb
    go_wp2_with fail
    go_ret
    exact ⟨by simp [e]; intro _; omega, HB.out⟩
theorem wth_pos {u m : G4} {gl gr : Nat → G4} {l r i j : Nat} (hg : goodB gl gr l r u m = true) (hi : i < l) (hj : j < r) : decide (wth u m gl gr l r i j > 0) = decide (0 ≤ prc u m (gl i) (gr j)) := by
  obtain ⟨⟨h1, h2⟩, h3, h4⟩ := goodB_get hg
  have := prc_in (m := m) h3 (allG_get (handsB_get h1).1 i hi) (allG_get (handsB_get h2).1 j hj)
  unfold wth
  by_cases h : 0 ≤ prc u m (gl i) (gr j)
  · rw [if_pos ⟨hi, hj, h⟩, decide_eq_true h, decide_eq_true (by omega)]
  · rw [if_neg (fun hh => h hh.2.2), decide_eq_false h]; rfl
set_option maxRecDepth 20000 in
set_option maxHeartbeats 1000000 in
theorem heaped_good (a : Option Addr) (l c : Nat) (gs : Nat → G4) (u m : G4) (w : World) (hs : Gs w a l gs) (hl : l ≤ 34) (hg : goodB gs gs l l u m = true) :
    Calls Try.prog 93 #[.slice a l c, uVal u m] w fun e w' => ∃ T, e = .returned (.tuple #[.pointer (some ⟨T, 0, none⟩), .bool true]) ∧ Tb w' T l l (wth u m gs gs l l) ∧ Below w.heap.size w w' := by
  have H1 := hide hs
  clear hs
  obtain ⟨w0, w1, w2, w3⟩ := u
  obtain ⟨m0, m1, m2, m3⟩ := m
  have H8 := hide (bx8_new w w0 w1 w2 w3 m0 m1 m2 m3 32)
  have HB0 := hide (ba w (.cells #[.int .i64 w0, .int .i64 w1, .int .i64 w2, .int .i64 w3, .int .i64 m0, .int .i64 m1, .int .i64 m2, .int .i64 m3] 32))
  have HO := hide (fun W h => open_good a a l l c c gs gs (w0, w1, w2, w3) (m0, m1, m2, m3) W h h hl hl hg)
  unfold uVal at HO ⊢
  go_enter Try.func93, Try.ntmps93
  go_wp2_with fail
  refine (HO.out _ (H1.out.below HB0.out)).mono ?_
  rintro e W1 ⟨T, rfl, hT, hb⟩
  have HT := hide hT
  have HB := hide (bt HB0.out hb)
  clear hT hb
  go_wp2_with fail
  go_ret2
  exact ⟨T, rfl, HT.out, HB.out⟩
set_option maxRecDepth 20000 in
set_option maxHeartbeats 1000000 in
theorem heaped_bad (a : Option Addr) (l c : Nat) (gs : Nat → G4) (u m : G4) (w : World) (hs : Gs w a l gs) (hl : l ≤ 34) (hg : goodB gs gs l l u m = false) :
    Calls Try.prog 93 #[.slice a l c, uVal u m] w fun e w' => e = .returned (.tuple #[.pointer none, .bool false]) ∧ Below w.heap.size w w' := by
  have H1 := hide hs
  clear hs
  obtain ⟨w0, w1, w2, w3⟩ := u
  obtain ⟨m0, m1, m2, m3⟩ := m
  have H8 := hide (bx8_new w w0 w1 w2 w3 m0 m1 m2 m3 32)
  have HB0 := hide (ba w (.cells #[.int .i64 w0, .int .i64 w1, .int .i64 w2, .int .i64 w3, .int .i64 m0, .int .i64 m1, .int .i64 m2, .int .i64 m3] 32))
  have HO := hide (fun W h => open_bad a a l l c c gs gs (w0, w1, w2, w3) (m0, m1, m2, m3) W h h hl hl hg)
  unfold uVal at HO ⊢
  go_enter Try.func93, Try.ntmps93
  go_wp2_with fail
  refine (HO.out _ (H1.out.below HB0.out)).mono ?_
  rintro e W1 ⟨rfl, hb⟩
  have HB := hide (bt HB0.out hb)
  clear hb
  go_wp2_with fail
  go_ret2
  exact ⟨rfl, HB.out⟩
end Go.Proofs.Ytcakcdolijgjeaa
