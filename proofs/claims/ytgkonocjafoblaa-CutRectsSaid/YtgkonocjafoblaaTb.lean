/- Rects and Number, of the program. -/
import Derived.Test.YtgkonocjafoblaaTa
set_option linter.unusedVariables false
namespace Go.Proofs.Ytgkonocjafoblaa
open Go Go.RowKit Go.Ab
def rectsV (a b : Int) : Value := if areaB a b then .tuple #[.int .i64 (wr (tsum a * tsum b)), .int .i64 0] else .tuple #[.int .i64 0, .int .i64 2]
set_option maxRecDepth 20000 in
set_option maxHeartbeats 1000000 in
theorem rects_is (a b : Int) (w : World) : Calls Try.prog 19 #[.int .i64 a, .int .i64 b] w fun e w' => e = .returned (rectsV a b) ∧ Below w.heap.size w w' := by
  have HB : Hid (Below w.heap.size w (w.alloc (.cells #[.int .i64 a, .int .i64 b] 108))) := hide ((Below.refl _ _).alloc (Nat.le_refl _) _)
  have HC : Hid ((w.alloc (.cells #[.int .i64 a, .int .i64 b] 108)).cell? ⟨w.heap.size, 0, none⟩ = some (.int .i64 a) ∧ (w.alloc (.cells #[.int .i64 a, .int .i64 b] 108)).cell? ⟨w.heap.size, 1, none⟩ = some (.int .i64 b)) := hide ⟨by simp [go_sem], by simp [go_sem]⟩
  cases h1 : areaB a b with
  | true =>
    have H1 := hide h1; clear h1
    have HR : Hid (rectsV a b = .tuple #[.int .i64 (wr (tsum a * tsum b)), .int .i64 0]) := hide (by unfold rectsV; rw [H1.out]; rfl)
    go_enter Try.func19, Try.ntmps19
    go_wp2_with (first
      | (go_at_call 70; (with_reducible refine (valid_is a b _).mono ?_); rintro e w1 ⟨rfl, hb⟩; rw [H1.out]; have HX := hide hb; have c0 := kc hb HC.out.1; have c1 := kc hb HC.out.2; clear hb)
      | (go_at_call 71; (with_reducible refine (rects_any a b _).mono ?_); rintro e w2 ⟨rfl, hb⟩; have HY := hide hb; clear hb))
    go_ret2
    exact ⟨by rw [HR.out]; rfl, bt (bt HB.out HX.out) HY.out⟩
  | false =>
    have H1 := hide h1; clear h1
    have HR : Hid (rectsV a b = .tuple #[.int .i64 0, .int .i64 2]) := hide (by unfold rectsV; rw [H1.out]; rfl)
    go_enter Try.func19, Try.ntmps19
    go_wp2_with (go_at_call 70; (with_reducible refine (valid_is a b _).mono ?_); rintro e w1 ⟨rfl, hb⟩; rw [H1.out])
    go_ret2
    exact ⟨by rw [HR.out]; rfl, bt HB.out ‹_›⟩
def rectB (x y b h : Int) : Bool := decide (0 ≤ x) && decide (0 ≤ y) && decide (1 ≤ b) && decide (1 ≤ h)
theorem rectB_no {x y b h : Int} (H : ¬ (0 ≤ x ∧ 0 ≤ y ∧ 1 ≤ b ∧ 1 ≤ h)) : rectB x y b h = false := by
  cases e : rectB x y b h with
  | false => rfl
  | true =>
    unfold rectB at e
    simp only [Bool.and_eq_true, decide_eq_true_eq] at e
    exact absurd ⟨e.1.1.1, e.1.1.2, e.1.2, e.2⟩ H
theorem rectB_yes {x y b h : Int} (h1 : 0 ≤ x) (h2 : 0 ≤ y) (h3 : 1 ≤ b) (h4 : 1 ≤ h) : rectB x y b h = true := by unfold rectB; simp [h1, h2, h3, h4]
def numberV (a b x y c d : Int) : Value := if areaB a b && rectB x y c d then (if hasB a b x y c d then .tuple #[.int .i64 (numV a b x y c d), .int .i64 0] else .tuple #[.int .i64 0, .int .i64 5]) else .tuple #[.int .i64 0, .int .i64 2]
/-- a rectangle's box and an area's -/
def N6 (w W : World) (a b x y c d : Int) : Prop := ((W.cell? ⟨w.heap.size, 0, none⟩ = some (.int .i64 x) ∧ W.cell? ⟨w.heap.size, 1, none⟩ = some (.int .i64 y)) ∧ W.cell? ⟨w.heap.size, 2, none⟩ = some (.int .i64 c) ∧ W.cell? ⟨w.heap.size, 3, none⟩ = some (.int .i64 d)) ∧
  (W.cell? ⟨w.heap.size + 1, 0, none⟩ = some (.int .i64 a) ∧ W.cell? ⟨w.heap.size + 1, 1, none⟩ = some (.int .i64 b)) ∧ Below w.heap.size w W
theorem n6_new (w : World) (a b x y c d : Int) : N6 w ((w.alloc (.cells #[.int .i64 x, .int .i64 y, .int .i64 c, .int .i64 d] 23)).alloc (.cells #[.int .i64 a, .int .i64 b] 108)) a b x y c d :=
  ⟨⟨⟨by simp [go_sem], by simp [go_sem]⟩, by simp [go_sem], by simp [go_sem]⟩, ⟨by simp [go_sem], by simp [go_sem]⟩, ((Below.refl _ _).alloc (Nat.le_refl _) _).alloc (by simp) _⟩
theorem n6_step {w W W' : World} {a b x y c d : Int} (H : N6 w W a b x y c d) (hb : Below W.heap.size W W') : N6 w W' a b x y c d :=
  ⟨⟨⟨kc hb H.1.1.1, kc hb H.1.1.2⟩, kc hb H.1.2.1, kc hb H.1.2.2⟩, ⟨kc hb H.2.1.1, kc hb H.2.1.2⟩, bt H.2.2 hb⟩
theorem n6_hid {w W W' : World} {a b x y c d : Int} (H : Hid (N6 w W a b x y c d)) (hb : Below W.heap.size W W') : Hid (N6 w W' a b x y c d) := hide (n6_step H.out hb)
set_option maxRecDepth 20000 in
set_option maxHeartbeats 4000000 in
theorem number_is (a b x y c d : Int) (w : World) : Calls Try.prog 21 #[.int .i64 a, .int .i64 b, .agg #[.int .i64 x, .int .i64 y, .int .i64 c, .int .i64 d]] w fun e w' => e = .returned (numberV a b x y c d) ∧ Below w.heap.size w w' := by
  have HN := hide (n6_new w a b x y c d)
  by_cases h1 : areaB a b = true ∧ rectB x y c d = true
  · obtain ⟨h1, h2⟩ := h1
    have H1 := hide h1; clear h1
    have g := h2
    unfold rectB at g
    simp only [Bool.and_eq_true, decide_eq_true_eq] at g
    obtain ⟨⟨⟨g1, g2⟩, g3⟩, g4⟩ := g
    have H2 := hide h2; clear h2
    cases h3 : hasB a b x y c d with
    | true =>
      have H3 := hide h3; clear h3
      have HR : Hid (numberV a b x y c d = .tuple #[.int .i64 (numV a b x y c d), .int .i64 0]) := hide (by unfold numberV; rw [H1.out, H2.out, H3.out]; rfl)
      go_enter Try.func21, Try.ntmps21
      go_wp2_with (first
        | (go_at_call 70; (with_reducible refine (valid_is a b _).mono ?_); rintro e w1 ⟨rfl, hb⟩; rw [H1.out]; have HX := n6_hid HN hb; clear hb; obtain ⟨⟨⟨k0, k1⟩, k2, k3⟩, ⟨k4, k5⟩, _⟩ := HX.out)
        | (go_at_call 72; (with_reducible refine (has_is a b x y c d _).mono ?_); rintro e w2 ⟨rfl, hb⟩; rw [H3.out]; have HY := n6_hid HX hb; clear hb; obtain ⟨⟨⟨k0, k1⟩, k2, k3⟩, ⟨k4, k5⟩, _⟩ := HY.out)
        | (go_at_call 73; (with_reducible refine (number_any a b x y c d _).mono ?_); rintro e w3 ⟨rfl, hb⟩; have HZ := n6_hid HY hb; clear hb))
      go_ret2
      exact ⟨by rw [HR.out]; rfl, HZ.out.2.2⟩
    | false =>
      have H3 := hide h3; clear h3
      have HR : Hid (numberV a b x y c d = .tuple #[.int .i64 0, .int .i64 5]) := hide (by unfold numberV; rw [H1.out, H2.out, H3.out]; rfl)
      go_enter Try.func21, Try.ntmps21
      go_wp2_with (first
        | (go_at_call 70; (with_reducible refine (valid_is a b _).mono ?_); rintro e w1 ⟨rfl, hb⟩; rw [H1.out]; have HX := n6_hid HN hb; clear hb; obtain ⟨⟨⟨k0, k1⟩, k2, k3⟩, ⟨k4, k5⟩, _⟩ := HX.out)
        | (go_at_call 72; (with_reducible refine (has_is a b x y c d _).mono ?_); rintro e w2 ⟨rfl, hb⟩; rw [H3.out]; have HY := n6_hid HX hb; clear hb))
      go_ret2
      exact ⟨by rw [HR.out]; rfl, HY.out.2.2⟩
  · have HR : Hid (numberV a b x y c d = .tuple #[.int .i64 0, .int .i64 2]) := hide (by
      unfold numberV
      cases e1 : areaB a b <;> cases e2 : rectB x y c d <;> first | rfl | exact absurd ⟨e1, e2⟩ h1)
    cases h2 : areaB a b with
    | false =>
      have H1 := hide h2; clear h2 h1
      go_enter Try.func21, Try.ntmps21
      go_wp2_with (go_at_call 70; (with_reducible refine (valid_is a b _).mono ?_); rintro e w1 ⟨rfl, hb⟩; rw [H1.out]; have HX := n6_hid HN hb; clear hb)
      go_ret2
      exact ⟨by rw [HR.out]; rfl, HX.out.2.2⟩
    | true =>
      have h3 : rectB x y c d = false := by cases e2 : rectB x y c d with | false => rfl | true => exact absurd ⟨h2, e2⟩ h1
      have H1 := hide h2; clear h2 h1
      by_cases g1 : 0 ≤ x
      · by_cases g2 : 0 ≤ y
        · by_cases g3 : 1 ≤ c
          · have g4 : ¬ 1 ≤ d := fun g4 => by rw [rectB_yes g1 g2 g3 g4] at h3; cases h3
            clear h3
            go_enter Try.func21, Try.ntmps21
            go_wp2_with (go_at_call 70; (with_reducible refine (valid_is a b _).mono ?_); rintro e w1 ⟨rfl, hb⟩; rw [H1.out]; have HX := n6_hid HN hb; clear hb; obtain ⟨⟨⟨k0, k1⟩, k2, k3⟩, ⟨k4, k5⟩, _⟩ := HX.out)
            go_ret2
            exact ⟨by rw [HR.out]; rfl, HX.out.2.2⟩
          · clear h3
            go_enter Try.func21, Try.ntmps21
            go_wp2_with (go_at_call 70; (with_reducible refine (valid_is a b _).mono ?_); rintro e w1 ⟨rfl, hb⟩; rw [H1.out]; have HX := n6_hid HN hb; clear hb; obtain ⟨⟨⟨k0, k1⟩, k2, k3⟩, ⟨k4, k5⟩, _⟩ := HX.out)
            go_ret2
            exact ⟨by rw [HR.out]; rfl, HX.out.2.2⟩
        · clear h3
          go_enter Try.func21, Try.ntmps21
          go_wp2_with (go_at_call 70; (with_reducible refine (valid_is a b _).mono ?_); rintro e w1 ⟨rfl, hb⟩; rw [H1.out]; have HX := n6_hid HN hb; clear hb; obtain ⟨⟨⟨k0, k1⟩, k2, k3⟩, ⟨k4, k5⟩, _⟩ := HX.out)
          go_ret2
          exact ⟨by rw [HR.out]; rfl, HX.out.2.2⟩
      · clear h3
        go_enter Try.func21, Try.ntmps21
        go_wp2_with (go_at_call 70; (with_reducible refine (valid_is a b _).mono ?_); rintro e w1 ⟨rfl, hb⟩; rw [H1.out]; have HX := n6_hid HN hb; clear hb; obtain ⟨⟨⟨k0, k1⟩, k2, k3⟩, ⟨k4, k5⟩, _⟩ := HX.out)
        go_ret2
        exact ⟨by rw [HR.out]; rfl, HX.out.2.2⟩
end Go.Proofs.Ytgkonocjafoblaa
