/- Number, of the reference; the law. -/
import Derived.Test.YtgkonocjafoblaaTd
set_option linter.unusedVariables false
namespace Go.Proofs.Ytgkonocjafoblaa
open Go Go.RowKit Go.Ab
theorem rectB_get {x y b h : Int} (H : rectB x y b h = true) : 0 ≤ x ∧ 0 ≤ y ∧ 1 ≤ b ∧ 1 ≤ h := by
  unfold rectB at H
  simp only [Bool.and_eq_true, decide_eq_true_eq] at H
  exact ⟨H.1.1.1, H.1.1.2, H.1.2, H.2⟩
def R4 (w W : World) (x y b h : Int) : Prop := ((W.cell? ⟨w.heap.size, 0, none⟩ = some (.int .i64 x) ∧ W.cell? ⟨w.heap.size, 1, none⟩ = some (.int .i64 y)) ∧ (W.cell? ⟨w.heap.size, 2, none⟩ = some (.int .i64 b) ∧ W.cell? ⟨w.heap.size, 3, none⟩ = some (.int .i64 h))) ∧ Below w.heap.size w W
theorem r4_new (w : World) (x y b h : Int) : R4 w (w.alloc (.cells #[.int .i64 x, .int .i64 y, .int .i64 b, .int .i64 h] 23)) x y b h := ⟨⟨⟨by simp [go_sem], by simp [go_sem]⟩, by simp [go_sem], by simp [go_sem]⟩, (Below.refl _ _).alloc (Nat.le_refl _) _⟩
theorem r4_hid {w W W' : World} {x y b h : Int} (H : Hid (R4 w W x y b h)) (hb : Below W.heap.size W W') : Hid (R4 w W' x y b h) := hide ⟨⟨⟨kc hb H.out.1.1.1, kc hb H.out.1.1.2⟩, kc hb H.out.1.2.1, kc hb H.out.1.2.2⟩, bt H.out.2 hb⟩
set_option maxRecDepth 20000 in
set_option maxHeartbeats 4000000 in
theorem rnumber_is (a b x y c d : Int) (w : World) (ix : In64 x) (iy : In64 y) : Calls Try.prog 22 #[.int .i64 a, .int .i64 b, .agg #[.int .i64 x, .int .i64 y, .int .i64 c, .int .i64 d]] w fun e w' => e = .returned (numberV a b x y c d) ∧ Below w.heap.size w w' := by
  have HN := hide (r4_new w x y c d)
  have jx := ix.2
  have jy := iy.2
  clear ix iy
  cases h1 : areaB a b with
  | false =>
    have HV : Hid (rectsV a b = .tuple #[.int .i64 0, .int .i64 2]) := hide (by unfold rectsV; rw [h1]; rfl)
    have HR : Hid (numberV a b x y c d = .tuple #[.int .i64 0, .int .i64 2]) := hide (by unfold numberV; rw [h1]; rfl)
    clear h1
    go_enter Try.func22, Try.ntmps22
    go_wp2_with (go_at_call 20; (with_reducible refine (rrects_is a b _).mono ?_); rintro e w1 ⟨rfl, rfl⟩; rw [HV.out])
    go_ret2
    exact ⟨by rw [HR.out]; rfl, HN.out.2⟩
  | true =>
    obtain ⟨⟨q1, q2⟩, q3, q4⟩ := areaB_get h1
    have HV : Hid (rectsV a b = .tuple #[.int .i64 (wr (tsum a * tsum b)), .int .i64 0]) := hide (by unfold rectsV; rw [h1]; rfl)
    cases h2 : rectB x y c d with
    | false =>
      have HR : Hid (numberV a b x y c d = .tuple #[.int .i64 0, .int .i64 2]) := hide (by unfold numberV; rw [h1, h2]; rfl)
      have H2 := hide h2
      clear h1 h2
      go_enter Try.func22, Try.ntmps22
      go_wp2_with (first
        | (go_at_call 20; (with_reducible refine (rrects_is a b _).mono ?_); rintro e w1 ⟨rfl, rfl⟩; rw [HV.out])
        | (go_at_call 42; (with_reducible refine (rrect_is x y c d _).mono ?_); rintro e w1 ⟨rfl, hb⟩; rw [H2.out]; have HX := r4_hid HN hb; clear hb))
      go_ret2
      exact ⟨by rw [HR.out]; rfl, HX.out.2⟩
    | true =>
      obtain ⟨g1, g2, g3, g4⟩ := rectB_get h2
      cases h3 : hasB a b x y c d with
      | false =>
        have HR : Hid (numberV a b x y c d = .tuple #[.int .i64 0, .int .i64 5]) := hide (by unfold numberV; rw [h1, h2, h3]; rfl)
        have H2 := hide h2
        have H3 := hide h3
        clear h1 h2 h3
        go_enter Try.func22, Try.ntmps22
        go_wp2_with (first
          | (go_at_call 20; (with_reducible refine (rrects_is a b _).mono ?_); rintro e w1 ⟨rfl, rfl⟩; rw [HV.out])
          | (go_at_call 42; (with_reducible refine (rrect_is x y c d _).mono ?_); rintro e w1 ⟨rfl, hb⟩; rw [H2.out]; have HX := r4_hid HN hb; clear hb; obtain ⟨⟨⟨k0, k1⟩, k2, k3⟩, _⟩ := HX.out)
          | (go_at_call 43; (with_reducible refine (lies_is a b x y c d _ q1 q2 q3 q4 g1 g2 jx jy g3 g4).mono ?_); rintro e w2 ⟨rfl, hb⟩; rw [H3.out]; have HY := r4_hid HX hb; clear hb))
        go_ret2
        exact ⟨by rw [HR.out]; rfl, HY.out.2⟩
      | true =>
        have hl : c ≤ a - x ∧ d ≤ b - y := by
          rw [hasB_eq q1 q2 q3 q4 g1 g2 jx jy] at h3
          simpa using h3
        obtain ⟨W, rfl⟩ : ∃ W : Nat, a = W := ⟨a.toNat, by omega⟩
        obtain ⟨H, rfl⟩ : ∃ H : Nat, b = H := ⟨b.toNat, by omega⟩
        obtain ⟨X, rfl⟩ : ∃ X : Nat, x = X := ⟨x.toNat, by omega⟩
        obtain ⟨Y, rfl⟩ : ∃ Y : Nat, y = Y := ⟨y.toNat, by omega⟩
        obtain ⟨C, rfl⟩ : ∃ C : Nat, c = C := ⟨c.toNat, by omega⟩
        obtain ⟨T, rfl⟩ : ∃ T : Nat, d = T := ⟨d.toNat, by omega⟩
        have HR : Hid (numberV W H X Y C T = .tuple #[.int .i64 (plV W H X Y C T : Int), .int .i64 0]) := hide (by
          unfold numberV; rw [h1, h2, h3, ← num_is (by omega) (by omega) (by omega) (by omega) (by omega) (by omega)]; rfl)
        have H2 := hide h2
        have H3 := hide h3
        have HP : Hid ((W ≤ 16 ∧ H ≤ 16) ∧ (1 ≤ C ∧ 1 ≤ T) ∧ X + C ≤ W ∧ Y + T ≤ H) := hide (by omega)
        clear h1 h2 h3 hl
        go_enter Try.func22, Try.ntmps22
        go_wp2_with (first
          | (go_at_call 20; (with_reducible refine (rrects_is W H _).mono ?_); rintro e w1 ⟨rfl, rfl⟩; rw [HV.out])
          | (go_at_call 42; (with_reducible refine (rrect_is X Y C T _).mono ?_); rintro e w1 ⟨rfl, hb⟩; rw [H2.out]; have HX := r4_hid HN hb; clear hb; obtain ⟨⟨⟨k0, k1⟩, k2, k3⟩, _⟩ := HX.out)
          | (go_at_call 43; (with_reducible refine (lies_is W H X Y C T _ q1 q2 q3 q4 g1 g2 jx jy g3 g4).mono ?_); rintro e w2 ⟨rfl, hb⟩; rw [H3.out]; have HY := r4_hid HX hb; clear hb; obtain ⟨⟨⟨k0, k1⟩, k2, k3⟩, _⟩ := HY.out)
          | (go_at_call 74; (with_reducible refine (place_is W H X Y C T _ HP.out.1.1 HP.out.1.2 HP.out.2.1.1 HP.out.2.1.2 HP.out.2.2.1 HP.out.2.2.2).mono ?_); rintro e w3 ⟨rfl, hb⟩; have HZ := r4_hid HY hb; clear hb))
        go_ret2
        exact ⟨by rw [HR.out]; rfl, HZ.out.2⟩
theorem rectsV_two (a b : Int) : ∃ n e, rectsV a b = .tuple #[.int .i64 n, .int .i64 e] := by
  unfold rectsV
  split <;> exact ⟨_, _, rfl⟩
theorem numberV_two (a b x y c d : Int) : ∃ n e, numberV a b x y c d = .tuple #[.int .i64 n, .int .i64 e] := by
  unfold numberV
  split
  · split <;> exact ⟨_, _, rfl⟩
  · exact ⟨_, _, rfl⟩
set_option maxRecDepth 20000 in
set_option maxHeartbeats 4000000 in
theorem rects_law (a b x y c d : Int) (w : World) (_ : In64 a) (_ : In64 b) (ix : In64 x) (iy : In64 y) (_ : In64 c) (_ : In64 d) :
    Calls Try.prog 3 #[.int .i64 a, .int .i64 b, .agg #[.int .i64 x, .int .i64 y, .int .i64 c, .int .i64 d]] w fun e w' => e = .returned (.bool true) ∧ Below w.heap.size w w' := by
  have HN := hide (r4_new w x y c d)
  obtain ⟨n, e, hv⟩ := rectsV_two a b
  obtain ⟨m, f, hn⟩ := numberV_two a b x y c d
  have HV := hide hv
  have HM := hide hn
  clear hv hn
  go_enter Try.func3, Try.ntmps3
  go_wp2_with (first
    | (go_at_call 19; (with_reducible refine (rects_is a b _).mono ?_); rintro e w1 ⟨rfl, hb⟩; rw [HV.out]; have H1 := r4_hid HN hb; clear hb; obtain ⟨⟨⟨k0, k1⟩, k2, k3⟩, _⟩ := H1.out)
    | (go_at_call 20; (with_reducible refine (rrects_is a b _).mono ?_); rintro e w2 ⟨rfl, rfl⟩; rw [HV.out])
    | (go_at_call 21; (with_reducible refine (number_is a b x y c d _).mono ?_); rintro e w3 ⟨rfl, hb⟩; rw [HM.out]; have H2 := r4_hid H1 hb; clear hb; obtain ⟨⟨⟨k0, k1⟩, k2, k3⟩, _⟩ := H2.out)
    | (go_at_call 22; (with_reducible refine (rnumber_is a b x y c d _ ix iy).mono ?_); rintro e w4 ⟨rfl, hb⟩; rw [HM.out]; have H3 := r4_hid H2 hb; clear hb)
    | (go_at_call 23; (with_reducible refine (awake_any _).mono ?_); rintro e w5 ⟨rfl, hb⟩; have H4 := r4_hid H3 hb; clear hb))
  go_ret
  exact ⟨rfl, H4.out.2⟩
end Go.Proofs.Ytgkonocjafoblaa
