/- Rects, of the reference; its Rect and Lies. -/
import Derived.Test.YtgkonocjafoblaaTb
set_option linter.unusedVariables false
namespace Go.Proofs.Ytgkonocjafoblaa
open Go Go.RowKit Go.Ab
theorem areaB_get {a b : Int} (h : areaB a b = true) : (1 ≤ a ∧ a ≤ 16) ∧ 1 ≤ b ∧ b ≤ 16 := by
  unfold areaB sideB at h
  simpa using h
theorem areaB_no {a b : Int} (H : ¬ ((1 ≤ a ∧ a ≤ 16) ∧ 1 ≤ b ∧ b ≤ 16)) : areaB a b = false := by
  cases e : areaB a b with
  | false => rfl
  | true => exact absurd (areaB_get e) H
theorem areaB_yes {a b : Int} (h1 : 1 ≤ a) (h2 : a ≤ 16) (h3 : 1 ≤ b) (h4 : b ≤ 16) : areaB a b = true := by unfold areaB; rw [sideB_yes h1 h2, sideB_yes h3 h4]; rfl
set_option maxRecDepth 20000 in
set_option maxHeartbeats 1000000 in
theorem rrects_is (a b : Int) (w : World) : Calls Try.prog 20 #[.int .i64 a, .int .i64 b] w fun e w' => e = .returned (rectsV a b) ∧ w = w' := by
  by_cases h1 : 1 ≤ a
  · by_cases h2 : a ≤ 16
    · by_cases h3 : 1 ≤ b
      · by_cases h4 : b ≤ 16
        · have HR : Hid (rectsV a b = .tuple #[.int .i64 (wr (tsum a * tsum b)), .int .i64 0]) := hide (by unfold rectsV; rw [areaB_yes h1 h2 h3 h4]; rfl)
          have HE : Hid (wrap64 (wrap64 ((wrap64 (a * (a + 1))).tdiv 2) * wrap64 ((wrap64 (b * (b + 1))).tdiv 2)) = wr (tsum a * tsum b)) := hide (by
            have ea : wr (a + 1) = a + 1 := wr_in (by omega) (by omega)
            have eb : wr (b + 1) = b + 1 := wr_in (by omega) (by omega)
            unfold tsum
            rw [ea, eb]
            simp only [wr, IntWalk.i64_left])
          go_enter Try.func20, Try.ntmps20
          go_wp2
          go_ret2
          exact ⟨by rw [HR.out, ← HE.out]; rfl, rfl⟩
        · have HR : Hid (rectsV a b = .tuple #[.int .i64 0, .int .i64 2]) := hide (by unfold rectsV; rw [areaB_no (by omega)]; rfl)
          go_enter Try.func20, Try.ntmps20
          go_wp2
          go_ret2
          exact ⟨by rw [HR.out]; rfl, rfl⟩
      · have HR : Hid (rectsV a b = .tuple #[.int .i64 0, .int .i64 2]) := hide (by unfold rectsV; rw [areaB_no (by omega)]; rfl)
        go_enter Try.func20, Try.ntmps20
        go_wp2
        go_ret2
        exact ⟨by rw [HR.out]; rfl, rfl⟩
    · have HR : Hid (rectsV a b = .tuple #[.int .i64 0, .int .i64 2]) := hide (by unfold rectsV; rw [areaB_no (by omega)]; rfl)
      go_enter Try.func20, Try.ntmps20
      go_wp2
      go_ret2
      exact ⟨by rw [HR.out]; rfl, rfl⟩
  · have HR : Hid (rectsV a b = .tuple #[.int .i64 0, .int .i64 2]) := hide (by unfold rectsV; rw [areaB_no (by omega)]; rfl)
    go_enter Try.func20, Try.ntmps20
    go_wp2
    go_ret2
    exact ⟨by rw [HR.out]; rfl, rfl⟩
set_option maxHeartbeats 1000000 in
theorem rrect_is (x y b h : Int) (w : World) :
    Calls Try.prog 42 #[.agg #[.int .i64 x, .int .i64 y, .int .i64 b, .int .i64 h]] w fun e w' => e = .returned (.bool (rectB x y b h)) ∧ Below w.heap.size w w' := by
  have HB : Hid (Below w.heap.size w (w.alloc (.cells #[.int .i64 x, .int .i64 y, .int .i64 b, .int .i64 h] 23))) := hide ((Below.refl _ _).alloc (Nat.le_refl _) _)
  by_cases h3 : 1 ≤ b
  · by_cases h4 : 1 ≤ h
    · by_cases h1 : 0 ≤ x
      · by_cases h2 : 0 ≤ y
        · have HR := hide (rectB_yes h1 h2 h3 h4)
          go_enter Try.func42, Try.ntmps42
          go_wp2
          go_ret
          exact ⟨by rw [HR.out]; rfl, HB.out⟩
        · have HR : Hid (rectB x y b h = false) := hide (rectB_no (by omega))
          go_enter Try.func42, Try.ntmps42
          go_wp2
          go_ret
          exact ⟨by rw [HR.out]; rfl, HB.out⟩
      · have HR : Hid (rectB x y b h = false) := hide (rectB_no (by omega))
        go_enter Try.func42, Try.ntmps42
        go_wp2
        go_ret
        exact ⟨by rw [HR.out]; rfl, HB.out⟩
    · have HR : Hid (rectB x y b h = false) := hide (rectB_no (by omega))
      go_enter Try.func42, Try.ntmps42
      go_wp2
      go_ret
      exact ⟨by rw [HR.out]; rfl, HB.out⟩
  · have HR : Hid (rectB x y b h = false) := hide (rectB_no (by omega))
    go_enter Try.func42, Try.ntmps42
    go_wp2
    go_ret
    exact ⟨by rw [HR.out]; rfl, HB.out⟩
theorem hasB_eq {a b x y c d : Int} (ha : 1 ≤ a) (ha' : a ≤ 16) (hb : 1 ≤ b) (hb' : b ≤ 16) (hx : 0 ≤ x) (hy : 0 ≤ y) (ix : x ≤ 9223372036854775807) (iy : y ≤ 9223372036854775807) : hasB a b x y c d = (decide (c ≤ a - x) && decide (d ≤ b - y)) := by
  unfold hasB
  rw [wr_in (n := a - x) (by omega) (by omega), wr_in (n := b - y) (by omega) (by omega)]
theorem hasB_yes {a b x y c d : Int} (ha : 1 ≤ a) (ha' : a ≤ 16) (hb : 1 ≤ b) (hb' : b ≤ 16) (hx : 0 ≤ x) (hy : 0 ≤ y) (ix : x ≤ 9223372036854775807) (iy : y ≤ 9223372036854775807) (h1 : c ≤ a - x) (h2 : d ≤ b - y) : hasB a b x y c d = true := by
  rw [hasB_eq ha ha' hb hb' hx hy ix iy]; simp [h1, h2]
theorem hasB_no {a b x y c d : Int} (ha : 1 ≤ a) (ha' : a ≤ 16) (hb : 1 ≤ b) (hb' : b ≤ 16) (hx : 0 ≤ x) (hy : 0 ≤ y) (ix : x ≤ 9223372036854775807) (iy : y ≤ 9223372036854775807) (H : ¬ (c ≤ a - x ∧ d ≤ b - y)) : hasB a b x y c d = false := by
  rw [hasB_eq ha ha' hb hb' hx hy ix iy]
  by_cases h1 : c ≤ a - x
  · have h2 : ¬ d ≤ b - y := fun h2 => H ⟨h1, h2⟩
    rw [decide_eq_true h1, decide_eq_false h2]; rfl
  · rw [decide_eq_false h1]; rfl
set_option maxHeartbeats 1000000 in
theorem lies_is (a b x y c d : Int) (w : World) (ha : 1 ≤ a) (ha' : a ≤ 16) (hb : 1 ≤ b) (hb' : b ≤ 16) (hx : 0 ≤ x) (hy : 0 ≤ y) (ix : x ≤ 9223372036854775807) (iy : y ≤ 9223372036854775807) (hc : 1 ≤ c) (hd : 1 ≤ d) :
    Calls Try.prog 43 #[.agg #[.int .i64 x, .int .i64 y, .int .i64 c, .int .i64 d], .int .i64 a, .int .i64 b] w fun e w' => e = .returned (.bool (hasB a b x y c d)) ∧ Below w.heap.size w w' := by
  have HB : Hid (Below w.heap.size w (w.alloc (.cells #[.int .i64 x, .int .i64 y, .int .i64 c, .int .i64 d] 23))) := hide ((Below.refl _ _).alloc (Nat.le_refl _) _)
  by_cases h0 : c ≤ a
  · by_cases h1 : x ≤ a - c
    · by_cases h3 : d ≤ b
      · by_cases h2 : y ≤ b - d
        · have HR : Hid (hasB a b x y c d = true) := hide (hasB_yes ha ha' hb hb' hx hy ix iy (by omega) (by omega))
          go_enter Try.func43, Try.ntmps43
          go_wp2
          go_ret
          exact ⟨by rw [HR.out]; rfl, HB.out⟩
        · have HR : Hid (hasB a b x y c d = false) := hide (hasB_no ha ha' hb hb' hx hy ix iy (by omega))
          go_enter Try.func43, Try.ntmps43
          go_wp2
          go_ret
          exact ⟨by rw [HR.out]; rfl, HB.out⟩
      · have HR : Hid (hasB a b x y c d = false) := hide (hasB_no ha ha' hb hb' hx hy ix iy (by omega))
        go_enter Try.func43, Try.ntmps43
        go_wp2
        go_ret
        exact ⟨by rw [HR.out]; rfl, HB.out⟩
    · have HR : Hid (hasB a b x y c d = false) := hide (hasB_no ha ha' hb hb' hx hy ix iy (by omega))
      go_enter Try.func43, Try.ntmps43
      go_wp2
      go_ret
      exact ⟨by rw [HR.out]; rfl, HB.out⟩
  · have HR : Hid (hasB a b x y c d = false) := hide (hasB_no ha ha' hb hb' hx hy ix iy (by omega))
    go_enter Try.func43, Try.ntmps43
    go_wp2
    go_ret
    exact ⟨by rw [HR.out]; rfl, HB.out⟩
end Go.Proofs.Ytgkonocjafoblaa
