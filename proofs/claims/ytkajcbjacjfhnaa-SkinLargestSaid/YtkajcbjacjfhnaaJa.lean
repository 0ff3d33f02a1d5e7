/- Greatest rectangles: the visits by number, and what they come to. -/
import Derived.Test.YtkajcbjacjfhnaaIz
set_option linter.unusedVariables false
namespace Go.Proofs.Ytkajcbjacjfhnaa
open Go.RowKit Go.Ab
def VisK (sq : Bool) (u : Nat → Nat → Bool) (n l k h : Nat) (r : Rk) : Prop := ∃ a b j, (b * n + a < k ∨ (b * n + a = k ∧ j ≤ h)) ∧ a < n ∧ 1 ≤ j ∧ b + j ≤ l ∧ 1 ≤ wid u n a b j ∧ r = shp sq ⟨a, b, wid u n a b j, j⟩
theorem lin_lt {n a b x y : Nat} (ha : a < n) (hx : x < n) : b * n + a < y * n + x ↔ b < y ∨ (b = y ∧ a < x) := by
  rcases Nat.lt_trichotomy b y with h | h | h
  · have := Nat.mul_le_mul_right n (Nat.succ_le_of_lt h)
    rw [Nat.succ_mul] at this
    omega
  · subst h; omega
  · have := Nat.mul_le_mul_right n (Nat.succ_le_of_lt h)
    rw [Nat.succ_mul] at this
    omega
theorem lin_eq {n a b x y : Nat} (ha : a < n) (hx : x < n) : b * n + a = y * n + x ↔ b = y ∧ a = x := by
  have h1 := lin_lt (b := b) (y := y) ha hx
  have h2 := lin_lt (b := y) (y := b) hx ha
  constructor
  · intro h
    have : ¬ (b * n + a < y * n + x) := by omega
    have : ¬ (y * n + x < b * n + a) := by omega
    rw [h1] at *; rw [h2] at *
    omega
  · rintro ⟨rfl, rfl⟩; rfl
theorem visK_iff {sq : Bool} {u : Nat → Nat → Bool} {n l x y h : Nat} (hx : x < n) (r : Rk) : Vis sq u n l x y h r ↔ VisK sq u n l (y * n + x) h r := by
  constructor
  · rintro ⟨a, b, k, h1, h2, h3⟩
    refine ⟨a, b, k, ?_, h2, h3⟩
    rw [lin_lt h2 hx, lin_eq h2 hx]; omega
  · rintro ⟨a, b, k, h1, h2, h3⟩
    refine ⟨a, b, k, ?_, h2, h3⟩
    rw [lin_lt h2 hx, lin_eq h2 hx] at h1; omega
theorem visK_next {sq : Bool} {u : Nat → Nat → Bool} {n l x y h : Nat} {b : Rk} (hx : x < n) (he : y + h = l ∨ wid u n x y (h + 1) = 0) (ht : Top (VisK sq u n l (y * n + x) h) b) : Top (VisK sq u n l (y * n + x + 1) 0) b :=
  top_congr ht fun r => by
    constructor
    · rintro ⟨a, b, j, h1, h2, h3⟩
      exact ⟨a, b, j, by omega, h2, h3⟩
    · rintro ⟨a, b, j, h1, h2, h3, h4, h5, h6⟩
      refine ⟨a, b, j, ?_, h2, h3, h4, h5, h6⟩
      by_cases e : b * n + a < y * n + x
      · exact .inl e
      · have e2 : b * n + a = y * n + x := by omega
        refine .inr ⟨e2, ?_⟩
        obtain ⟨rfl, rfl⟩ := (lin_eq h2 hx).1 e2
        rcases he with he | he
        · omega
        · by_cases hj : j ≤ h
          · exact hj
          · have := wid_mono u n a b (show h + 1 ≤ j by omega)
            omega
theorem visK_bd {sq : Bool} {u : Nat → Nat → Bool} {n l k h : Nat} {b : Rk} (ht : Top (VisK sq u n l k h) b) : b.x ≤ n ∧ b.y ≤ l ∧ b.w ≤ n ∧ b.h ≤ max n l := by
  rcases ht with ⟨_, rfl⟩ | ⟨⟨a, c, j, _, h2, h3, h4, h5, rfl⟩, _⟩
  · simp [Rk.nil]
  · have := wid_mono u n a c (Nat.zero_le j)
    have e : wid u n a c 0 = n := rfl
    cases sq <;> simp [shp] <;> omega
def FullS (sq : Bool) (u : Nat → Nat → Bool) (n l : Nat) (r : Rk) : Prop := Full u n l r ∧ (sq = true → r.w = r.h)
theorem full_wid {u : Nat → Nat → Bool} {n l : Nat} {r : Rk} (h : Full u n l r) : r.w ≤ wid u n r.x r.y r.h :=
  (wid_has u n r.x r.y (by have := h.2.1.1; omega) r.h r.w h.1.2).2 ⟨h.2.1.1, h.2.2⟩
theorem wid_full {u : Nat → Nat → Bool} {n l a b j : Nat} (ha : a < n) (hj : 1 ≤ j) (hb : b + j ≤ l) (hw : 1 ≤ wid u n a b j) : Full u n l ⟨a, b, wid u n a b j, j⟩ := by
  have := (wid_has u n a b (Nat.le_of_lt ha) j _ hj).1 (Nat.le_refl _)
  exact ⟨⟨hw, hj⟩, ⟨this.1, hb⟩, this.2⟩
theorem shp_full {sq : Bool} {u : Nat → Nat → Bool} {n l : Nat} {r : Rk} (h : Full u n l r) : FullS sq u n l (shp sq r) := by
  obtain ⟨⟨h1, h2⟩, ⟨h3, h4⟩, h5⟩ := h
  cases sq with
  | false => exact ⟨⟨⟨h1, h2⟩, ⟨h3, h4⟩, h5⟩, fun h => by cases h⟩
  | true =>
    refine ⟨⟨⟨?_, ?_⟩, ⟨?_, ?_⟩, ?_⟩, fun _ => rfl⟩
    · exact Nat.le_min.2 ⟨h1, h2⟩
    · exact Nat.le_min.2 ⟨h1, h2⟩
    · show r.x + min r.w r.h ≤ n; omega
    · show r.y + min r.w r.h ≤ l; omega
    · intro i j hi hj
      have hi' : i < min r.w r.h := hi
      have hj' : j < min r.w r.h := hj
      exact h5 i j (by omega) (by omega)
theorem top_final {sq : Bool} {u : Nat → Nat → Bool} {n l : Nat} {b : Rk} (ht : Top (VisK sq u n l (l * n) 0) b) : Top (FullS sq u n l) b := by
  have hin : ∀ r, VisK sq u n l (l * n) 0 r → FullS sq u n l r := by
    rintro r ⟨a, b, j, _, h2, h3, h4, h5, rfl⟩
    exact shp_full (wid_full h2 h3 h4 h5)
  have hcov : ∀ r, FullS sq u n l r → ∃ s, VisK sq u n l (l * n) 0 s ∧ (Pref s r ∨ s = r) := by
    rintro r ⟨hf, hs⟩
    have hw := full_wid hf
    obtain ⟨⟨h1, h2⟩, ⟨h3, h4⟩, h5⟩ := hf
    have hx : r.x < n := by omega
    have hidx : r.y * n + r.x < l * n := by
      have := Nat.mul_le_mul_right n (show r.y + 1 ≤ l by omega)
      rw [Nat.succ_mul] at this; omega
    refine ⟨shp sq ⟨r.x, r.y, wid u n r.x r.y r.h, r.h⟩, ⟨r.x, r.y, r.h, .inl hidx, hx, h2, h4, by omega, rfl⟩, ?_⟩
    cases sq with
    | true =>
      have e : r.w = r.h := hs rfl
      refine .inr ?_
      show (⟨r.x, r.y, min (wid u n r.x r.y r.h) r.h, min (wid u n r.x r.y r.h) r.h⟩ : Rk) = r
      rw [Nat.min_eq_right (by omega)]
      cases r; simp at e ⊢; exact e.symm
    | false =>
      by_cases e : wid u n r.x r.y r.h = r.w
      · refine .inr ?_
        show (⟨r.x, r.y, wid u n r.x r.y r.h, r.h⟩ : Rk) = r
        rw [e]
      · refine .inl (.inl ?_)
        show r.w * r.h < wid u n r.x r.y r.h * r.h
        exact Nat.mul_lt_mul_of_pos_right (by omega) h2
  rcases ht with ⟨h1, h2⟩ | ⟨h1, h2⟩
  · refine .inl ⟨fun r hr => ?_, h2⟩
    obtain ⟨s, hs, _⟩ := hcov r hr
    exact h1 s hs
  · refine .inr ⟨hin b h1, fun r hr hp => ?_⟩
    obtain ⟨s, hs, hq | rfl⟩ := hcov r hr
    · exact h2 s hs (pref_trans hq hp)
    · exact h2 s hs hp
end Go.Proofs.Ytkajcbjacjfhnaa
