/- Greatest rectangles: plain mathematics. -/
import Derived.Test.YtkajcbjacjfhnaaIh
set_option linter.unusedVariables false
namespace Go.Proofs.Ytkajcbjacjfhnaa
open Go.RowKit Go.Ab
/-- a rectangle: x, y, width, height -/
structure Rk where
  x : Nat
  y : Nat
  w : Nat
  h : Nat
def Rk.nil : Rk := ⟨0, 0, 0, 0⟩
/-- r comes before b: more cells; else an earlier first cell; else wider -/
def Pref (r b : Rk) : Prop := b.w * b.h < r.w * r.h ∨ (r.w * r.h = b.w * b.h ∧ (r.y < b.y ∨ (r.y = b.y ∧ (r.x < b.x ∨ (r.x = b.x ∧ b.w < r.w)))))
def Top (S : Rk → Prop) (b : Rk) : Prop := ((∀ r, ¬ S r) ∧ b = Rk.nil) ∨ (S b ∧ ∀ r, S r → ¬ Pref r b)
theorem top_unique {S : Rk → Prop} {a b : Rk} (hS : ∀ r, S r → 1 ≤ r.w) (h : Top S a) (k : Top S b) : a = b := by
  rcases h with ⟨h1, h2⟩ | ⟨h1, h2⟩ <;> rcases k with ⟨k1, k2⟩ | ⟨k1, k2⟩
  · rw [h2, k2]
  · exact absurd k1 (h1 b)
  · exact absurd h1 (k1 a)
  · have p := h2 b k1
    have q := k2 a h1
    unfold Pref at p q
    have e : a.w * a.h = b.w * b.h := by omega
    have ex : a.x = b.x := by omega
    have ey : a.y = b.y := by omega
    have ew : a.w = b.w := by omega
    have eh : a.h = b.h := by
      rw [ew] at e
      exact Nat.eq_of_mul_eq_mul_left (hS b k1) e
    cases a; cases b; simp_all
theorem top_congr {S T : Rk → Prop} {b : Rk} (h : Top S b) (e : ∀ r, S r ↔ T r) : Top T b := by
  rcases h with ⟨h1, h2⟩ | ⟨h1, h2⟩
  · exact .inl ⟨fun r hr => h1 r ((e r).2 hr), h2⟩
  · exact .inr ⟨(e b).1 h1, fun r hr => h2 r ((e r).2 hr)⟩
theorem top_none : Top (fun _ => False) Rk.nil := .inl ⟨fun _ h => h, rfl⟩
/-- a better one takes over -/
theorem top_take {S : Rk → Prop} {b r : Rk} (h : Top S b) (hr : ∀ s, S s → ¬ Pref s r) : Top (fun s => S s ∨ s = r) r :=
  .inr ⟨.inr rfl, fun s hs => by
    rcases hs with hs | rfl
    · exact hr s hs
    · unfold Pref; omega⟩
theorem top_keep {S : Rk → Prop} {b r : Rk} (h : S b ∧ ∀ r, S r → ¬ Pref r b) (hr : ¬ Pref r b) : Top (fun s => S s ∨ s = r) b :=
  .inr ⟨.inl h.1, fun s hs => by
    rcases hs with hs | rfl
    · exact h.2 s hs
    · exact hr⟩
theorem pref_trans {a b c : Rk} (h : Pref a b) (k : Pref b c) : Pref a c := by unfold Pref at *; omega
theorem pref_of_not {a b : Rk} (h : ¬ Pref a b) : Pref b a ∨ (a.w * a.h = b.w * b.h ∧ a.y = b.y ∧ a.x = b.x ∧ a.w = b.w) := by unfold Pref at *; omega
/-- how many usable cells follow each other from a cell to the right -/
def rcN (u : Nat → Nat → Bool) (n y : Nat) : Nat → Nat
  | 0 => 0
  | d + 1 => if u (n - (d + 1)) y then rcN u n y d + 1 else 0
/-- the same by the column -/
def rcX (u : Nat → Nat → Bool) (n y x : Nat) : Nat := rcN u n y (n - x)
theorem rcX_end (u : Nat → Nat → Bool) (n y : Nat) : rcX u n y n = 0 := by unfold rcX; rw [Nat.sub_self]; rfl
theorem rcX_step (u : Nat → Nat → Bool) (n y x : Nat) (h : x < n) : rcX u n y x = if u x y then rcX u n y (x + 1) + 1 else 0 := by
  unfold rcX
  rw [show n - x = (n - (x + 1)) + 1 by omega]
  show (if u (n - (n - (x + 1) + 1)) y then rcN u n y (n - (x + 1)) + 1 else 0) = _
  rw [show n - (n - (x + 1) + 1) = x by omega]
theorem rcX_le (u : Nat → Nat → Bool) (n y : Nat) : ∀ d x, n - x = d → rcX u n y x ≤ n - x
  | 0, x, h => by unfold rcX; rw [h]; exact Nat.le_refl _
  | d + 1, x, h => by
    rw [rcX_step u n y x (by omega)]
    have := rcX_le u n y d (x + 1) (by omega)
    split <;> omega
theorem rcX_has (u : Nat → Nat → Bool) (n y : Nat) : ∀ d x, n - x = d → x ≤ n → ∀ w, w ≤ rcX u n y x ↔ x + w ≤ n ∧ ∀ i, i < w → u (x + i) y = true
  | 0, x, h, hx, w => by
    have e : rcX u n y x = 0 := by unfold rcX; rw [h]; rfl
    rw [e]
    constructor
    · intro hw
      obtain rfl : w = 0 := by omega
      exact ⟨by omega, fun i hi => by omega⟩
    · intro hw; omega
  | d + 1, x, h, hx, w => by
    rw [rcX_step u n y x (by omega)]
    have ih := rcX_has u n y d (x + 1) (by omega) (by omega)
    cases hu : u x y with
    | true =>
      simp only [if_true]
      cases w with
      | zero => exact ⟨fun _ => ⟨by omega, fun i hi => by omega⟩, fun _ => by omega⟩
      | succ w =>
        rw [Nat.add_le_add_iff_right, ih w]
        constructor
        · rintro ⟨h1, h2⟩
          refine ⟨by omega, fun i hi => ?_⟩
          cases i with
          | zero => exact hu
          | succ i => have := h2 i (by omega); rwa [show x + 1 + i = x + (i + 1) by omega] at this
        · rintro ⟨h1, h2⟩
          refine ⟨by omega, fun i hi => ?_⟩
          have := h2 (i + 1) (by omega)
          rwa [show x + (i + 1) = x + 1 + i by omega] at this
    | false =>
      simp only [Bool.false_eq_true, if_false]
      constructor
      · intro hw
        obtain rfl : w = 0 := by omega
        exact ⟨by omega, fun i hi => by omega⟩
      · rintro ⟨h1, h2⟩
        cases w with
        | zero => omega
        | succ w => have := h2 0 (by omega); rw [Nat.add_zero, hu] at this; cases this
/-- all cells of a rectangle are usable, and it lies within -/
def Full (u : Nat → Nat → Bool) (n l : Nat) (r : Rk) : Prop := (1 ≤ r.w ∧ 1 ≤ r.h) ∧ (r.x + r.w ≤ n ∧ r.y + r.h ≤ l) ∧ ∀ i j, i < r.w → j < r.h → u (r.x + i) (r.y + j) = true
/-- the greatest width of h rows from a cell -/
def wid (u : Nat → Nat → Bool) (n x y : Nat) : Nat → Nat
  | 0 => n
  | h + 1 => min (wid u n x y h) (rcX u n (y + h) x)
theorem wid_has (u : Nat → Nat → Bool) (n x y : Nat) (hx : x ≤ n) : ∀ h w, 1 ≤ h → (w ≤ wid u n x y h ↔ x + w ≤ n ∧ ∀ i j, i < w → j < h → u (x + i) (y + j) = true)
  | 0, w, h1 => by omega
  | 1, w, _ => by
    show w ≤ min n (rcX u n (y + 0) x) ↔ _
    have e := rcX_has u n y _ x rfl hx w
    rw [Nat.add_zero, Nat.le_min, e]
    constructor
    · rintro ⟨_, h1, h2⟩
      exact ⟨h1, fun i j hi hj => by
        obtain rfl : j = 0 := by omega
        rw [Nat.add_zero]; exact h2 i hi⟩
    · rintro ⟨h1, h2⟩
      exact ⟨by omega, h1, fun i hi => h2 i 0 hi (by omega)⟩
  | h + 2, w, _ => by
    show w ≤ min (wid u n x y (h + 1)) (rcX u n (y + (h + 1)) x) ↔ _
    have e := rcX_has u n (y + (h + 1)) _ x rfl hx w
    have ih := wid_has u n x y hx (h + 1) w (by omega)
    rw [Nat.le_min, e, ih]
    constructor
    · rintro ⟨⟨h1, h2⟩, h3, h4⟩
      refine ⟨h1, fun i j hi hj => ?_⟩
      by_cases ej : j = h + 1
      · subst ej; exact h4 i hi
      · exact h2 i j hi (by omega)
    · rintro ⟨h1, h2⟩
      exact ⟨⟨h1, fun i j hi hj => h2 i j hi (by omega)⟩, h1, fun i hi => h2 i (h + 1) hi (by omega)⟩
theorem wid_anti (u : Nat → Nat → Bool) (n x y h : Nat) : wid u n x y (h + 1) ≤ wid u n x y h := Nat.min_le_left _ _
theorem wid_mono (u : Nat → Nat → Bool) (n x y : Nat) {h k : Nat} (hk : h ≤ k) : wid u n x y k ≤ wid u n x y h := by
  induction hk with
  | refl => exact Nat.le_refl _
  | step _ ih => exact Nat.le_trans (wid_anti u n x y _) ih
/-- the shape that is asked for -/
def shp (sq : Bool) (r : Rk) : Rk := if sq then ⟨r.x, r.y, min r.w r.h, min r.w r.h⟩ else r
/-- the shapes of the widest rectangles visited before cell (x, y) and, there, up to height h -/
def Vis (sq : Bool) (u : Nat → Nat → Bool) (n l x y h : Nat) (r : Rk) : Prop := ∃ a b k, (b < y ∨ (b = y ∧ (a < x ∨ (a = x ∧ k ≤ h)))) ∧ a < n ∧ 1 ≤ k ∧ b + k ≤ l ∧ 1 ≤ wid u n a b k ∧ r = shp sq ⟨a, b, wid u n a b k, k⟩
/-- one more is visited -/
theorem vis_step {sq : Bool} {u : Nat → Nat → Bool} {n l x y h : Nat} {b : Rk} (hx : x < n) (hl : y + (h + 1) ≤ l) (hw : 1 ≤ wid u n x y (h + 1)) (ht : Top (Vis sq u n l x y h) b) :
    Top (Vis sq u n l x y (h + 1)) (if b.w * b.h < (shp sq ⟨x, y, wid u n x y (h + 1), h + 1⟩).w * (shp sq ⟨x, y, wid u n x y (h + 1), h + 1⟩).h then shp sq ⟨x, y, wid u n x y (h + 1), h + 1⟩ else b) := by
  have hset : ∀ r, (Vis sq u n l x y h r ∨ r = shp sq ⟨x, y, wid u n x y (h + 1), h + 1⟩) ↔ Vis sq u n l x y (h + 1) r := fun r => by
    constructor
    · rintro (⟨a, b, k, h1, h2⟩ | rfl)
      · exact ⟨a, b, k, by omega, h2⟩
      · exact ⟨x, y, h + 1, by omega, hx, by omega, hl, hw, rfl⟩
    · rintro ⟨a, b, k, h1, h2, h3, h4, h5, rfl⟩
      by_cases e : b = y ∧ a = x ∧ k = h + 1
      · obtain ⟨rfl, rfl, rfl⟩ := e; exact .inr rfl
      · exact .inl ⟨a, b, k, by omega, h2, h3, h4, h5, rfl⟩
  have hpos : 1 ≤ (shp sq ⟨x, y, wid u n x y (h + 1), h + 1⟩).w * (shp sq ⟨x, y, wid u n x y (h + 1), h + 1⟩).h := by
    unfold shp
    split
    · exact Nat.mul_pos (Nat.lt_min.2 ⟨hw, Nat.succ_pos h⟩) (Nat.lt_min.2 ⟨hw, Nat.succ_pos h⟩)
    · exact Nat.mul_pos hw (by show 0 < h + 1; omega)
  split
  · rename_i hlt
    refine top_congr (top_take ht ?_) hset
    intro s hs hp
    rcases ht with ⟨h1, _⟩ | ⟨h1, h2⟩
    · exact h1 s hs
    · have := h2 s hs
      unfold Pref at hp this
      omega
  · rename_i hge
    rcases ht with ⟨h1, h2⟩ | ht
    · rw [h2] at hge
      exact absurd hpos (by simp [Rk.nil] at hge; omega)
    · refine top_congr (top_keep ht ?_) hset
      intro hp
      obtain ⟨a, b', k, g1, g2, g3, g4, g5, rfl⟩ := ht.1
      unfold Pref at hp
      cases sq with
      | true =>
        simp only [shp, if_true] at *
        rcases hp with hp | ⟨e, hp⟩
        · omega
        · have hxx : b' = y ∧ a = x ∧ min (wid u n a b' k) k < min (wid u n x y (h + 1)) (h + 1) := by omega
          obtain ⟨rfl, rfl, hm⟩ := hxx
          have := Nat.mul_lt_mul'' hm hm
          omega
      | false =>
        simp only [shp, Bool.false_eq_true, if_false] at *
        rcases hp with hp | ⟨e, hp⟩
        · omega
        · have hxx : b' = y ∧ a = x ∧ wid u n a b' k < wid u n x y (h + 1) := by omega
          obtain ⟨rfl, rfl, hm⟩ := hxx
          have := wid_mono u n a b' (show k ≤ h + 1 by omega)
          omega
end Go.Proofs.Ytkajcbjacjfhnaa
