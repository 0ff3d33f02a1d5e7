/- Opening, and what an eroded cell says: plain mathematics. -/
import Derived.Test.YtkajcbjacjfhnaaIs
import Derived.Test.YtkajcbjacjfhnaaIl
set_option linter.unusedVariables false
namespace Go.Proofs.Ytkajcbjacjfhnaa
open Go.RowKit Go.Ab
theorem er_best {f : Nat → Nat → UInt8} {n l k x y : Nat} (hg : Dg (n, l, f)) (hx : x < n) (hy : y < l) : Best true (RefP true f n l k x y) (mor true f n l k x y).toNat := mor_ref true f n l k hg x y hx hy
theorem di_best {f : Nat → Nat → UInt8} {n l k x y : Nat} (hg : Dg (n, l, f)) (hx : x < n) (hy : y < l) : Best false (RefP false f n l k x y) (mor false f n l k x y).toNat := mor_ref false f n l k hg x y hx hy
theorem er_le {f : Nat → Nat → UInt8} {n l k x y u r : Nat} (hg : Dg (n, l, f)) (hx : x < n) (hy : y < l) (hu : u < n ∧ u ≤ x + k ∧ x ≤ u + k) (hr : r < l ∧ r ≤ y + k ∧ y ≤ r + k) : (mor true f n l k x y).toNat ≤ (f u r).toNat := by
  have := (er_best (k := k) hg hx hy).2 _ (.inl ⟨u, r, hu, hr, rfl⟩)
  simpa [le'] using this
theorem di_ge {f : Nat → Nat → UInt8} {n l k x y u r : Nat} (hg : Dg (n, l, f)) (hx : x < n) (hy : y < l) (hu : u < n ∧ u ≤ x + k ∧ x ≤ u + k) (hr : r < l ∧ r ≤ y + k ∧ y ≤ r + k) : (f u r).toNat ≤ (mor false f n l k x y).toNat := by
  have := (di_best (k := k) hg hx hy).2 _ (.inl ⟨u, r, hu, hr, rfl⟩)
  simpa [le'] using this
theorem opn_le {f : Nat → Nat → UInt8} {n l k x y : Nat} (hg : Dg (n, l, f)) (hx : x < n) (hy : y < l) : (opn f n l k x y).toNat ≤ (f x y).toNat := by
  have hg2 : Dg (n, l, mor true f n l k) := dg_mor hg
  rcases (di_best (k := k) hg2 hx hy).1 with ⟨u, r, ⟨a1, a2, a3⟩, ⟨b1, b2, b3⟩, e⟩ | ⟨h, _⟩
  · show (mor false (mor true f n l k) n l k x y).toNat ≤ _
    rw [e]
    exact er_le hg a1 b1 ⟨hx, a3, a2⟩ ⟨hy, b3, b2⟩
  · cases h
theorem er_opn {f : Nat → Nat → UInt8} {n l k x y : Nat} (hg : Dg (n, l, f)) (hx : x < n) (hy : y < l) : mor true (opn f n l k) n l k x y = mor true f n l k x y := by
  have hg2 : Dg (n, l, mor true f n l k) := dg_mor hg
  have hg3 : Dg (n, l, opn f n l k) := dg_mor hg2
  apply UInt8.toNat_inj.1
  have h1 : (mor true (opn f n l k) n l k x y).toNat ≤ (mor true f n l k x y).toNat := by
    rcases (er_best (k := k) hg hx hy).1 with ⟨u, r, hu, hr, e⟩ | ⟨_, e, hs⟩
    · rw [e]
      exact Nat.le_trans (er_le hg3 hx hy hu hr) (opn_le hg hu.1 hr.1)
    · rw [e]
      have := (er_best (k := k) hg3 hx hy).2 48 (.inr ⟨rfl, rfl, hs⟩)
      simpa [le'] using this
  have h2 : (mor true f n l k x y).toNat ≤ (mor true (opn f n l k) n l k x y).toNat := by
    rcases (er_best (k := k) hg3 hx hy).1 with ⟨u, r, hu, hr, e⟩ | ⟨_, e, hs⟩
    · rw [e]
      exact di_ge hg2 hu.1 hr.1 ⟨hx, hu.2.2, hu.2.1⟩ ⟨hy, hr.2.2, hr.2.1⟩
    · rw [e]
      have := (er_best (k := k) hg hx hy).2 48 (.inr ⟨rfl, rfl, hs⟩)
      simpa [le'] using this
  omega
theorem best_sub {f f' : Nat → Nat → UInt8} {n l k x y : Nat} (h : ∀ u r, u < n → r < l → f u r = f' u r) (hg : Dg (n, l, f)) (hg' : Dg (n, l, f')) (hx : x < n) (hy : y < l) : mor false f n l k x y = mor false f' n l k x y := by
  apply UInt8.toNat_inj.1
  refine best_unique (di_best hg hx hy) (best_congr (di_best (k := k) hg' hx hy) fun v => ?_)
  unfold RefP WinP
  constructor
  · rintro (⟨u, r, hu, hr, e⟩ | h2)
    · exact .inl ⟨u, r, hu, hr, by rw [h u r hu.1 hr.1]; exact e⟩
    · exact .inr h2
  · rintro (⟨u, r, hu, hr, e⟩ | h2)
    · exact .inl ⟨u, r, hu, hr, by rw [← h u r hu.1 hr.1]; exact e⟩
    · exact .inr h2
theorem opn_idem {f : Nat → Nat → UInt8} {n l k x y : Nat} (hg : Dg (n, l, f)) (hx : x < n) (hy : y < l) : opn (opn f n l k) n l k x y = opn f n l k x y :=
  best_sub (fun u r hu hr => er_opn hg hu hr) (dg_mor (dg_mor (dg_mor hg))) (dg_mor hg) hx hy
theorem rowN_full (u : Nat → Nat → Bool) (y X : Nat) : ∀ B : Nat, (rowN u y (X + B) - rowN u y X = B ↔ ∀ i, i < B → u (X + i) y = true)
  | 0 => by simp
  | B + 1 => by
    have ih := rowN_full u y X B
    have hm := rowN_mono u y X B
    have e : rowN u y (X + (B + 1)) = rowN u y (X + B) + if u (X + B) y then 1 else 0 := rfl
    rw [e]
    cases hu : u (X + B) y with
    | true =>
      constructor
      · intro h i hi
        have h2 : rowN u y (X + B) - rowN u y X = B := by simp at h; omega
        by_cases ei : i = B
        · subst ei; exact hu
        · exact ih.1 h2 i (by omega)
      · intro h
        have := ih.2 fun i hi => h i (by omega)
        simp; omega
    | false =>
      constructor
      · intro h; simp at h; omega
      · intro h
        have := h B (by omega)
        rw [hu] at this; cases this
theorem rectN_full (u : Nat → Nat → Bool) (X Y B : Nat) : ∀ H : Nat, rectN u X Y B H ≤ (B : Int) * H ∧ (rectN u X Y B H = (B : Int) * H ↔ ∀ i j, i < B → j < H → u (X + i) (Y + j) = true)
  | 0 => by simp [rectN]
  | H + 1 => by
    obtain ⟨ih1, ih2⟩ := rectN_full u X Y B H
    have hm := rowN_mono u (Y + H) X B
    have hf := rowN_full u (Y + H) X B
    have e : rectN u X Y B (H + 1) = rectN u X Y B H + (rowN u (Y + H) (X + B) - rowN u (Y + H) X) := rfl
    have e2 : (B : Int) * ((H + 1 : Nat) : Int) = (B : Int) * H + B := by rw [Int.natCast_add, Int.mul_add]; simp
    rw [e, e2]
    refine ⟨by omega, ⟨fun h => ?_, fun h => ?_⟩⟩
    · have h1 := ih2.1 (by omega)
      have h2 := hf.1 (by omega)
      intro i j hi hj
      by_cases ej : j = H
      · subst ej; exact h2 i hi
      · exact h1 i j hi (by omega)
    · have h1 := ih2.2 fun i j hi hj => h i j hi (by omega)
      have h2 := hf.2 fun i hi => h i H hi (by omega)
      omega
/-- what the law counts around a cell -/
def cntN (f : Nat → Nat → UInt8) (n l k g x y : Nat) : Int := if k ≤ x ∧ k ≤ y then (if x + k < n ∧ y + k < l then rectN (usB f g) (x - k) (y - k) (2 * k + 1) (2 * k + 1) else 0) else -1
theorem cnt_is {f : Nat → Nat → UInt8} {n l k g x y : Nat} (hg : Dg (n, l, f)) (hx : x < n) (hy : y < l) (h1 : 1 ≤ g) : decide (48 + g ≤ (mor true f n l k x y).toNat) = decide (cntN f n l k g x y = (2 * (k : Int) + 1) * (2 * (k : Int) + 1)) := by
  have hpos : (0 : Int) < (2 * (k : Int) + 1) * (2 * (k : Int) + 1) := Int.mul_pos (by omega) (by omega)
  rw [decide_eq_decide]
  have hb := er_best (k := k) hg hx hy
  have hst : stick n l k x y → ¬ 48 + g ≤ (mor true f n l k x y).toNat := fun hs => by
    have := hb.2 48 (.inr ⟨rfl, rfl, hs⟩)
    simp [le'] at this
    omega
  unfold cntN
  by_cases c1 : k ≤ x ∧ k ≤ y
  · rw [if_pos c1]
    by_cases c2 : x + k < n ∧ y + k < l
    · rw [if_pos c2]
      have hf := (rectN_full (usB f g) (x - k) (y - k) (2 * k + 1) (2 * k + 1)).2
      have e : ((2 * k + 1 : Nat) : Int) * ((2 * k + 1 : Nat) : Int) = (2 * (k : Int) + 1) * (2 * (k : Int) + 1) := by simp
      rw [e] at hf
      rw [hf]
      constructor
      · intro h i j hi hj
        unfold usB
        rw [decide_eq_true_eq]
        refine Nat.le_trans h (er_le hg hx hy ⟨by omega, by omega, by omega⟩ ⟨by omega, by omega, by omega⟩)
      · intro h
        rcases hb.1 with ⟨u, r, ⟨a1, a2, a3⟩, ⟨b1, b2, b3⟩, e⟩ | ⟨_, _, hs⟩
        · have := h (u - (x - k)) (r - (y - k)) (by omega) (by omega)
          unfold usB at this
          rw [decide_eq_true_eq, show x - k + (u - (x - k)) = u by omega, show y - k + (r - (y - k)) = r by omega] at this
          rw [e]; exact this
        · unfold stick at hs; omega
    · rw [if_neg c2]
      constructor
      · intro h; exact absurd h (hst (by unfold stick; omega))
      · intro h; omega
  · rw [if_neg c1]
    constructor
    · intro h; exact absurd h (hst (by unfold stick; omega))
    · intro h; omega
end Go.Proofs.Ytkajcbjacjfhnaa
