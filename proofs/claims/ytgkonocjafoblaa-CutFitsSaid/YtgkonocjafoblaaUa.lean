/- The most worthy strips of a bar, in plain numbers: a row of the table out of the next one, the greatest count. -/
import Derived.Test.YtgkonocjafoblaaTa
set_option linter.unusedVariables false
namespace Go.Proofs.Ytgkonocjafoblaa
/-- the row of one more length, out of the row f of the others -/
def up (f : Nat → Nat) (l w : Nat) (r : Nat) : Nat := if h : 0 < l ∧ l ≤ r then max (f r) (w + up f l w (r - l)) else f r
termination_by r
decreasing_by omega
theorem up_lt {f : Nat → Nat} {l w r : Nat} (h : r < l) : up f l w r = f r := by
  rw [up, dif_neg (by omega)]
theorem up_ge {f : Nat → Nat} {l w r : Nat} (h0 : 0 < l) (h : l ≤ r) : up f l w r = max (f r) (w + up f l w (r - l)) := by
  rw [up, dif_pos ⟨h0, h⟩]
theorem up_le {f : Nat → Nat} {l w : Nat} (M : Nat) (hw : w ≤ M) (hf : ∀ r, f r ≤ M * r) (h0 : 0 < l) : ∀ r, up f l w r ≤ M * r := by
  intro r
  induction r using Nat.strongRecOn with
  | _ r ih =>
    rcases Nat.lt_or_ge r l with h | h
    · rw [up_lt h]; exact hf r
    · rw [up_ge h0 h]
      have h1 := ih (r - l) (by omega)
      have h2 : M * (r - l) + M ≤ M * r := by
        have : M * (r - l) + M * 1 ≤ M * r := by rw [← Nat.mul_add]; exact Nat.mul_le_mul_left M (by omega)
        simpa using this
      have := hf r
      omega
theorem mul_le_of_le_div {c l r : Nat} (h : c ≤ r / l) : c * l ≤ r := Nat.le_trans (Nat.mul_le_mul_right l h) (Nat.div_mul_le_self r l)
/-- some count reaches it -/
theorem up_some {f : Nat → Nat} {l w : Nat} (h0 : 0 < l) : ∀ r, ∃ c, c ≤ r / l ∧ up f l w r = c * w + f (r - c * l) := by
  intro r
  induction r using Nat.strongRecOn with
  | _ r ih =>
    rcases Nat.lt_or_ge r l with h | h
    · exact ⟨0, Nat.zero_le _, by rw [up_lt h]; simp⟩
    · rw [up_ge h0 h]
      obtain ⟨c, hc, e⟩ := ih (r - l) (by omega)
      have hd : r / l = (r - l) / l + 1 := by rw [Nat.div_eq_sub_div h0 h]
      rcases Nat.le_total (w + up f l w (r - l)) (f r) with hm | hm
      · exact ⟨0, Nat.zero_le _, by rw [Nat.max_eq_left hm]; simp⟩
      · refine ⟨c + 1, by omega, ?_⟩
        rw [Nat.max_eq_right hm, e, Nat.add_mul, Nat.add_mul, Nat.one_mul, Nat.one_mul, show r - (c * l + l) = r - l - c * l by omega]
        omega
/-- the greatest count that reaches it -/
def Most (f : Nat → Nat) (l w r c : Nat) : Prop := c ≤ r / l ∧ up f l w r = c * w + f (r - c * l) ∧ ∀ k, c < k → k ≤ r / l → up f l w r ≠ k * w + f (r - k * l)
theorem most_unique {f : Nat → Nat} {l w r c d : Nat} (h : Most f l w r c) (k : Most f l w r d) : c = d := by
  rcases Nat.lt_trichotomy c d with h1 | h1 | h1
  · exact absurd k.2.1 (h.2.2 d h1 k.1)
  · exact h1
  · exact absurd h.2.1 (k.2.2 c h1 h.1)
theorem most_some {f : Nat → Nat} {l w : Nat} (h0 : 0 < l) (r : Nat) : ∃ c, Most f l w r c := by
  obtain ⟨c0, h1, h2⟩ := up_some (f := f) (w := w) h0 r
  have : ∀ d c, c + d = r / l → (∃ c', c ≤ c' ∧ c' ≤ r / l ∧ up f l w r = c' * w + f (r - c' * l)) → ∃ c, Most f l w r c := by
    intro d
    induction d with
    | zero =>
      intro c hc ⟨c', g1, g2, g3⟩
      obtain rfl : c' = r / l := by omega
      exact ⟨_, Nat.le_refl _, g3, fun k h h' => by omega⟩
    | succ d ih =>
      intro c hc ⟨c', g1, g2, g3⟩
      by_cases hx : ∃ c'', c + 1 ≤ c'' ∧ c'' ≤ r / l ∧ up f l w r = c'' * w + f (r - c'' * l)
      · exact ih (c + 1) (by omega) hx
      · have : c' = c := by
          rcases Nat.lt_or_ge c c' with h | h
          · exact absurd ⟨c', h, g2, g3⟩ hx
          · omega
        subst this
        exact ⟨c', g2, g3, fun k h h' he => hx ⟨k, h, h', he⟩⟩
  exact this (r / l) 0 (by omega) ⟨c0, Nat.zero_le _, h1, h2⟩
/-- the table: the row of the last k of m lengths -/
def Bd (L V : Nat → Nat) (m : Nat) : Nat → Nat → Nat
  | 0 => fun _ => 0
  | k + 1 => up (Bd L V m k) (L (m - 1 - k)) (V (m - 1 - k))
theorem bd_le {L V : Nat → Nat} {m : Nat} (hL : ∀ i, i < m → 0 < L i) (hV : ∀ i, i < m → V i ≤ 1000000) : ∀ k, k ≤ m → ∀ r, Bd L V m k r ≤ 1000000 * r
  | 0, _, r => Nat.zero_le _
  | k + 1, hk, r => up_le 1000000 (hV _ (by omega)) (bd_le hL hV k (by omega)) (hL _ (by omega)) r
end Go.Proofs.Ytgkonocjafoblaa
