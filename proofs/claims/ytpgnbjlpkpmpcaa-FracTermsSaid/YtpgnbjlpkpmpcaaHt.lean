import Derived.Test.YtpgnbjlpkpmpcaaHm
namespace Go.Proofs.Ytpgnbjlpkpmpcaa.M
/-- the steps of the continued fraction -/
def eN (n d : Int) : Nat → Int × Int
  | 0 => (n, d)
  | k + 1 => ((eN n d k).2, (eN n d k).1 % (eN n d k).2)
def eT (n d : Int) (k : Nat) : Int := (eN n d k).1 / (eN n d k).2
/-- the first k steps did not end it -/
def Goes (n d : Int) (k : Nat) : Prop := ∀ i, i < k → (eN n d i).2 ≠ 1
theorem eN_succ (n d : Int) (k : Nat) : eN n d (k + 1) = ((eN n d k).2, (eN n d k).1 % (eN n d k).2) := rfl
theorem Goes.le {n d : Int} {k m : Nat} (h : Goes n d k) (hm : m ≤ k) : Goes n d m := fun i hi => h i (by omega)
theorem eN_pos {n d : Int} (h : okB n d = true) (k : Nat) (g : Goes n d k) : 1 ≤ (eN n d k).2 ∧ Int.gcd (eN n d k).1 (eN n d k).2 = 1 := by
  induction k with
  | zero => rw [okB_iff] at h; exact ⟨h.1, h.2.2.2.2⟩
  | succ k ih =>
    obtain ⟨a, b⟩ := ih (g.le (by omega))
    have c := g k (by omega)
    rw [eN_succ]
    have hm := Int.emod_nonneg (eN n d k).1 (show (eN n d k).2 ≠ 0 by omega)
    have hg : Int.gcd (eN n d k).2 ((eN n d k).1 % (eN n d k).2) = 1 := by
      rw [Int.emod_def, ← b, Int.gcd_comm (eN n d k).1]
      have := Int.gcd_add_mul_left_right (eN n d k).2 (eN n d k).1 (-((eN n d k).1 / (eN n d k).2))
      rw [Int.mul_neg] at this
      rw [Int.sub_eq_add_neg]; exact this
    refine ⟨?_, hg⟩
    show 1 ≤ (eN n d k).1 % (eN n d k).2
    rcases Int.lt_or_eq_of_le hm with h1 | h1
    · omega
    · rw [← h1] at hg; simp at hg; omega
theorem eN_lt {n d : Int} (h : okB n d = true) (k : Nat) (g : Goes n d k) : (eN n d (k + 1)).2 < (eN n d (k + 1)).1 := by
  obtain ⟨a, b⟩ := eN_pos h k g
  rw [eN_succ]; exact Int.emod_lt_of_pos _ (by omega)
theorem eT_pos {n d : Int} (h : okB n d = true) (k : Nat) (g : Goes n d k) (hk : 1 ≤ k) : 1 ≤ eT n d k := by
  obtain ⟨m, rfl⟩ : ∃ m, k = m + 1 := ⟨k - 1, by omega⟩
  have h1 := eN_lt h m (g.le (by omega))
  obtain ⟨a, _⟩ := eN_pos h (m + 1) g
  unfold eT
  exact (Int.le_ediv_iff_mul_le (by omega)).2 (by omega)
theorem eT_last {n d : Int} (h : okB n d = true) (k : Nat) (g : Goes n d k) (hk : 1 ≤ k) (he : (eN n d k).2 = 1) : 2 ≤ eT n d k := by
  obtain ⟨m, rfl⟩ : ∃ m, k = m + 1 := ⟨k - 1, by omega⟩
  have h1 := eN_lt h m (g.le (by omega))
  unfold eT
  rw [he]; rw [he] at h1; simp; omega
theorem eT_terms {n d : Int} (h : okB n d = true) (k : Nat) (g : Goes n d k) (he : (eN n d k).2 = 1) : Terms (eT n d) k :=
  ⟨fun i h1 h2 => eT_pos h i (g.le h2) h1, fun h1 => eT_last h k g h1 he⟩
theorem eN_value {n d : Int} (h : okB n d = true) (k : Nat) (g : Goes n d (k + 1)) : Rat.divInt (eN n d k).1 (eN n d k).2 = (eT n d k : Rat) + 1 / Rat.divInt (eN n d (k + 1)).1 (eN n d (k + 1)).2 := by
  obtain ⟨a, _⟩ := eN_pos h k (g.le (by omega))
  obtain ⟨b, _⟩ := eN_pos h (k + 1) g
  rw [eN_succ] at b ⊢
  simp only at b ⊢
  rw [← div_step (by omega) (by omega)]
  congr 1
  unfold eT
  have := Int.emod_add_mul_ediv (eN n d k).1 (eN n d k).2
  rw [Int.mul_comm] at this
  exact this.symm
theorem eT_value {n d : Int} (h : okB n d = true) (last : Nat) (g : Goes n d last) (he : (eN n d last).2 = 1) (j : Nat) (hj : j ≤ last) : cQ (eT n d) last j = Rat.divInt (eN n d (last - j)).1 (eN n d (last - j)).2 := by
  induction j with
  | zero => show ((eT n d last : Int) : Rat) = _; rw [Nat.sub_zero, he, int_div]; unfold eT; rw [he]; simp
  | succ j ih =>
    rw [cQ_succ, ih (by omega), eN_value h (last - (j + 1)) (g.le (by omega)), show last - (j + 1) + 1 = last - j by omega]
theorem eT_whole {n d : Int} (h : okB n d = true) (last : Nat) (g : Goes n d last) (he : (eN n d last).2 = 1) : cQ (eT n d) last last = Rat.divInt n d := by
  rw [eT_value h last g he last (Nat.le_refl _), Nat.sub_self]; rfl
theorem half_step {n d : Int} (h : okB n d = true) (k : Nat) (g : Goes n d (k + 2)) : 2 * (eN n d (k + 2)).2 ≤ (eN n d k).2 := by
  have h1 := eN_lt h k (g.le (by omega))
  obtain ⟨a, _⟩ := eN_pos h (k + 1) (g.le (by omega))
  have e := Int.emod_add_mul_ediv (eN n d (k + 1)).1 (eN n d (k + 1)).2
  have q : 1 ≤ (eN n d (k + 1)).1 / (eN n d (k + 1)).2 := (Int.le_ediv_iff_mul_le (by omega)).2 (by omega)
  have hlt := Int.emod_lt_of_pos (eN n d (k + 1)).1 (show 0 < (eN n d (k + 1)).2 by omega)
  have m := Int.mul_le_mul_of_nonneg_left q (show 0 ≤ (eN n d (k + 1)).2 by omega)
  have e2 : (eN n d (k + 1)).1 = (eN n d k).2 := rfl
  have e3 : (eN n d (k + 2)).2 = (eN n d (k + 1)).1 % (eN n d (k + 1)).2 := rfl
  rw [e3, ← e2]
  omega
theorem halves {n d : Int} (h : okB n d = true) (m : Nat) (g : Goes n d (2 * m)) : 2 ^ m * (eN n d (2 * m)).2 ≤ d := by
  induction m with
  | zero => show 1 * d ≤ d; omega
  | succ m ih =>
    have h1 := ih (g.le (by omega))
    have h2 := half_step h (2 * m) g
    have e : (2 : Int) ^ (m + 1) = 2 ^ m * 2 := Int.pow_succ 2 m
    rw [e, Int.mul_assoc]
    have hp : (0 : Int) ≤ 2 ^ m := Int.pow_nonneg (by decide)
    have := Int.mul_le_mul_of_nonneg_left h2 hp
    show 2 ^ m * (2 * (eN n d (2 * m + 2)).2) ≤ d
    omega
theorem goes_lt {n d : Int} (h : okB n d = true) (k : Nat) (g : Goes n d k) : k < 60 := by
  rcases Nat.lt_or_ge k 60 with h1 | h1
  · exact h1
  · have g2 : Goes n d (2 * 30) := g.le (by omega)
    have h2 := halves h 30 g2
    obtain ⟨a, _⟩ := eN_pos h (2 * 30) g2
    rw [okB_iff] at h
    have e : (2 : Int) ^ 30 = 1073741824 := by decide
    rw [e] at h2
    omega
theorem eN_bd {n d : Int} (h : okB n d = true) (k : Nat) (g : Goes n d k) : (eN n d k).2 ≤ 1000000000 ∧ -1000000000 ≤ (eN n d k).1 ∧ (eN n d k).1 ≤ 1000000000 := by
  induction k with
  | zero => rw [okB_iff] at h; exact ⟨h.2.1, h.2.2.1, h.2.2.2.1⟩
  | succ k ih =>
    obtain ⟨a, _⟩ := ih (g.le (by omega))
    obtain ⟨b, _⟩ := eN_pos h k (g.le (by omega))
    have c := eN_lt h k (g.le (by omega))
    obtain ⟨e, _⟩ := eN_pos h (k + 1) g
    rw [eN_succ] at *
    simp only at *
    omega
theorem eT_bd {n d : Int} (h : okB n d = true) (k : Nat) (g : Goes n d k) : -1000000000 ≤ eT n d k ∧ eT n d k ≤ 1000000000 := by
  obtain ⟨a, b, c⟩ := eN_bd h k g
  obtain ⟨e, _⟩ := eN_pos h k g
  unfold eT
  constructor
  · have h1 := Int.mul_le_mul_of_nonneg_left e (show (0 : Int) ≤ 1000000000 by decide)
    exact (Int.le_ediv_iff_mul_le (by omega)).2 (by omega)
  · rcases Int.lt_or_le (eN n d k).1 0 with h1 | h1
    · have := Int.ediv_lt_of_lt_mul (show 0 < (eN n d k).2 by omega) (show (eN n d k).1 < 0 * (eN n d k).2 by omega); omega
    · have := Int.ediv_le_self (eN n d k).2 h1; omega
end Go.Proofs.Ytpgnbjlpkpmpcaa.M
