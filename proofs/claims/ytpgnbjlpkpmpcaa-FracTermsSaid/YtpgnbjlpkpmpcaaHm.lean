import Derived.Test.YtpgnbjlpkpmpcaaM2
namespace Go.Proofs.Ytpgnbjlpkpmpcaa.M
/-- terms of a continued fraction: from the second on at least 1, and the last of several at least 2 -/
def Terms (ns : Nat → Int) (last : Nat) : Prop := (∀ i, 1 ≤ i → i ≤ last → 1 ≤ ns i) ∧ (1 ≤ last → 2 ≤ ns last)
/-- numerator and denominator from the last term on -/
def cN (ns : Nat → Int) (last : Nat) : Nat → Int × Int
  | 0 => (ns last, 1)
  | j + 1 => ((cN ns last j).2 + ns (last - (j + 1)) * (cN ns last j).1, (cN ns last j).1)
/-- the value from the last term on -/
def cQ (ns : Nat → Int) (last : Nat) : Nat → Rat
  | 0 => (ns last : Rat)
  | j + 1 => (ns (last - (j + 1)) : Rat) + 1 / cQ ns last j
theorem cN_succ (ns : Nat → Int) (last j : Nat) : cN ns last (j + 1) = ((cN ns last j).2 + ns (last - (j + 1)) * (cN ns last j).1, (cN ns last j).1) := rfl
theorem cQ_succ (ns : Nat → Int) (last j : Nat) : cQ ns last (j + 1) = (ns (last - (j + 1)) : Rat) + 1 / cQ ns last j := rfl
theorem step_pos {d l n : Int} (hl : 1 ≤ l) (hd : 1 ≤ d) (hn : 2 ≤ n) : n < d + l * n := by
  have : n ≤ l * n := by have := Int.mul_le_mul_of_nonneg_right hl (show 0 ≤ n by omega); omega
  omega
/-- before the first term: the numerator is at least 2 and above the denominator -/
theorem cN_pos {ns : Nat → Int} {last : Nat} (h : Terms ns last) (j : Nat) (hj : j < last) : 2 ≤ (cN ns last j).1 ∧ 1 ≤ (cN ns last j).2 ∧ (cN ns last j).2 < (cN ns last j).1 := by
  induction j with
  | zero => have := h.2 (by omega); exact ⟨this, by show (1 : Int) ≤ 1; decide, by show 1 < ns last; omega⟩
  | succ j ih =>
    obtain ⟨a, b, c⟩ := ih (by omega)
    rw [cN_succ]
    have h1 := h.1 (last - (j + 1)) (by omega) (by omega)
    have := step_pos h1 b a
    exact ⟨by show 2 ≤ _ + _; omega, by show 1 ≤ _; omega, this⟩
theorem cN_den {ns : Nat → Int} {last : Nat} (h : Terms ns last) (j : Nat) (hj : j ≤ last) : 1 ≤ (cN ns last j).2 := by
  cases j with
  | zero => show (1 : Int) ≤ 1; decide
  | succ j => obtain ⟨a, _, _⟩ := cN_pos h j (by omega); rw [cN_succ]; show 1 ≤ (cN ns last j).1; omega
theorem cN_gcd (ns : Nat → Int) (last j : Nat) : Nat.gcd (cN ns last j).1.natAbs (cN ns last j).2.natAbs = 1 := by
  induction j with
  | zero => show Nat.gcd _ 1 = 1; simp
  | succ j ih =>
    rw [cN_succ]
    show Int.gcd _ _ = 1
    simp only
    rw [Int.gcd_comm]
    have : Int.gcd (cN ns last j).1 ((cN ns last j).2 + ns (last - (j + 1)) * (cN ns last j).1) = Int.gcd (cN ns last j).1 (cN ns last j).2 := by
      simp
    rw [this]; exact ih
theorem int_div (n : Int) : Rat.divInt n 1 = (n : Rat) := by rw [Rat.divInt_eq_div]; grind
theorem div_step {n d l : Int} (hn : n ≠ 0) (hd : d ≠ 0) : Rat.divInt (d + l * n) n = (l : Rat) + 1 / Rat.divInt n d := by
  have e1 : (1 : Rat) = Rat.divInt 1 1 := by decide
  have e2 : (l : Rat) = Rat.divInt l 1 := (int_div l).symm
  rw [e1, ← div_is, e2, Rat.divInt_add_divInt _ _ (by decide) (by omega)]
  congr 1 <;> grind
theorem cQ_is {ns : Nat → Int} {last : Nat} (h : Terms ns last) (j : Nat) (hj : j ≤ last) : Rat.divInt (cN ns last j).1 (cN ns last j).2 = cQ ns last j := by
  induction j with
  | zero => exact int_div _
  | succ j ih =>
    have hp := cN_pos h j (by omega)
    rw [cN_succ, cQ_succ, ← ih (by omega)]
    exact div_step (by omega) (by omega)
theorem cQ_ne {ns : Nat → Int} {last : Nat} (h : Terms ns last) (j : Nat) (hj : j < last) : cQ ns last j ≠ 0 := by
  have hp := cN_pos h j hj
  intro e
  have hz : (cQ ns last j).num = 0 := by rw [e]; rfl
  rw [← cQ_is h j (by omega), Rat.num_divInt, Int.sign_eq_one_of_pos (by omega), Int.gcd_comm, show Int.gcd _ _ = 1 from cN_gcd ns last j] at hz
  simp at hz; omega
theorem cQ_parts {ns : Nat → Int} {last : Nat} (h : Terms ns last) (j : Nat) (hj : j ≤ last) : (cQ ns last j).num = (cN ns last j).1 ∧ ((cQ ns last j).den : Int) = (cN ns last j).2 := by
  have hd := cN_den h j hj
  have hg := cN_gcd ns last j
  rw [← cQ_is h j hj]
  have e : Int.gcd (cN ns last j).2 (cN ns last j).1 = 1 := by rw [Int.gcd_comm]; exact hg
  constructor
  · rw [Rat.num_divInt, e, Int.sign_eq_one_of_pos (by omega)]; simp
  · rw [Rat.den_divInt, e, if_neg (by omega)]; simp; omega
/-- the numerators only grow until the first term -/
theorem cN_mono {ns : Nat → Int} {last : Nat} (h : Terms ns last) (j m : Nat) (hj : j + m < last) : (cN ns last j).1 ≤ (cN ns last (j + m)).1 := by
  induction m with
  | zero => exact Int.le_refl _
  | succ m ih =>
    have h1 := ih (by omega)
    have h2 := cN_pos h (j + m) (by omega)
    have h3 := h.1 (last - (j + m + 1)) (by omega) (by omega)
    have := step_pos h3 h2.2.1 h2.1
    show _ ≤ (cN ns last (j + m + 1)).1
    rw [cN_succ]; show _ ≤ (cN ns last (j + m)).2 + _; omega
theorem cN_last {ns : Nat → Int} {last : Nat} (h : Terms ns last) (j : Nat) (hj : j < last) : (cN ns last j).1 ≤ (cN ns last last).2 := by
  obtain ⟨m, rfl⟩ : ∃ m, last = j + m + 1 := ⟨last - j - 1, by omega⟩
  rw [cN_succ]; exact cN_mono h j m (by omega)
/-- where the program stops early, the value does not fit -/
theorem stop_num {ns : Nat → Int} {last : Nat} (h : Terms ns last) (j : Nat) (hj : j < last) (hb : 1000000000 < (cN ns last j).1) : fits (cQ ns last last) = false := by
  have h1 := cN_last h j hj
  obtain ⟨_, h2⟩ := cQ_parts h last (Nat.le_refl _)
  unfold fits; rw [decide_eq_false_iff_not]; omega
theorem stop_term {ns : Nat → Int} {last : Nat} (h : Terms ns last) (j : Nat) (hj : j < last) (hb : 1000000000 < (ns (last - (j + 1))).natAbs) : fits (cQ ns last last) = false := by
  obtain ⟨e1, e2⟩ := cQ_parts h last (Nat.le_refl _)
  obtain ⟨p1, p2, p3⟩ := cN_pos h j hj
  by_cases c : j + 1 < last
  · have h1 := cN_last h (j + 1) c
    rw [cN_succ] at h1
    have h3 := h.1 (last - (j + 1)) (by omega) (by omega)
    have h4 : 1000000001 * 2 ≤ ns (last - (j + 1)) * (cN ns last j).1 := Int.mul_le_mul (by omega) p1 (by omega) (by omega)
    simp only at h1
    unfold fits; rw [decide_eq_false_iff_not]; omega
  · obtain rfl : last = j + 1 := by omega
    rw [cN_succ] at e1
    simp only at e1
    by_cases c2 : 0 ≤ ns (j + 1 - (j + 1))
    · have h4 : 1000000001 * 2 ≤ ns (j + 1 - (j + 1)) * (cN ns (j + 1) j).1 := Int.mul_le_mul (by omega) p1 (by omega) (by omega)
      unfold fits; rw [decide_eq_false_iff_not]; omega
    · have h4 : 1000000001 * (cN ns (j + 1) j).1 ≤ -ns (j + 1 - (j + 1)) * (cN ns (j + 1) j).1 := Int.mul_le_mul_of_nonneg_right (by omega) (by omega)
      rw [Int.neg_mul] at h4
      unfold fits; rw [decide_eq_false_iff_not]; omega
/-- how great the parts can be -/
theorem cN_big {ns : Nat → Int} {last : Nat} (hb : ∀ i, i ≤ last → (ns i).natAbs ≤ 9223372036854775808) (j : Nat) (hj : j ≤ last) : (cN ns last j).1.natAbs < 2 ^ (64 * (j + 1)) ∧ (cN ns last j).2.natAbs < 2 ^ (64 * (j + 1)) := by
  induction j with
  | zero => exact ⟨by show (ns last).natAbs < _; have := hb last (Nat.le_refl _); simp; omega, by show Int.natAbs 1 < _; decide⟩
  | succ j ih =>
    obtain ⟨a, b⟩ := ih (by omega)
    have h1 := hb (last - (j + 1)) (by omega)
    rw [cN_succ]
    have e : 2 ^ (64 * (j + 1 + 1)) = 2 ^ 64 * 2 ^ (64 * (j + 1)) := by rw [← Nat.pow_add]; congr 1; omega
    have e64 : (2 : Nat) ^ 64 = 18446744073709551616 := by decide
    rw [e64] at e
    constructor
    · show Int.natAbs (_ + _) < _
      have h2 := Int.natAbs_add_le (cN ns last j).2 (ns (last - (j + 1)) * (cN ns last j).1)
      rw [Int.natAbs_mul] at h2
      have h3 : (ns (last - (j + 1))).natAbs * (cN ns last j).1.natAbs ≤ 9223372036854775808 * (cN ns last j).1.natAbs := Nat.mul_le_mul_right _ h1
      omega
    · show (cN ns last j).1.natAbs < _
      omega
end Go.Proofs.Ytpgnbjlpkpmpcaa.M
