
namespace Go.Proofs.Ytpgnbjlpkpmpcaa.M
/-- the greatest part of a fraction -/
def okB (n d : Int) : Bool := decide (1 ≤ d ∧ d ≤ 1000000000 ∧ -1000000000 ≤ n ∧ n ≤ 1000000000 ∧ Nat.gcd n.natAbs d.natAbs = 1)

theorem okB_iff (n d : Int) : okB n d = true ↔ 1 ≤ d ∧ d ≤ 1000000000 ∧ -1000000000 ≤ n ∧ n ≤ 1000000000 ∧ Nat.gcd n.natAbs d.natAbs = 1 := by
  unfold okB; simp

def fits (q : Rat) : Bool := decide (-1000000000 ≤ q.num ∧ q.num ≤ 1000000000 ∧ q.den ≤ 1000000000)

/-- what 'answer' says of a rational number -/
def aN (q : Rat) : Int := if fits q = true then q.num else 0
def aD (q : Rat) : Int := if fits q = true then (q.den : Int) else 0
def aE (q : Rat) : Int := if fits q = true then 0 else 5

/-- what New says of a numerator and a denominator -/
def nN (n d : Int) : Int := if d = 0 then 0 else aN (Rat.divInt n d)
def nD (n d : Int) : Int := if d = 0 then 0 else aD (Rat.divInt n d)
def nE (n d : Int) : Int := if d = 0 then 4 else aE (Rat.divInt n d)

theorem divInt_num_den (q : Rat) : Rat.divInt q.num q.den = q := by
  simp

theorem ok_num {n d : Int} (h : okB n d = true) : (Rat.divInt n d).num = n := by
  rw [okB_iff] at h
  obtain ⟨h1, _, _, _, h5⟩ := h
  rw [Rat.num_divInt]
  have e : Int.gcd d n = 1 := by rw [Int.gcd_comm]; exact h5
  rw [e, Int.sign_eq_one_of_pos (by omega)]; simp

theorem ok_den {n d : Int} (h : okB n d = true) : ((Rat.divInt n d).den : Int) = d := by
  rw [okB_iff] at h
  obtain ⟨h1, _, _, _, h5⟩ := h
  rw [Rat.den_divInt]
  have e : Int.gcd d n = 1 := by rw [Int.gcd_comm]; exact h5
  rw [e, if_neg (by omega)]; simp; omega

theorem ok_fits {n d : Int} (h : okB n d = true) : fits (Rat.divInt n d) = true := by
  have h1 := ok_num h
  have h2 := ok_den h
  rw [okB_iff] at h
  unfold fits; rw [decide_eq_true_eq]; omega

theorem fits_ok {q : Rat} (h : fits q = true) : okB q.num q.den = true := by
  unfold fits at h; rw [decide_eq_true_eq] at h
  rw [okB_iff]
  have := q.den_pos
  have hr : Nat.gcd q.num.natAbs q.den = 1 := q.reduced
  refine ⟨by omega, by omega, by omega, by omega, ?_⟩
  simpa using hr

theorem aE_ok (q : Rat) : aE q = 0 ↔ fits q = true := by unfold aE; split <;> simp_all

theorem den_parts {n d : Int} (hd : d ≠ 0) : (Rat.divInt n d).den = d.natAbs / Nat.gcd n.natAbs d.natAbs := by
  rw [Rat.den_divInt, if_neg hd, Int.gcd_comm]; rfl

theorem num_parts {n d : Int} (hd : d ≠ 0) : (Rat.divInt n d).num = if (n < 0 ↔ d < 0) then ((n.natAbs / Nat.gcd n.natAbs d.natAbs : Nat) : Int) else -((n.natAbs / Nat.gcd n.natAbs d.natAbs : Nat) : Int) := by
  rw [Rat.num_divInt, Int.gcd_comm]
  have hg : (Nat.gcd n.natAbs d.natAbs : Nat) = Int.gcd n d := rfl
  rw [hg]
  have hdvd : ((Int.gcd n d : Nat) : Int) ∣ n := Int.gcd_dvd_left n d
  have key : ((n.natAbs / Int.gcd n d : Nat) : Int) = (n.natAbs : Int) / (Int.gcd n d : Int) := Int.natCast_ediv _ _
  rw [key]
  rcases Int.lt_trichotomy d 0 with h | h | h
  · rw [Int.sign_eq_neg_one_of_neg h]
    by_cases hn : n < 0
    · rw [if_pos (by omega), Int.ofNat_natAbs_of_nonpos (by omega)]; simp
    · rw [if_neg (by omega), Int.natAbs_of_nonneg (by omega), ← Int.neg_ediv_of_dvd hdvd]; simp
  · exact absurd h hd
  · rw [Int.sign_eq_one_of_pos h]
    by_cases hn : n < 0
    · rw [if_neg (by omega), Int.ofNat_natAbs_of_nonpos (by omega), Int.neg_ediv_of_dvd hdvd]; simp
    · rw [if_pos (by omega), Int.natAbs_of_nonneg (by omega)]; simp
theorem new_err {n d : Int} {x y : Nat} (hd : d ≠ 0) (hx : x = n.natAbs / Nat.gcd n.natAbs d.natAbs) (hy : y = d.natAbs / Nat.gcd n.natAbs d.natAbs)
    (h : 1000000000 < (x : Int) ∨ 1000000000 < (y : Int)) : nN n d = 0 ∧ nD n d = 0 ∧ nE n d = 5 := by
  have e1 := den_parts (n := n) hd
  have e2 := num_parts (n := n) hd
  rw [← hx] at e2; rw [← hy] at e1
  have hf : fits (Rat.divInt n d) = false := by
    rw [Bool.eq_false_iff]; intro c; unfold fits at c; rw [decide_eq_true_eq] at c
    split at e2 <;> omega
  simp [nN, nD, nE, aN, aD, aE, hd, hf]

theorem new_ok {n d : Int} {x y : Nat} (hd : d ≠ 0) (hx : x = n.natAbs / Nat.gcd n.natAbs d.natAbs) (hy : y = d.natAbs / Nat.gcd n.natAbs d.natAbs)
    (h : (x : Int) ≤ 1000000000 ∧ (y : Int) ≤ 1000000000) : nN n d = (if (n < 0 ↔ d < 0) then (x : Int) else -(x : Int)) ∧ nD n d = y ∧ nE n d = 0 := by
  have e1 := den_parts (n := n) hd
  have e2 := num_parts (n := n) hd
  rw [← hx] at e2; rw [← hy] at e1
  have hf : fits (Rat.divInt n d) = true := by
    unfold fits; rw [decide_eq_true_eq]
    split at e2 <;> omega
  refine ⟨?_, ?_, ?_⟩
  · unfold nN aN; rw [if_neg hd, if_pos hf, e2]
  · unfold nD aD; rw [if_neg hd, if_pos hf, e1]
  · unfold nE aE; rw [if_neg hd, if_pos hf]
end Go.Proofs.Ytpgnbjlpkpmpcaa.M
