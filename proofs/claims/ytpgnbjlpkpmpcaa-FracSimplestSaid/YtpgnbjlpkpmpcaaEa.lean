import Derived.Test.YtpgnbjlpkpmpcaaDa
import Derived.Test.YtpgnbjlpkpmpcaaZq
set_option linter.unusedVariables false
namespace Go.Proofs.Ytpgnbjlpkpmpcaa.M
/-- x/y is the simplest one from n/d to m/q, all above zero: no other has a smaller denominator or a smaller numerator -/
def Sp (n d m q x y : Int) : Prop := ((1 ≤ x ∧ 1 ≤ y) ∧ (n * y ≤ x * d ∧ x * q ≤ m * y) ∧ Nat.gcd x.natAbs y.natAbs = 1) ∧ ∀ p s : Int, 1 ≤ s → n * s ≤ p * d → p * q ≤ m * s → y ≤ s ∧ x ≤ p
theorem ceil_facts {n d : Int} (hd : 0 < d) : n ≤ rnd n d 1 * d ∧ (rnd n d 1 - 1) * d < n := by
  have e := Int.mul_ediv_add_emod n d
  have e1 := Int.emod_nonneg n (b := d) (by omega)
  have e2 := Int.emod_lt_of_pos n hd
  rw [Int.mul_comm] at e
  unfold rnd upB
  by_cases h : 0 < n % d
  · rw [if_pos (by simp [h]), Int.add_mul, Int.one_mul]
    have : (n / d + 1 - 1) * d = n / d * d := by rw [Int.add_sub_cancel]
    rw [this]; omega
  · rw [if_neg (by simp [h]), Int.sub_mul, Int.one_mul]; omega
theorem sp_base {n d m q L : Int} (hn : 1 ≤ n) (hd : 1 ≤ d) (h1 : n ≤ (L + 1) * d) (h2 : L * d < n) (h3 : (L + 1) * q ≤ m) (hL : 0 ≤ L) : Sp n d m q (L + 1) 1 := by
  refine ⟨⟨⟨by omega, by omega⟩, ⟨by omega, by omega⟩, by simp⟩, fun p s hs k1 k2 => ⟨by omega, ?_⟩⟩
  have t := mul_ge (b := n) (x := s) (by omega) hs
  have : L < p := lt_of_mul (k := d) (by omega) (by omega)
  omega
theorem sp_step {n d m q L x y : Int} (hn : 1 ≤ n) (hd : 1 ≤ d) (hq : 1 ≤ q) (hL : 0 ≤ L) (h2 : L * d < n) (h : Sp q (m - L * q) d (n - L * d) x y) : Sp n d m q (y + L * x) x := by
  obtain ⟨⟨⟨x1, y1⟩, ⟨l1, l2⟩, g⟩, hmin⟩ := h
  have t0 : 0 ≤ L * x := Int.mul_nonneg hL (by omega)
  refine ⟨⟨⟨by omega, x1⟩, ⟨?_, ?_⟩, ?_⟩, fun p s hs k1 k2 => ?_⟩
  · have e1 : x * (n - L * d) = n * x - L * x * d := by grind
    have e2 : (y + L * x) * d = d * y + L * x * d := by grind
    omega
  · have e1 : x * (m - L * q) = m * x - L * x * q := by grind
    have e2 : (y + L * x) * q = q * y + L * x * q := by grind
    omega
  · obtain ⟨z, hz⟩ : ∃ z, z = y + L * x := ⟨_, rfl⟩
    rw [← hz]
    have h1 : ((Nat.gcd z.natAbs x.natAbs : Nat) : Int) ∣ z := Int.dvd_natAbs.1 (Int.natCast_dvd_natCast.2 (Nat.gcd_dvd_left _ _))
    have h2 : ((Nat.gcd z.natAbs x.natAbs : Nat) : Int) ∣ x := Int.dvd_natAbs.1 (Int.natCast_dvd_natCast.2 (Nat.gcd_dvd_right _ _))
    have h3 : ((Nat.gcd z.natAbs x.natAbs : Nat) : Int) ∣ y := by
      have : y = z - L * x := by omega
      rw [this]; exact Int.dvd_sub h1 (Int.dvd_mul_of_dvd_right h2)
    have h4 : Nat.gcd z.natAbs x.natAbs ∣ y.natAbs := Int.natCast_dvd_natCast.1 (Int.dvd_natAbs.2 h3)
    have h5 := Nat.dvd_gcd (Nat.gcd_dvd_right z.natAbs x.natAbs) h4
    rw [g] at h5
    exact Nat.dvd_one.1 h5
  · have e1 : (p - L * s) * d = p * d - L * d * s := by grind
    have e2 : (n - L * d) * s = n * s - L * d * s := by grind
    have pos : 0 < (n - L * d) * s := Int.mul_pos (by omega) (by omega)
    have hs' : 0 < p - L * s := lt_of_mul (k := d) (by omega) (by omega)
    have e3 : q * (p - L * s) = p * q - L * q * s := by grind
    have e4 : s * (m - L * q) = m * s - L * q * s := by grind
    have e5 : s * (n - L * d) = n * s - L * d * s := by grind
    have e6 : d * (p - L * s) = p * d - L * d * s := by grind
    obtain ⟨r1, r2⟩ := hmin s (p - L * s) (by omega) (by omega) (by omega)
    have e7 : L * x ≤ L * s := Int.mul_le_mul_of_nonneg_left r2 hL
    exact ⟨r2, by omega⟩
theorem sp_bd {n d m q x y : Int} (hd : 1 ≤ d) (h0 : n * q ≤ m * d) (h : Sp n d m q x y) : y ≤ d ∧ x ≤ n := h.2 n d hd (Int.le_refl _) h0
end Go.Proofs.Ytpgnbjlpkpmpcaa.M
