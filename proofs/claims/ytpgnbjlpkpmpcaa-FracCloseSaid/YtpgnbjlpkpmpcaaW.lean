import Derived.Test.YtpgnbjlpkpmpcaaV
namespace Go.Proofs.Ytpgnbjlpkpmpcaa.R
open Go.RowKit Go.Proofs.Ytpgnbjlpkpmpcaa.N
theorem B_two : B = 2 ^ 32 := by decide
theorem two_split (j : Nat) : 2 ^ j = B ^ (j / 32) * 2 ^ (j % 32) := by
  conv => lhs; rw [← Nat.div_add_mod j 32]
  rw [Nat.pow_add, Nat.pow_mul, B_two]
/-- digit i of a number -/
theorem val_div {l : List Nat} (h : Dig l) (i : Nat) (hi : i < l.length) : ∃ y, val l / B ^ i = l.getD i 0 + B * y := by
  refine ⟨val (l.drop (i + 1)), ?_⟩
  rw [val_split l i (by omega), drop_getD hi]
  simp only [val]
  have h1 := val_lt (h.take i)
  rw [List.length_take, Nat.min_eq_left (by omega)] at h1
  rw [Nat.add_mul_div_left _ _ (Nat.pow_pos B_pos), Nat.div_eq_of_lt h1, Nat.zero_add]
theorem bit_digit (x y s : Nat) (hs : s < 32) : (x + B * y) / 2 ^ s % 2 = x / 2 ^ s % 2 := by
  have e : B = 2 ^ s * (2 * 2 ^ (31 - s)) := by
    rw [← Nat.pow_succ', ← Nat.pow_add, B_two]; congr 1; omega
  rw [e, Nat.mul_assoc, Nat.add_mul_div_left _ _ (Nat.pow_pos (by decide)), Nat.mul_assoc, Nat.add_mul_mod_self_left]
theorem bit_val {l : List Nat} (h : Dig l) (j : Nat) (hj : j / 32 < l.length) : val l / 2 ^ j % 2 = l.getD (j / 32) 0 / 2 ^ (j % 32) % 2 := by
  obtain ⟨y, hy⟩ := val_div h (j / 32) hj
  rw [two_split, ← Nat.div_div_eq_div_mul, hy, bit_digit _ _ _ (Nat.mod_lt _ (by decide))]
/-- the quotient's digits and the rest, when the bits from j on are done -/
def DivAt (l Q : List Nat) (b j r : Nat) : Prop := val l / 2 ^ j = (val Q / 2 ^ j) * b + r ∧ r < b ∧ val Q % 2 ^ j = 0 ∧ Dig Q ∧ Q.length = l.length
theorem div_start {l : List Nat} {b : Nat} (h : Dig l) (hb : 0 < b) : DivAt l (List.replicate l.length 0) b (32 * l.length) 0 := by
  have hz : ∀ n, val (List.replicate n 0) = 0 := by
    intro n; induction n with
    | zero => rfl
    | succ n ih => simp [List.replicate_succ, val, ih]
  have h1 := val_lt h
  rw [B_two, ← Nat.pow_mul] at h1
  exact ⟨by rw [hz, Nat.div_eq_of_lt h1]; simp, hb, by rw [hz]; simp, fun x hx => by rw [(List.mem_replicate.1 hx).2]; decide, by simp⟩
theorem half_div (n j : Nat) : n / 2 ^ j = 2 * (n / 2 ^ (j + 1)) + n / 2 ^ j % 2 := by
  rw [Nat.pow_succ, ← Nat.div_div_eq_div_mul]; exact (Nat.div_add_mod _ 2).symm
theorem div_no {l Q : List Nat} {b j r r2 : Nat} (h : DivAt l Q b (j + 1) r) (h2 : r2 = 2 * r + val l / 2 ^ j % 2) (hlt : r2 < b) : DivAt l Q b j r2 := by
  obtain ⟨h1, h3, h4, h5, h6⟩ := h
  have e1 := half_div (val l) j
  have e2 := half_div (val Q) j
  have e3 : val Q / 2 ^ j % 2 = 0 := by
    obtain ⟨c, hc⟩ := Nat.dvd_of_mod_eq_zero h4
    rw [hc, Nat.pow_succ, Nat.mul_assoc, Nat.mul_div_cancel_left _ (Nat.pow_pos (by decide))]; omega
  refine ⟨?_, hlt, ?_, h5, h6⟩
  · rw [e1, h1, e2, e3, Nat.add_mul, Nat.zero_mul, Nat.mul_assoc, h2]; omega
  · have : 2 ^ j ∣ 2 ^ (j + 1) := ⟨2, Nat.pow_succ 2 j⟩
    exact Nat.mod_eq_zero_of_dvd (Nat.dvd_trans this (Nat.dvd_of_mod_eq_zero h4))
theorem div_yes {l Q : List Nat} {b j r r2 d : Nat} (h : DivAt l Q b (j + 1) r) (h2 : r2 = 2 * r + val l / 2 ^ j % 2) (hge : b ≤ r2) (hj : j / 32 < l.length) (hd : d = Q.getD (j / 32) 0 + 2 ^ (j % 32)) (hdB : d < B) : DivAt l (Q.set (j / 32) d) b j (r2 - b) := by
  obtain ⟨h1, h3, h4, h5, h6⟩ := h
  have hs := val_set (l := Q) (k := j / 32) (x := d) (by omega)
  have hv : val (Q.set (j / 32) d) = val Q + 2 ^ j := by
    rw [hd, Nat.mul_add, ← two_split] at hs; rw [hd]; omega
  have e1 := half_div (val l) j
  have e2 := half_div (val Q) j
  obtain ⟨c, hc⟩ := Nat.dvd_of_mod_eq_zero h4
  have hp : 0 < 2 ^ j := Nat.pow_pos (by decide)
  have e3 : val Q / 2 ^ j = 2 * c := by
    rw [hc, Nat.pow_succ, Nat.mul_assoc, Nat.mul_div_cancel_left _ hp]
  have e4 : val Q / 2 ^ (j + 1) = c := by rw [hc, Nat.mul_div_cancel_left _ (Nat.pow_pos (by decide))]
  have e5 : val (Q.set (j / 32) d) / 2 ^ j = 2 * c + 1 := by rw [hv, Nat.add_div_right _ hp, e3]
  have hbit := Nat.mod_lt (val l / 2 ^ j) (show 0 < 2 by decide)
  refine ⟨?_, by omega, ?_, h5.set hdB, by simpa using h6⟩
  · rw [e5, e1, h1, e4, Nat.add_mul, Nat.mul_assoc, Nat.one_mul]
    have : b ≤ 2 * (c * b) + 2 * r + val l / 2 ^ j % 2 + b := by omega
    omega
  · rw [hv, Nat.add_mod_right]
    have : 2 ^ j ∣ 2 ^ (j + 1) := ⟨2, Nat.pow_succ 2 j⟩
    exact Nat.mod_eq_zero_of_dvd (Nat.dvd_trans this (Nat.dvd_of_mod_eq_zero h4))
theorem div_end {l Q : List Nat} {b r : Nat} (h : DivAt l Q b 0 r) : val Q = val l / b ∧ r = val l % b := by
  obtain ⟨h1, h3, h4, h5, h6⟩ := h
  simp at h1
  have hb : 0 < b := by omega
  constructor
  · rw [h1, Nat.mul_comm, Nat.mul_add_div hb, Nat.div_eq_of_lt h3, Nat.add_zero]
  · rw [h1, Nat.mul_comm, Nat.mul_add_mod, Nat.mod_eq_of_lt h3]
/-- the digit into which bit j goes: its bits up to there are 0 -/
theorem div_digit {l Q : List Nat} {b j r : Nat} (h : DivAt l Q b (j + 1) r) (hj : j / 32 < l.length) : Q.getD (j / 32) 0 % 2 ^ (j % 32 + 1) = 0 := by
  obtain ⟨h1, h3, h4, h5, h6⟩ := h
  obtain ⟨y, hy⟩ := val_div h5 (j / 32) (by omega)
  have hs : j % 32 < 32 := Nat.mod_lt _ (by decide)
  have e : 2 ^ (j + 1) = B ^ (j / 32) * 2 ^ (j % 32 + 1) := by rw [Nat.pow_succ, Nat.pow_succ, two_split, Nat.mul_assoc]
  rw [e] at h4
  obtain ⟨c, hc⟩ := Nat.dvd_of_mod_eq_zero h4
  have h7 : val Q / B ^ (j / 32) = 2 ^ (j % 32 + 1) * c := by rw [hc, Nat.mul_assoc, Nat.mul_div_cancel_left _ (Nat.pow_pos B_pos)]
  rw [h7] at hy
  have e2 : B = 2 ^ (j % 32 + 1) * 2 ^ (31 - j % 32) := by rw [← Nat.pow_add, B_two]; congr 1; omega
  have h8 : Q.getD (j / 32) 0 + 2 ^ (j % 32 + 1) * (2 ^ (31 - j % 32) * y) = 2 ^ (j % 32 + 1) * c := by
    rw [hy, e2, Nat.mul_assoc]
  have h9 : (Q.getD (j / 32) 0 + 2 ^ (j % 32 + 1) * (2 ^ (31 - j % 32) * y)) % 2 ^ (j % 32 + 1) = 0 := by rw [h8]; simp
  rwa [Nat.add_mul_mod_self_left] at h9
theorem or_bit {x s : Nat} (h : x % 2 ^ (s + 1) = 0) : x ||| 2 ^ s = x + 2 ^ s := nat_join (s + 1) x (2 ^ s) h (Nat.pow_lt_pow_right (by decide) (by omega))
theorem digit_fits {x s : Nat} (hx : x < B) (hs : s < 32) (h : x % 2 ^ (s + 1) = 0) : x + 2 ^ s < B := by
  rw [← or_bit h]; rw [B_two] at *
  exact Nat.or_lt_two_pow hx (Nat.pow_lt_pow_right (by decide) hs)
end Go.Proofs.Ytpgnbjlpkpmpcaa.R
