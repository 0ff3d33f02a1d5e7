import Derived.Test.YtpgnbjlpkpmpcaaM
namespace Go.Proofs.Ytpgnbjlpkpmpcaa.M
theorem okB_pos {n d : Int} (h : okB n d = true) : 0 < d := by rw [okB_iff] at h; omega
theorem ans_ok {n d : Int} (h : okB n d = true) : aN (Rat.divInt n d) = n ∧ aD (Rat.divInt n d) = d ∧ aE (Rat.divInt n d) = 0 := by
  have hf := ok_fits h
  unfold aN aD aE
  rw [if_pos hf, if_pos hf, if_pos hf]
  exact ⟨ok_num h, ok_den h, rfl⟩
theorem ans_fits {r : Rat} (h : aE r = 0) : okB (aN r) (aD r) = true ∧ Rat.divInt (aN r) (aD r) = r := by
  have hf : fits r = true := (aE_ok r).1 h
  unfold aN aD
  rw [if_pos hf, if_pos hf]
  exact ⟨fits_ok hf, divInt_num_den r⟩
theorem new_is {n d : Int} {r : Rat} (hd : d ≠ 0) (h : Rat.divInt n d = r) : nN n d = aN r ∧ nD n d = aD r ∧ nE n d = aE r := by
  unfold nN nD nE; rw [if_neg hd, if_neg hd, if_neg hd, h]; exact ⟨rfl, rfl, rfl⟩
theorem add_is {n d m q : Int} (h1 : 0 < d) (h2 : 0 < q) : Rat.divInt (n * q + m * d) (d * q) = Rat.divInt n d + Rat.divInt m q := (Rat.divInt_add_divInt n m (by omega) (by omega)).symm
theorem sub_is {n d m q : Int} (h1 : 0 < d) (h2 : 0 < q) : Rat.divInt (n * q + -m * d) (d * q) = Rat.divInt n d - Rat.divInt m q := by
  rw [Rat.divInt_sub_divInt n m (by omega) (by omega)]; congr 1; rw [Int.neg_mul]; omega
theorem mul_is {n d m q : Int} : Rat.divInt (n * m) (d * q) = Rat.divInt n d * Rat.divInt m q := (Rat.divInt_mul_divInt n m).symm
theorem div_is {n d m q : Int} : Rat.divInt (n * q) (d * m) = Rat.divInt n d / Rat.divInt m q := by
  rw [Rat.div_def, Rat.inv_divInt, Rat.divInt_mul_divInt]
theorem neg_is {n d : Int} : Rat.divInt (-n) d = -Rat.divInt n d := (Rat.neg_divInt n d).symm
theorem neg_ok {n d : Int} (h : okB n d = true) : okB (-n) d = true := by
  rw [okB_iff] at *; rw [Int.natAbs_neg]; omega

theorem back_add {n d m q x y z : Int} (h1 : okB n d = true) (h2 : okB m q = true) (hx : x = nN (n * q + m * d) (d * q)) (hy : y = nD (n * q + m * d) (d * q)) (hz : z = nE (n * q + m * d) (d * q)) (h : z = 0) :
    okB x y = true ∧ n = nN (x * q + -m * y) (y * q) ∧ d = nD (x * q + -m * y) (y * q) ∧ 0 = nE (x * q + -m * y) (y * q) := by
  have p1 := okB_pos h1
  have p2 := okB_pos h2
  obtain ⟨e1, e2, e3⟩ := new_is (Int.ne_of_gt (Int.mul_pos p1 p2)) (add_is (n := n) (m := m) p1 p2)
  rw [e1] at hx; rw [e2] at hy; rw [e3] at hz; rw [h] at hz
  obtain ⟨g1, g2⟩ := ans_fits hz.symm
  rw [← hx, ← hy] at g1 g2
  have p3 := okB_pos g1
  have e : Rat.divInt (x * q + -m * y) (y * q) = Rat.divInt n d := by
    rw [sub_is p3 p2, g2]; grind
  obtain ⟨f1, f2, f3⟩ := new_is (Int.ne_of_gt (Int.mul_pos p3 p2)) e
  obtain ⟨k1, k2, k3⟩ := ans_ok h1
  exact ⟨g1, by rw [f1, k1], by rw [f2, k2], by rw [f3, k3]⟩
theorem divInt_ne {m q : Int} (h : okB m q = true) (hm : m ≠ 0) : Rat.divInt m q ≠ 0 := by
  intro c; have := ok_num h; rw [c] at this; simp at this; exact hm this.symm
theorem back_mul {n d m q x y z : Int} (h1 : okB n d = true) (h2 : okB m q = true) (hm : m ≠ 0) (hx : x = nN (n * m) (d * q)) (hy : y = nD (n * m) (d * q)) (hz : z = nE (n * m) (d * q)) (h : z = 0) :
    okB x y = true ∧ n = nN (x * q) (y * m) ∧ d = nD (x * q) (y * m) ∧ 0 = nE (x * q) (y * m) := by
  have p1 := okB_pos h1
  have p2 := okB_pos h2
  obtain ⟨e1, e2, e3⟩ := new_is (Int.ne_of_gt (Int.mul_pos p1 p2)) (mul_is (n := n) (m := m))
  rw [e1] at hx; rw [e2] at hy; rw [e3] at hz; rw [h] at hz
  obtain ⟨g1, g2⟩ := ans_fits hz.symm
  rw [← hx, ← hy] at g1 g2
  have p3 := okB_pos g1
  have hne := divInt_ne h2 hm
  have e : Rat.divInt (x * q) (y * m) = Rat.divInt n d := by
    rw [div_is, g2]; grind
  obtain ⟨f1, f2, f3⟩ := new_is (by intro c; rcases Int.mul_eq_zero.1 c with c | c <;> omega) e
  obtain ⟨k1, k2, k3⟩ := ans_ok h1
  exact ⟨g1, by rw [f1, k1], by rw [f2, k2], by rw [f3, k3]⟩
theorem ok_new {n d : Int} (h : okB n d = true) : n = nN n d ∧ d = nD n d ∧ 0 = nE n d := by
  obtain ⟨f1, f2, f3⟩ := new_is (n := n) (d := d) (Int.ne_of_gt (okB_pos h)) rfl
  obtain ⟨k1, k2, k3⟩ := ans_ok h
  exact ⟨by rw [f1, k1], by rw [f2, k2], by rw [f3, k3]⟩
theorem divInt_num_sign {u D : Int} (hD : 0 < D) : ((Rat.divInt u D).num < 0 ↔ u < 0) ∧ (0 < (Rat.divInt u D).num ↔ 0 < u) := by
  have hp := num_parts (n := u) (d := D) (by omega)
  have hg : 0 < Nat.gcd u.natAbs D.natAbs := Nat.gcd_pos_of_pos_right _ (by omega)
  have hgd : Nat.gcd u.natAbs D.natAbs ∣ u.natAbs := Nat.gcd_dvd_left _ _
  generalize hgg : Nat.gcd u.natAbs D.natAbs = g at *
  obtain ⟨k, hk⟩ := hgd
  have hkd : u.natAbs / g = k := by rw [hk]; exact Nat.mul_div_cancel_left _ hg
  rw [hkd] at hp
  rw [hp]
  have hk0 : k = 0 ↔ u = 0 := by
    constructor
    · intro c; subst c; omega
    · intro c; have h0 : g * k = 0 := by omega
      rcases Nat.mul_eq_zero.1 h0 with c | c <;> omega
  rcases Int.lt_trichotomy u 0 with hu | hu | hu
  · rw [if_neg (by omega)]; omega
  · subst hu; rw [if_pos (by omega)]; omega
  · rw [if_pos (by omega)]; omega
theorem sign_iff (u : Int) : (Int.sign u < 0 ↔ u < 0) ∧ (0 < Int.sign u ↔ 0 < u) := by
  rcases Int.lt_trichotomy u 0 with hu | hu | hu
  · rw [Int.sign_eq_neg_one_of_neg hu]; omega
  · subst hu; simp
  · rw [Int.sign_eq_one_of_pos hu]; omega
theorem sub_sign {n d m q x z s : Int} (h1 : okB n d = true) (h2 : okB m q = true) (hx : x = nN (n * q + -m * d) (d * q)) (hz : z = nE (n * q + -m * d) (d * q)) (h : z = 0) (hs : s = Int.sign (n * q - m * d)) :
    (s < 0 ↔ x < 0) ∧ (0 < s ↔ 0 < x) := by
  have p1 := okB_pos h1
  have p2 := okB_pos h2
  have hdq : 0 < d * q := Int.mul_pos p1 p2
  obtain ⟨e1, e2, e3⟩ := new_is (Int.ne_of_gt hdq) rfl (n := n * q + -m * d)
  rw [e1] at hx; rw [e3] at hz; rw [h] at hz
  have hf : fits (Rat.divInt (n * q + -m * d) (d * q)) = true := (aE_ok _).1 hz.symm
  unfold aN at hx; rw [if_pos hf] at hx
  have k := divInt_num_sign (u := n * q + -m * d) hdq
  rw [← hx] at k
  have j := sign_iff (n * q - m * d)
  rw [← hs] at j
  have e : n * q + -m * d = n * q - m * d := by rw [Int.neg_mul]; omega
  rw [e] at k
  omega
end Go.Proofs.Ytpgnbjlpkpmpcaa.M
