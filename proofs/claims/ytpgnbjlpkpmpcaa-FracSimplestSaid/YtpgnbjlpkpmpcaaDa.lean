import Derived.Test.YtpgnbjlpkpmpcaaM2
set_option linter.unusedVariables false
namespace Go.Proofs.Ytpgnbjlpkpmpcaa.M
/-- two neighbours around n/m with denominators up to d -/
def Nb (n m d a b c e : Int) : Prop := ((1 ≤ b ∧ b ≤ d) ∧ (1 ≤ e ∧ e ≤ d)) ∧ d < b + e ∧ c * b - a * e = 1 ∧ a * m < n * b ∧ n * e < c * m
theorem mul_ge {b x : Int} (hb : 0 ≤ b) (hx : 1 ≤ x) : b ≤ b * x := by
  have := Int.mul_le_mul_of_nonneg_left hx hb
  rw [Int.mul_one] at this; exact this
theorem lt_of_mul {x y k : Int} (hk : 0 < k) (h : x * k < y * k) : x < y := Int.lt_of_mul_lt_mul_right h (by omega)
theorem lt_mul {x y k : Int} (hk : 0 < k) (h : x < y) : x * k < y * k := Int.mul_lt_mul_of_pos_right h hk
/-- what lies strictly between two neighbours has a greater denominator -/
theorem inside {a b c e p q : Int} (hb : 1 ≤ b) (he : 1 ≤ e) (h : c * b - a * e = 1) (h1 : a * q < p * b) (h2 : p * e < c * q) : b + e ≤ q := by
  have id1 : q = b * (c * q - p * e) + e * (p * b - a * q) := by grind
  have k1 := mul_ge (b := b) (x := c * q - p * e) (by omega) (by omega)
  have k2 := mul_ge (b := e) (x := p * b - a * q) (by omega) (by omega)
  omega
theorem cross {n m a b c e : Int} (hm : 0 < m) (hb : 0 < b) (he : 0 < e) (h1 : a * m < n * b) (h2 : n * e < c * m) : a * e < c * b := by
  have k1 := lt_mul he h1
  have k2 := lt_mul hb h2
  apply lt_of_mul hm
  have e1 : a * m * e = a * e * m := by grind
  have e2 : n * b * e = n * e * b := by grind
  have e3 : c * m * b = c * b * m := by grind
  omega
theorem nb_low {n m d a b c e a' b' c' e' : Int} (hm : 0 < m) (h : Nb n m d a b c e) (h' : Nb n m d a' b' c' e') : ¬ a * b' < a' * b := by
  intro k
  obtain ⟨⟨⟨b1, b2⟩, ⟨e1, e2⟩⟩, s, dt, l1, l2⟩ := h
  obtain ⟨⟨⟨b1', b2'⟩, ⟨e1', e2'⟩⟩, s', dt', l1', l2'⟩ := h'
  have := inside b1 e1 dt k (cross hm (by omega) (by omega) l1' l2)
  omega
theorem nb_high {n m d a b c e a' b' c' e' : Int} (hm : 0 < m) (h : Nb n m d a b c e) (h' : Nb n m d a' b' c' e') : ¬ c' * e < c * e' := by
  intro k
  obtain ⟨⟨⟨b1, b2⟩, ⟨e1, e2⟩⟩, s, dt, l1, l2⟩ := h
  obtain ⟨⟨⟨b1', b2'⟩, ⟨e1', e2'⟩⟩, s', dt', l1', l2'⟩ := h'
  have := inside b1 e1 dt (cross hm (by omega) (by omega) l1 l2') k
  omega
theorem eq_of_dvd {b b' x y : Int} (hb : 1 ≤ b) (hb' : 1 ≤ b') (h : b' = b * x) (h' : b = b' * y) : b = b' :=
  Int.dvd_antisymm (by omega) (by omega) ⟨x, h⟩ ⟨y, h'⟩
theorem id_b {a b c e a' b' : Int} (dt : c * b - a * e = 1) (q1 : a * b' = a' * b) : b' = b * (c * b' - a' * e) := by
  have h1 : b * (c * b' - a' * e) = c * b * b' - (a' * b) * e := by grind
  have h2 : c * b * b' - (a * b') * e = b' * (c * b - a * e) := by grind
  rw [h1, ← q1, h2, dt, Int.mul_one]
theorem id_e {a b c e c' e' : Int} (dt : c * b - a * e = 1) (q2 : c * e' = c' * e) : e' = e * (c' * b - a * e') := by
  have h1 : e * (c' * b - a * e') = (c' * e) * b - a * e * e' := by grind
  have h2 : (c * e') * b - a * e * e' = e' * (c * b - a * e) := by grind
  rw [h1, ← q2, h2, dt, Int.mul_one]
theorem nb_unique {n m d a b c e a' b' c' e' : Int} (hm : 0 < m) (h : Nb n m d a b c e) (h' : Nb n m d a' b' c' e') : (a = a' ∧ b = b') ∧ (c = c' ∧ e = e') := by
  have k1 := nb_low hm h h'
  have k2 := nb_low hm h' h
  have k3 := nb_high hm h h'
  have k4 := nb_high hm h' h
  obtain ⟨⟨⟨b1, b2⟩, ⟨e1, e2⟩⟩, s, dt, l1, l2⟩ := h
  obtain ⟨⟨⟨b1', b2'⟩, ⟨e1', e2'⟩⟩, s', dt', l1', l2'⟩ := h'
  have q1 : a * b' = a' * b := by omega
  have q2 : c * e' = c' * e := by omega
  have hb : b = b' := eq_of_dvd b1 b1' (id_b dt q1) (id_b dt' q1.symm)
  have he : e = e' := eq_of_dvd e1 e1' (id_e dt q2) (id_e dt' q2.symm)
  subst hb he
  exact ⟨⟨Int.eq_of_mul_eq_mul_right (by omega) q1, rfl⟩, ⟨Int.eq_of_mul_eq_mul_right (by omega) q2, rfl⟩⟩
theorem low_bd {n m b x a : Int} (hm : b < m) (hb : 1 ≤ b) (hx : 1 ≤ x) (hxm : x ≤ m) (h : a * m = n * b - x) (hn : -1000000000 ≤ n ∧ n ≤ 1000000000) : -1000000000 ≤ a ∧ a ≤ 1000000000 := by
  rcases Int.lt_or_le n 0 with h0 | h0
  · have t1 : (-n) * b ≤ (-n) * (m - 1) := Int.mul_le_mul_of_nonneg_left (by omega) (by omega)
    have t2 : 0 ≤ (-n) * b := Int.mul_nonneg (by omega) (by omega)
    rw [Int.neg_mul] at t2
    rw [Int.neg_mul, Int.neg_mul, Int.mul_sub, Int.mul_one] at t1
    have k1 : n - 1 < a := lt_of_mul (k := m) (by omega) (by rw [Int.sub_mul, Int.one_mul]; omega)
    have k2 : a < 1 := lt_of_mul (k := m) (by omega) (by rw [Int.one_mul]; omega)
    omega
  · have t1 : n * b ≤ n * (m - 1) := Int.mul_le_mul_of_nonneg_left (by omega) (by omega)
    have t2 : 0 ≤ n * b := Int.mul_nonneg (by omega) (by omega)
    rw [Int.mul_sub, Int.mul_one] at t1
    have k1 : -2 < a := lt_of_mul (k := m) (by omega) (by omega)
    have k2 : a < n + 1 := lt_of_mul (k := m) (by omega) (by rw [Int.add_mul, Int.one_mul]; omega)
    omega
theorem high_bd {n m e y c : Int} (hm : e < m) (he : 1 ≤ e) (hy : 1 ≤ y) (hym : y ≤ m) (h : c * m = n * e + y) (hn : -1000000000 ≤ n ∧ n ≤ 1000000000) : -1000000000 ≤ c ∧ c ≤ 1000000000 := by
  have := low_bd (n := -n) (a := -c) hm he hy hym (by rw [Int.neg_mul, Int.neg_mul]; omega) (by omega)
  omega
/-- the parts of two neighbours are no greater than those of the fraction -/
theorem nb_bd {n m d a b c e : Int} (hm : d < m) (h0 : ((1 ≤ b ∧ b ≤ d) ∧ (1 ≤ e ∧ e ≤ d))) (dt : c * b - a * e = 1) (l1 : a * m < n * b) (l2 : n * e < c * m) (hn : -1000000000 ≤ n ∧ n ≤ 1000000000) :
    (-1000000000 ≤ a ∧ a ≤ 1000000000) ∧ (-1000000000 ≤ c ∧ c ≤ 1000000000) ∧ (n * b - a * m ≤ m ∧ c * m - n * e ≤ m) := by
  obtain ⟨⟨b1, b2⟩, ⟨e1, e2⟩⟩ := h0
  have id1 : m = (n * b - a * m) * e + (c * m - n * e) * b := by
    have e0 : (n * b - a * m) * e + (c * m - n * e) * b = m * (c * b - a * e) := by grind
    rw [e0, dt, Int.mul_one]
  have k1 : n * b - a * m ≤ (n * b - a * m) * e := mul_ge (by omega) e1
  have k2 : c * m - n * e ≤ (c * m - n * e) * b := mul_ge (by omega) b1
  have X1 : n * b - a * m ≤ m := by omega
  have Y1 : c * m - n * e ≤ m := by omega
  exact ⟨low_bd (x := n * b - a * m) (by omega) b1 (by omega) X1 (by omega) hn, high_bd (y := c * m - n * e) (by omega) e1 (by omega) Y1 (by omega) hn, X1, Y1⟩
theorem nb_gcd {a b c e : Int} (h : c * b - a * e = 1) : Nat.gcd a.natAbs b.natAbs = 1 := by
  have h1 : ((Nat.gcd a.natAbs b.natAbs : Nat) : Int) ∣ a := Int.dvd_natAbs.1 (Int.natCast_dvd_natCast.2 (Nat.gcd_dvd_left _ _))
  have h2 : ((Nat.gcd a.natAbs b.natAbs : Nat) : Int) ∣ b := Int.dvd_natAbs.1 (Int.natCast_dvd_natCast.2 (Nat.gcd_dvd_right _ _))
  have h3 : ((Nat.gcd a.natAbs b.natAbs : Nat) : Int) ∣ ((1 : Nat) : Int) := by
    have : ((1 : Nat) : Int) = c * b - a * e := by rw [h]; rfl
    rw [this]; exact Int.dvd_sub (Int.dvd_mul_of_dvd_right h2) (Int.dvd_mul_of_dvd_left h1)
  exact Nat.dvd_one.1 (Int.natCast_dvd_natCast.1 h3)
/-- the distances of the two from the fraction, over the common denominators -/
def Pr (n m d a b c e : Int) : Prop := ((1 ≤ b ∧ b ≤ d) ∧ (1 ≤ e ∧ e ≤ d)) ∧ c * b - a * e = 1 ∧ a * m < n * b ∧ n * e < c * m
theorem no_hit {n m d a b : Int} (hg : Nat.gcd n.natAbs m.natAbs = 1) (hm : d < m) (hb : 1 ≤ b) (hbd : b ≤ d) : n * b ≠ a * m := by
  intro h
  have h1 : m ∣ b := by
    have h2 : m.natAbs ∣ n.natAbs * b.natAbs := by rw [← Int.natAbs_mul, h, Int.natAbs_mul]; exact Nat.dvd_mul_left _ _
    have h3 : m.natAbs ∣ b.natAbs := (Nat.Coprime.symm hg).dvd_of_dvd_mul_left h2
    exact Int.natAbs_dvd_natAbs.1 h3
  have := Int.le_of_dvd (by omega) h1
  omega
theorem Pr.step {n m d a b c e k : Int} (hg : Nat.gcd n.natAbs m.natAbs = 1) (hm : d < m) (h : Pr n m d a b c e) (hk : k = min ((d - b) / e) ((n * b - a * m) / (c * m - n * e))) :
    0 ≤ k ∧ Pr n m d (a + k * c) (b + k * e) c e ∧ k * e ≤ d ∧ (b + e ≤ d → c * m - n * e ≤ n * b - a * m → 1 ≤ k) := by
  obtain ⟨⟨⟨b1, b2⟩, ⟨e1, e2⟩⟩, dt, l1, l2⟩ := h
  have hY : 0 < c * m - n * e := by omega
  have hX : 0 < n * b - a * m := by omega
  have k1 : k ≤ (d - b) / e := by omega
  have k2 : k ≤ (n * b - a * m) / (c * m - n * e) := by omega
  have k0 : 0 ≤ k := by
    have := Int.ediv_nonneg (a := d - b) (b := e) (by omega) (by omega)
    have := Int.ediv_nonneg (a := n * b - a * m) (b := c * m - n * e) (by omega) (by omega)
    omega
  have m1 : k * e ≤ d - b := (Int.le_ediv_iff_mul_le (by omega)).1 k1
  have m2 : k * (c * m - n * e) ≤ n * b - a * m := (Int.le_ediv_iff_mul_le hY).1 k2
  have m0 : 0 ≤ k * e := Int.mul_nonneg k0 (by omega)
  have e3 : n * (b + k * e) - (a + k * c) * m = (n * b - a * m) - k * (c * m - n * e) := by grind
  have hit := no_hit (a := a + k * c) hg hm (show 1 ≤ b + k * e by omega) (by omega)
  refine ⟨k0, ⟨⟨⟨by omega, by omega⟩, ⟨e1, e2⟩⟩, ?_, by omega, l2⟩, by omega, fun hs hy => ?_⟩
  · have : c * (b + k * e) - (a + k * c) * e = c * b - a * e := by grind
    rw [this]; exact dt
  · have : 1 ≤ (d - b) / e := (Int.le_ediv_iff_mul_le (by omega)).2 (by omega)
    have : 1 ≤ (n * b - a * m) / (c * m - n * e) := (Int.le_ediv_iff_mul_le hY).2 (by omega)
    omega
/-- the mirror: the one above goes toward the one below -/
theorem Pr.flip {n m d a b c e : Int} (h : Pr n m d a b c e) : Pr (-n) m d (-c) e (-a) b := by
  obtain ⟨⟨⟨b1, b2⟩, ⟨e1, e2⟩⟩, dt, l1, l2⟩ := h
  refine ⟨⟨⟨e1, e2⟩, ⟨b1, b2⟩⟩, ?_, ?_, ?_⟩
  · have : -a * e - -c * b = c * b - a * e := by grind
    rw [this]; exact dt
  · rw [Int.neg_mul, Int.neg_mul]; omega
  · rw [Int.neg_mul, Int.neg_mul]; omega
theorem Pr.up {n m d a b c e k : Int} (hg : Nat.gcd n.natAbs m.natAbs = 1) (hm : d < m) (h : Pr n m d a b c e) (hk : k = min ((d - e) / b) ((c * m - n * e) / (n * b - a * m))) :
    0 ≤ k ∧ Pr n m d a b (c + k * a) (e + k * b) ∧ k * b ≤ d ∧ (b + e ≤ d → n * b - a * m ≤ c * m - n * e → 1 ≤ k) := by
  have e1 : -n * e - -c * m = c * m - n * e := by rw [Int.neg_mul, Int.neg_mul]; omega
  have e2 : -a * m - -n * b = n * b - a * m := by rw [Int.neg_mul, Int.neg_mul]; omega
  have := Pr.step (k := k) (by rw [Int.natAbs_neg]; exact hg) hm h.flip (by rw [e1, e2]; exact hk)
  rw [e1, e2] at this
  obtain ⟨t1, t2, t3, t4⟩ := this
  have t5 := t2.flip
  rw [Int.neg_neg, Int.neg_neg] at t5
  have e4 : -(-c + k * -a) = c + k * a := by grind
  rw [e4] at t5
  exact ⟨t1, t5, t3, fun hs hy => t4 (by omega) hy⟩
theorem Pr.round {n m d a b c e k a' b' k' c' e' : Int} (hg : Nat.gcd n.natAbs m.natAbs = 1) (hm : d < m) (h : Pr n m d a b c e) (hs : b + e ≤ d)
    (hk : k = min ((d - b) / e) ((n * b - a * m) / (c * m - n * e))) (ha : a' = a + k * c) (hb : b' = b + k * e)
    (hk' : k' = min ((d - e) / b') ((c * m - n * e) / (n * b' - a' * m))) (hc : c' = c + k' * a') (he : e' = e + k' * b') :
    Pr n m d a' b' c e ∧ Pr n m d a' b' c' e' ∧ (0 ≤ k ∧ k * e ≤ d) ∧ (0 ≤ k' ∧ k' * b' ≤ d) ∧ b + e < b' + e' := by
  obtain ⟨t1, t2, t3, t4⟩ := Pr.step hg hm h hk
  rw [← ha, ← hb] at t2
  obtain ⟨u1, u2, u3, u4⟩ := Pr.up hg hm t2 hk'
  rw [← hc, ← he] at u2
  refine ⟨t2, u2, ⟨t1, t3⟩, ⟨u1, u3⟩, ?_⟩
  obtain ⟨⟨⟨b1, b2⟩, ⟨e1, e2⟩⟩, _, l1, l2⟩ := h
  obtain ⟨⟨⟨b1', b2'⟩, _⟩, _⟩ := t2
  have v1 := mul_ge (b := e) (x := k) (by omega)
  have v2 := mul_ge (b := b') (x := k') (by omega)
  rw [Int.mul_comm] at v1 v2
  have w1 : 0 ≤ k * e := Int.mul_nonneg t1 (by omega)
  have w2 : 0 ≤ k' * b' := Int.mul_nonneg u1 (by omega)
  by_cases hk1 : 1 ≤ k
  · have := v1 hk1; omega
  · have hk0 : k = 0 := by omega
    subst hk0
    have ea : a' = a := by rw [ha]; omega
    have eb : b' = b := by rw [hb]; omega
    have hyx : ¬ c * m - n * e ≤ n * b - a * m := fun c0 => hk1 (t4 hs c0)
    have : 1 ≤ k' := u4 (by omega) (by rw [ea, eb]; omega)
    have := v2 this
    omega
theorem pr_start {n m d : Int} (hg : Nat.gcd n.natAbs m.natAbs = 1) (hm : d < m) (hd : 1 ≤ d) : Pr n m d (n / m) 1 (n / m + 1) 1 := by
  have e1 := Int.mul_ediv_add_emod n m
  have e2 := Int.emod_nonneg n (b := m) (by omega)
  have e3 := Int.emod_lt_of_pos n (b := m) (by omega)
  have hit := no_hit (a := n / m) hg hm (show (1 : Int) ≤ 1 by omega) (by omega)
  rw [Int.mul_comm] at e1
  refine ⟨⟨⟨by omega, by omega⟩, ⟨by omega, by omega⟩⟩, by omega, by omega, by rw [Int.add_mul, Int.one_mul]; omega⟩
theorem pr_bd {n m d a b c e : Int} (hm : d < m) (h : Pr n m d a b c e) (hn : -1000000000 ≤ n ∧ n ≤ 1000000000) :
    (-1000000000 ≤ a ∧ a ≤ 1000000000) ∧ (-1000000000 ≤ c ∧ c ≤ 1000000000) ∧ (n * b - a * m ≤ m ∧ c * m - n * e ≤ m) :=
  nb_bd hm h.1 h.2.1 h.2.2.1 h.2.2.2 hn
end Go.Proofs.Ytpgnbjlpkpmpcaa.M
