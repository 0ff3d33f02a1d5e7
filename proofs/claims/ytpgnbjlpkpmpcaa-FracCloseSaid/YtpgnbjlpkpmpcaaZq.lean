import Derived.Test.YtpgnbjlpkpmpcaaE
import Derived.Test.YtpgnbjlpkpmpcaaM2
set_option linter.unusedVariables false
namespace Go.Proofs.Ytpgnbjlpkpmpcaa.M
/-- does a mode take the number whose floor is w, r over d above it, to w + 1 -/
def upB (d w r m : Int) : Bool := decide ((m = 1 ∧ 0 < r) ∨ (m = 2 ∧ 0 < r ∧ w < 0) ∨ (m = 3 ∧ d ≤ 2 * r) ∨ (m = 4 ∧ (d < 2 * r ∨ (2 * r = d ∧ w % 2 ≠ 0))))
def rnd (n d m : Int) : Int := if upB d (n / d) (n % d) m = true then n / d + 1 else n / d
/-- the whole number to which a mode rounds -/
def rq (q : Rat) (m : Int) : Int := rnd q.num q.den m
theorem parts {n d : Int} (hd : 0 < d) : ∃ k : Int, 0 < k ∧ n = k * (Rat.divInt n d).num ∧ d = k * ((Rat.divInt n d).den : Int) := by
  have h1 := den_parts (n := n) (d := d) (by omega)
  have hg : Nat.gcd n.natAbs d.natAbs ∣ d.natAbs := Nat.gcd_dvd_right _ _
  have hg0 : 0 < Nat.gcd n.natAbs d.natAbs := Nat.gcd_pos_of_pos_right _ (by omega)
  have h2 : d.natAbs = Nat.gcd n.natAbs d.natAbs * (Rat.divInt n d).den := by rw [h1]; exact (Nat.mul_div_cancel' hg).symm
  have h3 : d = (Nat.gcd n.natAbs d.natAbs : Int) * ((Rat.divInt n d).den : Int) := by
    rw [← Int.natCast_mul, ← h2]; omega
  refine ⟨(Nat.gcd n.natAbs d.natAbs : Int), by omega, ?_, h3⟩
  have e : Rat.divInt (Rat.divInt n d).num (Rat.divInt n d).den = Rat.divInt n d := divInt_num_den _
  have hp : ((Rat.divInt n d).den : Int) ≠ 0 := by have := (Rat.divInt n d).den_pos; omega
  have h4 : (Rat.divInt n d).num * d = n * ((Rat.divInt n d).den : Int) := (Rat.divInt_eq_divInt_iff hp (by omega)).1 e
  generalize (Rat.divInt n d).num = x at *
  generalize ((Rat.divInt n d).den : Int) = y at *
  generalize (Nat.gcd n.natAbs d.natAbs : Int) = g at *
  apply Int.eq_of_mul_eq_mul_right hp
  rw [← h4]
  calc x * d = x * (g * y) := by rw [← h3]
    _ = g * x * y := by rw [← Int.mul_assoc, Int.mul_comm x g]
theorem rnd_scale {n d k : Int} (m : Int) (hk : 0 < k) (hd : 0 < d) : rnd (k * n) (k * d) m = rnd n d m := by
  unfold rnd
  rw [Int.mul_ediv_mul_of_pos _ _ hk, Int.mul_emod_mul_of_pos _ _ hk]
  have e : upB (k * d) (n / d) (k * (n % d)) m = upB d (n / d) (n % d) m := by
    unfold upB
    rw [Bool.eq_iff_iff, decide_eq_true_iff, decide_eq_true_iff]
    generalize n % d = r
    generalize n / d = w
    have h1 : 0 < k * r ↔ 0 < r := by
      have := @Int.mul_le_mul_left k r 0 hk
      rw [Int.mul_zero] at this; omega
    have e2 : 2 * (k * r) = k * (2 * r) := by rw [← Int.mul_assoc, Int.mul_comm 2 k, Int.mul_assoc]
    have h2 : k * d ≤ 2 * (k * r) ↔ d ≤ 2 * r := by rw [e2]; exact Int.mul_le_mul_left hk
    have h3 : k * d < 2 * (k * r) ↔ d < 2 * r := by rw [e2]; exact Int.mul_lt_mul_left hk
    have h4 : 2 * (k * r) = k * d ↔ 2 * r = d := by rw [e2]; exact Int.mul_eq_mul_left_iff (by omega)
    rw [h1, h2, h3, h4]
  rw [e]
theorem rnd_is {n d : Int} (m : Int) (hd : 0 < d) : rnd n d m = rq (Rat.divInt n d) m := by
  obtain ⟨k, hk, h1, h2⟩ := parts (n := n) hd
  have hp : 0 < ((Rat.divInt n d).den : Int) := by have := (Rat.divInt n d).den_pos; omega
  unfold rq
  generalize (Rat.divInt n d).num = x at *
  generalize ((Rat.divInt n d).den : Int) = y at *
  subst h1 h2
  exact rnd_scale m hk hp
end Go.Proofs.Ytpgnbjlpkpmpcaa.M
namespace Go.Proofs.Ytpgnbjlpkpmpcaa
open Go.RowKit
theorem tdiv_zero {n d : Int} (hd : 0 < d) (h : n.tmod d = 0) : n.tdiv d = n / d := by
  rw [Int.tdiv_eq_ediv, if_pos (Or.inr (Int.dvd_of_tmod_eq_zero h))]; omega
theorem tdiv_low {n d : Int} (hd : 0 < d) (hn : n < 0) (h : ¬ n.tmod d = 0) : n.tdiv d - 1 = n / d := by
  rw [Int.tdiv_eq_ediv, if_neg, Int.sign_eq_one_of_pos hd]
  · omega
  · rintro (c | c)
    · omega
    · exact h (Int.tmod_eq_zero_of_dvd c)
theorem tdiv_bd {n d : Int} (h1 : -9223372036854775808 ≤ n) (h2 : n < 0) (h3 : 1 ≤ d) : -9223372036854775808 ≤ n.tdiv d ∧ n.tdiv d ≤ 0 := by
  have e : n.tdiv d = -((-n) / d) := by rw [← Int.tdiv_eq_ediv_of_nonneg (by omega), Int.neg_tdiv, Int.neg_neg]
  have k1 : (-n) / d ≤ -n := Int.ediv_le_self _ (by omega)
  have k2 : 0 ≤ (-n) / d := Int.ediv_nonneg (by omega) (by omega)
  omega
theorem tdiv_lo {n d : Int} (h1 : -9223372036854775808 ≤ n) (hn : n < 0) (h3 : 1 ≤ d) (h : ¬ n.tmod d = 0) : -9223372036854775808 ≤ n.tdiv d - 1 := by
  rw [tdiv_low (by omega) hn h]
  have := Int.le_ediv_iff_mul_le (a := -9223372036854775808) (b := n) (c := d) (by omega)
  rw [this]; omega
set_option maxHeartbeats 400000 in
theorem floor_any (n d : Int) (w : World) (h1 : -9223372036854775808 ≤ n) (h2 : n ≤ 9223372036854775807) (h3 : 1 ≤ d) (h4 : d ≤ 9223372036854775807) :
    Calls Try.prog 97 #[.agg #[.int .i64 n, .int .i64 d]] w fun e w' => e = .returned (.int .i64 (n / d)) ∧ Below w.heap.size w w' := by
  by_cases hn : n < 0
  · by_cases hr : n.tmod d = 0
    · have hr' : (n.tmod d == 0) = true := by simpa using hr
      have hr2 : (n.tmod d != 0) = false := by simpa using hr
      have HE := hide (tdiv_zero (by omega) hr)
      clear hr
      go_enter Try.func97, Try.ntmps97
      go_wp2_with fail
      go_ret
      exact ⟨ret_int HE.out, ba (Below.refl _ _) _⟩
    · have hr' : (n.tmod d == 0) = false := by simpa using hr
      have hr2 : (n.tmod d != 0) = true := by simpa using hr
      have HE := hide (tdiv_low (by omega) hn hr)
      have b1 := tdiv_lo h1 hn h3 hr
      have b2 := tdiv_bd h1 hn h3
      clear hr
      go_enter Try.func97, Try.ntmps97
      go_wp2_with fail
      go_ret
      exact ⟨ret_int HE.out, ba (Below.refl _ _) _⟩
  · go_enter Try.func97, Try.ntmps97
    go_wp2_with fail
    go_ret
    exact ⟨rfl, ba (Below.refl _ _) _⟩
set_option maxHeartbeats 400000 in
theorem ismode_any (m : Int) (w : World) (b : Bool) (hb : Hid (b = decide (0 ≤ m ∧ m ≤ 4))) :
    Calls Try.prog 87 #[.int .i64 m] w fun e w' => e = .returned (.bool b) ∧ w = w' := by
  by_cases h1 : 0 ≤ m
  · by_cases h2 : m ≤ 4
    · obtain rfl : b = true := by rw [hb.out]; simpa using ⟨h1, h2⟩
      go_enter Try.func87, Try.ntmps87
      go_wp2_with fail
      go_ret
      exact ⟨rfl, rfl⟩
    · obtain rfl : b = false := by rw [hb.out]; simpa using fun _ => by omega
      go_enter Try.func87, Try.ntmps87
      go_wp2_with fail
      go_ret
      exact ⟨rfl, rfl⟩
  · obtain rfl : b = false := by rw [hb.out]; simpa using fun h => absurd h h1
    go_enter Try.func87, Try.ntmps87
    go_wp2_with fail
    go_ret
    exact ⟨rfl, rfl⟩
set_option maxHeartbeats 1000000 in
theorem ups_any (n d u r m : Int) (b : Bool) (w : World) (hm : 0 ≤ m ∧ m ≤ 4) (h1 : 1 ≤ d) (h2 : d ≤ 2000000000000000000) (h3 : 0 ≤ r) (h4 : r < d) (h5 : -9223372036854775808 ≤ u) (h6 : u ≤ 9223372036854775807) (hb : Hid (b = M.upB d u r m)) :
    Calls Try.prog 115 #[.agg #[.int .i64 n, .int .i64 d], .int .i64 u, .int .i64 r, .int .i64 m] w fun e w' => e = .returned (.bool b) ∧ Below w.heap.size w w' := by
  have hm' : m = 0 ∨ m = 1 ∨ m = 2 ∨ m = 3 ∨ m = 4 := by omega
  clear hm
  rcases hm' with rfl | rfl | rfl | rfl | rfl
  · obtain rfl : b = false := by rw [hb.out]; simp [M.upB]
    go_enter Try.func115, Try.ntmps115
    go_wp2_with fail
    go_ret
    exact ⟨rfl, ba (Below.refl _ _) _⟩
  · have HB : Hid (decide (0 < r) = b) := hide (by rw [hb.out]; simp [M.upB])
    go_enter Try.func115, Try.ntmps115
    go_wp2_with fail
    go_ret
    exact ⟨ret_bool HB.out, ba (Below.refl _ _) _⟩
  · by_cases hr : 0 < r
    · have HB : Hid (decide (u < 0) = b) := hide (by rw [hb.out]; simp [M.upB, hr])
      go_enter Try.func115, Try.ntmps115
      go_wp2_with fail
      go_ret
      exact ⟨ret_bool HB.out, ba (Below.refl _ _) _⟩
    · obtain rfl : b = false := by rw [hb.out]; simp [M.upB, hr]
      go_enter Try.func115, Try.ntmps115
      go_wp2_with fail
      go_ret
      exact ⟨rfl, ba (Below.refl _ _) _⟩
  · have HB : Hid (decide (d ≤ 2 * r) = b) := hide (by rw [hb.out]; simp [M.upB])
    go_enter Try.func115, Try.ntmps115
    go_wp2_with fail
    go_ret
    exact ⟨ret_bool HB.out, ba (Below.refl _ _) _⟩
  · by_cases hr : d < 2 * r
    · obtain rfl : b = true := by rw [hb.out]; simp [M.upB, hr]
      go_enter Try.func115, Try.ntmps115
      go_wp2_with fail
      go_ret
      exact ⟨rfl, ba (Below.refl _ _) _⟩
    · by_cases he : 2 * r = d
      · have e1 : (2 * r == d) = true := by simpa using he
        by_cases ho : u.tmod 2 = 0
        · have hv := Int.dvd_of_tmod_eq_zero ho
          obtain rfl : b = false := by rw [hb.out]; simp [M.upB]; omega
          clear hv
          have e2 : (u.tmod 2 == 0) = true := by simpa using ho
          have e3 : (u.tmod 2 != 0) = false := by simpa using ho
          clear he ho
          go_enter Try.func115, Try.ntmps115
          go_wp2_with fail
          go_ret
          exact ⟨rfl, ba (Below.refl _ _) _⟩
        · have hv : ¬ (2 : Int) ∣ u := fun c => ho (Int.tmod_eq_zero_of_dvd c)
          obtain rfl : b = true := by rw [hb.out]; simp [M.upB]; omega
          clear hv
          have e2 : (u.tmod 2 == 0) = false := by simpa using ho
          have e3 : (u.tmod 2 != 0) = true := by simpa using ho
          clear he ho
          go_enter Try.func115, Try.ntmps115
          go_wp2_with fail
          go_ret
          exact ⟨rfl, ba (Below.refl _ _) _⟩
      · have e1 : (2 * r == d) = false := by simpa using he
        obtain rfl : b = false := by rw [hb.out]; simp [M.upB]; omega
        clear he
        go_enter Try.func115, Try.ntmps115
        go_wp2_with fail
        go_ret
        exact ⟨rfl, ba (Below.refl _ _) _⟩
end Go.Proofs.Ytpgnbjlpkpmpcaa
