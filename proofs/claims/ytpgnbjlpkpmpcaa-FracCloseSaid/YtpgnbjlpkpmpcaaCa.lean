import Derived.Test.YtpgnbjlpkpmpcaaZu
import Derived.Test.YtpgnbjlpkpmpcaaZr
set_option linter.unusedVariables false
namespace Go.Proofs.Ytpgnbjlpkpmpcaa.R
open Go.RowKit Go.Proofs.Ytpgnbjlpkpmpcaa.N
theorem num_neg {q : Rat} : q.num < 0 ↔ q < 0 := by
  have := @Rat.num_nonneg q
  rw [← Rat.not_le, ← this]; omega
theorem num_pos {q : Rat} : 0 < q.num ↔ 0 < q := by
  have h1 := @Rat.num_nonneg q
  have h2 := @Rat.num_eq_zero q
  rw [Rat.lt_iff_le_and_ne, ← h1, ne_comm, ne_eq, ← h2]; omega
theorem div_lt {n d m q : Int} (hd : 0 < d) (hq : 0 < q) : Rat.divInt n d < Rat.divInt m q ↔ n * q < m * d := by
  rw [Rat.lt_iff_sub_pos, ← num_pos, ← M.sub_is hq hd, (M.divInt_num_sign (Int.mul_pos hq hd)).2, Int.neg_mul]; omega
theorem div_le {n d m q : Int} (hd : 0 < d) (hq : 0 < q) : Rat.divInt n d ≤ Rat.divInt m q ↔ n * q ≤ m * d := by
  rw [← Rat.not_lt, div_lt hq hd]; omega
theorem rat_zero : (0 : Rat) = Rat.divInt 0 1 := by decide
theorem rat_one : (1 : Rat) = Rat.divInt 1 1 := by decide
theorem half_sum : Rat.divInt 1 2 + Rat.divInt 1 2 = 1 := by decide +kernel
theorem close (s t p : Rat) (m : Int) (hp : p = s / t) (ht : 0 < t) (hm : modeB m = true) (o : Rat) (ho : o = ((M.rq p m : Int) : Rat) * t - s) :
    ((if o.num < 0 then -o else o) - t).num < 0 ∧ (3 ≤ m → ((if o.num < 0 then -o else o) + (if o.num < 0 then -o else o) - t).num ≤ 0) := by
  have hd : 0 < (p.den : Int) := by have := p.den_pos; omega
  have ht0 : t ≠ 0 := fun c => by rw [c] at ht; exact absurd ht (by decide)
  have hs : s = p * t := by rw [hp, Rat.div_mul_cancel ht0]
  obtain ⟨a, ha⟩ : ∃ a, a = Rat.divInt (rem p) p.den := ⟨_, rfl⟩
  have hpa : p - ((fl p : Int) : Rat) = a := by rw [ha]; exact rest_is p
  have r0 : 0 ≤ rem p := Int.emod_nonneg _ (by omega)
  have r1 : rem p < p.den := Int.emod_lt_of_pos _ hd
  have a0 : 0 ≤ a := by rw [ha, rat_zero, div_le (by omega) hd]; omega
  have a1 : a < 1 := by rw [ha, rat_one, div_lt hd (by omega)]; omega
  obtain ⟨f, hf⟩ : ∃ f : Rat, f = ((fl p : Int) : Rat) := ⟨_, rfl⟩
  rw [← hf] at hpa
  have hh := half_sum
  obtain ⟨h, hhf⟩ : ∃ h : Rat, h = Rat.divInt 1 2 := ⟨_, rfl⟩
  rw [← hhf] at hh
  have hb0 : 0 ≤ a * t := Rat.mul_nonneg a0 (by grind)
  have hb1 : a * t < 1 * t := (Rat.mul_lt_mul_right ht).2 a1
  have hht : h * t + h * t = t := by rw [← Rat.add_mul, hh, Rat.one_mul]
  rw [Rat.one_mul] at hb1
  have hmm := mode_in hm
  cases hup : M.upB p.den (fl p) (rem p) m
  · have hk : M.rq p m = fl p := pick_low hup
    rw [hk, ← hf] at ho
    have hob : o = -(a * t) := by rw [ho, hs]; grind
    have hob2 : (if o.num < 0 then -o else o) = a * t := by
      split
      · grind
      · rename_i c
        rw [num_neg] at c
        grind
    rw [hob2, num_neg]
    refine ⟨by grind, fun h3 => ?_⟩
    have hle : a ≤ h := by
      rw [ha, hhf, div_le hd (by omega)]
      unfold M.upB at hup
      simp only [decide_eq_false_iff_not, not_or, not_and] at hup
      have := hup.2.2.1; have := hup.2.2.2; omega
    have : a * t ≤ h * t := by
      rcases Rat.le_iff_lt_or_eq.1 hle with c | c
      · have := (Rat.mul_lt_mul_right ht).2 c; grind
      · rw [c]; grind
    have : ¬ 0 < (a * t + a * t - t).num := by rw [num_pos]; grind
    omega
  · have hup' : M.upB p.den (fl p) (rem p) m = true ∧ 0 < rem p := by
      refine ⟨hup, ?_⟩
      unfold M.upB at hup
      simp only [decide_eq_true_eq] at hup
      omega
    have hk : M.rq p m = fl p + 1 := by
      have h2 : M.upB p.den (fl p) (rem p) m = decide (0 < rem p) := by rw [hup]; simp [hup'.2]
      rw [pick_high h2]; unfold hi; rw [if_pos hup'.2]
    rw [hk, Rat.intCast_add, ← hf] at ho
    have e1 : ((1 : Int) : Rat) = 1 := rfl
    rw [e1] at ho
    have hob : o = t - a * t := by rw [ho, hs]; grind
    have a2 : 0 < a := by rw [ha, rat_zero, div_lt (by omega) hd]; omega
    have hb2 : 0 < a * t := Rat.mul_pos a2 ht
    have hob2 : (if o.num < 0 then -o else o) = t - a * t := by
      split
      · rename_i c
        rw [num_neg] at c
        grind
      · grind
    rw [hob2, num_neg]
    refine ⟨by grind, fun h3 => ?_⟩
    have hle : h ≤ a := by
      rw [ha, hhf, div_le (by omega) hd]
      have := hup'.1
      unfold M.upB at this
      simp only [decide_eq_true_eq] at this
      omega
    have : h * t ≤ a * t := by
      rcases Rat.le_iff_lt_or_eq.1 hle with c | c
      · have := (Rat.mul_lt_mul_right ht).2 c; grind
      · rw [c]; grind
    have : ¬ 0 < (t - a * t + (t - a * t) - t).num := by rw [num_pos]; grind
    omega
end Go.Proofs.Ytpgnbjlpkpmpcaa.R
