import Derived.Test.YtpgnbjlpkpmpcaaZi
import Derived.Deep.DeepCutAuto
set_option linter.unusedVariables false
namespace Go.Proofs.Ytpgnbjlpkpmpcaa.R
open Go.RowKit Go.Proofs.Ytpgnbjlpkpmpcaa.N
theorem mk1 (neg : Bool) (a : Nat) : mk neg a 1 = (((if neg = true then -(a : Int) else (a : Int)) : Int) : Rat) := by
  unfold mk
  rw [show ((1 : Nat) : Int) = 1 from rfl, Rat.divInt_eq_div]; grind
/-- the whole number below, out of the parts -/
def downS (s : Bool) (n1 n2 : Nat) : Rat := if s = true ∧ n1 % n2 ≠ 0 then mk true (n1 / n2 + 1) 1 else mk s (n1 / n2) 1
theorem down_parts (p : Rat) : downS (decide (p.num < 0)) p.num.natAbs p.den = ((p.num / (p.den : Int) : Int) : Rat) := by
  have hd := p.den_pos
  unfold downS
  generalize p.num = x
  generalize p.den = d at *
  have e := Nat.div_add_mod x.natAbs d
  have e2 := Nat.mod_lt x.natAbs hd
  have e' : (d : Int) * ((x.natAbs / d : Nat) : Int) + ((x.natAbs % d : Nat) : Int) = (x.natAbs : Int) := by exact_mod_cast e
  generalize x.natAbs / d = a at *
  generalize x.natAbs % d = r at *
  by_cases hx : x < 0
  · by_cases hr : r ≠ 0
    · rw [if_pos ⟨by simpa using hx, hr⟩, mk1]
      congr 1
      have := (Int.ediv_emod_unique (a := x) (b := d) (r := (d : Int) - r) (q := -(a : Int) - 1) (by omega)).2 ⟨by rw [Int.mul_sub, Int.mul_neg]; omega, by omega, by omega⟩
      rw [this.1]; simp; omega
    · rw [if_neg (by simp; intro _; omega), mk1]
      congr 1
      have := (Int.ediv_emod_unique (a := x) (b := d) (r := 0) (q := -(a : Int)) (by omega)).2 ⟨by rw [Int.mul_neg]; omega, by omega, by omega⟩
      rw [this.1]; simp [hx]
  · rw [if_neg (by simp [hx]), mk1]
    congr 1
    have := (Int.ediv_emod_unique (a := x) (b := d) (r := r) (q := (a : Int)) (by omega)).2 ⟨by omega, by omega, by omega⟩
    rw [this.1]; simp [hx]
theorem shp {w : World} {v : Value} {n : Nat} (h : RN w v n) : ∃ ao la ca, v = .slice ao la ca ∧ (n = 0 ↔ la = 0) := h.shape
set_option maxRecDepth 20000 in
set_option maxHeartbeats 1000000 in
theorem down_q (k : Nat) (p : Rat) (vp : Value) (w : World) (hp : RQ w vp p) (bp : Bq k p) (hk : Half k) (z : Rat) (hz : Hid (z = ((p.num / (p.den : Int) : Int) : Rat))) : Calls Try.prog 99 #[vp] w (RetQ w z) := by
  obtain ⟨ao, la, ca, bo, lb, cb, rfl, a1, a2⟩ := hp
  have H1 := hide a1; clear a1
  have H2 := hide a2; clear a2
  unfold Half at hk
  have S1 := hide (sm_of bp.1 (by omega))
  have S2 := hide (sh_of bp.2 (by omega))
  have SQ : Hid (Sh (p.num.natAbs / p.den)) := hide (sh_of (k := k) (Nat.lt_of_le_of_lt (Nat.div_le_self _ _) bp.1) (by omega))
  have SQ1 : Hid (Sh (p.num.natAbs / p.den + 1)) := hide (sh_of (k := k + 1) (by
    have h1 := Nat.lt_of_le_of_lt (Nat.div_le_self p.num.natAbs p.den) bp.1
    rw [Nat.pow_succ]
    have h2 : B ^ k * 2 ≤ B ^ k * B := Nat.mul_le_mul_left _ (by decide)
    have h3 : 0 < B ^ k := Nat.pow_pos B_pos
    generalize p.num.natAbs / p.den = y at *
    omega) (by omega))
  have SO : Hid (Sh 1) := hide (sh_two (by decide))
  have HD : Hid (¬ p.den = 0) := hide (by have := p.den_pos; omega)
  have HE : Hid (downS (decide (p.num < 0)) p.num.natAbs p.den = z) := by rw [hz.out]; exact hide (down_parts p)
  clear hz bp hk
  generalize p.num.natAbs = n1 at *
  generalize p.den = n2 at *
  generalize decide (p.num < 0) = s at *
  obtain ⟨a, ha⟩ : ∃ a, Hid (a = n1 / n2) := ⟨_, rfl⟩
  obtain ⟨r, hr⟩ : ∃ r, Hid (r = n1 % n2) := ⟨_, rfl⟩
  have HF : Hid ((if s = true ∧ r ≠ 0 then mk true (a + 1) 1 else mk s a 1) = z) := by rw [ha.out, hr.out]; exact HE
  rw [← ha.out] at SQ SQ1
  clear HE
  go_enter Try.func99, Try.ntmps99
  go_wp2_with fail
  refine (divided_any n1 n2 _ _ _ (H1.out.below (ba (ba (Below.refl _ _) _) _)) (H2.out.below (ba (ba (Below.refl _ _) _) _)) S1 S2 HD.out).mono ?_
  rintro e w1 ⟨u, v, rfl, hu, hv, hb1⟩
  rw [← ha.out] at hu
  rw [← hr.out] at hv
  have hr3 := r3_step (one_r3 w s ao bo la ca lb cb) hb1
  have c0 : w1.cell? ⟨w.heap.size, 0, none⟩ = some (.bool s) := kc hb1 (by simp [go_sem])
  clear hb1 H1 H2 S1 S2 HD ha hr
  obtain ⟨uo, lu, cu, rfl, _⟩ := shp hu
  obtain ⟨vo, lv, cv, rfl, hlv⟩ := shp hv
  have HU := hide hu
  clear hu hv
  by_cases hs : s = true
  · subst hs
    by_cases hl : lv = 0
    · have HZ : Hid (z = mk true a 1) := hide (by have := HF.out; rw [if_neg (fun c => c.2 (hlv.2 hl))] at this; exact this.symm)
      clear HF hlv
      subst hl
      go_wp2_with fail
      refine (made_is true a 1 _ _ _ z (HU.out.below (ba (Below.refl _ _) _)) (rn_one (by simp [go_sem]) (by decide)) SQ SO (by decide) HZ).mono ?_
      rintro e w2 ⟨v2, rfl, hv2, hb2⟩
      have hr3 := r3_step (r3_step hr3 (ba (Below.refl _ _) _)) hb2
      obtain ⟨p1, p2, p3, p4, p5, p6, rfl, hz1, hz2⟩ := hv2
      have HZ1 := hide (And.intro hz1 hz2)
      clear hb2 hz1 hz2 c0
      obtain ⟨⟨⟨u0, g0, _⟩, ⟨u1, g1, _⟩, ⟨u2, g2, _⟩⟩, ⟨g3, g4, g5⟩, _⟩ := hr3.out
      go_wp2_with fail
      refine bodyPost_ret (v := .agg #[.bool (decide (z.num < 0)), .slice p1 p2 p3, .slice p4 p5 p6]) (by simp [results, Try.results99, go_sem, g0, g1, g2]) rfl ⟨_, rfl, rq_stored ⟨p1, p2, p3, p4, p5, p6, rfl, HZ1.out.1, HZ1.out.2⟩ hr3, ?_⟩
      exact bs (bs (bs (r3_b hr3) (by simp only []; omega) _) (by simp only []; omega) _) (by simp only []; omega) _
    · have HZ : Hid (z = mk true (a + 1) 1) := hide (by have := HF.out; rw [if_pos ⟨rfl, fun c => hl (hlv.1 c)⟩] at this; exact this.symm)
      have hl1 : 0 < lv := by omega
      have hl2 : (0 : Int) < (lv : Int) := by omega
      clear HF hlv hl
      go_wp2_with fail
      refine (plus_any a 1 _ _ _ (HU.out.below (ba (Below.refl _ _) _)) (rn_one (by simp [go_sem]) (by decide)) (sh_sm SQ.out) (sh_sm SO.out)).mono ?_
      rintro e w2 ⟨v2, rfl, hv2, hb2, _⟩
      have hb2' := bt (ba (Below.refl w1.heap.size w1) _) hb2
      have hr3 := r3_step hr3 hb2'
      have c0' := kc hb2' c0
      have HU2 := hide hv2
      clear hb2 hb2' hv2 c0
      go_wp2_with fail
      refine (made_is true (a + 1) 1 _ _ _ z (HU2.out.below (ba (Below.refl _ _) _)) (rn_one (by simp [go_sem]) (by decide)) SQ1 SO (by decide) HZ).mono ?_
      rintro e w3 ⟨v3, rfl, hv3, hb3⟩
      have hr3 := r3_step (r3_step hr3 (ba (Below.refl _ _) _)) hb3
      obtain ⟨p1, p2, p3, p4, p5, p6, rfl, hz1, hz2⟩ := hv3
      have HZ1 := hide (And.intro hz1 hz2)
      clear hb3 hz1 hz2 c0'
      obtain ⟨⟨⟨u0, g0, _⟩, ⟨u1, g1, _⟩, ⟨u2, g2, _⟩⟩, ⟨g3, g4, g5⟩, _⟩ := hr3.out
      go_wp2_with fail
      refine bodyPost_ret (v := .agg #[.bool (decide (z.num < 0)), .slice p1 p2 p3, .slice p4 p5 p6]) (by simp [results, Try.results99, go_sem, g0, g1, g2]) rfl ⟨_, rfl, rq_stored ⟨p1, p2, p3, p4, p5, p6, rfl, HZ1.out.1, HZ1.out.2⟩ hr3, ?_⟩
      exact bs (bs (bs (r3_b hr3) (by simp only []; omega) _) (by simp only []; omega) _) (by simp only []; omega) _
  · obtain rfl : s = false := by simpa using hs
    have HZ : Hid (z = mk false a 1) := hide (by have := HF.out; rw [if_neg (fun c => hs c.1)] at this; exact this.symm)
    clear HF hlv hs
    go_wp2_with fail
    refine (made_is false a 1 _ _ _ z (HU.out.below (ba (Below.refl _ _) _)) (rn_one (by simp [go_sem]) (by decide)) SQ SO (by decide) HZ).mono ?_
    rintro e w2 ⟨v2, rfl, hv2, hb2⟩
    have hr3 := r3_step (r3_step hr3 (ba (Below.refl _ _) _)) hb2
    obtain ⟨p1, p2, p3, p4, p5, p6, rfl, hz1, hz2⟩ := hv2
    have HZ1 := hide (And.intro hz1 hz2)
    clear hb2 hz1 hz2 c0
    obtain ⟨⟨⟨u0, g0, _⟩, ⟨u1, g1, _⟩, ⟨u2, g2, _⟩⟩, ⟨g3, g4, g5⟩, _⟩ := hr3.out
    go_wp2_with fail
    refine bodyPost_ret (v := .agg #[.bool (decide (z.num < 0)), .slice p1 p2 p3, .slice p4 p5 p6]) (by simp [results, Try.results99, go_sem, g0, g1, g2]) rfl ⟨_, rfl, rq_stored ⟨p1, p2, p3, p4, p5, p6, rfl, HZ1.out.1, HZ1.out.2⟩ hr3, ?_⟩
    exact bs (bs (bs (r3_b hr3) (by simp only []; omega) _) (by simp only []; omega) _) (by simp only []; omega) _
end Go.Proofs.Ytpgnbjlpkpmpcaa.R
