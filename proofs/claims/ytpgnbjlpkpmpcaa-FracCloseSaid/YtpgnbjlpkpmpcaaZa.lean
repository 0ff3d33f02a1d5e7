import Derived.Test.YtpgnbjlpkpmpcaaZ
import Derived.Deep.RegionHeld3
namespace Go.Proofs.Ytpgnbjlpkpmpcaa.R
open Go.RowKit Go.Proofs.Ytpgnbjlpkpmpcaa.N
theorem sgn_split (a : Int) : a = (if decide (a < 0) = true then -(a.natAbs : Int) else (a.natAbs : Int)) := by
  by_cases h : a < 0
  · simp [h]; omega
  · simp [h]; omega
theorem mk_div (p q : Rat) (h0 : q ≠ 0) : mk (decide (p.num < 0) != decide (q.num < 0)) (p.num.natAbs * q.den) (p.den * q.num.natAbs) = p / q := by
  unfold mk
  have hq : q.num ≠ 0 := fun c => h0 (Rat.num_eq_zero.1 c)
  have hp := p.den_pos
  have hqd := q.den_pos
  conv => rhs; rw [← M.divInt_num_den p, ← M.divInt_num_den q, Rat.div_def, Rat.inv_divInt, Rat.divInt_mul_divInt]
  rw [Rat.divInt_eq_divInt_iff (by rw [Int.natCast_mul]; exact Int.mul_ne_zero (by omega) (by omega)) (Int.mul_ne_zero (by omega) hq)]
  rw [Int.natCast_mul, Int.natCast_mul]
  generalize p.num = a
  generalize q.num = b at *
  generalize (p.den : Int) = c
  generalize (q.den : Int) = d
  by_cases ha : a < 0 <;> by_cases hb : b < 0
  · simp [ha, hb]; rw [Int.ofNat_natAbs_of_nonpos (by omega), Int.ofNat_natAbs_of_nonpos (by omega)]; grind
  · simp [ha, hb]; rw [Int.ofNat_natAbs_of_nonpos (by omega), Int.natAbs_of_nonneg (by omega)]; grind
  · simp [ha, hb]; rw [Int.natAbs_of_nonneg (by omega), Int.ofNat_natAbs_of_nonpos (by omega)]; grind
  · simp [ha, hb]; rw [Int.natAbs_of_nonneg (by omega), Int.natAbs_of_nonneg (by omega)]
set_option maxRecDepth 20000 in
set_option maxHeartbeats 2000000 in
theorem over_q (k : Nat) (p q : Rat) (vp vq : Value) (w : World) (hp : RQ w vp p) (hq : RQ w vq q) (bp : Bq k p) (bq : Bq k q) (hk : Half k) (h0 : q ≠ 0) : Calls Try.prog 49 #[vp, vq] w (RetQ w (p / q)) := by
  obtain ⟨ao, la, ca, bo, lb, cb, rfl, a1, a2⟩ := hp
  obtain ⟨co, lc, cc, d0, ld, cd, rfl, a3, a4⟩ := hq
  have H1 := hide a1; clear a1
  have H2 := hide a2; clear a2
  have H3 := hide a3; clear a3
  have H4 := hide a4; clear a4
  unfold Half at hk
  have m1 := pow_lt_mul bp.1 bq.2
  have m2 := pow_lt_mul bp.2 bq.1
  have S1 := hide (sm_of bp.1 (by omega))
  have S2 := hide (sm_of bp.2 (by omega))
  have S3 := hide (sm_of bq.1 (by omega))
  have S4 := hide (sm_of bq.2 (by omega))
  have S5 := hide (sh_of m1 (by omega))
  have S6 := hide (sh_of m2 (by omega))
  clear m1 m2 bp bq hk
  have HE := hide (mk_div p q h0)
  have HD : Hid (¬ p.den * q.num.natAbs = 0) := hide (by have := p.den_pos; have h2 : q.num ≠ 0 := fun c => h0 (Rat.num_eq_zero.1 c); exact Nat.mul_ne_zero (by omega) (by omega))
  clear h0
  generalize p.num.natAbs = n1 at *
  generalize q.num.natAbs = n3 at *
  generalize p.den = n2 at *
  generalize q.den = n4 at *
  generalize decide (p.num < 0) = s1 at *
  generalize decide (q.num < 0) = s2 at *
  obtain ⟨r, hr⟩ : ∃ r, Hid (r = p / q) := ⟨_, rfl⟩
  rw [← hr.out] at HE ⊢
  have HR : Hid (∀ neg : Bool, neg = (s1 != s2) → Hid (r = mk neg (n1 * n4) (n2 * n3))) := hide (fun neg h => by rw [h, HE.out]; exact rfl)
  clear HE hr
  go_enter Try.func49, Try.ntmps49
  go_wp2_with fail
  obtain ⟨W, hW⟩ : ∃ W, W = boxed w s1 s2 ao bo co d0 la ca lb cb lc cc ld cd := ⟨_, rfl⟩
  obtain ⟨c1, c2, c3, c4, c5, c6⟩ := boxed_cells w s1 s2 ao bo co d0 la ca lb cb lc cc ld cd W hW
  have hR := boxed_r3 w s1 s2 ao bo co d0 la ca lb cb lc cc ld cd
  rw [← hW] at hR
  unfold boxed at hW
  rw [← hW]
  clear hW
  go_region_held3 (fun w' => w'.cell? ⟨w.heap.size, 0, none⟩ = some (.bool s1) ∧ w'.cell? ⟨w.heap.size, 1, none⟩ = some (.slice ao la ca) ∧ w'.cell? ⟨w.heap.size, 2, none⟩ = some (.slice bo lb cb) ∧ w'.cell? ⟨w.heap.size + 1, 0, none⟩ = some (.bool s2) ∧ w'.cell? ⟨w.heap.size + 1, 1, none⟩ = some (.slice co lc cc) ∧ w'.cell? ⟨w.heap.size + 1, 2, none⟩ = some (.slice d0 ld cd) ∧ Hid (R3 w (w.heap.size + 1 + 1) w'))
    ((go_split_ands; (first | dsimp only | skip); refine ⟨?_, ?_, ?_, ?_, ?_, ?_, ?_⟩ <;> first | with_reducible assumption | (simp only [World.cell?_drew]; with_reducible assumption) | (with_reducible exact kc hbw ‹_›) | (with_reducible exact r3_drew ‹_›) | (with_reducible exact r3_step ‹_› hbw) | (with_reducible exact r3_set ‹_› _ _ _ _ _ _ _) | (go_simp; done)))
    (first | (go_at_call_of 93 ao; go_split_ands; refine (times_any n1 n4 _ _ _ (H1.out.below (r3_b ‹_›)) (H4.out.below (r3_b ‹_›)) S1.out S4.out).mono ?_; rintro e w' ⟨x, rfl, hx, hbw⟩) | (go_at_call_of 93 bo; go_split_ands; refine (times_any n2 n3 _ _ _ (H2.out.below (r3_b ‹_›)) (H3.out.below (r3_b ‹_›)) S2.out S3.out).mono ?_; rintro e w' ⟨y, rfl, hy, hbw⟩) | (go_at_call 92; go_split_ands; refine (made_is _ (n1 * n4) (n2 * n3) _ _ _ r (hx.below hbw) hy S5 S6 HD.out (HR.out _ (neg_same _ _))).mono ?_; rintro e w' ⟨z, rfl, hz, hbw⟩; have hr3 := r3_step ‹_› hbw; obtain ⟨⟨⟨u0, g0, _⟩, ⟨u1, g1, _⟩, ⟨u2, g2, _⟩⟩, ⟨g3, g4, g5⟩, _⟩ := hr3.out; obtain ⟨p1, p2, p3, p4, p5, p6, rfl, hz1, hz2⟩ := hz))
  go_wp2_with fail
  refine bodyPost_ret (v := .agg #[.bool (decide (r.num < 0)), .slice p1 p2 p3, .slice p4 p5 p6]) (by simp [results, Try.results49, go_sem, g0, g1, g2]) rfl ⟨_, rfl, rq_stored ⟨p1, p2, p3, p4, p5, p6, rfl, hz1, hz2⟩ hr3, ?_⟩
  exact bs (bs (bs (r3_b hr3) (by simp only []; omega) _) (by simp only []; omega) _) (by simp only []; omega) _
end Go.Proofs.Ytpgnbjlpkpmpcaa.R
