import Derived.Test.YtpgnbjlpkpmpcaaZa
import Derived.Deep.DeepCutAuto
namespace Go.Proofs.Ytpgnbjlpkpmpcaa.R
open Go.RowKit Go.Proofs.Ytpgnbjlpkpmpcaa.N
/-- the sum by its parts -/
def addS (s1 s2 : Bool) (x y d : Nat) : Rat := if s1 = s2 then mk s1 (x + y) d else if y ≤ x then mk s1 (x - y) d else mk s2 (y - x) d
theorem add_parts (p q : Rat) : addS (decide (p.num < 0)) (decide (q.num < 0)) (p.num.natAbs * q.den) (q.num.natAbs * p.den) (p.den * q.den) = p + q := by
  have hp := p.den_pos
  have hq := q.den_pos
  have e : p + q = Rat.divInt (p.num * q.den + q.num * p.den) (p.den * q.den) := by
    conv => lhs; rw [← M.divInt_num_den p, ← M.divInt_num_den q]
    rw [Rat.divInt_add_divInt _ _ (by omega) (by omega)]
  rw [e]
  unfold addS mk
  have hx : ((p.num.natAbs * q.den : Nat) : Int) = (p.num.natAbs : Int) * q.den := Int.natCast_mul _ _
  have hy : ((q.num.natAbs * p.den : Nat) : Int) = (q.num.natAbs : Int) * p.den := Int.natCast_mul _ _
  have hd : ((p.den * q.den : Nat) : Int) = (p.den : Int) * q.den := Int.natCast_mul _ _
  rw [hd]
  by_cases ha : p.num < 0 <;> by_cases hb : q.num < 0
  · have h1 : p.num * q.den = -((p.num.natAbs : Int) * q.den) := by rw [Int.ofNat_natAbs_of_nonpos (by omega), Int.neg_mul, Int.neg_neg]
    have h2 : q.num * p.den = -((q.num.natAbs : Int) * p.den) := by rw [Int.ofNat_natAbs_of_nonpos (by omega), Int.neg_mul, Int.neg_neg]
    simp only [ha, hb, decide_true, if_true]
    congr 1; rw [h1, h2]; omega
  · have h1 : p.num * q.den = -((p.num.natAbs : Int) * q.den) := by rw [Int.ofNat_natAbs_of_nonpos (by omega), Int.neg_mul, Int.neg_neg]
    have h2 : q.num * p.den = ((q.num.natAbs : Int) * p.den) := by rw [Int.natAbs_of_nonneg (by omega)]
    simp only [ha, hb, decide_true, decide_false, Bool.true_eq_false, if_false, Bool.false_eq_true, if_true]
    split <;> (congr 1; rw [h1, h2]; omega)
  · have h1 : p.num * q.den = ((p.num.natAbs : Int) * q.den) := by rw [Int.natAbs_of_nonneg (by omega)]
    have h2 : q.num * p.den = -((q.num.natAbs : Int) * p.den) := by rw [Int.ofNat_natAbs_of_nonpos (by omega), Int.neg_mul, Int.neg_neg]
    simp only [ha, hb, decide_true, decide_false, if_false, Bool.false_eq_true, if_true]
    split <;> (congr 1; rw [h1, h2]; omega)
  · have h1 : p.num * q.den = ((p.num.natAbs : Int) * q.den) := by rw [Int.natAbs_of_nonneg (by omega)]
    have h2 : q.num * p.den = ((q.num.natAbs : Int) * p.den) := by rw [Int.natAbs_of_nonneg (by omega)]
    simp only [ha, hb, decide_false, Bool.false_eq_true, if_false, if_true]
    congr 1; rw [h1, h2]; omega
theorem rn_drew {w : World} {v : Value} {n : Nat} (h : Hid (RN w v n)) : Hid (RN w.drew v n) := h
theorem r3_drewN {w0 w w4 : World} {s k : Nat} (h : Hid (R3 w0 s w)) (hw : w4 = w.drewN k) : Hid (R3 w0 s w4) := by
  rw [hw]; obtain ⟨a, b, c, d⟩ := h.out
  exact hide ⟨a, b, c, below_drewN d k⟩
theorem pow_sum {a b k : Nat} (h1 : a < B ^ (2 * k)) (h2 : b < B ^ (2 * k)) : a + b < B ^ (2 * k + 1) := by
  rw [Nat.pow_succ]
  have : B ^ (2 * k) * 2 ≤ B ^ (2 * k) * B := Nat.mul_le_mul_left _ (by decide)
  omega
theorem times_is (a b c : Nat) (va vb : Value) (w : World) (ha : RN w va a) (hb : RN w vb b) (sa : Hid (Sm a)) (sb : Hid (Sm b)) (hc : Hid (c = a * b)) : Calls Try.prog 93 #[va, vb] w (RetN w c) := by
  rw [hc.out]; exact times_any a b va vb w ha hb sa.out sb.out
set_option maxRecDepth 20000 in
set_option maxHeartbeats 2000000 in
theorem plus_q (k : Nat) (p q : Rat) (vp vq : Value) (w : World) (hp : RQ w vp p) (hq : RQ w vq q) (bp : Bq k p) (bq : Bq k q) (hk : Half k) : Calls Try.prog 51 #[vp, vq] w (RetQ w (p + q)) := by
  obtain ⟨ao, la, ca, bo, lb, cb, rfl, a1, a2⟩ := hp
  obtain ⟨co, lc, cc, d0, ld, cd, rfl, a3, a4⟩ := hq
  have H1 := hide a1; clear a1
  have H2 := hide a2; clear a2
  have H3 := hide a3; clear a3
  have H4 := hide a4; clear a4
  unfold Half at hk
  have m1 := pow_lt_mul bp.1 bq.2
  have m2 := pow_lt_mul bq.1 bp.2
  have m3 := pow_lt_mul bp.2 bq.2
  have S1 := hide (sm_of bp.1 (by omega))
  have S2 := hide (sm_of bp.2 (by omega))
  have S3 := hide (sm_of bq.1 (by omega))
  have S4 := hide (sm_of bq.2 (by omega))
  have HD : Hid (¬ p.den * q.den = 0) := hide (by have := p.den_pos; have := q.den_pos; exact Nat.mul_ne_zero (by omega) (by omega))
  have HE := hide (add_parts p q)
  have SX := hide (sh_of m1 (by omega))
  have SY := hide (sh_of m2 (by omega))
  have SD := hide (sh_of m3 (by omega))
  have SS := hide (sh_of (pow_sum m1 m2) (by omega))
  clear m1 m2 m3 bp bq hk
  generalize p.num.natAbs = n1 at *
  generalize q.num.natAbs = n3 at *
  generalize p.den = n2 at *
  generalize q.den = n4 at *
  generalize decide (p.num < 0) = s1 at *
  generalize decide (q.num < 0) = s2 at *
  obtain ⟨r, hr⟩ : ∃ r, Hid (r = p + q) := ⟨_, rfl⟩
  rw [← hr.out] at HE ⊢
  clear hr
  obtain ⟨nx, hnx⟩ : ∃ z, Hid (z = n1 * n4) := ⟨_, rfl⟩
  obtain ⟨ny, hny⟩ : ∃ z, Hid (z = n3 * n2) := ⟨_, rfl⟩
  obtain ⟨nd, hnd⟩ : ∃ z, Hid (z = n2 * n4) := ⟨_, rfl⟩
  rw [← hnx.out] at SX SS HE
  rw [← hny.out] at SY SS HE
  rw [← hnd.out] at SD HD HE
  go_enter Try.func51, Try.ntmps51
  go_wp2_with fail
  obtain ⟨W, hW⟩ : ∃ W, W = boxed w s1 s2 ao bo co d0 la ca lb cb lc cc ld cd := ⟨_, rfl⟩
  obtain ⟨c1, c2, c3, c4, c5, c6⟩ := boxed_cells w s1 s2 ao bo co d0 la ca lb cb lc cc ld cd W hW
  have hR := boxed_r3 w s1 s2 ao bo co d0 la ca lb cb lc cc ld cd
  rw [← hW] at hR
  unfold boxed at hW
  rw [← hW]
  clear hW
  go_region_held3 (fun w' => w'.cell? ⟨w.heap.size, 0, none⟩ = some (.bool s1) ∧ w'.cell? ⟨w.heap.size, 1, none⟩ = some (.slice ao la ca) ∧ w'.cell? ⟨w.heap.size, 2, none⟩ = some (.slice bo lb cb) ∧ w'.cell? ⟨w.heap.size + 1, 0, none⟩ = some (.bool s2) ∧ w'.cell? ⟨w.heap.size + 1, 1, none⟩ = some (.slice co lc cc) ∧ w'.cell? ⟨w.heap.size + 1, 2, none⟩ = some (.slice d0 ld cd) ∧ Hid (R3 w (w.heap.size + 1 + 1) w'))
    ((go_split_ands; (first | dsimp only | skip); refine ⟨?_, ?_, ?_, ?_, ?_, ?_, ?_⟩ <;> first | with_reducible assumption | (simp only [World.cell?_drew]; with_reducible assumption) | (with_reducible exact kc hbw ‹_›) | (with_reducible exact r3_drew ‹_›) | (with_reducible exact r3_step ‹_› hbw)))
    (first | (go_at_call_of 93 ao; go_split_ands; refine (times_is n1 n4 nx _ _ _ (H1.out.below (r3_b ‹_›)) (H4.out.below (r3_b ‹_›)) S1 S4 hnx).mono ?_; rintro e w' ⟨x, rfl, hx, hbw⟩) | (go_at_call_of 93 co; go_split_ands; refine (times_is n3 n2 ny _ _ _ (H3.out.below (r3_b ‹_›)) (H2.out.below (r3_b ‹_›)) S3 S2 hny).mono ?_; rintro e w' ⟨y, rfl, hy, hbw⟩; have hx := hx.below hbw) | (go_at_call_of 93 bo; go_split_ands; refine (times_is n2 n4 nd _ _ _ (H2.out.below (r3_b ‹_›)) (H4.out.below (r3_b ‹_›)) S2 S4 hnd).mono ?_; rintro e w' ⟨d, rfl, hd, hbw⟩; have hx := hx.below hbw; have hy := hy.below hbw))
  have hrw : Hid (R3 w (w.heap.size + 1 + 1) w') := by go_split_ands; with_reducible assumption
  have e1 : w'.cell? ⟨w.heap.size, 0, none⟩ = some (.bool s1) := by go_split_ands; with_reducible assumption
  have e2 : w'.cell? ⟨w.heap.size + 1, 0, none⟩ = some (.bool s2) := by go_split_ands; with_reducible assumption
  have HX := hide hx
  have HY := hide hy
  have HDD := hide hd
  by_cases hs : s1 = s2
  · have HF : Hid (r = mk s1 (nx + ny) nd) := by rw [← HE.out]; exact hide (by unfold addS; rw [if_pos hs])
    subst hs
    go_wp2_with fail
    go_region_held3 (fun w' => w'.cell? ⟨w.heap.size, 0, none⟩ = some (.bool s1) ∧ Hid (R3 w (w.heap.size + 1 + 1) w'))
      ((go_split_ands; (first | dsimp only | skip); refine ⟨?_, ?_⟩ <;> first | with_reducible assumption | (simp only [World.cell?_drew]; with_reducible assumption) | (with_reducible exact kc hbw ‹_›) | (with_reducible exact r3_drew ‹_›) | (with_reducible exact r3_step ‹_› hbw) | (with_reducible exact r3_set ‹_› _ _ _ _ _ _ _) | (go_simp; done)))
      (first | (go_at_call 94; refine (plus_any nx ny _ _ _ (rn_drew HX).out (rn_drew HY).out (sh_sm SX.out) (sh_sm SY.out)).mono ?_; rintro e w' ⟨z, rfl, hz, hbw, _⟩; have hd := (rn_drew HDD).out.below hbw) | (go_at_call 92; go_split_ands; refine (made_is _ (nx + ny) nd _ _ _ r hz hd SS SD HD.out HF).mono ?_; rintro e w' ⟨z, rfl, hzz, hbw⟩; have hr3 := r3_step ‹_› hbw; obtain ⟨⟨⟨u0, g0, _⟩, ⟨u1, g1, _⟩, ⟨u2, g2, _⟩⟩, ⟨g3, g4, g5⟩, _⟩ := hr3.out; obtain ⟨p1, p2, p3, p4, p5, p6, rfl, hz1, hz2⟩ := hzz))
    go_wp2_with fail
    refine bodyPost_ret (v := .agg #[.bool (decide (r.num < 0)), .slice p1 p2 p3, .slice p4 p5 p6]) (by simp [results, Try.results51, go_sem, g0, g1, g2]) rfl ⟨_, rfl, rq_stored ⟨p1, p2, p3, p4, p5, p6, rfl, hz1, hz2⟩ hr3, ?_⟩
    exact bs (bs (bs (r3_b hr3) (by simp only []; omega) _) (by simp only []; omega) _) (by simp only []; omega) _

  · have hs' : (s1 == s2) = false := by simpa using hs
    go_wp2_with fail
    obtain ⟨sg, esg⟩ : ∃ sg, Hid (sg = Int.sign ((nx : Int) - (ny : Int))) := ⟨_, rfl⟩
    refine (compare_any nx ny _ _ _ HX.out HY.out (sh_sm SX.out) sg esg).mono ?_
    rintro e w4 ⟨rfl, dn, hw4⟩
    have hrw4 : Hid (R3 w (w.heap.size + 1 + 1) w4) := r3_drewN hrw hw4
    have e14 : w4.cell? ⟨w.heap.size, 0, none⟩ = some (.bool s1) := by rw [hw4]; exact e1
    have e24 : w4.cell? ⟨w.heap.size + 1, 0, none⟩ = some (.bool s2) := by rw [hw4]; exact e2
    have HX4 := rn_drewN HX hw4
    have HY4 := rn_drewN HY hw4
    have HD4 := rn_drewN HDD hw4
    clear hw4 e1 e2 hrw
    by_cases hge : ny ≤ nx
    · have HF : Hid (r = mk s1 (nx - ny) nd) := by rw [← HE.out]; exact hide (by unfold addS; rw [if_neg hs, if_pos hge])
      have HSZ : Hid (Sh (nx - ny)) := hide (Nat.lt_of_le_of_lt (Nat.sub_le _ _) SX.out)
      have HLE : Hid (ny ≤ nx) := hide (by omega)
      have hsg : (0 : Int) ≤ sg := by rw [esg.out]; exact sign_ge hge
      clear hge
      go_wp2_with fail
      go_region_held3 (fun w' => w'.cell? ⟨w.heap.size, 0, none⟩ = some (.bool s1) ∧ Hid (R3 w (w.heap.size + 1 + 1) w'))
        ((go_split_ands; (first | dsimp only | skip); refine ⟨?_, ?_⟩ <;> first | with_reducible assumption | (simp only [World.cell?_drew]; with_reducible assumption) | (with_reducible exact kc hbw ‹_›) | (with_reducible exact r3_drew ‹_›) | (with_reducible exact r3_step ‹_› hbw) | (with_reducible exact r3_set ‹_› _ _ _ _ _ _ _) | (go_simp; done)))
        (first | (go_at_call 96; refine (less_any nx ny _ _ _ (rn_drew HX4).out (rn_drew HY4).out (sh_sm SX.out) HLE.out).mono ?_; rintro e w' ⟨z, rfl, hz, hbw, _⟩; have hd := (rn_drew HD4).out.below hbw) | (go_at_call 92; go_split_ands; refine (made_is _ (nx - ny) nd _ _ _ r hz hd HSZ SD HD.out HF).mono ?_; rintro e w' ⟨z, rfl, hzz, hbw⟩; have hr3 := r3_step ‹_› hbw; obtain ⟨⟨⟨u0, g0, _⟩, ⟨u1, g1, _⟩, ⟨u2, g2, _⟩⟩, ⟨g3, g4, g5⟩, _⟩ := hr3.out; obtain ⟨p1, p2, p3, p4, p5, p6, rfl, hz1, hz2⟩ := hzz))
      go_wp2_with fail
      refine bodyPost_ret (v := .agg #[.bool (decide (r.num < 0)), .slice p1 p2 p3, .slice p4 p5 p6]) (by simp [results, Try.results51, go_sem, g0, g1, g2]) rfl ⟨_, rfl, rq_stored ⟨p1, p2, p3, p4, p5, p6, rfl, hz1, hz2⟩ hr3, ?_⟩
      exact bs (bs (bs (r3_b hr3) (by simp only []; omega) _) (by simp only []; omega) _) (by simp only []; omega) _
    · have HF : Hid (r = mk s2 (ny - nx) nd) := by rw [← HE.out]; exact hide (by unfold addS; rw [if_neg hs, if_neg hge])
      have HSZ : Hid (Sh (ny - nx)) := hide (Nat.lt_of_le_of_lt (Nat.sub_le _ _) SY.out)
      have HLE : Hid (nx ≤ ny) := hide (by omega)
      have hsg : sg < 0 := by rw [esg.out]; rw [Int.sign_eq_neg_one_of_neg (by omega)]; decide
      clear hge
      go_wp2_with fail
      go_region_held3 (fun w' => w'.cell? ⟨w.heap.size + 1, 0, none⟩ = some (.bool s2) ∧ Hid (R3 w (w.heap.size + 1 + 1) w'))
        ((go_split_ands; (first | dsimp only | skip); refine ⟨?_, ?_⟩ <;> first | with_reducible assumption | (simp only [World.cell?_drew]; with_reducible assumption) | (with_reducible exact kc hbw ‹_›) | (with_reducible exact r3_drew ‹_›) | (with_reducible exact r3_step ‹_› hbw) | (with_reducible exact r3_set ‹_› _ _ _ _ _ _ _) | (go_simp; done)))
        (first | (go_at_call 96; refine (less_any ny nx _ _ _ (rn_drew HY4).out (rn_drew HX4).out (sh_sm SY.out) HLE.out).mono ?_; rintro e w' ⟨z, rfl, hz, hbw, _⟩; have hd := (rn_drew HD4).out.below hbw) | (go_at_call 92; go_split_ands; refine (made_is _ (ny - nx) nd _ _ _ r hz hd HSZ SD HD.out HF).mono ?_; rintro e w' ⟨z, rfl, hzz, hbw⟩; have hr3 := r3_step ‹_› hbw; obtain ⟨⟨⟨u0, g0, _⟩, ⟨u1, g1, _⟩, ⟨u2, g2, _⟩⟩, ⟨g3, g4, g5⟩, _⟩ := hr3.out; obtain ⟨p1, p2, p3, p4, p5, p6, rfl, hz1, hz2⟩ := hzz))
      go_wp2_with fail
      refine bodyPost_ret (v := .agg #[.bool (decide (r.num < 0)), .slice p1 p2 p3, .slice p4 p5 p6]) (by simp [results, Try.results51, go_sem, g0, g1, g2]) rfl ⟨_, rfl, rq_stored ⟨p1, p2, p3, p4, p5, p6, rfl, hz1, hz2⟩ hr3, ?_⟩
      exact bs (bs (bs (r3_b hr3) (by simp only []; omega) _) (by simp only []; omega) _) (by simp only []; omega) _
end Go.Proofs.Ytpgnbjlpkpmpcaa.R
