import Derived.Test.YtpgnbjlpkpmpcaaKb
set_option linter.unusedVariables false
namespace Go.Proofs.Ytpgnbjlpkpmpcaa.R
open Go.RowKit Go.Proofs.Ytpgnbjlpkpmpcaa.N
theorem minus_b (p r : Rat) (vp : Value) (w : World) (hp : RQ w vp p) (hr : Hid (r = -p)) : Calls Try.prog 47 #[vp] w (RetQ w r) := by
  rw [hr.out]; exact minus_q p vp w hp
theorem rq_form {w : World} {v : Value} {q : Rat} (h : RQ w v q) : ∃ b x l1 c1 y l2 c2, v = .agg #[.bool b, .slice x l1 c1, .slice y l2 c2] := by
  obtain ⟨ao, la, ca, bo, lb, cb, rfl, _⟩ := h
  exact ⟨_, _, _, _, _, _, _, rfl⟩
theorem p2_all {w0 w : World} {b1 b2 : Bool} {x1 y1 x2 y2 : Option Addr} {l1 c1 m1 e1 l2 c2 m2 e2 : Nat} {a b : Rat}
    (h : Hid (P2 w0 w (.agg #[.bool b1, .slice x1 l1 c1, .slice y1 m1 e1]) (.agg #[.bool b2, .slice x2 l2 c2, .slice y2 m2 e2]) a b)) :
    ((w.cell? ⟨w0.heap.size, 0, none⟩ = some (.bool b1) ∧ w.cell? ⟨w0.heap.size, 1, none⟩ = some (.slice x1 l1 c1) ∧ w.cell? ⟨w0.heap.size, 2, none⟩ = some (.slice y1 m1 e1)) ∧ (w.cell? ⟨w0.heap.size + 1, 0, none⟩ = some (.bool b2) ∧ w.cell? ⟨w0.heap.size + 1, 1, none⟩ = some (.slice x2 l2 c2) ∧ w.cell? ⟨w0.heap.size + 1, 2, none⟩ = some (.slice y2 m2 e2))) ∧
    Hid (P2 w0 w (.agg #[.bool b1, .slice x1 l1 c1, .slice y1 m1 e1]) (.agg #[.bool b2, .slice x2 l2 c2, .slice y2 m2 e2]) a b) := ⟨⟨c3_get h.out.2.1.2, c3_get h.out.2.2.2⟩, h⟩
theorem p2_end {w0 w : World} {va vb : Value} {a b : Rat} (h : Hid (P2 w0 w va vb a b)) (b1 : Bool) (x y : Option Addr) (l1 c1 l2 c2 : Nat) :
    Hid (P2 w0 (((w.setCell ⟨w0.heap.size + 1 + 1, 0, none⟩ (.bool b1)).setCell ⟨w0.heap.size + 1 + 1, 1, none⟩ (.slice x l1 c1)).setCell ⟨w0.heap.size + 1 + 1, 2, none⟩ (.slice y l2 c2)) va vb a b) := by
  have hr := p2_r h
  obtain ⟨r, qa, qb⟩ := h.out
  exact hide ⟨(r3_set hr b1 x y l1 c1 l2 c2).out, qa_r3 qa hr (by omega) _ _ _ _ _ _ _, qa_r3 qb hr (by omega) _ _ _ _ _ _ _⟩
/-- what simple answers -/
def SaRet (w : World) (n d m q : Int) (e : Ending) (w' : World) : Prop := ∃ (x y : Int) (v : Value), e = .returned v ∧ RQ w' v (Rat.divInt x y) ∧ Lst n d m q x y ∧ Below w.heap.size w w'
theorem bq_ok {n d : Int} (h : M.okB n d = true) : Bq 2 (Rat.divInt n d) := bq_frac h
set_option maxRecDepth 100000 in
set_option maxHeartbeats 4000000 in
theorem simple_zero (n d m q : Int) (vp vq : Value) (w : World) (h1 : M.okB n d = true) (h2 : M.okB m q = true) (hn : n ≤ 0) (hm : 0 ≤ m) (hp : RQ w vp (Rat.divInt n d)) (hq : RQ w vq (Rat.divInt m q)) : Calls Try.prog 106 #[vp, vq] w (SaRet w n d m q) := by
  obtain ⟨a, ha⟩ : ∃ a, Hid (a = Rat.divInt n d) := ⟨_, rfl⟩
  obtain ⟨b, hb⟩ : ∃ b, Hid (b = Rat.divInt m q) := ⟨_, rfl⟩
  rw [← ha.out] at hp
  rw [← hb.out] at hq
  have hd := M.okB_pos h1
  have hq0 := M.okB_pos h2
  obtain ⟨sa, hsa⟩ : ∃ s, Hid (s = Int.sign a.num) := ⟨_, rfl⟩
  obtain ⟨sb, hsb⟩ : ∃ s, Hid (s = Int.sign b.num) := ⟨_, rfl⟩
  have hsa0 : sa ≤ 0 := by
    rw [hsa.out, ha.out, sgn_divInt hd]
    rcases Int.lt_or_le 0 (Int.sign n) with c | c
    · have := (M.sign_iff n).2.1 c; omega
    · exact c
  have hsb0 : 0 ≤ sb := by
    rw [hsb.out, hb.out, sgn_divInt hq0]
    rcases Int.lt_or_le (Int.sign m) 0 with c | c
    · have := (M.sign_iff m).1.1 c; omega
    · exact c
  obtain ⟨z, hz⟩ : ∃ z : Rat, Hid (z = ((0 : Int) : Rat)) := ⟨_, rfl⟩
  have HL := hide (lst_zero (n := n) (d := d) (m := m) (q := q) hn hm)
  have h0i : In64 0 := ⟨by decide, by decide⟩
  obtain ⟨s1, p1, p2, p3, p4, p5, p6, rfl⟩ := rq_form hp
  obtain ⟨s2, t1, t2, t3, t4, t5, t6, rfl⟩ := rq_form hq
  have HP := p2_new w s1 s2 p1 p4 t1 t4 p2 p3 p5 p6 t2 t3 t5 t6 a b hp hq
  unfold boxed at HP
  clear hp hq hn hm h1 h2 hd hq0
  go_enter Try.func106, Try.ntmps106
  go_wp2_with fail
  (with_reducible refine (sign_q a _ _ (p2_a HP).1 sa hsa).mono ?_)
  rintro en w1 ⟨rfl, hbw⟩
  have HP1 := p2_step HP hbw
  clear hbw HP
  obtain ⟨_, e3, e4, e5⟩ := p2_b HP1
  go_wp2_with fail
  (with_reducible refine (sign_q b _ _ (p2_b HP1).1 sb hsb).mono ?_)
  rintro en w2 ⟨rfl, hbw⟩
  have HP2 := p2_step HP1 hbw
  clear hbw HP1 e3 e4 e5
  go_wp2_with fail
  (with_reducible refine (int_b 0 _ h0i z hz).mono ?_)
  rintro en w3 ⟨vz, rfl, hvz, hbw⟩
  have HP3 := p2_step HP2 hbw
  obtain ⟨y0, y1, y2, y3, y4, y5, y6, rfl⟩ := rq_form hvz
  have HV := hide hvz
  obtain ⟨⟨⟨u0, g0, _⟩, ⟨u1, g1, _⟩, ⟨u2, g2, _⟩⟩, ⟨k0, k1, k2⟩, _, hbel⟩ := (p2_r HP3).out
  clear hvz hbw
  go_wp2_with fail
  refine bodyPost_ret (v := .agg #[.bool y0, .slice y1 y2 y3, .slice y4 y5 y6]) (by simp [results, Try.results106, go_sem, *]) rfl ⟨0, 1, _, rfl, ?_, HL.out, ?_⟩
  · rw [← intq, ← hz.out]; exact rq_stored HV.out (p2_r HP3)
  · exact bs (bs (bs hbel (by simp only []; omega) _) (by simp only []; omega) _) (by simp only []; omega) _
theorem neg_div {x y : Int} : -Rat.divInt x y = Rat.divInt (-x) y := M.neg_is.symm
set_option maxRecDepth 100000 in
set_option maxHeartbeats 4000000 in
theorem simple_neg (n d m q : Int) (vp vq : Value) (w : World) (h1 : M.okB n d = true) (h2 : M.okB m q = true) (h : n * q ≤ m * d) (hm : m < 0) (hp : RQ w vp (Rat.divInt n d)) (hq : RQ w vq (Rat.divInt m q)) : Calls Try.prog 106 #[vp, vq] w (SaRet w n d m q) := by
  obtain ⟨a1, a2, a3, a4⟩ := okB_in h1
  obtain ⟨b1, b2', b3, b4⟩ := okB_in h2
  have hn : n < 0 := by
    have k3 : 0 < (-m) * d := Int.mul_pos (by omega) (by omega)
    rw [Int.neg_mul] at k3
    rcases Int.lt_or_le n 0 with c | c
    · exact c
    · have := Int.mul_nonneg (a := n) (b := q) c (by omega)
      omega
  have HSZ : Hid (Sizes (-m) q (-n) d) := hide ⟨⟨⟨by omega, by omega⟩, ⟨by omega, by omega⟩⟩, ⟨⟨by omega, by omega⟩, ⟨by omega, by omega⟩⟩, by rw [Int.neg_mul, Int.neg_mul]; omega⟩
  have HMS : Hid (q + d ≤ (((q + d).toNat : Nat) : Int)) := hide (by omega)
  have HLS : Hid (∀ x y, M.Sp (-m) q (-n) d x y → Lst n d m q (-x) y) := hide fun x y hs => lst_neg (by omega) (by omega) (by omega) h hs
  obtain ⟨a, ha⟩ : ∃ a, Hid (a = Rat.divInt n d) := ⟨_, rfl⟩
  obtain ⟨b, hb⟩ : ∃ b, Hid (b = Rat.divInt m q) := ⟨_, rfl⟩
  rw [← ha.out] at hp
  rw [← hb.out] at hq
  have hsa : Hid ((-1 : Int) = Int.sign a.num) := hide (by rw [ha.out, sgn_divInt (by omega)]; exact (Int.sign_eq_neg_one_of_neg hn).symm)
  have hsb : Hid ((-1 : Int) = Int.sign b.num) := hide (by rw [hb.out, sgn_divInt (by omega)]; exact (Int.sign_eq_neg_one_of_neg hm).symm)
  obtain ⟨na, hna⟩ : ∃ r, Hid (r = -a) := ⟨_, rfl⟩
  have HNA : Hid (na = Rat.divInt (-n) d) := hide (by rw [hna.out, ha.out, neg_div])
  obtain ⟨nb, hnb⟩ : ∃ r, Hid (r = -b) := ⟨_, rfl⟩
  have HNB : Hid (nb = Rat.divInt (-m) q) := hide (by rw [hnb.out, hb.out, neg_div])
  obtain ⟨s1, p1, p2, p3, p4, p5, p6, rfl⟩ := rq_form hp
  obtain ⟨s2, t1, t2, t3, t4, t5, t6, rfl⟩ := rq_form hq
  have HP := p2_new w s1 s2 p1 p4 t1 t4 p2 p3 p5 p6 t2 t3 t5 t6 a b hp hq
  unfold boxed at HP
  clear hp hq hn hm h1 h2 h a1 a2 a3 a4 b1 b2' b3 b4
  go_enter Try.func106, Try.ntmps106
  go_wp2_with fail
  (with_reducible refine (sign_q a _ _ (p2_a HP).1 (-1) hsa).mono ?_)
  rintro en w1 ⟨rfl, hbw⟩
  have HP1 := p2_step HP hbw
  clear hbw HP
  obtain ⟨_, e3, e4, e5⟩ := p2_b HP1
  go_wp2_with fail
  (with_reducible refine (sign_q b _ _ (p2_b HP1).1 (-1) hsb).mono ?_)
  rintro en w2 ⟨rfl, hbw⟩
  have HP2 := p2_step HP1 hbw
  clear hbw HP1 e3 e4 e5
  obtain ⟨_, e3, e4, e5⟩ := p2_b HP2
  go_wp2_with fail
  (with_reducible refine (sign_q b _ _ (p2_b HP2).1 (-1) hsb).mono ?_)
  rintro en w3 ⟨rfl, hbw⟩
  have HP3 := p2_step HP2 hbw
  clear hbw HP2 e3 e4 e5
  go_wp2_with fail
  have HP10 := p2_drew HP3
  go_region_held3 (fun W => ((W.cell? ⟨w.heap.size, 0, none⟩ = some (.bool s1) ∧ W.cell? ⟨w.heap.size, 1, none⟩ = some (.slice p1 p2 p3) ∧ W.cell? ⟨w.heap.size, 2, none⟩ = some (.slice p4 p5 p6)) ∧ (W.cell? ⟨w.heap.size + 1, 0, none⟩ = some (.bool s2) ∧ W.cell? ⟨w.heap.size + 1, 1, none⟩ = some (.slice t1 t2 t3) ∧ W.cell? ⟨w.heap.size + 1, 2, none⟩ = some (.slice t4 t5 t6))) ∧ Hid (P2 w W (.agg #[.bool s1, .slice p1 p2 p3, .slice p4 p5 p6]) (.agg #[.bool s2, .slice t1 t2 t3, .slice t4 t5 t6]) a b))
    ((go_split_ands; refine p2_all ?_; first | (with_reducible exact HP10) | (with_reducible exact p2_step ‹_› hbw) | (with_reducible exact p2_end ‹_› _ _ _ _ _ _ _)))
    (first
      | (go_at_call 47; (with_reducible refine (minus_b b nb _ _ (p2_b HP10).1 hnb).mono ?_); rintro en w' ⟨v1, rfl, hv1, hbw⟩; rw [HNB.out] at hv1; have X1 := hide hv1; have HQ1 := p2_step HP10 hbw)
      | (go_at_call 47; (with_reducible refine (minus_b a na _ _ (p2_a HQ1).1 hna).mono ?_); rintro en w' ⟨v2, rfl, hv2, hbw⟩; rw [HNA.out] at hv2; have X2 := hide hv2; have X1' := hide (RQ.below X1.out hbw); have HQ2 := p2_step HQ1 hbw)
      | (go_at_call 106; (with_reducible refine (simple_pos _ (-m) q (-n) d _ _ _ HMS.out HSZ.out X1'.out X2.out).mono ?_); rintro en w' ⟨x, y, v5, rfl, hv5, hsp, hbw⟩; have HL := hide (HLS.out x y hsp); have X5 := hide hv5; obtain ⟨xr, hxr⟩ : ∃ r, Hid (r = Rat.divInt x y) := ⟨_, rfl⟩; rw [← hxr.out] at X5; obtain ⟨fi, hfi⟩ : ∃ r, Hid (r = -xr) := ⟨_, rfl⟩; have HFI : Hid (fi = Rat.divInt (-x) y) := hide (by rw [hfi.out, hxr.out, neg_div]); have HQ5 := p2_step HQ2 hbw)
      | (go_at_call 47; (with_reducible refine (minus_b xr fi _ _ X5.out hfi).mono ?_); rintro en w' ⟨v7, rfl, hv7, hbw⟩; obtain ⟨r1, r2, r3, r4, r5, r6, rfl, hw2, hw3⟩ := hv7; have hV : RQ w' (.agg #[.bool (decide (fi.num < 0)), .slice r1 r2 r3, .slice r4 r5 r6]) fi := ⟨_, _, _, _, _, _, rfl, hw2, hw3⟩; have X7 := hide hV; clear hV hw2 hw3; have HQ7 := p2_step HQ5 hbw; obtain ⟨⟨⟨c0, g0, _⟩, ⟨c1, g1, _⟩, ⟨c2, g2, _⟩⟩, ⟨k0, k1, k2⟩, _, hbel⟩ := (p2_r HQ7).out))
  go_wp2_with fail
  refine bodyPost_ret (v := .agg #[.bool (decide (fi.num < 0)), .slice r1 r2 r3, .slice r4 r5 r6]) (by simp [results, Try.results106, go_sem, *]) rfl ⟨-x, y, _, rfl, ?_, HL.out, ?_⟩
  · rw [← HFI.out]; exact rq_stored X7.out (p2_r HQ7)
  · exact bs (bs (bs hbel (by simp only []; omega) _) (by simp only []; omega) _) (by simp only []; omega) _
theorem simple_all (n d m q : Int) (vp vq : Value) (w : World) (h1 : M.okB n d = true) (h2 : M.okB m q = true) (h : n * q ≤ m * d) (hp : RQ w vp (Rat.divInt n d)) (hq : RQ w vq (Rat.divInt m q)) : Calls Try.prog 106 #[vp, vq] w (SaRet w n d m q) := by
  obtain ⟨a1, a2, a3, a4⟩ := okB_in h1
  obtain ⟨b1, b2', b3, b4⟩ := okB_in h2
  by_cases hn : 0 < n
  · have hm0 : 0 < m := by
      have k1 : 0 < n * q := Int.mul_pos hn (by omega)
      rcases Int.lt_or_le 0 m with c | c
      · exact c
      · have := Int.mul_nonneg (a := -m) (b := d) (by omega) (by omega)
        rw [Int.neg_mul] at this; omega
    refine (simple_pos (d + q).toNat n d m q vp vq w (by omega) ⟨⟨⟨by omega, by omega⟩, ⟨by omega, by omega⟩⟩, ⟨⟨by omega, by omega⟩, ⟨by omega, by omega⟩⟩, h⟩ hp hq).mono ?_
    rintro e w' ⟨x, y, v, he, hv, hsp, hb⟩
    exact ⟨x, y, v, he, hv, lst_pos (by omega) (by omega) (by omega) h hsp, hb⟩
  · by_cases hm : m < 0
    · exact simple_neg n d m q vp vq w h1 h2 h hm hp hq
    · exact simple_zero n d m q vp vq w h1 h2 (by omega) (by omega) hp hq
end Go.Proofs.Ytpgnbjlpkpmpcaa.R
