import Derived.Test.YtpgnbjlpkpmpcaaJd
set_option linter.unusedVariables false
namespace Go.Proofs.Ytpgnbjlpkpmpcaa.R
open Go.RowKit Go.Proofs.Ytpgnbjlpkpmpcaa.N
theorem qa_drew {w : World} {s : Nat} {v : Value} {q : Rat} (h : Hid (QA w s v q)) : Hid (QA w.drew s v q) := h
theorem row_drew {w : World} {s k : Nat} {v : Value} {ns : Nat → Int} (h : Hid (Row w s v k ns)) : Hid (Row w.drew s v k ns) := h
theorem down_b (p : Rat) (vp : Value) (w : World) (hp : RQ w vp p) (bp : Hid (Bq 2 p)) (z : Rat) (hz : Hid (z = ((p.num / (p.den : Int) : Int) : Rat))) : Calls Try.prog 99 #[vp] w (RetQ w z) := down_q 2 p vp w hp bp.out half2 z hz
theorem whole_b (W : Int) (z : Rat) (vp : Value) (w : World) (hp : RQ w vp z) (hz : Hid (z = (W : Rat))) (h1 : -1000000000 ≤ W) (h2 : W ≤ 1000000000) : Calls Try.prog 48 #[vp] w fun e w' => e = .returned (.tuple #[.int .i64 W, .bool true]) ∧ Below w.heap.size w w' := by
  rw [hz.out] at hp
  exact whole_q W vp w hp (by omega) (by omega)
theorem ofr_b (n d : Int) (w : World) (h : M.okB n d = true) (r : Rat) (hr : Hid (r = Rat.divInt n d)) : Calls Try.prog 45 #[.agg #[.int .i64 n, .int .i64 d]] w (RetQ w r) := ofr_q n d w h r hr
theorem bq_div {n d : Int} (hd : 1 ≤ d) (hg : Int.gcd n d = 1) (h1 : -1000000000 ≤ n) (h2 : n ≤ 1000000000) (h3 : d ≤ 1000000000) : Bq 2 (Rat.divInt n d) := by
  obtain ⟨e1, e2⟩ := M.low_parts hd hg
  unfold Bq
  rw [e1, show B ^ 2 = 18446744073709551616 by decide]
  omega
set_option maxRecDepth 20000 in
set_option maxHeartbeats 2000000 in
theorem rterms_bad (n d : Int) (w : World) (h : M.okB n d = false) : Calls Try.prog 53 #[.agg #[.int .i64 n, .int .i64 d]] w fun e w' => e = .returned (.tuple #[.slice none 0 0, .int .i64 2]) ∧ Below w.heap.size w w' := by
  have HV := hide h
  go_enter Try.func53, Try.ntmps53
  go_wp2_with fail
  refine (rvalid_is n d false _ HV).mono ?_
  rintro en w1 ⟨rfl, hb⟩
  go_wp2_with fail
  go_ret2
  exact ⟨rfl, bt (ba (Below.refl _ _) _) hb⟩
set_option maxRecDepth 20000 in
set_option maxHeartbeats 8000000 in
theorem rterms_yes (n d : Int) (w : World) (h : M.okB n d = true) (last : Nat) (hg : Hid (M.Goes n d last)) (he : Hid ((M.eN n d last).2 = 1)) : Calls Try.prog 53 #[.agg #[.int .i64 n, .int .i64 d]] w (TmRet w n d last) := by
  obtain ⟨i0, hi, hz0, hz1, hz2⟩ := info_parts Try.info3
  have HV := hide h
  have H60 : Hid (last < 60) := hide (M.goes_lt h last hg.out)
  obtain ⟨q0, hq0⟩ : ∃ q, Hid (q = Rat.divInt n d) := ⟨_, rfl⟩
  have h1i : In64 1 := ⟨by decide, by decide⟩
  obtain ⟨o, ho⟩ : ∃ q : Rat, Hid (q = ((1 : Int) : Rat)) := ⟨_, rfl⟩
  have hbo : Hid (Bq 2 o) := hide (by rw [ho.out]; exact bq_int h1i)
  go_enter Try.func53, Try.ntmps53
  go_wp2_with fail
  refine (rvalid_is n d true _ HV).mono ?_
  rintro en w1 ⟨rfl, hb⟩
  have hb1 := hide (bt (ba (Below.refl w.heap.size w) (.cells #[.int .i64 n, .int .i64 d] 23)) hb)
  have c0 := kc hb (show (w.alloc (.cells #[.int .i64 n, .int .i64 d] 23)).cell? ⟨w.heap.size, 0, none⟩ = some (.int .i64 n) by simp [go_sem])
  have c1 := kc hb (show (w.alloc (.cells #[.int .i64 n, .int .i64 d] 23)).cell? ⟨w.heap.size, 1, none⟩ = some (.int .i64 d) by simp [go_sem])
  clear hb
  go_wp2_with fail
  refine (ofr_b n d _ h q0 hq0).mono ?_
  rintro en w2 ⟨v, rfl, hv, hb⟩
  have hb2 := hide (bt hb1.out hb)
  obtain ⟨ao, la, ca, bo, lb, cb, rfl, hv2, hv3⟩ := hv
  have hv : RQ w2 (.agg #[.bool (decide (q0.num < 0)), .slice ao la ca, .slice bo lb cb]) q0 := ⟨ao, la, ca, bo, lb, cb, rfl, hv2, hv3⟩
  have hqn := qn_new hb2.out hv
  have hrow := row_nil (w2.alloc (.cells #[.bool (decide (q0.num < 0)), .slice ao la ca, .slice bo lb cb] 43)) w2.heap.size (M.eT n d)
  clear hb hv hv2 hv3 c0 c1
  obtain ⟨bs', hbs⟩ : ∃ b : Bool, Hid (b = decide (q0.num < 0)) := ⟨_, rfl⟩
  rw [← hbs.out] at hqn hrow ⊢
  go_wp2_with fail
  obtain ⟨s, hs⟩ : ∃ s, s = w2.heap.size := ⟨_, rfl⟩
  rw [← hs] at hqn hrow ⊢
  clear hs
  go_loopw [4] (fun v wr => RtRel w s n d last v wr) (fun v _ => last + 1 - lenOf v)
  case atStart => exact ⟨0, _, by omega, rfl, by rw [hq0.out] at hqn; exact hqn.out, hrow.out⟩
  case round =>
    obtain ⟨k, va, hk, hlen, hQ, hRw⟩ := hrel
    have HQ := hide hQ
    have HR := hide hRw
    clear hQ hRw
    obtain ⟨b3, x3, l3, c3, y3, l4, c4, rfl⟩ := qn_form HQ
    obtain ⟨W, hW⟩ : ∃ W, Hid (W = M.eT n d k) := ⟨_, rfl⟩
    obtain ⟨N, hN⟩ : ∃ N, Hid (N = (M.eN n d k).1) := ⟨_, rfl⟩
    obtain ⟨D, hD⟩ : ∃ D, Hid (D = (M.eN n d k).2) := ⟨_, rfl⟩
    obtain ⟨w1', w2'⟩ := M.eT_bd h k (hg.out.le hk)
    obtain ⟨n1, n2, n3⟩ := M.eN_bd h k (hg.out.le hk)
    obtain ⟨n4, n5⟩ := M.eN_pos h k (hg.out.le hk)
    rw [← hN.out, ← hD.out] at HQ n5
    rw [← hW.out] at w1' w2'
    rw [← hN.out] at n2 n3
    rw [← hD.out] at n1 n4
    obtain ⟨p, hp⟩ : ∃ p, Hid (p = Rat.divInt N D) := ⟨_, rfl⟩
    rw [← hp.out] at HQ
    have hbp : Hid (Bq 2 p) := hide (by rw [hp.out]; exact bq_div n4 n5 n2 n3 n1)
    obtain ⟨z, hz⟩ : ∃ z : Rat, Hid (z = (W : Rat)) := ⟨_, rfl⟩
    have hbz : Hid (Bq 2 z) := hide (by rw [hz.out]; exact bq_int ⟨by omega, by omega⟩)
    have HZ : Hid (z = ((p.num / (p.den : Int) : Int) : Rat)) := hide (by
      obtain ⟨e1, e2⟩ := M.low_parts n4 n5
      rw [hz.out, hp.out, e1, e2, hW.out]; unfold M.eT; rw [← hN.out, ← hD.out])
    have hdm : N = D * W + N % D := by
      rw [hW.out]; unfold M.eT; rw [← hN.out, ← hD.out]; exact (Int.mul_ediv_add_emod N D).symm
    obtain ⟨R, hRr⟩ : ∃ R, Hid (R = N % D) := ⟨_, rfl⟩
    rw [← hRr.out] at hdm
    obtain ⟨r, hr⟩ : ∃ r, Hid (r = p - z) := ⟨_, rfl⟩
    have HRD : Hid (r = Rat.divInt R D) := hide (by
      rw [hr.out, hp.out, hz.out]
      exact M.rest_is n4 (by rw [Int.neg_mul, Int.mul_comm W D]; omega))
    have hk60 : k + 1 ≤ 60 := by have := H60.out; omega
    clear hdm
    obtain ⟨⟨p0, p1, p2⟩, ⟨f0, f1, f2⟩⟩ := qn_get HQ
    go_wp2_with fail
    (with_reducible refine (down_b p _ _ (qn_rq HQ) hbp z HZ).mono ?_)
    rintro en w4 ⟨vl, rfl, hvl, hb⟩
    have HQ1 := qn_step HQ hb
    have HR1 := row_step HR hb
    obtain ⟨ao2, la2, ca2, bo2, lb2, cb2, rfl, hv2, hv3⟩ := hvl
    have hv : RQ w4 (.agg #[.bool (decide (z.num < 0)), .slice ao2 la2 ca2, .slice bo2 lb2 cb2]) z := ⟨ao2, la2, ca2, bo2, lb2, cb2, rfl, hv2, hv3⟩
    have HL2 := qa_new hv
    have HQ2 := qn_step HQ1 (ba (Below.refl _ _) (.cells #[.bool (decide (z.num < 0)), .slice ao2 la2 ca2, .slice bo2 lb2 cb2] 43))
    have HR2 := row_step HR1 (ba (Below.refl _ _) (.cells #[.bool (decide (z.num < 0)), .slice ao2 la2 ca2, .slice bo2 lb2 cb2] 43))
    obtain ⟨bz, hbz'⟩ : ∃ b : Bool, Hid (b = decide (z.num < 0)) := ⟨_, rfl⟩
    rw [← hbz'.out] at HL2 HQ2 HR2 ⊢
    have HNE : Hid (some w4.heap.size ≠ u4.ownBlock) := hide (fun e => by have := (HR1.out.1.lt _ e.symm).2; omega)
    clear hb hv hv2 hv3 p0 p1 p2 f0 f1 f2 HQ1 HR1 HQ HR
    go_wp2_with fail
    (with_reducible refine (whole_b W z _ _ (qa_rq HL2) hz w1' w2').mono ?_)
    rintro en w5 ⟨rfl, hb⟩
    have HQ3 := qn_step HQ2 hb
    have HR3 := row_step HR2 hb
    have HL3 := qa_step HL2 hb
    have HQ4 := qn_step HQ3 (ba (Below.refl _ _) (.cells #[.int .i64 W] 3))
    have HR4 := row_step HR3 (ba (Below.refl _ _) (.cells #[.int .i64 W] 3))
    have HL4 := qa_step HL3 (ba (Below.refl _ _) (.cells #[.int .i64 W] 3))
    have hsz5 : s + 1 ≤ (w5.alloc (.cells #[.int .i64 W] 3)).heap.size := by have := c3_lt HQ4.out.2.1.2; omega
    obtain ⟨v', w7, hrun, hown', hgrow, hall⟩ := append_all (P := Try.prog) (w5.alloc (.cells #[.int .i64 W] 3)) NoU (s + 1) 51 51 3 i0 (.int .i64 0) 1 8 Try.underlying51 hi hz0 hz1 hz2 rfl (by decide) _ _ _ HR4.out.1 HR4.out.2
      (by intro u hu x; simp [Value.cells] at hu; subst hu; simp) ⟨w5.heap.size, 0, none⟩ 1 1 [.int .i64 W] (by intro u hu x; simp at hu; subst hu; simp) (by decide) rfl
      (by
        intro j u hj
        match j, hj with
        | 0, hj => simp at hj; subst hj; simp [Addr.add, go_sem])
      (by intro u hu; simp at hu; subst hu; rfl) (by unfold maxLen; omega) (by omega) hsz5
    have HQ5 := qn_grown HQ4 HR4 hgrow
    have HL5 := qa_grown HL4 HR4 hgrow HNE.out
    have HR5 : Hid (Row w7 s v' (k + 1) (M.eT n d)) := hide ⟨by rw [i64s_succ, ← hW.out]; exact hown', hall⟩
    have HRUN := hide hrun
    clear hb HQ2 HR2 HL2 HQ3 HR3 HL3 HQ4 HR4 HL4 hown' hgrow hall hsz5 HNE hrun
    obtain ⟨⟨p0, p1, p2⟩, ⟨f0, f1, f2⟩⟩ := qn_get HQ5
    obtain ⟨r0, r1, r2⟩ := qa_get HL5
    go_wp2_with (at_builtin; refine Go.Lib.wpList_append_run _ rfl _ _ 51 51 rfl _ _ rfl rfl v' w7 HRUN.out ?_)
    (with_reducible refine (less_is p z r _ _ _ (qn_rq HQ5) (qa_rq HL5) hbp hbz hr).mono ?_)
    rintro en w8 ⟨vr, rfl, hvr, hb⟩
    have HQ6 := qn_step HQ5 hb
    have HR6 := row_step HR5 hb
    obtain ⟨ao5, la5, ca5, bo5, lb5, cb5, rfl, hv2, hv3⟩ := hvr
    have hv : RQ w8 (.agg #[.bool (decide (r.num < 0)), .slice ao5 la5 ca5, .slice bo5 lb5 cb5]) r := ⟨ao5, la5, ca5, bo5, lb5, cb5, rfl, hv2, hv3⟩
    have HT7 := qa_new hv
    have HQ7 := qn_step HQ6 (ba (Below.refl _ _) (.cells #[.bool (decide (r.num < 0)), .slice ao5 la5 ca5, .slice bo5 lb5 cb5] 43))
    have HR7 := row_step HR6 (ba (Below.refl _ _) (.cells #[.bool (decide (r.num < 0)), .slice ao5 la5 ca5, .slice bo5 lb5 cb5] 43))
    obtain ⟨br, hbr⟩ : ∃ b : Bool, Hid (b = decide (r.num < 0)) := ⟨_, rfl⟩
    rw [← hbr.out] at HT7 HQ7 HR7 ⊢
    clear hb hv hv2 hv3 p0 p1 p2 f0 f1 f2 r0 r1 r2 HQ6 HR6 HQ5 HR5 HL5 HRUN
    obtain ⟨s9, hs9⟩ : ∃ s9, s9 = w8.heap.size := ⟨_, rfl⟩
    rw [← hs9] at HT7
    have hlen' := owns_len HR7.out.1
    by_cases hlt : k < last
    · obtain ⟨m1, m2, m3⟩ := M.eN_bd h (k + 1) (hg.out.le (by omega))
      obtain ⟨m4, m5⟩ := M.eN_pos h (k + 1) (hg.out.le (by omega))
      have HE : Hid (M.eN n d (k + 1) = (D, R)) := hide (by rw [M.eN_succ, hRr.out, hN.out, hD.out])
      rw [HE.out] at m1 m4 m5
      simp only at m1 m4 m5
      have hsg : Hid ((1 : Int) = Int.sign r.num) := hide (by
        rw [HRD.out]
        have := (M.divInt_num_sign (u := R) (D := D) (by omega)).2.2 (by omega)
        exact (Int.sign_eq_one_of_pos this).symm)
      obtain ⟨p', hp'⟩ : ∃ p', Hid (p' = Rat.divInt D R) := ⟨_, rfl⟩
      have hq' : Hid (p' = o / r) := hide (by rw [hp'.out, ho.out, HRD.out]; exact M.back_is.symm)
      have hbr2 : Hid (Bq 2 r) := hide (by rw [HRD.out]; exact bq_div n4 (by rw [Int.gcd_comm]; exact m5) (by omega) (by omega) n1)
      have hr0 : Hid (r ≠ 0) := hide (by
        intro e
        have h1 := hsg.out
        rw [e] at h1; exact absurd h1 (by decide))
      rw [hs9] at HT7
      clear hs9
      go_wp2_with fail
      (with_reducible refine (sign_q r _ _ (qa_rq HT7) 1 hsg).mono ?_)
      rintro en w9 ⟨rfl, hb⟩
      have HT8 := qa_step HT7 hb
      have HQ8 := qn_step HQ7 hb
      have HR8 := row_step HR7 hb
      clear hb HT7 HQ7 HR7
      have HT9 := qa_drew HT8
      have HQ9 := qn_drew HQ8
      have HR9 := row_drew HR8
      obtain ⟨⟨p0, p1, p2⟩, ⟨f0, f1, f2⟩⟩ := qn_get HQ8
      obtain ⟨r0, r1, r2⟩ := qa_get HT8
      go_wp2_with fail
      go_region_with (first
        | (go_at_call 77; (with_reducible refine (int_b 1 _ h1i o ho).mono ?_); rintro en w10 ⟨vo, rfl, hvo, hb⟩; have HO := hide hvo; have HT10 := qa_step HT9 hb; have HQ10 := qn_step HQ9 hb; have HR10 := row_step HR9 hb; obtain ⟨r0', r1', r2'⟩ := qa_get HT10)
        | (go_at_call 49; (with_reducible refine (quot_is o r p' _ _ _ HO.out (qa_rq HT10) hbo hbr2 hr0 hq').mono ?_); rintro en w11 ⟨vi, rfl, hvi, hb⟩; obtain ⟨ao6, la6, ca6, bo6, lb6, cb6, rfl, hv2, hv3⟩ := hvi; have hR : RQ w11 (.agg #[.bool (decide (p'.num < 0)), .slice ao6 la6 ca6, .slice bo6 lb6 cb6]) p' := ⟨ao6, la6, ca6, bo6, lb6, cb6, rfl, hv2, hv3⟩; have HRV := hide hR; clear hR hv2 hv3; have HQ11 := qn_step HQ10 hb; have HR11 := row_step HR10 hb; obtain ⟨⟨k0, k1, k2⟩, ⟨t0, t1, t2⟩⟩ := qn_get HQ11; have HQ12 := qn_put HQ11 HRV.out; have HR12 := row_put HR11 (decide (p'.num < 0)) ao6 bo6 la6 ca6 lb6 cb6))
      all_goals go_wp2_with fail
      all_goals go_roundw
      all_goals first
        | (case rel => exact ⟨k + 1, _, by omega, hlen', by rw [HE.out, ← hp'.out]; exact HQ12.out, HR12.out⟩)
        | (case measure => omega)
    · obtain rfl : k = last := by omega
      have h1 : D = 1 := by rw [hD.out]; exact he.out
      subst h1
      have hsg : Hid ((0 : Int) = Int.sign r.num) := hide (by
        rw [HRD.out, hRr.out, Int.emod_one]; decide +kernel)
      rw [hs9] at HT7
      clear hs9
      go_wp2_with fail
      (with_reducible refine (sign_q r _ _ (qa_rq HT7) 0 hsg).mono ?_)
      rintro en w9 ⟨rfl, hb⟩
      have HQ8 := qn_step HQ7 hb
      have HR8 := row_step HR7 hb
      clear hb HT7 HQ7 HR7
      go_wp2_with fail
      go_ret2
      obtain ⟨a, cap, e, hls⟩ := ls_of_owns HR8.out.1 (fun i hi => by
        have := M.eT_bd h i (hg.out.le (by omega)); exact ⟨by omega, by omega⟩)
      exact ⟨a, cap, by rw [e]; rfl, hls, HQ8.out.1.2⟩
end Go.Proofs.Ytpgnbjlpkpmpcaa.R
