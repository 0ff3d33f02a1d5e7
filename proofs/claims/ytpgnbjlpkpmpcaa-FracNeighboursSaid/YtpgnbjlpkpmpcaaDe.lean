import Derived.Test.YtpgnbjlpkpmpcaaDd
import Derived.Test.YtpgnbjlpkpmpcaaZi
set_option linter.unusedVariables false
namespace Go.Proofs.Ytpgnbjlpkpmpcaa.R
open Go.RowKit Go.Proofs.Ytpgnbjlpkpmpcaa.N
set_option maxRecDepth 100000 in
set_option maxHeartbeats 4000000 in
theorem law_nb_no (n m p q d : Int) (w : World) (i1 : In64 n) (i2 : In64 m) (h : (M.okB n m && denB d) = false) : Calls Try.prog 12 #[.agg #[.int .i64 n, .int .i64 m], .agg #[.int .i64 p, .int .i64 q], .int .i64 d] w fun e w' => e = .returned (.bool true) ∧ Below w.heap.size w w' := by
  have G : Hid (In64 n ∧ In64 m) := hide ⟨i1, i2⟩
  have HB := hide h
  have HB := HB.out
  clear i1 i2
  have HL := l2_start (w := w) (n := n) (d := m) (m := p) (q := q)
  cases c : M.okB n m
  · have hv := hide c
    have HB' := hide HB
    clear c h HB
    have HB : Hid ((M.okB n m && denB d) = false) := HB'
    go_enter Try.func12, Try.ntmps12
    go_wp2_with fail
    refine (below_no n m d _ G.out.1 G.out.2 HB.out).mono ?_
    rintro e w1 ⟨rfl, hb⟩
    have HL1 := l2_step HL (ba hb (.cells #[.int .i64 0, .int .i64 0] 23))
    have HL1' := l2_step HL hb
    clear hb HL
    obtain ⟨⟨r1, r2, r3, r4⟩, ⟨_, _⟩, _⟩ := HL1'.out
    go_wp2_with fail
    refine (above_no n m d _ G.out.1 G.out.2 HB.out).mono ?_
    rintro e w2 ⟨rfl, hb⟩
    have HL2 := l2_step HL1 (ba hb (.cells #[.int .i64 0, .int .i64 0] 23))
    have HL2' := l2_step HL1 hb
    clear hb HL1 HL1' r1 r2 r3 r4
    obtain ⟨⟨r1, r2, r3, r4⟩, ⟨_, _⟩, _⟩ := HL2'.out
    go_wp2_with fail
    refine (rvalid_is n m false _ hv).mono ?_
    rintro e w3 ⟨rfl, hb⟩
    have HL3 := l2_step HL2 hb
    clear hb HL2 HL2' r1 r2 r3 r4
    go_wp2_with fail
    refine (awake_any _).mono ?_
    rintro e w4 ⟨rfl, hb⟩
    have HL4 := l2_step HL3 hb
    clear hb HL3
    go_wp2_with fail
    go_ret
    exact ⟨rfl, HL4.out.2.2⟩
  · have hv := hide c
    have hd : ¬ (1 ≤ d ∧ d ≤ 1000000000) := by rw [c] at h; unfold denB at h; simpa using h
    have HB' := hide HB
    clear c h HB
    have HB : Hid ((M.okB n m && denB d) = false) := HB'
    by_cases h1 : d < 1
    · clear hd
      go_enter Try.func12, Try.ntmps12
      go_wp2_with fail
      refine (below_no n m d _ G.out.1 G.out.2 HB.out).mono ?_
      rintro e w1 ⟨rfl, hb⟩
      have HL1 := l2_step HL (ba hb (.cells #[.int .i64 0, .int .i64 0] 23))
      have HL1' := l2_step HL hb
      clear hb HL
      obtain ⟨⟨r1, r2, r3, r4⟩, ⟨_, _⟩, _⟩ := HL1'.out
      go_wp2_with fail
      refine (above_no n m d _ G.out.1 G.out.2 HB.out).mono ?_
      rintro e w2 ⟨rfl, hb⟩
      have HL2 := l2_step HL1 (ba hb (.cells #[.int .i64 0, .int .i64 0] 23))
      have HL2' := l2_step HL1 hb
      clear hb HL1 HL1' r1 r2 r3 r4
      obtain ⟨⟨r1, r2, r3, r4⟩, ⟨_, _⟩, _⟩ := HL2'.out
      go_wp2_with fail
      refine (rvalid_is n m true _ hv).mono ?_
      rintro e w3 ⟨rfl, hb⟩
      have HL3 := l2_step HL2 hb
      clear hb HL2 HL2' r1 r2 r3 r4
      go_wp2_with fail
      refine (awake_any _).mono ?_
      rintro e w4 ⟨rfl, hb⟩
      have HL4 := l2_step HL3 hb
      clear hb HL3
      go_wp2_with fail
      go_ret
      exact ⟨rfl, HL4.out.2.2⟩
    · have h2 : 1000000000 < d := by omega
      clear hd
      go_enter Try.func12, Try.ntmps12
      go_wp2_with fail
      refine (below_no n m d _ G.out.1 G.out.2 HB.out).mono ?_
      rintro e w1 ⟨rfl, hb⟩
      have HL1 := l2_step HL (ba hb (.cells #[.int .i64 0, .int .i64 0] 23))
      have HL1' := l2_step HL hb
      clear hb HL
      obtain ⟨⟨r1, r2, r3, r4⟩, ⟨_, _⟩, _⟩ := HL1'.out
      go_wp2_with fail
      refine (above_no n m d _ G.out.1 G.out.2 HB.out).mono ?_
      rintro e w2 ⟨rfl, hb⟩
      have HL2 := l2_step HL1 (ba hb (.cells #[.int .i64 0, .int .i64 0] 23))
      have HL2' := l2_step HL1 hb
      clear hb HL1 HL1' r1 r2 r3 r4
      obtain ⟨⟨r1, r2, r3, r4⟩, ⟨_, _⟩, _⟩ := HL2'.out
      go_wp2_with fail
      refine (rvalid_is n m true _ hv).mono ?_
      rintro e w3 ⟨rfl, hb⟩
      have HL3 := l2_step HL2 hb
      clear hb HL2 HL2' r1 r2 r3 r4
      go_wp2_with fail
      refine (awake_any _).mono ?_
      rintro e w4 ⟨rfl, hb⟩
      have HL4 := l2_step HL3 hb
      clear hb HL3
      go_wp2_with fail
      go_ret
      exact ⟨rfl, HL4.out.2.2⟩
set_option maxRecDepth 100000 in
set_option maxHeartbeats 8000000 in
theorem law_nb_yes (n m p q d : Int) (w : World) (h1 : M.okB n m = true) (h2 : denB d = true) : Calls Try.prog 12 #[.agg #[.int .i64 n, .int .i64 m], .agg #[.int .i64 p, .int .i64 q], .int .i64 d] w fun e w' => e = .returned (.bool true) ∧ Below w.heap.size w w' := by
  have H1 := hide h1
  have H2 := hide h2
  have hv := hide h1
  obtain ⟨a1, a2, a3, a4⟩ := okB_in h1
  obtain ⟨d1, d2⟩ := den_in h2
  have HNB := hide (And.intro (And.intro a1 a2) (And.intro a3 a4))
  clear h1 h2
  have HL := l2_start (w := w) (n := n) (d := m) (m := p) (q := q)
  go_enter Try.func12, Try.ntmps12
  go_wp2_with fail
  refine (below_yes n m d _ H1.out H2.out).mono ?_
  rintro en w1 ⟨a, b, rfl, hlo, hb⟩
  have HLO := hide hlo
  have HL1 := l2_step HL (ba hb (.cells #[.int .i64 a, .int .i64 b] 23))
  have HL1' := l2_step HL hb
  have HX1 := fx_new w1 a b
  clear hb HL hlo
  obtain ⟨⟨r1, r2, r3, r4⟩, ⟨_, _⟩, _⟩ := HL1'.out
  go_wp2_with fail
  refine (above_yes n m d _ H1.out H2.out).mono ?_
  rintro en w2 ⟨c, e', rfl, hhi, hb⟩
  have HHI := hide hhi
  have HL2 := l2_step HL1 (ba hb (.cells #[.int .i64 c, .int .i64 e'] 23))
  have HL2' := l2_step HL1 hb
  have HX2 := fx_step (fx_step HX1 hb) (ba (Below.refl _ _) (.cells #[.int .i64 c, .int .i64 e'] 23))
  have HY2 := fx_new w2 c e'
  clear hb HL1 HL1' HX1 r1 r2 r3 r4 hhi
  obtain ⟨⟨r1, r2, r3, r4⟩, ⟨_, _⟩, _⟩ := HL2'.out
  go_wp2_with fail
  refine (rvalid_is n m true _ hv).mono ?_
  rintro en w3 ⟨rfl, hb⟩
  have HL3 := l2_step HL2 hb
  have HX3 := fx_step HX2 hb
  have HY3 := fx_step HY2 hb
  clear hb HL2 HL2' HX2 HY2 r1 r2 r3 r4
  by_cases hle : m ≤ d
  · obtain ⟨rfl, rfl⟩ : a = n ∧ b = m := by
      rcases HLO.out with h | h
      · exact h.2
      · omega
    obtain ⟨rfl, rfl⟩ : c = a ∧ e' = b := by
      rcases HHI.out with h | h
      · exact h.2
      · omega
    have HU : Hid (true = decide (c * e' ≤ c * e')) := hide (by simp)
    clear HLO HHI
    obtain ⟨⟨r1, r2, r3, r4⟩, ⟨_, _⟩, _⟩ := HL3.out
    obtain ⟨g1, g2, _⟩ := HX3.out
    obtain ⟨g3, g4, _⟩ := HY3.out
    go_wp2_with fail
    refine (rvalid_is c e' true _ hv).mono ?_
    rintro en w4 ⟨rfl, hb⟩
    have HL4 := l2_step HL3 hb
    have HX4 := fx_step HX3 hb
    have HY4 := fx_step HY3 hb
    clear hb HL3 HX3 HY3 r1 r2 r3 r4 g1 g2 g3 g4
    obtain ⟨⟨r1, r2, r3, r4⟩, ⟨_, _⟩, _⟩ := HL4.out
    obtain ⟨g1, g2, _⟩ := HX4.out
    obtain ⟨g3, g4, _⟩ := HY4.out
    go_wp2_with fail
    refine (rvalid_is c e' true _ hv).mono ?_
    rintro en w5 ⟨rfl, hb⟩
    have HL5 := l2_step HL4 hb
    have HX5 := fx_step HX4 hb
    have HY5 := fx_step HY4 hb
    clear hb HL4 HX4 HY4 r1 r2 r3 r4 g1 g2 g3 g4
    obtain ⟨⟨r1, r2, r3, r4⟩, ⟨_, _⟩, _⟩ := HL5.out
    obtain ⟨g1, g2, _⟩ := HX5.out
    obtain ⟨g3, g4, _⟩ := HY5.out
    go_wp2_with fail
    refine (under_any c e' c e' true _ HNB.out.1 HNB.out.2 HNB.out.1 HNB.out.2 HU).mono ?_
    rintro en w6 ⟨rfl, hb⟩
    have HL6 := l2_step HL5 hb
    have HX6 := fx_step HX5 hb
    have HY6 := fx_step HY5 hb
    clear hb HL5 HX5 HY5 r1 r2 r3 r4 g1 g2 g3 g4
    obtain ⟨⟨r1, r2, r3, r4⟩, ⟨_, _⟩, _⟩ := HL6.out
    obtain ⟨g1, g2, _⟩ := HX6.out
    obtain ⟨g3, g4, _⟩ := HY6.out
    go_wp2_with fail
    refine (under_any c e' c e' true _ HNB.out.1 HNB.out.2 HNB.out.1 HNB.out.2 HU).mono ?_
    rintro en w7 ⟨rfl, hb⟩
    have HL7 := l2_step HL6 hb
    have HX7 := fx_step HX6 hb
    have HY7 := fx_step HY6 hb
    clear hb HL6 HX6 HY6 r1 r2 r3 r4 g1 g2 g3 g4
    obtain ⟨⟨r1, r2, r3, r4⟩, ⟨_, _⟩, _⟩ := HL7.out
    obtain ⟨g1, g2, _⟩ := HX7.out
    obtain ⟨g3, g4, _⟩ := HY7.out
    go_wp2_with fail
    refine (awake_any _).mono ?_
    rintro en w8 ⟨rfl, hb⟩
    have HL8 := l2_step HL7 hb
    clear hb
    go_wp2_with fail
    go_ret
    exact ⟨rfl, HL8.out.2.2⟩
  · have hmd : d < m := by omega
    obtain ⟨c2, e2, hn1⟩ : ∃ c e, M.Nb n m d a b c e := by
      rcases HLO.out with h | h
      · omega
      · exact h.2
    obtain ⟨a2', b2', hn2⟩ : ∃ a b, M.Nb n m d a b c e' := by
      rcases HHI.out with h | h
      · omega
      · exact h.2
    obtain ⟨⟨q1, q2⟩, ⟨q3, q4⟩⟩ := M.nb_unique (by omega) hn1 hn2
    have hnb : M.Nb n m d a b c e' := by rw [q1, q2]; exact hn2
    have HN := hide hnb
    have hok1 := nb_oklo hmd d2 ⟨a1, a2⟩ hnb
    have hok2 := nb_okhi hmd d2 ⟨a1, a2⟩ hnb
    have hv1 := hide hok1
    have hv2 := hide hok2
    obtain ⟨u1, u2, u3, u4⟩ := okB_in hok1
    obtain ⟨v1, v2, v3, v4⟩ := okB_in hok2
    have HU := hide (And.intro (And.intro u1 u2) (And.intro u3 u4))
    have HV := hide (And.intro (And.intro v1 v2) (And.intro v3 v4))
    obtain ⟨⟨⟨b1, b2⟩, ⟨e1, e2⟩⟩, hs, dt, l1, l2⟩ := hnb
    have HU1 : Hid (true = decide (a * m ≤ n * b)) := hide (by simp; omega)
    have HU2 : Hid (true = decide (n * e' ≤ c * m)) := hide (by simp; omega)
    have hbm : (b == m) = false := by rw [beq_eq_false_iff_ne]; omega
    have hem : (e' == m) = false := by rw [beq_eq_false_iff_ne]; omega
    have hdt : (c * b - a * e' != 1) = false := by rw [dt]; rfl
    have hdt2 : (c * b - a * e' == 1) = true := by rw [dt]; rfl
    obtain ⟨x1, x2⟩ := prod_bd v1 v2 (by omega : -1000000000 ≤ b) u4
    obtain ⟨x3, x4⟩ := prod_bd u1 u2 (by omega : -1000000000 ≤ e') v4
    have HIN : Hid (M.okB p q = true → ¬ p * b ≤ a * q → ¬ c * q ≤ p * e' → d < q) := hide (fun _ k1 k2 => by
      have := M.inside b1 e1 dt (p := p) (q := q) (by omega) (by omega); omega)
    clear HLO HHI hn1 hn2 q1 q2 q3 q4 hok1 hok2 u1 u2 u4 v1 v2 v4 hs dt l1 l2 a1 a2 a3 a4
    obtain ⟨bt, hbt⟩ : ∃ bt, Hid (M.okB p q = bt) := ⟨_, rfl⟩
    obtain ⟨⟨r1, r2, r3, r4⟩, ⟨_, _⟩, _⟩ := HL3.out
    obtain ⟨g1, g2, _⟩ := HX3.out
    obtain ⟨g3, g4, _⟩ := HY3.out
    go_wp2_with fail
    refine (rvalid_is a b true _ hv1).mono ?_
    rintro en w4 ⟨rfl, hb⟩
    have HL4 := l2_step HL3 hb
    have HX4 := fx_step HX3 hb
    have HY4 := fx_step HY3 hb
    clear hb HL3 HX3 HY3 r1 r2 r3 r4 g1 g2 g3 g4
    obtain ⟨⟨r1, r2, r3, r4⟩, ⟨_, _⟩, _⟩ := HL4.out
    obtain ⟨g1, g2, _⟩ := HX4.out
    obtain ⟨g3, g4, _⟩ := HY4.out
    go_wp2_with fail
    refine (rvalid_is c e' true _ hv2).mono ?_
    rintro en w5 ⟨rfl, hb⟩
    have HL5 := l2_step HL4 hb
    have HX5 := fx_step HX4 hb
    have HY5 := fx_step HY4 hb
    clear hb HL4 HX4 HY4 r1 r2 r3 r4 g1 g2 g3 g4
    obtain ⟨⟨r1, r2, r3, r4⟩, ⟨_, _⟩, _⟩ := HL5.out
    obtain ⟨g1, g2, _⟩ := HX5.out
    obtain ⟨g3, g4, _⟩ := HY5.out
    go_wp2_with fail
    refine (under_any a b n m true _ HU.out.1 HU.out.2 HNB.out.1 HNB.out.2 HU1).mono ?_
    rintro en w6 ⟨rfl, hb⟩
    have HL6 := l2_step HL5 hb
    have HX6 := fx_step HX5 hb
    have HY6 := fx_step HY5 hb
    clear hb HL5 HX5 HY5 r1 r2 r3 r4 g1 g2 g3 g4
    obtain ⟨⟨r1, r2, r3, r4⟩, ⟨_, _⟩, _⟩ := HL6.out
    obtain ⟨g1, g2, _⟩ := HX6.out
    obtain ⟨g3, g4, _⟩ := HY6.out
    go_wp2_with fail
    refine (under_any n m c e' true _ HNB.out.1 HNB.out.2 HV.out.1 HV.out.2 HU2).mono ?_
    rintro en w7 ⟨rfl, hb⟩
    have HL7 := l2_step HL6 hb
    have HX7 := fx_step HX6 hb
    have HY7 := fx_step HY6 hb
    clear hb HL6 HX6 HY6 r1 r2 r3 r4 g1 g2 g3 g4
    obtain ⟨⟨r1, r2, r3, r4⟩, ⟨_, _⟩, _⟩ := HL7.out
    obtain ⟨g1, g2, _⟩ := HX7.out
    obtain ⟨g3, g4, _⟩ := HY7.out
    go_wp2_with fail
    refine (rvalid_is p q bt _ hbt).mono ?_
    rintro en w8 ⟨rfl, hb⟩
    have HL8 := l2_step HL7 hb
    have HX8 := fx_step HX7 hb
    have HY8 := fx_step HY7 hb
    clear hb HL7 HX7 HY7 r1 r2 r3 r4 g1 g2 g3 g4
    cases bt
    · clear hbm hem hdt hdt2
      obtain ⟨⟨r1, r2, r3, r4⟩, ⟨_, _⟩, _⟩ := HL8.out
      obtain ⟨g1, g2, _⟩ := HX8.out
      obtain ⟨g3, g4, _⟩ := HY8.out
      go_wp2_with fail
      refine (awake_any _).mono ?_
      rintro en w9 ⟨rfl, hb⟩
      have HL9 := l2_step HL8 hb
      clear hb
      go_wp2_with fail
      go_ret
      exact ⟨rfl, HL9.out.2.2⟩
    · obtain ⟨p1, p2, p3, p4⟩ := okB_in hbt.out
      have HPQ := hide (And.intro (And.intro p1 p2) (And.intro p3 p4))
      clear p1 p2 p3 p4
      by_cases hu1 : p * b ≤ a * q
      · have HW : Hid (true = decide (p * b ≤ a * q)) := hide (by simpa using hu1)
        clear hu1
        obtain ⟨⟨r1, r2, r3, r4⟩, ⟨_, _⟩, _⟩ := HL8.out
        obtain ⟨g1, g2, _⟩ := HX8.out
        obtain ⟨g3, g4, _⟩ := HY8.out
        go_wp2_with fail
        refine (under_any p q a b true _ HPQ.out.1 HPQ.out.2 HU.out.1 HU.out.2 HW).mono ?_
        rintro en w9 ⟨rfl, hb⟩
        have HL9 := l2_step HL8 hb
        have HX9 := fx_step HX8 hb
        have HY9 := fx_step HY8 hb
        clear hb HL8 HX8 HY8 r1 r2 r3 r4 g1 g2 g3 g4
        obtain ⟨⟨r1, r2, r3, r4⟩, ⟨_, _⟩, _⟩ := HL9.out
        obtain ⟨g1, g2, _⟩ := HX9.out
        obtain ⟨g3, g4, _⟩ := HY9.out
        go_wp2_with fail
        refine (awake_any _).mono ?_
        rintro en w10 ⟨rfl, hb⟩
        have HL10 := l2_step HL9 hb
        clear hb
        go_wp2_with fail
        go_ret
        exact ⟨rfl, HL10.out.2.2⟩
      · have HW : Hid (false = decide (p * b ≤ a * q)) := hide (by simpa using hu1)
        by_cases hu2 : c * q ≤ p * e'
        · have HW2 : Hid (true = decide (c * q ≤ p * e')) := hide (by simpa using hu2)
          clear hu1 hu2
          obtain ⟨⟨r1, r2, r3, r4⟩, ⟨_, _⟩, _⟩ := HL8.out
          obtain ⟨g1, g2, _⟩ := HX8.out
          obtain ⟨g3, g4, _⟩ := HY8.out
          go_wp2_with fail
          refine (under_any p q a b false _ HPQ.out.1 HPQ.out.2 HU.out.1 HU.out.2 HW).mono ?_
          rintro en w9 ⟨rfl, hb⟩
          have HL9 := l2_step HL8 hb
          have HX9 := fx_step HX8 hb
          have HY9 := fx_step HY8 hb
          clear hb HL8 HX8 HY8 r1 r2 r3 r4 g1 g2 g3 g4
          obtain ⟨⟨r1, r2, r3, r4⟩, ⟨_, _⟩, _⟩ := HL9.out
          obtain ⟨g1, g2, _⟩ := HX9.out
          obtain ⟨g3, g4, _⟩ := HY9.out
          go_wp2_with fail
          refine (under_any c e' p q true _ HV.out.1 HV.out.2 HPQ.out.1 HPQ.out.2 HW2).mono ?_
          rintro en w10 ⟨rfl, hb⟩
          have HL10 := l2_step HL9 hb
          have HX10 := fx_step HX9 hb
          have HY10 := fx_step HY9 hb
          clear hb HL9 HX9 HY9 r1 r2 r3 r4 g1 g2 g3 g4
          obtain ⟨⟨r1, r2, r3, r4⟩, ⟨_, _⟩, _⟩ := HL10.out
          obtain ⟨g1, g2, _⟩ := HX10.out
          obtain ⟨g3, g4, _⟩ := HY10.out
          go_wp2_with fail
          refine (awake_any _).mono ?_
          rintro en w11 ⟨rfl, hb⟩
          have HL11 := l2_step HL10 hb
          clear hb
          go_wp2_with fail
          go_ret
          exact ⟨rfl, HL11.out.2.2⟩
        · have HW2 : Hid (false = decide (c * q ≤ p * e')) := hide (by simpa using hu2)
          have hdq := HIN.out hbt.out (by omega) (by omega)
          clear hu1 hu2
          obtain ⟨⟨r1, r2, r3, r4⟩, ⟨_, _⟩, _⟩ := HL8.out
          obtain ⟨g1, g2, _⟩ := HX8.out
          obtain ⟨g3, g4, _⟩ := HY8.out
          go_wp2_with fail
          refine (under_any p q a b false _ HPQ.out.1 HPQ.out.2 HU.out.1 HU.out.2 HW).mono ?_
          rintro en w9 ⟨rfl, hb⟩
          have HL9 := l2_step HL8 hb
          have HX9 := fx_step HX8 hb
          have HY9 := fx_step HY8 hb
          clear hb HL8 HX8 HY8 r1 r2 r3 r4 g1 g2 g3 g4
          obtain ⟨⟨r1, r2, r3, r4⟩, ⟨_, _⟩, _⟩ := HL9.out
          obtain ⟨g1, g2, _⟩ := HX9.out
          obtain ⟨g3, g4, _⟩ := HY9.out
          go_wp2_with fail
          refine (under_any c e' p q false _ HV.out.1 HV.out.2 HPQ.out.1 HPQ.out.2 HW2).mono ?_
          rintro en w10 ⟨rfl, hb⟩
          have HL10 := l2_step HL9 hb
          have HX10 := fx_step HX9 hb
          have HY10 := fx_step HY9 hb
          clear hb HL9 HX9 HY9 r1 r2 r3 r4 g1 g2 g3 g4
          obtain ⟨⟨r1, r2, r3, r4⟩, ⟨_, _⟩, _⟩ := HL10.out
          obtain ⟨g1, g2, _⟩ := HX10.out
          obtain ⟨g3, g4, _⟩ := HY10.out
          go_wp2_with fail
          refine (awake_any _).mono ?_
          rintro en w11 ⟨rfl, hb⟩
          have HL11 := l2_step HL10 hb
          clear hb
          go_wp2_with fail
          go_ret
          exact ⟨rfl, HL11.out.2.2⟩
theorem law_neighbours (n m p q d : Int) (w : World) (i1 : In64 n) (i2 : In64 m) (i3 : In64 p) (i4 : In64 q) (i5 : In64 d) : Calls Try.prog 12 #[.agg #[.int .i64 n, .int .i64 m], .agg #[.int .i64 p, .int .i64 q], .int .i64 d] w fun e w' => e = .returned (.bool true) ∧ Below w.heap.size w w' := by
  cases c : (M.okB n m && denB d)
  · exact law_nb_no n m p q d w i1 i2 c
  · rw [Bool.and_eq_true] at c
    exact law_nb_yes n m p q d w c.1 c.2
end Go.Proofs.Ytpgnbjlpkpmpcaa.R
