import Derived.Test.YtpgnbjlpkpmpcaaDi
import Derived.Test.YtpgnbjlpkpmpcaaZi
set_option linter.unusedVariables false
namespace Go.Proofs.Ytpgnbjlpkpmpcaa.R
open Go.RowKit Go.Proofs.Ytpgnbjlpkpmpcaa.N
set_option maxRecDepth 100000 in
set_option maxHeartbeats 4000000 in
theorem law_nears_no (n m d : Int) (w : World) (i1 : In64 n) (i2 : In64 m) (h : (M.okB n m && denB d) = false) : Calls Try.prog 11 #[.agg #[.int .i64 n, .int .i64 m], .int .i64 d] w fun e w' => e = .returned (.bool true) ∧ Below w.heap.size w w' := by
  have G : Hid (In64 n ∧ In64 m) := hide ⟨i1, i2⟩
  have H0 := hide h
  clear h i1 i2
  have HF := fx_new w n m
  have HB := hide (ba (Below.refl w.heap.size w) (.cells #[.int .i64 n, .int .i64 m] 23))
  go_enter Try.func11, Try.ntmps11
  go_wp2_with fail
  refine (below_no n m d _ G.out.1 G.out.2 H0.out).mono ?_
  rintro en w1 ⟨rfl, hb⟩
  have HF' := fx_step HF hb
  have HF := fx_step (fx_step HF hb) (ba (Below.refl _ _) (.cells #[.int .i64 0, .int .i64 0] 23))
  have HB := hide (bt (bt HB.out hb) (ba (Below.refl _ _) (.cells #[.int .i64 0, .int .i64 0] 23)))
  have HA := fx_new w1 0 0
  clear hb
  obtain ⟨r1, r2, r0⟩ := HF'.out
  go_wp2_with fail
  clear r1 r2 r0 HF'
  refine (above_no n m d _ G.out.1 G.out.2 H0.out).mono ?_
  rintro en w2 ⟨rfl, hb⟩
  have HF' := fx_step HF hb
  have HF := fx_step (fx_step HF hb) (ba (Below.refl _ _) (.cells #[.int .i64 0, .int .i64 0] 23))
  have HB := hide (bt (bt HB.out hb) (ba (Below.refl _ _) (.cells #[.int .i64 0, .int .i64 0] 23)))
  have HA' := fx_step HA hb
  have HA := fx_step (fx_step HA hb) (ba (Below.refl _ _) (.cells #[.int .i64 0, .int .i64 0] 23))
  have HC := fx_new w2 0 0
  clear hb
  obtain ⟨r1, r2, r0⟩ := HF'.out
  obtain ⟨p0, q0, s0⟩ := HA'.out
  go_wp2_with fail
  clear r1 r2 r0 p0 q0 s0 HF' HA'
  refine (near_no n m d _ G.out.1 G.out.2 H0.out).mono ?_
  rintro en w3 ⟨rfl, hb⟩
  have HF' := fx_step HF hb
  have HF := fx_step (fx_step HF hb) (ba (Below.refl _ _) (.cells #[.int .i64 0, .int .i64 0] 23))
  have HB := hide (bt (bt HB.out hb) (ba (Below.refl _ _) (.cells #[.int .i64 0, .int .i64 0] 23)))
  have HA' := fx_step HA hb
  have HA := fx_step (fx_step HA hb) (ba (Below.refl _ _) (.cells #[.int .i64 0, .int .i64 0] 23))
  have HC' := fx_step HC hb
  have HC := fx_step (fx_step HC hb) (ba (Below.refl _ _) (.cells #[.int .i64 0, .int .i64 0] 23))
  have HX := fx_new w3 0 0
  clear hb
  obtain ⟨r1, r2, r0⟩ := HF'.out
  obtain ⟨p0, q0, s0⟩ := HA'.out
  obtain ⟨p1, q1, s1⟩ := HC'.out
  go_wp2_with fail
  clear r1 r2 r0 p0 q0 s0 p1 q1 s1 HF' HA' HC'
  refine (around_no n m d _ H0.out).mono ?_
  rintro en w4 ⟨rfl, hb⟩
  have HF' := fx_step HF hb
  have HF := fx_step (fx_step HF hb) (ba (ba (Below.refl _ _) (.cells #[.int .i64 0, .int .i64 0] 23)) (.cells #[.int .i64 0, .int .i64 0] 23))
  have HB := hide (bt (bt HB.out hb) (ba (ba (Below.refl _ _) (.cells #[.int .i64 0, .int .i64 0] 23)) (.cells #[.int .i64 0, .int .i64 0] 23)))
  have HA' := fx_step HA hb
  have HA := fx_step (fx_step HA hb) (ba (ba (Below.refl _ _) (.cells #[.int .i64 0, .int .i64 0] 23)) (.cells #[.int .i64 0, .int .i64 0] 23))
  have HC' := fx_step HC hb
  have HC := fx_step (fx_step HC hb) (ba (ba (Below.refl _ _) (.cells #[.int .i64 0, .int .i64 0] 23)) (.cells #[.int .i64 0, .int .i64 0] 23))
  have HX' := fx_step HX hb
  have HX := fx_step (fx_step HX hb) (ba (ba (Below.refl _ _) (.cells #[.int .i64 0, .int .i64 0] 23)) (.cells #[.int .i64 0, .int .i64 0] 23))
  have HA2 := fx_step (fx_new w4 0 0) (ba (Below.refl _ _) (.cells #[.int .i64 0, .int .i64 0] 23))
  have HC2 := fx_new (w4.alloc (.cells #[.int .i64 0, .int .i64 0] 23)) 0 0
  have hs4 : (w4.alloc (.cells #[.int .i64 0, .int .i64 0] 23)).heap.size = w4.heap.size + 1 := by simp
  rw [hs4] at HC2
  clear hs4
  clear hb
  obtain ⟨r1, r2, r0⟩ := HF'.out
  obtain ⟨p0, q0, s0⟩ := HA'.out
  obtain ⟨p1, q1, s1⟩ := HC'.out
  obtain ⟨p2, q2, s2⟩ := HX'.out
  go_wp2_with fail
  clear r1 r2 r0 p0 q0 s0 p1 q1 s1 p2 q2 s2 HF' HA' HC' HX'
  refine (rnear_no n m d _ H0.out).mono ?_
  rintro en w5 ⟨rfl, hb⟩
  have HF' := fx_step HF hb
  have HF := fx_step (fx_step HF hb) (ba (Below.refl _ _) (.cells #[.int .i64 0, .int .i64 0] 23))
  have HB := hide (bt (bt HB.out hb) (ba (Below.refl _ _) (.cells #[.int .i64 0, .int .i64 0] 23)))
  have HA' := fx_step HA hb
  have HA := fx_step (fx_step HA hb) (ba (Below.refl _ _) (.cells #[.int .i64 0, .int .i64 0] 23))
  have HC' := fx_step HC hb
  have HC := fx_step (fx_step HC hb) (ba (Below.refl _ _) (.cells #[.int .i64 0, .int .i64 0] 23))
  have HX' := fx_step HX hb
  have HX := fx_step (fx_step HX hb) (ba (Below.refl _ _) (.cells #[.int .i64 0, .int .i64 0] 23))
  have HA2' := fx_step HA2 hb
  have HA2 := fx_step (fx_step HA2 hb) (ba (Below.refl _ _) (.cells #[.int .i64 0, .int .i64 0] 23))
  have HC2' := fx_step HC2 hb
  have HC2 := fx_step (fx_step HC2 hb) (ba (Below.refl _ _) (.cells #[.int .i64 0, .int .i64 0] 23))
  have HX2 := fx_new w5 0 0
  clear hb
  obtain ⟨r1, r2, r0⟩ := HF'.out
  obtain ⟨p0, q0, s0⟩ := HA'.out
  obtain ⟨p1, q1, s1⟩ := HC'.out
  obtain ⟨p2, q2, s2⟩ := HX'.out
  obtain ⟨p3, q3, s3⟩ := HA2'.out
  obtain ⟨p4, q4, s4⟩ := HC2'.out
  go_wp2_with fail
  clear r1 r2 r0 p0 q0 s0 p1 q1 s1 p2 q2 s2 p3 q3 s3 p4 q4 s4 HF' HA' HC' HX' HA2' HC2'
  refine (awake_any _).mono ?_
  rintro en w9 ⟨rfl, hb⟩
  have HB := hide (bt HB.out hb)
  clear hb
  go_wp2_with fail
  go_ret
  exact ⟨rfl, HB.out⟩
set_option maxRecDepth 100000 in
set_option maxHeartbeats 4000000 in
theorem law_nears_yes (n m d : Int) (w : World) (h1 : M.okB n m = true) (h2 : denB d = true) : Calls Try.prog 11 #[.agg #[.int .i64 n, .int .i64 m], .int .i64 d] w fun e w' => e = .returned (.bool true) ∧ Below w.heap.size w w' := by
  have H1 := hide h1
  have H2 := hide h2
  have HM0 : Hid (0 < m) := hide (by have := okB_in h1; omega)
  clear h1 h2
  have HF := fx_new w n m
  have HB := hide (ba (Below.refl w.heap.size w) (.cells #[.int .i64 n, .int .i64 m] 23))
  go_enter Try.func11, Try.ntmps11
  go_wp2_with fail
  refine (below_yes n m d _ H1.out H2.out).mono ?_
  rintro en w1 ⟨a, b, rfl, hlo, hb⟩
  have HLO := hide hlo
  clear hlo
  have HF' := fx_step HF hb
  have HF := fx_step (fx_step HF hb) (ba (Below.refl _ _) (.cells #[.int .i64 a, .int .i64 b] 23))
  have HB := hide (bt (bt HB.out hb) (ba (Below.refl _ _) (.cells #[.int .i64 a, .int .i64 b] 23)))
  have HA := fx_new w1 a b
  clear hb
  obtain ⟨r1, r2, r0⟩ := HF'.out
  go_wp2_with fail
  clear r1 r2 r0 HF'
  refine (above_yes n m d _ H1.out H2.out).mono ?_
  rintro en w2 ⟨c, e', rfl, hhi, hb⟩
  have HHI := hide hhi
  clear hhi
  have HF' := fx_step HF hb
  have HF := fx_step (fx_step HF hb) (ba (Below.refl _ _) (.cells #[.int .i64 c, .int .i64 e'] 23))
  have HB := hide (bt (bt HB.out hb) (ba (Below.refl _ _) (.cells #[.int .i64 c, .int .i64 e'] 23)))
  have HA' := fx_step HA hb
  have HA := fx_step (fx_step HA hb) (ba (Below.refl _ _) (.cells #[.int .i64 c, .int .i64 e'] 23))
  have HC := fx_new w2 c e'
  clear hb
  obtain ⟨r1, r2, r0⟩ := HF'.out
  obtain ⟨p0, q0, s0⟩ := HA'.out
  go_wp2_with fail
  clear r1 r2 r0 p0 q0 s0 HF' HA'
  refine (near_yes n m d _ H1.out H2.out).mono ?_
  rintro en w3 ⟨x, y, rfl, hnr, hb⟩
  have HNR := hide hnr
  clear hnr
  have HF' := fx_step HF hb
  have HF := fx_step (fx_step HF hb) (ba (Below.refl _ _) (.cells #[.int .i64 x, .int .i64 y] 23))
  have HB := hide (bt (bt HB.out hb) (ba (Below.refl _ _) (.cells #[.int .i64 x, .int .i64 y] 23)))
  have HA' := fx_step HA hb
  have HA := fx_step (fx_step HA hb) (ba (Below.refl _ _) (.cells #[.int .i64 x, .int .i64 y] 23))
  have HC' := fx_step HC hb
  have HC := fx_step (fx_step HC hb) (ba (Below.refl _ _) (.cells #[.int .i64 x, .int .i64 y] 23))
  have HX := fx_new w3 x y
  clear hb
  obtain ⟨r1, r2, r0⟩ := HF'.out
  obtain ⟨p0, q0, s0⟩ := HA'.out
  obtain ⟨p1, q1, s1⟩ := HC'.out
  go_wp2_with fail
  clear r1 r2 r0 p0 q0 s0 p1 q1 s1 HF' HA' HC'
  refine (around_yes n m d _ H1.out H2.out).mono ?_
  rintro en w4 ⟨a2, b2, c2, e2, rfl, hlh, hb⟩
  obtain ⟨rfl, rfl⟩ := lo_unique HM0.out HLO.out hlh.1
  obtain ⟨rfl, rfl⟩ := hi_unique HM0.out HHI.out hlh.2
  clear hlh
  have HF' := fx_step HF hb
  have HF := fx_step (fx_step HF hb) (ba (ba (Below.refl _ _) (.cells #[.int .i64 a, .int .i64 b] 23)) (.cells #[.int .i64 c, .int .i64 e'] 23))
  have HB := hide (bt (bt HB.out hb) (ba (ba (Below.refl _ _) (.cells #[.int .i64 a, .int .i64 b] 23)) (.cells #[.int .i64 c, .int .i64 e'] 23)))
  have HA' := fx_step HA hb
  have HA := fx_step (fx_step HA hb) (ba (ba (Below.refl _ _) (.cells #[.int .i64 a, .int .i64 b] 23)) (.cells #[.int .i64 c, .int .i64 e'] 23))
  have HC' := fx_step HC hb
  have HC := fx_step (fx_step HC hb) (ba (ba (Below.refl _ _) (.cells #[.int .i64 a, .int .i64 b] 23)) (.cells #[.int .i64 c, .int .i64 e'] 23))
  have HX' := fx_step HX hb
  have HX := fx_step (fx_step HX hb) (ba (ba (Below.refl _ _) (.cells #[.int .i64 a, .int .i64 b] 23)) (.cells #[.int .i64 c, .int .i64 e'] 23))
  have HA2 := fx_step (fx_new w4 a b) (ba (Below.refl _ _) (.cells #[.int .i64 c, .int .i64 e'] 23))
  have HC2 := fx_new (w4.alloc (.cells #[.int .i64 a, .int .i64 b] 23)) c e'
  have hs4 : (w4.alloc (.cells #[.int .i64 a, .int .i64 b] 23)).heap.size = w4.heap.size + 1 := by simp
  rw [hs4] at HC2
  clear hs4
  clear hb
  obtain ⟨r1, r2, r0⟩ := HF'.out
  obtain ⟨p0, q0, s0⟩ := HA'.out
  obtain ⟨p1, q1, s1⟩ := HC'.out
  obtain ⟨p2, q2, s2⟩ := HX'.out
  go_wp2_with fail
  clear r1 r2 r0 p0 q0 s0 p1 q1 s1 p2 q2 s2 HF' HA' HC' HX'
  refine (rnear_yes n m d _ H1.out H2.out).mono ?_
  rintro en w5 ⟨x2, y2, rfl, hnr2, hb⟩
  obtain ⟨rfl, rfl⟩ := nr_unique HM0.out HNR.out hnr2
  clear hnr2
  have HF' := fx_step HF hb
  have HF := fx_step (fx_step HF hb) (ba (Below.refl _ _) (.cells #[.int .i64 x, .int .i64 y] 23))
  have HB := hide (bt (bt HB.out hb) (ba (Below.refl _ _) (.cells #[.int .i64 x, .int .i64 y] 23)))
  have HA' := fx_step HA hb
  have HA := fx_step (fx_step HA hb) (ba (Below.refl _ _) (.cells #[.int .i64 x, .int .i64 y] 23))
  have HC' := fx_step HC hb
  have HC := fx_step (fx_step HC hb) (ba (Below.refl _ _) (.cells #[.int .i64 x, .int .i64 y] 23))
  have HX' := fx_step HX hb
  have HX := fx_step (fx_step HX hb) (ba (Below.refl _ _) (.cells #[.int .i64 x, .int .i64 y] 23))
  have HA2' := fx_step HA2 hb
  have HA2 := fx_step (fx_step HA2 hb) (ba (Below.refl _ _) (.cells #[.int .i64 x, .int .i64 y] 23))
  have HC2' := fx_step HC2 hb
  have HC2 := fx_step (fx_step HC2 hb) (ba (Below.refl _ _) (.cells #[.int .i64 x, .int .i64 y] 23))
  have HX2 := fx_new w5 x y
  clear hb
  obtain ⟨r1, r2, r0⟩ := HF'.out
  obtain ⟨p0, q0, s0⟩ := HA'.out
  obtain ⟨p1, q1, s1⟩ := HC'.out
  obtain ⟨p2, q2, s2⟩ := HX'.out
  obtain ⟨p3, q3, s3⟩ := HA2'.out
  obtain ⟨p4, q4, s4⟩ := HC2'.out
  go_wp2_with fail
  clear r1 r2 r0 p0 q0 s0 p1 q1 s1 p2 q2 s2 p3 q3 s3 p4 q4 s4 HF' HA' HC' HX' HA2' HC2'
  refine (awake_any _).mono ?_
  rintro en w9 ⟨rfl, hb⟩
  have HB := hide (bt HB.out hb)
  clear hb
  go_wp2_with fail
  go_ret
  exact ⟨rfl, HB.out⟩
theorem law_nears (n m d : Int) (w : World) (i1 : In64 n) (i2 : In64 m) (i3 : In64 d) : Calls Try.prog 11 #[.agg #[.int .i64 n, .int .i64 m], .int .i64 d] w fun e w' => e = .returned (.bool true) ∧ Below w.heap.size w w' := by
  cases c : (M.okB n m && denB d)
  · exact law_nears_no n m d w i1 i2 c
  · rw [Bool.and_eq_true] at c
    exact law_nears_yes n m d w c.1 c.2
end Go.Proofs.Ytpgnbjlpkpmpcaa.R
