import Derived.Test.YtpgnbjlpkpmpcaaEc
import Derived.Test.YtpgnbjlpkpmpcaaDd
import Derived.Deep.DeepCutAuto
set_option linter.unusedVariables false
namespace Go.Proofs.Ytpgnbjlpkpmpcaa.R
open Go.RowKit Go.Proofs.Ytpgnbjlpkpmpcaa.N
theorem lst_self {p s x y : Int} (h : M.okB p s = true) (k : Lst p s p s x y) : x = p ∧ y = s := by
  obtain ⟨⟨ok, l1, l2⟩, hm⟩ := k
  have hs := M.okB_pos h
  have hy := M.okB_pos ok
  have e : x * s = p * y := by omega
  have hg := ((M.okB_iff p s).1 h).2.2.2.2
  have h1 : s ∣ y := by
    have h2 : s.natAbs ∣ p.natAbs * y.natAbs := by rw [← Int.natAbs_mul, ← e, Int.natAbs_mul]; exact Nat.dvd_mul_left _ _
    exact Int.natAbs_dvd_natAbs.1 ((Nat.Coprime.symm hg).dvd_of_dvd_mul_left h2)
  have h3 := Int.le_of_dvd hy h1
  have hy2 : y = s := by
    rcases hm p s (by omega) (by omega) (by omega) with c | c
    · omega
    · exact c.1
  subst hy2
  exact ⟨Int.eq_of_mul_eq_mul_right (by omega) e, rfl⟩
/-- the three boxes of a law of three fractions -/
def L3 (w0 w : World) (n d m q p s : Int) : Prop := ((w.cell? ⟨w0.heap.size, 0, none⟩ = some (.int .i64 n) ∧ w.cell? ⟨w0.heap.size, 1, none⟩ = some (.int .i64 d)) ∧ (w.cell? ⟨w0.heap.size + 1, 0, none⟩ = some (.int .i64 m) ∧ w.cell? ⟨w0.heap.size + 1, 1, none⟩ = some (.int .i64 q)) ∧ (w.cell? ⟨w0.heap.size + 1 + 1, 0, none⟩ = some (.int .i64 p) ∧ w.cell? ⟨w0.heap.size + 1 + 1, 1, none⟩ = some (.int .i64 s))) ∧ (w0.heap.size < w.heap.size ∧ w0.heap.size + 1 < w.heap.size ∧ w0.heap.size + 1 + 1 < w.heap.size) ∧ Below w0.heap.size w0 w
theorem l3_step {w0 w w' : World} {n d m q p s : Int} (h : Hid (L3 w0 w n d m q p s)) (hb : Below w.heap.size w w') : Hid (L3 w0 w' n d m q p s) := by
  obtain ⟨⟨⟨c1, c2⟩, ⟨c3, c4⟩, ⟨c5, c6⟩⟩, ⟨z1, z2, z3⟩, b⟩ := h.out
  have := hb.size
  exact hide ⟨⟨⟨kc hb c1, kc hb c2⟩, ⟨kc hb c3, kc hb c4⟩, ⟨kc hb c5, kc hb c6⟩⟩, ⟨by omega, by omega, by omega⟩, bt b hb⟩
theorem l3_start (w : World) (n d m q p s : Int) : Hid (L3 w (((w.alloc (.cells #[.int .i64 n, .int .i64 d] 23)).alloc (.cells #[.int .i64 m, .int .i64 q] 23)).alloc (.cells #[.int .i64 p, .int .i64 s] 23)) n d m q p s) :=
  hide ⟨⟨⟨by simp [go_sem], by simp [go_sem]⟩, ⟨by simp [go_sem], by simp [go_sem]⟩, ⟨by simp [go_sem], by simp [go_sem]⟩⟩, ⟨by simp <;> omega, by simp <;> omega, by simp⟩, ba (ba (ba (Below.refl _ _) _) _) _⟩
def Ins3 (n d m q p s : Int) : Prop := (In64 n ∧ In64 d) ∧ (In64 m ∧ In64 q) ∧ (In64 p ∧ In64 s)
def Lb (bi : Bool) (v : Value) : Prop := ∃ lb : Bool, v = .bool lb ∧ (bi = true → lb = true)
set_option maxRecDepth 100000 in
set_option maxHeartbeats 8000000 in
theorem law_least_fa1 (n d m q p s : Int) (w : World) (i1 : In64 n) (i2 : In64 d) (i3 : In64 m) (i4 : In64 q) (i5 : In64 p) (i6 : In64 s) (hc0 : M.okB p s = false) (h1 : M.okB n d = false) : Calls Try.prog 14 #[.agg #[.int .i64 n, .int .i64 d], .agg #[.int .i64 m, .int .i64 q], .agg #[.int .i64 p, .int .i64 s]] w fun e w' => e = .returned (.bool true) ∧ Below w.heap.size w w' := by
  have G : Hid (Ins3 n d m q p s) := hide ⟨⟨i1, i2⟩, ⟨i3, i4⟩, ⟨i5, i6⟩⟩
  clear i1 i2 i3 i4 i5 i6
  have hc := hide hc0
  clear hc0
  have ha := hide h1
  have HNO : Hid ((M.okB n d && M.okB m q) = false) := hide (by rw [h1]; rfl)
  clear h1
  have HL0 := l3_start w n d m q p s
  go_enter Try.func14, Try.ntmps14
  go_wp2_with fail
  refine (least_bad p s p s _ G.out.2.2.1 G.out.2.2.2 G.out.2.2.1 G.out.2.2.2 (by rw [hc.out]; rfl)).mono ?_
  rintro en w1 ⟨rfl, hb⟩
  have HL1 := l3_step HL0 (ba hb (.cells #[.int .i64 0, .int .i64 0] 23))
  have HL1' := l3_step HL0 hb
  clear hb HL0
  obtain ⟨⟨⟨r1, r2⟩, ⟨r3, r4⟩, ⟨r5, r6⟩⟩, ⟨_, _, _⟩, _⟩ := HL1'.out
  go_wp2_with fail
  refine (rvalid_is p s false _ hc).mono ?_
  rintro en w2 ⟨rfl, hb⟩
  have HL2 := l3_step HL1 hb
  have HX2 := fx_step (fx_new w1 0 0) hb
  clear hb HL1 HL1'
  clear r1 r2 r3 r4 r5 r6
  obtain ⟨⟨⟨r1, r2⟩, ⟨r3, r4⟩, ⟨r5, r6⟩⟩, ⟨_, _, _⟩, _⟩ := HL2.out
  obtain ⟨g1, g2, _⟩ := HX2.out
  go_wp2_with fail
  refine (least_bad n d m q _ G.out.1.1 G.out.1.2 G.out.2.1.1 G.out.2.1.2 HNO.out).mono ?_
  rintro en w3 ⟨rfl, hb⟩
  have HL3 := l3_step HL2 (ba hb (.cells #[.int .i64 0, .int .i64 0] 23))
  have HL3' := l3_step HL2 hb
  clear hb HL2 g1 g2 HX2
  clear r1 r2 r3 r4 r5 r6
  obtain ⟨⟨⟨r1, r2⟩, ⟨r3, r4⟩, ⟨r5, r6⟩⟩, ⟨_, _, _⟩, _⟩ := HL3'.out
  go_wp2_with fail
  refine (rvalid_is n d false _ ha).mono ?_
  rintro en w4 ⟨rfl, hb⟩
  have HL4 := l3_step HL3 hb
  clear hb HL3 HL3'
  clear r1 r2 r3 r4 r5 r6
  go_wp2_with fail
  refine (awake_any _).mono ?_
  rintro en w9 ⟨rfl, hb⟩
  have HB9 := hide (bt HL4.out.2.2 hb)
  clear hb
  go_wp2_with fail
  go_ret
  exact ⟨rfl, HB9.out⟩
set_option maxRecDepth 100000 in
set_option maxHeartbeats 8000000 in
theorem law_least_fa2 (n d m q p s : Int) (w : World) (i1 : In64 n) (i2 : In64 d) (i3 : In64 m) (i4 : In64 q) (i5 : In64 p) (i6 : In64 s) (hc0 : M.okB p s = false) (h1 : M.okB n d = true) (h2 : M.okB m q = false) : Calls Try.prog 14 #[.agg #[.int .i64 n, .int .i64 d], .agg #[.int .i64 m, .int .i64 q], .agg #[.int .i64 p, .int .i64 s]] w fun e w' => e = .returned (.bool true) ∧ Below w.heap.size w w' := by
  have G : Hid (Ins3 n d m q p s) := hide ⟨⟨i1, i2⟩, ⟨i3, i4⟩, ⟨i5, i6⟩⟩
  clear i1 i2 i3 i4 i5 i6
  have hc := hide hc0
  clear hc0
  have ha := hide h1
  have hb' := hide h2
  have HNO : Hid ((M.okB n d && M.okB m q) = false) := hide (by rw [h1, h2]; rfl)
  clear h1 h2
  have HL0 := l3_start w n d m q p s
  go_enter Try.func14, Try.ntmps14
  go_wp2_with fail
  refine (least_bad p s p s _ G.out.2.2.1 G.out.2.2.2 G.out.2.2.1 G.out.2.2.2 (by rw [hc.out]; rfl)).mono ?_
  rintro en w1 ⟨rfl, hb⟩
  have HL1 := l3_step HL0 (ba hb (.cells #[.int .i64 0, .int .i64 0] 23))
  have HL1' := l3_step HL0 hb
  clear hb HL0
  obtain ⟨⟨⟨r1, r2⟩, ⟨r3, r4⟩, ⟨r5, r6⟩⟩, ⟨_, _, _⟩, _⟩ := HL1'.out
  go_wp2_with fail
  refine (rvalid_is p s false _ hc).mono ?_
  rintro en w2 ⟨rfl, hb⟩
  have HL2 := l3_step HL1 hb
  have HX2 := fx_step (fx_new w1 0 0) hb
  clear hb HL1 HL1'
  clear r1 r2 r3 r4 r5 r6
  obtain ⟨⟨⟨r1, r2⟩, ⟨r3, r4⟩, ⟨r5, r6⟩⟩, ⟨_, _, _⟩, _⟩ := HL2.out
  obtain ⟨g1, g2, _⟩ := HX2.out
  go_wp2_with fail
  refine (least_bad n d m q _ G.out.1.1 G.out.1.2 G.out.2.1.1 G.out.2.1.2 HNO.out).mono ?_
  rintro en w3 ⟨rfl, hb⟩
  have HL3 := l3_step HL2 (ba hb (.cells #[.int .i64 0, .int .i64 0] 23))
  have HL3' := l3_step HL2 hb
  clear hb HL2 g1 g2 HX2
  clear r1 r2 r3 r4 r5 r6
  obtain ⟨⟨⟨r1, r2⟩, ⟨r3, r4⟩, ⟨r5, r6⟩⟩, ⟨_, _, _⟩, _⟩ := HL3'.out
  go_wp2_with fail
  refine (rvalid_is n d true _ ha).mono ?_
  rintro en w4 ⟨rfl, hb⟩
  have HL4 := l3_step HL3 hb
  clear hb HL3 HL3'
  clear r1 r2 r3 r4 r5 r6
  obtain ⟨⟨⟨r1, r2⟩, ⟨r3, r4⟩, ⟨r5, r6⟩⟩, ⟨_, _, _⟩, _⟩ := HL4.out
  go_wp2_with fail
  refine (rvalid_is m q false _ hb').mono ?_
  rintro en w5 ⟨rfl, hb⟩
  have HL5 := l3_step HL4 hb
  clear hb HL4
  clear r1 r2 r3 r4 r5 r6
  go_wp2_with fail
  refine (awake_any _).mono ?_
  rintro en w9 ⟨rfl, hb⟩
  have HB9 := hide (bt HL5.out.2.2 hb)
  clear hb
  go_wp2_with fail
  go_ret
  exact ⟨rfl, HB9.out⟩
set_option maxRecDepth 100000 in
set_option maxHeartbeats 8000000 in
theorem law_least_fb (n d m q p s : Int) (w : World) (i1 : In64 n) (i2 : In64 d) (i3 : In64 m) (i4 : In64 q) (i5 : In64 p) (i6 : In64 s) (hc0 : M.okB p s = false) (h1 : M.okB n d = true) (h2 : M.okB m q = true) (h3 : m * d < n * q) : Calls Try.prog 14 #[.agg #[.int .i64 n, .int .i64 d], .agg #[.int .i64 m, .int .i64 q], .agg #[.int .i64 p, .int .i64 s]] w fun e w' => e = .returned (.bool true) ∧ Below w.heap.size w w' := by
  have G : Hid (Ins3 n d m q p s) := hide ⟨⟨i1, i2⟩, ⟨i3, i4⟩, ⟨i5, i6⟩⟩
  clear i1 i2 i3 i4 i5 i6
  have hc := hide hc0
  clear hc0
  have ha := hide h1
  have hb' := hide h2
  obtain ⟨a1, a2, a3, a4⟩ := okB_in h1
  obtain ⟨b1, b2, b3, b4⟩ := okB_in h2
  have HAB := hide (And.intro (And.intro (And.intro a1 a2) (And.intro a3 a4)) (And.intro (And.intro b1 b2) (And.intro b3 b4)))
  have HOR := hide h3
  have HUN : Hid (false = decide (n * q ≤ m * d)) := hide (by simp; omega)
  clear h1 h2 h3 a1 a2 a3 a4 b1 b2 b3 b4
  have HL0 := l3_start w n d m q p s
  go_enter Try.func14, Try.ntmps14
  go_wp2_with fail
  refine (least_bad p s p s _ G.out.2.2.1 G.out.2.2.2 G.out.2.2.1 G.out.2.2.2 (by rw [hc.out]; rfl)).mono ?_
  rintro en w1 ⟨rfl, hb⟩
  have HL1 := l3_step HL0 (ba hb (.cells #[.int .i64 0, .int .i64 0] 23))
  have HL1' := l3_step HL0 hb
  clear hb HL0
  obtain ⟨⟨⟨r1, r2⟩, ⟨r3, r4⟩, ⟨r5, r6⟩⟩, ⟨_, _, _⟩, _⟩ := HL1'.out
  go_wp2_with fail
  refine (rvalid_is p s false _ hc).mono ?_
  rintro en w2 ⟨rfl, hb⟩
  have HL2 := l3_step HL1 hb
  have HX2 := fx_step (fx_new w1 0 0) hb
  clear hb HL1 HL1'
  clear r1 r2 r3 r4 r5 r6
  obtain ⟨⟨⟨r1, r2⟩, ⟨r3, r4⟩, ⟨r5, r6⟩⟩, ⟨_, _, _⟩, _⟩ := HL2.out
  obtain ⟨g1, g2, _⟩ := HX2.out
  go_wp2_with fail
  refine (least_order n d m q _ ha.out hb'.out HOR.out).mono ?_
  rintro en w3 ⟨rfl, hb⟩
  have HL3 := l3_step HL2 (ba hb (.cells #[.int .i64 0, .int .i64 0] 23))
  have HL3' := l3_step HL2 hb
  clear hb HL2 g1 g2 HX2
  clear r1 r2 r3 r4 r5 r6
  obtain ⟨⟨⟨r1, r2⟩, ⟨r3, r4⟩, ⟨r5, r6⟩⟩, ⟨_, _, _⟩, _⟩ := HL3'.out
  go_wp2_with fail
  refine (rvalid_is n d true _ ha).mono ?_
  rintro en w4 ⟨rfl, hb⟩
  have HL4 := l3_step HL3 hb
  clear hb HL3 HL3'
  clear r1 r2 r3 r4 r5 r6
  obtain ⟨⟨⟨r1, r2⟩, ⟨r3, r4⟩, ⟨r5, r6⟩⟩, ⟨_, _, _⟩, _⟩ := HL4.out
  go_wp2_with fail
  refine (rvalid_is m q true _ hb').mono ?_
  rintro en w5 ⟨rfl, hb⟩
  have HL5 := l3_step HL4 hb
  clear hb HL4
  clear r1 r2 r3 r4 r5 r6
  obtain ⟨⟨⟨r1, r2⟩, ⟨r3, r4⟩, ⟨r5, r6⟩⟩, ⟨_, _, _⟩, _⟩ := HL5.out
  go_wp2_with fail
  refine (under_any n d m q false _ HAB.out.1.1 HAB.out.1.2 HAB.out.2.1 HAB.out.2.2 HUN).mono ?_
  rintro en w6 ⟨rfl, hb⟩
  have HL6 := l3_step HL5 hb
  clear hb HL5
  clear r1 r2 r3 r4 r5 r6
  go_wp2_with fail
  refine (awake_any _).mono ?_
  rintro en w9 ⟨rfl, hb⟩
  have HB9 := hide (bt HL6.out.2.2 hb)
  clear hb
  go_wp2_with fail
  go_ret
  exact ⟨rfl, HB9.out⟩
set_option maxRecDepth 100000 in
set_option maxHeartbeats 8000000 in
theorem law_least_fc (n d m q p s : Int) (w : World) (i1 : In64 n) (i2 : In64 d) (i3 : In64 m) (i4 : In64 q) (i5 : In64 p) (i6 : In64 s) (hc0 : M.okB p s = false) (h1 : M.okB n d = true) (h2 : M.okB m q = true) (h3 : n * q ≤ m * d) : Calls Try.prog 14 #[.agg #[.int .i64 n, .int .i64 d], .agg #[.int .i64 m, .int .i64 q], .agg #[.int .i64 p, .int .i64 s]] w fun e w' => e = .returned (.bool true) ∧ Below w.heap.size w w' := by
  have G : Hid (Ins3 n d m q p s) := hide ⟨⟨i1, i2⟩, ⟨i3, i4⟩, ⟨i5, i6⟩⟩
  clear i1 i2 i3 i4 i5 i6
  have hc := hide hc0
  clear hc0
  have ha := hide h1
  have hb' := hide h2
  obtain ⟨a1, a2, a3, a4⟩ := okB_in h1
  obtain ⟨b1, b2, b3, b4⟩ := okB_in h2
  have HAB := hide (And.intro (And.intro (And.intro a1 a2) (And.intro a3 a4)) (And.intro (And.intro b1 b2) (And.intro b3 b4)))
  have HOR := hide h3
  have HUN : Hid (true = decide (n * q ≤ m * d)) := hide (by simpa using h3)
  clear h1 h2 h3 a1 a2 a3 a4 b1 b2 b3 b4
  have HL0 := l3_start w n d m q p s
  go_enter Try.func14, Try.ntmps14
  go_wp2_with fail
  refine (least_bad p s p s _ G.out.2.2.1 G.out.2.2.2 G.out.2.2.1 G.out.2.2.2 (by rw [hc.out]; rfl)).mono ?_
  rintro en w1 ⟨rfl, hb⟩
  have HL1 := l3_step HL0 (ba hb (.cells #[.int .i64 0, .int .i64 0] 23))
  have HL1' := l3_step HL0 hb
  clear hb HL0
  obtain ⟨⟨⟨r1, r2⟩, ⟨r3, r4⟩, ⟨r5, r6⟩⟩, ⟨_, _, _⟩, _⟩ := HL1'.out
  go_wp2_with fail
  refine (rvalid_is p s false _ hc).mono ?_
  rintro en w2 ⟨rfl, hb⟩
  have HL2 := l3_step HL1 hb
  have HX2 := fx_step (fx_new w1 0 0) hb
  clear hb HL1 HL1'
  clear r1 r2 r3 r4 r5 r6
  obtain ⟨⟨⟨r1, r2⟩, ⟨r3, r4⟩, ⟨r5, r6⟩⟩, ⟨_, _, _⟩, _⟩ := HL2.out
  obtain ⟨g1, g2, _⟩ := HX2.out
  go_wp2_with fail
  refine (least_yes n d m q _ ha.out hb'.out HOR.out).mono ?_
  rintro en w3 ⟨x, y, rfl, hl, hb⟩
  have HLS := hide hl
  have hf := hide hl.1.1
  obtain ⟨f1, f2, f3, f4⟩ := okB_in hl.1.1
  have HFF := hide (And.intro (And.intro f1 f2) (And.intro f3 f4))
  have HU1 : Hid (true = decide (n * y ≤ x * d)) := hide (by simpa using hl.1.2.1)
  have HU2 : Hid (true = decide (x * q ≤ m * y)) := hide (by simpa using hl.1.2.2)
  have HL3 := l3_step HL2 (ba hb (.cells #[.int .i64 x, .int .i64 y] 23))
  have HL3' := l3_step HL2 hb
  have HF3 := fx_new w3 x y
  clear hb HL2 g1 g2 HX2 hl f1 f2 f3 f4
  clear r1 r2 r3 r4 r5 r6
  obtain ⟨⟨⟨r1, r2⟩, ⟨r3, r4⟩, ⟨r5, r6⟩⟩, ⟨_, _, _⟩, _⟩ := HL3'.out
  go_wp2_with fail
  refine (rvalid_is n d true _ ha).mono ?_
  rintro en w4 ⟨rfl, hb⟩
  have HL4 := l3_step HL3 hb
  have HF4 := fx_step HF3 hb
  clear hb HL3 HL3' HF3
  clear r1 r2 r3 r4 r5 r6
  obtain ⟨⟨⟨r1, r2⟩, ⟨r3, r4⟩, ⟨r5, r6⟩⟩, ⟨_, _, _⟩, _⟩ := HL4.out
  obtain ⟨g1, g2, _⟩ := HF4.out
  go_wp2_with fail
  refine (rvalid_is m q true _ hb').mono ?_
  rintro en w5 ⟨rfl, hb⟩
  have HL5 := l3_step HL4 hb
  have HF5 := fx_step HF4 hb
  clear hb HL4 HF4 g1 g2
  clear r1 r2 r3 r4 r5 r6
  obtain ⟨⟨⟨r1, r2⟩, ⟨r3, r4⟩, ⟨r5, r6⟩⟩, ⟨_, _, _⟩, _⟩ := HL5.out
  obtain ⟨g1, g2, _⟩ := HF5.out
  go_wp2_with fail
  refine (under_any n d m q true _ HAB.out.1.1 HAB.out.1.2 HAB.out.2.1 HAB.out.2.2 HUN).mono ?_
  rintro en w6 ⟨rfl, hb⟩
  have HL6 := l3_step HL5 hb
  have HF6 := fx_step HF5 hb
  clear hb HL5 HF5 g1 g2
  clear r1 r2 r3 r4 r5 r6
  obtain ⟨⟨⟨r1, r2⟩, ⟨r3, r4⟩, ⟨r5, r6⟩⟩, ⟨_, _, _⟩, _⟩ := HL6.out
  obtain ⟨g1, g2, _⟩ := HF6.out
  go_wp2_with fail
  refine (rvalid_is x y true _ hf).mono ?_
  rintro en w7 ⟨rfl, hb⟩
  have HL7 := l3_step HL6 hb
  have HF7 := fx_step HF6 hb
  clear hb HL6 HF6 g1 g2
  clear r1 r2 r3 r4 r5 r6
  obtain ⟨⟨⟨r1, r2⟩, ⟨r3, r4⟩, ⟨r5, r6⟩⟩, ⟨_, _, _⟩, _⟩ := HL7.out
  obtain ⟨g1, g2, _⟩ := HF7.out
  go_wp2_with fail
  refine (under_any n d x y true _ HAB.out.1.1 HAB.out.1.2 HFF.out.1 HFF.out.2 HU1).mono ?_
  rintro en w8 ⟨rfl, hb⟩
  have HL8 := l3_step HL7 hb
  have HF8 := fx_step HF7 hb
  clear hb HL7 HF7 g1 g2
  clear r1 r2 r3 r4 r5 r6
  obtain ⟨⟨⟨r1, r2⟩, ⟨r3, r4⟩, ⟨r5, r6⟩⟩, ⟨_, _, _⟩, _⟩ := HL8.out
  obtain ⟨g1, g2, _⟩ := HF8.out
  go_wp2_with fail
  refine (under_any x y m q true _ HFF.out.1 HFF.out.2 HAB.out.2.1 HAB.out.2.2 HU2).mono ?_
  rintro en w9 ⟨rfl, hb⟩
  have HL9 := l3_step HL8 hb
  have HF9 := fx_step HF8 hb
  clear hb HL8 HF8 g1 g2
  clear r1 r2 r3 r4 r5 r6
  obtain ⟨⟨⟨r1, r2⟩, ⟨r3, r4⟩, ⟨r5, r6⟩⟩, ⟨_, _, _⟩, _⟩ := HL9.out
  obtain ⟨g1, g2, _⟩ := HF9.out
  obtain ⟨bi, hbi⟩ : ∃ bi : Bool, Hid (bi = (M.okB p s && (decide (n * s ≤ p * d) && decide (p * q ≤ m * s)))) := ⟨_, rfl⟩
  obtain ⟨s9, hs9⟩ : ∃ s9, s9 = w3.heap.size := ⟨_, rfl⟩
  rw [← hs9] at HF9 g1 g2 ⊢
  clear hs9
  go_upto_region 9 with fail
  go_cut [11] (fun v wx => v = .bool bi ∧ Hid (L3 w wx n d m q p s) ∧ Hid (Fx wx s9 x y))
  case first =>
    have hbi0 : bi = false := by rw [hbi.out, hc.out]; rfl
    go_wp2_with fail
    refine (rvalid_is p s false _ hc).mono ?_
    rintro en w10 ⟨rfl, hb⟩
    have HL10 := l3_step HL9 hb
    have HF10 := fx_step HF9 hb
    clear hb HL9 HF9 g1 g2
    clear r1 r2 r3 r4 r5 r6
    subst hbi0
    go_wp2_with fail
    go_meet
    exact ⟨rfl, HL10, HF10⟩
  case rest =>
    obtain ⟨rfl, HL, HF⟩ := hcut
    clear r1 r2 r3 r4 r5 r6 g1 g2 HL9 HF9
    obtain ⟨⟨⟨r1, r2⟩, ⟨r3, r4⟩, ⟨r5, r6⟩⟩, ⟨_, _, _⟩, _⟩ := HL.out
    obtain ⟨g1, g2, _⟩ := HF.out
    have HBI : Hid (bi = true → y < s ∨ (y = s ∧ (p = x ∨ (x.natAbs : Int) < p.natAbs))) := hide (fun h => by
      rw [hbi.out] at h
      simp only [Bool.and_eq_true, decide_eq_true_eq] at h
      exact HLS.out.2 p s (by have := M.okB_pos h.1; omega) h.2.1 h.2.2)
    have HPB : Hid (bi = true → -1000000000 ≤ p ∧ p ≤ 1000000000) := hide (fun h => by
      rw [hbi.out] at h
      simp only [Bool.and_eq_true] at h
      have := okB_in h.1; exact ⟨this.1, this.2.1⟩)
    clear hbi HLS
    go_upto_region 10 with fail
    go_cut [12] (fun v wx => Lb bi v ∧ Hid (L3 w wx n d m q p s))
    case first =>
      by_cases q1 : y < s
      · go_wp2_with fail
        go_meet
        exact ⟨⟨true, rfl, fun _ => rfl⟩, HL⟩
      · by_cases q2 : y = s
        · have e1 : (y == s) = true := by simpa using q2
          have e1' : (s == y) = true := by simpa using q2.symm
          by_cases q3 : p = x
          · have e2 : (p == x) = true := by simpa using q3
            clear q2 q3
            go_wp2_with fail
            go_meet
            exact ⟨⟨true, rfl, fun _ => rfl⟩, HL⟩
          · have e2 : (p == x) = false := by simpa using q3
            have HAB2 : Hid (bi = true → (x.natAbs : Int) < p.natAbs) := hide (fun h => by have := HBI.out h; omega)
            clear q2 q3
            go_wp2_with fail
            go_meet
            refine ⟨⟨_, rfl, fun h => ?_⟩, HL⟩
            have k1 := HAB2.out h
            have k2 := HPB.out h
            have k3 := HFF.out.1
            have w1' : wrap64 (-x) = -x := IntWalk.wrap64_in _ (by omega)
            have w2' : wrap64 (-p) = -p := IntWalk.wrap64_in _ (by omega)
            rw [w1', w2', decide_eq_true_eq]
            omega
        · have e1 : (y == s) = false := by simpa using q2
          have HNB : Hid (bi = true → False) := hide (fun h => by have := HBI.out h; omega)
          clear q2
          go_wp2_with fail
          go_meet
          exact ⟨⟨false, rfl, fun h => (HNB.out h).elim⟩, HL⟩
    case rest =>
      obtain ⟨⟨lb, rfl, hlb⟩, HL'⟩ := hcut
      have HLB := hide hlb
      clear hlb HL HF r1 r2 r3 r4 r5 r6 g1 g2
      cases bi
      · go_wp2_with fail
        refine (awake_any _).mono ?_
        rintro en w9 ⟨rfl, hb⟩
        have HB9 := hide (bt HL'.out.2.2 hb)
        clear hb
        go_wp2_with fail
        go_ret
        exact ⟨rfl, HB9.out⟩
      · obtain rfl := HLB.out rfl
        go_wp2_with fail
        refine (awake_any _).mono ?_
        rintro en w9 ⟨rfl, hb⟩
        have HB9 := hide (bt HL'.out.2.2 hb)
        clear hb
        go_wp2_with fail
        go_ret
        exact ⟨rfl, HB9.out⟩
set_option maxRecDepth 100000 in
set_option maxHeartbeats 8000000 in
theorem law_least_ta1 (n d m q p s : Int) (w : World) (i1 : In64 n) (i2 : In64 d) (i3 : In64 m) (i4 : In64 q) (i5 : In64 p) (i6 : In64 s) (hc0 : M.okB p s = true) (h1 : M.okB n d = false) : Calls Try.prog 14 #[.agg #[.int .i64 n, .int .i64 d], .agg #[.int .i64 m, .int .i64 q], .agg #[.int .i64 p, .int .i64 s]] w fun e w' => e = .returned (.bool true) ∧ Below w.heap.size w w' := by
  have G : Hid (Ins3 n d m q p s) := hide ⟨⟨i1, i2⟩, ⟨i3, i4⟩, ⟨i5, i6⟩⟩
  clear i1 i2 i3 i4 i5 i6
  have hc := hide hc0
  obtain ⟨c1, c2, c3, c4⟩ := okB_in hc0
  have HCC := hide (And.intro (And.intro c1 c2) (And.intro c3 c4))
  clear c1 c2 c3 c4
  clear hc0
  have ha := hide h1
  have HNO : Hid ((M.okB n d && M.okB m q) = false) := hide (by rw [h1]; rfl)
  clear h1
  have HL0 := l3_start w n d m q p s
  go_enter Try.func14, Try.ntmps14
  go_wp2_with fail
  refine (least_yes p s p s _ hc.out hc.out (Int.le_refl _)).mono ?_
  rintro en w1 ⟨x0, y0, rfl, hl0, hb⟩
  obtain ⟨rfl, rfl⟩ := lst_self hc.out hl0
  clear hl0
  have HL1 := l3_step HL0 (ba hb (.cells #[.int .i64 x0, .int .i64 y0] 23))
  have HL1' := l3_step HL0 hb
  clear hb HL0
  obtain ⟨⟨⟨r1, r2⟩, ⟨r3, r4⟩, ⟨r5, r6⟩⟩, ⟨_, _, _⟩, _⟩ := HL1'.out
  go_wp2_with fail
  refine (rvalid_is x0 y0 true _ hc).mono ?_
  rintro en w2 ⟨rfl, hb⟩
  have HL2 := l3_step HL1 hb
  have HX2 := fx_step (fx_new w1 x0 y0) hb
  clear hb HL1 HL1'
  clear r1 r2 r3 r4 r5 r6
  obtain ⟨⟨⟨r1, r2⟩, ⟨r3, r4⟩, ⟨r5, r6⟩⟩, ⟨_, _, _⟩, _⟩ := HL2.out
  obtain ⟨g1, g2, _⟩ := HX2.out
  go_wp2_with fail
  refine (least_bad n d m q _ G.out.1.1 G.out.1.2 G.out.2.1.1 G.out.2.1.2 HNO.out).mono ?_
  rintro en w3 ⟨rfl, hb⟩
  have HL3 := l3_step HL2 (ba hb (.cells #[.int .i64 0, .int .i64 0] 23))
  have HL3' := l3_step HL2 hb
  clear hb HL2 g1 g2 HX2
  clear r1 r2 r3 r4 r5 r6
  obtain ⟨⟨⟨r1, r2⟩, ⟨r3, r4⟩, ⟨r5, r6⟩⟩, ⟨_, _, _⟩, _⟩ := HL3'.out
  go_wp2_with fail
  refine (rvalid_is n d false _ ha).mono ?_
  rintro en w4 ⟨rfl, hb⟩
  have HL4 := l3_step HL3 hb
  clear hb HL3 HL3'
  clear r1 r2 r3 r4 r5 r6
  go_wp2_with fail
  refine (awake_any _).mono ?_
  rintro en w9 ⟨rfl, hb⟩
  have HB9 := hide (bt HL4.out.2.2 hb)
  clear hb
  go_wp2_with fail
  go_ret
  exact ⟨rfl, HB9.out⟩
set_option maxRecDepth 100000 in
set_option maxHeartbeats 8000000 in
theorem law_least_ta2 (n d m q p s : Int) (w : World) (i1 : In64 n) (i2 : In64 d) (i3 : In64 m) (i4 : In64 q) (i5 : In64 p) (i6 : In64 s) (hc0 : M.okB p s = true) (h1 : M.okB n d = true) (h2 : M.okB m q = false) : Calls Try.prog 14 #[.agg #[.int .i64 n, .int .i64 d], .agg #[.int .i64 m, .int .i64 q], .agg #[.int .i64 p, .int .i64 s]] w fun e w' => e = .returned (.bool true) ∧ Below w.heap.size w w' := by
  have G : Hid (Ins3 n d m q p s) := hide ⟨⟨i1, i2⟩, ⟨i3, i4⟩, ⟨i5, i6⟩⟩
  clear i1 i2 i3 i4 i5 i6
  have hc := hide hc0
  obtain ⟨c1, c2, c3, c4⟩ := okB_in hc0
  have HCC := hide (And.intro (And.intro c1 c2) (And.intro c3 c4))
  clear c1 c2 c3 c4
  clear hc0
  have ha := hide h1
  have hb' := hide h2
  have HNO : Hid ((M.okB n d && M.okB m q) = false) := hide (by rw [h1, h2]; rfl)
  clear h1 h2
  have HL0 := l3_start w n d m q p s
  go_enter Try.func14, Try.ntmps14
  go_wp2_with fail
  refine (least_yes p s p s _ hc.out hc.out (Int.le_refl _)).mono ?_
  rintro en w1 ⟨x0, y0, rfl, hl0, hb⟩
  obtain ⟨rfl, rfl⟩ := lst_self hc.out hl0
  clear hl0
  have HL1 := l3_step HL0 (ba hb (.cells #[.int .i64 x0, .int .i64 y0] 23))
  have HL1' := l3_step HL0 hb
  clear hb HL0
  obtain ⟨⟨⟨r1, r2⟩, ⟨r3, r4⟩, ⟨r5, r6⟩⟩, ⟨_, _, _⟩, _⟩ := HL1'.out
  go_wp2_with fail
  refine (rvalid_is x0 y0 true _ hc).mono ?_
  rintro en w2 ⟨rfl, hb⟩
  have HL2 := l3_step HL1 hb
  have HX2 := fx_step (fx_new w1 x0 y0) hb
  clear hb HL1 HL1'
  clear r1 r2 r3 r4 r5 r6
  obtain ⟨⟨⟨r1, r2⟩, ⟨r3, r4⟩, ⟨r5, r6⟩⟩, ⟨_, _, _⟩, _⟩ := HL2.out
  obtain ⟨g1, g2, _⟩ := HX2.out
  go_wp2_with fail
  refine (least_bad n d m q _ G.out.1.1 G.out.1.2 G.out.2.1.1 G.out.2.1.2 HNO.out).mono ?_
  rintro en w3 ⟨rfl, hb⟩
  have HL3 := l3_step HL2 (ba hb (.cells #[.int .i64 0, .int .i64 0] 23))
  have HL3' := l3_step HL2 hb
  clear hb HL2 g1 g2 HX2
  clear r1 r2 r3 r4 r5 r6
  obtain ⟨⟨⟨r1, r2⟩, ⟨r3, r4⟩, ⟨r5, r6⟩⟩, ⟨_, _, _⟩, _⟩ := HL3'.out
  go_wp2_with fail
  refine (rvalid_is n d true _ ha).mono ?_
  rintro en w4 ⟨rfl, hb⟩
  have HL4 := l3_step HL3 hb
  clear hb HL3 HL3'
  clear r1 r2 r3 r4 r5 r6
  obtain ⟨⟨⟨r1, r2⟩, ⟨r3, r4⟩, ⟨r5, r6⟩⟩, ⟨_, _, _⟩, _⟩ := HL4.out
  go_wp2_with fail
  refine (rvalid_is m q false _ hb').mono ?_
  rintro en w5 ⟨rfl, hb⟩
  have HL5 := l3_step HL4 hb
  clear hb HL4
  clear r1 r2 r3 r4 r5 r6
  go_wp2_with fail
  refine (awake_any _).mono ?_
  rintro en w9 ⟨rfl, hb⟩
  have HB9 := hide (bt HL5.out.2.2 hb)
  clear hb
  go_wp2_with fail
  go_ret
  exact ⟨rfl, HB9.out⟩
set_option maxRecDepth 100000 in
set_option maxHeartbeats 8000000 in
theorem law_least_tb (n d m q p s : Int) (w : World) (i1 : In64 n) (i2 : In64 d) (i3 : In64 m) (i4 : In64 q) (i5 : In64 p) (i6 : In64 s) (hc0 : M.okB p s = true) (h1 : M.okB n d = true) (h2 : M.okB m q = true) (h3 : m * d < n * q) : Calls Try.prog 14 #[.agg #[.int .i64 n, .int .i64 d], .agg #[.int .i64 m, .int .i64 q], .agg #[.int .i64 p, .int .i64 s]] w fun e w' => e = .returned (.bool true) ∧ Below w.heap.size w w' := by
  have G : Hid (Ins3 n d m q p s) := hide ⟨⟨i1, i2⟩, ⟨i3, i4⟩, ⟨i5, i6⟩⟩
  clear i1 i2 i3 i4 i5 i6
  have hc := hide hc0
  obtain ⟨c1, c2, c3, c4⟩ := okB_in hc0
  have HCC := hide (And.intro (And.intro c1 c2) (And.intro c3 c4))
  clear c1 c2 c3 c4
  clear hc0
  have ha := hide h1
  have hb' := hide h2
  obtain ⟨a1, a2, a3, a4⟩ := okB_in h1
  obtain ⟨b1, b2, b3, b4⟩ := okB_in h2
  have HAB := hide (And.intro (And.intro (And.intro a1 a2) (And.intro a3 a4)) (And.intro (And.intro b1 b2) (And.intro b3 b4)))
  have HOR := hide h3
  have HUN : Hid (false = decide (n * q ≤ m * d)) := hide (by simp; omega)
  clear h1 h2 h3 a1 a2 a3 a4 b1 b2 b3 b4
  have HL0 := l3_start w n d m q p s
  go_enter Try.func14, Try.ntmps14
  go_wp2_with fail
  refine (least_yes p s p s _ hc.out hc.out (Int.le_refl _)).mono ?_
  rintro en w1 ⟨x0, y0, rfl, hl0, hb⟩
  obtain ⟨rfl, rfl⟩ := lst_self hc.out hl0
  clear hl0
  have HL1 := l3_step HL0 (ba hb (.cells #[.int .i64 x0, .int .i64 y0] 23))
  have HL1' := l3_step HL0 hb
  clear hb HL0
  obtain ⟨⟨⟨r1, r2⟩, ⟨r3, r4⟩, ⟨r5, r6⟩⟩, ⟨_, _, _⟩, _⟩ := HL1'.out
  go_wp2_with fail
  refine (rvalid_is x0 y0 true _ hc).mono ?_
  rintro en w2 ⟨rfl, hb⟩
  have HL2 := l3_step HL1 hb
  have HX2 := fx_step (fx_new w1 x0 y0) hb
  clear hb HL1 HL1'
  clear r1 r2 r3 r4 r5 r6
  obtain ⟨⟨⟨r1, r2⟩, ⟨r3, r4⟩, ⟨r5, r6⟩⟩, ⟨_, _, _⟩, _⟩ := HL2.out
  obtain ⟨g1, g2, _⟩ := HX2.out
  go_wp2_with fail
  refine (least_order n d m q _ ha.out hb'.out HOR.out).mono ?_
  rintro en w3 ⟨rfl, hb⟩
  have HL3 := l3_step HL2 (ba hb (.cells #[.int .i64 0, .int .i64 0] 23))
  have HL3' := l3_step HL2 hb
  clear hb HL2 g1 g2 HX2
  clear r1 r2 r3 r4 r5 r6
  obtain ⟨⟨⟨r1, r2⟩, ⟨r3, r4⟩, ⟨r5, r6⟩⟩, ⟨_, _, _⟩, _⟩ := HL3'.out
  go_wp2_with fail
  refine (rvalid_is n d true _ ha).mono ?_
  rintro en w4 ⟨rfl, hb⟩
  have HL4 := l3_step HL3 hb
  clear hb HL3 HL3'
  clear r1 r2 r3 r4 r5 r6
  obtain ⟨⟨⟨r1, r2⟩, ⟨r3, r4⟩, ⟨r5, r6⟩⟩, ⟨_, _, _⟩, _⟩ := HL4.out
  go_wp2_with fail
  refine (rvalid_is m q true _ hb').mono ?_
  rintro en w5 ⟨rfl, hb⟩
  have HL5 := l3_step HL4 hb
  clear hb HL4
  clear r1 r2 r3 r4 r5 r6
  obtain ⟨⟨⟨r1, r2⟩, ⟨r3, r4⟩, ⟨r5, r6⟩⟩, ⟨_, _, _⟩, _⟩ := HL5.out
  go_wp2_with fail
  refine (under_any n d m q false _ HAB.out.1.1 HAB.out.1.2 HAB.out.2.1 HAB.out.2.2 HUN).mono ?_
  rintro en w6 ⟨rfl, hb⟩
  have HL6 := l3_step HL5 hb
  clear hb HL5
  clear r1 r2 r3 r4 r5 r6
  go_wp2_with fail
  refine (awake_any _).mono ?_
  rintro en w9 ⟨rfl, hb⟩
  have HB9 := hide (bt HL6.out.2.2 hb)
  clear hb
  go_wp2_with fail
  go_ret
  exact ⟨rfl, HB9.out⟩
set_option maxRecDepth 100000 in
set_option maxHeartbeats 8000000 in
theorem law_least_tc (n d m q p s : Int) (w : World) (i1 : In64 n) (i2 : In64 d) (i3 : In64 m) (i4 : In64 q) (i5 : In64 p) (i6 : In64 s) (hc0 : M.okB p s = true) (h1 : M.okB n d = true) (h2 : M.okB m q = true) (h3 : n * q ≤ m * d) : Calls Try.prog 14 #[.agg #[.int .i64 n, .int .i64 d], .agg #[.int .i64 m, .int .i64 q], .agg #[.int .i64 p, .int .i64 s]] w fun e w' => e = .returned (.bool true) ∧ Below w.heap.size w w' := by
  have G : Hid (Ins3 n d m q p s) := hide ⟨⟨i1, i2⟩, ⟨i3, i4⟩, ⟨i5, i6⟩⟩
  clear i1 i2 i3 i4 i5 i6
  have hc := hide hc0
  obtain ⟨c1, c2, c3, c4⟩ := okB_in hc0
  have HCC := hide (And.intro (And.intro c1 c2) (And.intro c3 c4))
  clear c1 c2 c3 c4
  clear hc0
  have ha := hide h1
  have hb' := hide h2
  obtain ⟨a1, a2, a3, a4⟩ := okB_in h1
  obtain ⟨b1, b2, b3, b4⟩ := okB_in h2
  have HAB := hide (And.intro (And.intro (And.intro a1 a2) (And.intro a3 a4)) (And.intro (And.intro b1 b2) (And.intro b3 b4)))
  have HOR := hide h3
  have HUN : Hid (true = decide (n * q ≤ m * d)) := hide (by simpa using h3)
  clear h1 h2 h3 a1 a2 a3 a4 b1 b2 b3 b4
  have HL0 := l3_start w n d m q p s
  go_enter Try.func14, Try.ntmps14
  go_wp2_with fail
  refine (least_yes p s p s _ hc.out hc.out (Int.le_refl _)).mono ?_
  rintro en w1 ⟨x0, y0, rfl, hl0, hb⟩
  obtain ⟨rfl, rfl⟩ := lst_self hc.out hl0
  clear hl0
  have HL1 := l3_step HL0 (ba hb (.cells #[.int .i64 x0, .int .i64 y0] 23))
  have HL1' := l3_step HL0 hb
  clear hb HL0
  obtain ⟨⟨⟨r1, r2⟩, ⟨r3, r4⟩, ⟨r5, r6⟩⟩, ⟨_, _, _⟩, _⟩ := HL1'.out
  go_wp2_with fail
  refine (rvalid_is x0 y0 true _ hc).mono ?_
  rintro en w2 ⟨rfl, hb⟩
  have HL2 := l3_step HL1 hb
  have HX2 := fx_step (fx_new w1 x0 y0) hb
  clear hb HL1 HL1'
  clear r1 r2 r3 r4 r5 r6
  obtain ⟨⟨⟨r1, r2⟩, ⟨r3, r4⟩, ⟨r5, r6⟩⟩, ⟨_, _, _⟩, _⟩ := HL2.out
  obtain ⟨g1, g2, _⟩ := HX2.out
  go_wp2_with fail
  refine (least_yes n d m q _ ha.out hb'.out HOR.out).mono ?_
  rintro en w3 ⟨x, y, rfl, hl, hb⟩
  have HLS := hide hl
  have hf := hide hl.1.1
  obtain ⟨f1, f2, f3, f4⟩ := okB_in hl.1.1
  have HFF := hide (And.intro (And.intro f1 f2) (And.intro f3 f4))
  have HU1 : Hid (true = decide (n * y ≤ x * d)) := hide (by simpa using hl.1.2.1)
  have HU2 : Hid (true = decide (x * q ≤ m * y)) := hide (by simpa using hl.1.2.2)
  have HL3 := l3_step HL2 (ba hb (.cells #[.int .i64 x, .int .i64 y] 23))
  have HL3' := l3_step HL2 hb
  have HF3 := fx_new w3 x y
  clear hb HL2 g1 g2 HX2 hl f1 f2 f3 f4
  clear r1 r2 r3 r4 r5 r6
  obtain ⟨⟨⟨r1, r2⟩, ⟨r3, r4⟩, ⟨r5, r6⟩⟩, ⟨_, _, _⟩, _⟩ := HL3'.out
  go_wp2_with fail
  refine (rvalid_is n d true _ ha).mono ?_
  rintro en w4 ⟨rfl, hb⟩
  have HL4 := l3_step HL3 hb
  have HF4 := fx_step HF3 hb
  clear hb HL3 HL3' HF3
  clear r1 r2 r3 r4 r5 r6
  obtain ⟨⟨⟨r1, r2⟩, ⟨r3, r4⟩, ⟨r5, r6⟩⟩, ⟨_, _, _⟩, _⟩ := HL4.out
  obtain ⟨g1, g2, _⟩ := HF4.out
  go_wp2_with fail
  refine (rvalid_is m q true _ hb').mono ?_
  rintro en w5 ⟨rfl, hb⟩
  have HL5 := l3_step HL4 hb
  have HF5 := fx_step HF4 hb
  clear hb HL4 HF4 g1 g2
  clear r1 r2 r3 r4 r5 r6
  obtain ⟨⟨⟨r1, r2⟩, ⟨r3, r4⟩, ⟨r5, r6⟩⟩, ⟨_, _, _⟩, _⟩ := HL5.out
  obtain ⟨g1, g2, _⟩ := HF5.out
  go_wp2_with fail
  refine (under_any n d m q true _ HAB.out.1.1 HAB.out.1.2 HAB.out.2.1 HAB.out.2.2 HUN).mono ?_
  rintro en w6 ⟨rfl, hb⟩
  have HL6 := l3_step HL5 hb
  have HF6 := fx_step HF5 hb
  clear hb HL5 HF5 g1 g2
  clear r1 r2 r3 r4 r5 r6
  obtain ⟨⟨⟨r1, r2⟩, ⟨r3, r4⟩, ⟨r5, r6⟩⟩, ⟨_, _, _⟩, _⟩ := HL6.out
  obtain ⟨g1, g2, _⟩ := HF6.out
  go_wp2_with fail
  refine (rvalid_is x y true _ hf).mono ?_
  rintro en w7 ⟨rfl, hb⟩
  have HL7 := l3_step HL6 hb
  have HF7 := fx_step HF6 hb
  clear hb HL6 HF6 g1 g2
  clear r1 r2 r3 r4 r5 r6
  obtain ⟨⟨⟨r1, r2⟩, ⟨r3, r4⟩, ⟨r5, r6⟩⟩, ⟨_, _, _⟩, _⟩ := HL7.out
  obtain ⟨g1, g2, _⟩ := HF7.out
  go_wp2_with fail
  refine (under_any n d x y true _ HAB.out.1.1 HAB.out.1.2 HFF.out.1 HFF.out.2 HU1).mono ?_
  rintro en w8 ⟨rfl, hb⟩
  have HL8 := l3_step HL7 hb
  have HF8 := fx_step HF7 hb
  clear hb HL7 HF7 g1 g2
  clear r1 r2 r3 r4 r5 r6
  obtain ⟨⟨⟨r1, r2⟩, ⟨r3, r4⟩, ⟨r5, r6⟩⟩, ⟨_, _, _⟩, _⟩ := HL8.out
  obtain ⟨g1, g2, _⟩ := HF8.out
  go_wp2_with fail
  refine (under_any x y m q true _ HFF.out.1 HFF.out.2 HAB.out.2.1 HAB.out.2.2 HU2).mono ?_
  rintro en w9 ⟨rfl, hb⟩
  have HL9 := l3_step HL8 hb
  have HF9 := fx_step HF8 hb
  clear hb HL8 HF8 g1 g2
  clear r1 r2 r3 r4 r5 r6
  obtain ⟨⟨⟨r1, r2⟩, ⟨r3, r4⟩, ⟨r5, r6⟩⟩, ⟨_, _, _⟩, _⟩ := HL9.out
  obtain ⟨g1, g2, _⟩ := HF9.out
  obtain ⟨bi, hbi⟩ : ∃ bi : Bool, Hid (bi = (M.okB x0 y0 && (decide (n * y0 ≤ x0 * d) && decide (x0 * q ≤ m * y0)))) := ⟨_, rfl⟩
  obtain ⟨s9, hs9⟩ : ∃ s9, s9 = w3.heap.size := ⟨_, rfl⟩
  rw [← hs9] at HF9 g1 g2 ⊢
  clear hs9
  go_upto_region 9 with fail
  go_cut [11] (fun v wx => v = .bool bi ∧ Hid (L3 w wx n d m q x0 y0) ∧ Hid (Fx wx s9 x y))
  case first =>
    go_wp2_with fail
    refine (rvalid_is x0 y0 true _ hc).mono ?_
    rintro en w10 ⟨rfl, hb⟩
    have HL10 := l3_step HL9 hb
    have HF10 := fx_step HF9 hb
    clear hb HL9 HF9 g1 g2
    clear r1 r2 r3 r4 r5 r6
    obtain ⟨⟨⟨r1, r2⟩, ⟨r3, r4⟩, ⟨r5, r6⟩⟩, ⟨_, _, _⟩, _⟩ := HL10.out
    obtain ⟨g1, g2, _⟩ := HF10.out
    by_cases hu1 : n * y0 ≤ x0 * d
    · have HW1 : Hid (true = decide (n * y0 ≤ x0 * d)) := hide (by simpa using hu1)
      by_cases hu2 : x0 * q ≤ m * y0
      · have HW2 : Hid (true = decide (x0 * q ≤ m * y0)) := hide (by simpa using hu2)
        have hbi0 : bi = true := by rw [hbi.out, hc.out, ← HW1.out, ← HW2.out]; rfl
        clear hu1 hu2
        go_wp2_with fail
        refine (under_any n d x0 y0 true _ HAB.out.1.1 HAB.out.1.2 HCC.out.1 HCC.out.2 HW1).mono ?_
        rintro en w11 ⟨rfl, hb⟩
        have HL11 := l3_step HL10 hb
        have HF11 := fx_step HF10 hb
        clear hb HL10 HF10 g1 g2
        clear r1 r2 r3 r4 r5 r6
        obtain ⟨⟨⟨r1, r2⟩, ⟨r3, r4⟩, ⟨r5, r6⟩⟩, ⟨_, _, _⟩, _⟩ := HL11.out
        obtain ⟨g1, g2, _⟩ := HF11.out
        go_wp2_with fail
        refine (under_any x0 y0 m q true _ HCC.out.1 HCC.out.2 HAB.out.2.1 HAB.out.2.2 HW2).mono ?_
        rintro en w12 ⟨rfl, hb⟩
        have HL12 := l3_step HL11 hb
        have HF12 := fx_step HF11 hb
        clear hb HL11 HF11 g1 g2
        clear r1 r2 r3 r4 r5 r6
        subst hbi0
        go_wp2_with fail
        go_meet
        exact ⟨rfl, HL12, HF12⟩
      · have HW2 : Hid (false = decide (x0 * q ≤ m * y0)) := hide (by simpa using hu2)
        have hbi0 : bi = false := by rw [hbi.out, hc.out, ← HW1.out, ← HW2.out]; rfl
        clear hu1 hu2
        go_wp2_with fail
        refine (under_any n d x0 y0 true _ HAB.out.1.1 HAB.out.1.2 HCC.out.1 HCC.out.2 HW1).mono ?_
        rintro en w11 ⟨rfl, hb⟩
        have HL11 := l3_step HL10 hb
        have HF11 := fx_step HF10 hb
        clear hb HL10 HF10 g1 g2
        clear r1 r2 r3 r4 r5 r6
        obtain ⟨⟨⟨r1, r2⟩, ⟨r3, r4⟩, ⟨r5, r6⟩⟩, ⟨_, _, _⟩, _⟩ := HL11.out
        obtain ⟨g1, g2, _⟩ := HF11.out
        go_wp2_with fail
        refine (under_any x0 y0 m q false _ HCC.out.1 HCC.out.2 HAB.out.2.1 HAB.out.2.2 HW2).mono ?_
        rintro en w12 ⟨rfl, hb⟩
        have HL12 := l3_step HL11 hb
        have HF12 := fx_step HF11 hb
        clear hb HL11 HF11 g1 g2
        clear r1 r2 r3 r4 r5 r6
        subst hbi0
        go_wp2_with fail
        go_meet
        exact ⟨rfl, HL12, HF12⟩
    · have HW1 : Hid (false = decide (n * y0 ≤ x0 * d)) := hide (by simpa using hu1)
      have hbi0 : bi = false := by rw [hbi.out, hc.out, ← HW1.out]; rfl
      clear hu1
      go_wp2_with fail
      refine (under_any n d x0 y0 false _ HAB.out.1.1 HAB.out.1.2 HCC.out.1 HCC.out.2 HW1).mono ?_
      rintro en w11 ⟨rfl, hb⟩
      have HL11 := l3_step HL10 hb
      have HF11 := fx_step HF10 hb
      clear hb HL10 HF10 g1 g2
      clear r1 r2 r3 r4 r5 r6
      subst hbi0
      go_wp2_with fail
      go_meet
      exact ⟨rfl, HL11, HF11⟩
  case rest =>
    obtain ⟨rfl, HL, HF⟩ := hcut
    clear r1 r2 r3 r4 r5 r6 g1 g2 HL9 HF9
    obtain ⟨⟨⟨r1, r2⟩, ⟨r3, r4⟩, ⟨r5, r6⟩⟩, ⟨_, _, _⟩, _⟩ := HL.out
    obtain ⟨g1, g2, _⟩ := HF.out
    have HBI : Hid (bi = true → y < y0 ∨ (y = y0 ∧ (x0 = x ∨ (x.natAbs : Int) < x0.natAbs))) := hide (fun h => by
      rw [hbi.out] at h
      simp only [Bool.and_eq_true, decide_eq_true_eq] at h
      exact HLS.out.2 x0 y0 (by have := M.okB_pos h.1; omega) h.2.1 h.2.2)
    have HPB : Hid (bi = true → -1000000000 ≤ x0 ∧ x0 ≤ 1000000000) := hide (fun h => by
      rw [hbi.out] at h
      simp only [Bool.and_eq_true] at h
      have := okB_in h.1; exact ⟨this.1, this.2.1⟩)
    clear hbi HLS
    go_upto_region 10 with fail
    go_cut [12] (fun v wx => Lb bi v ∧ Hid (L3 w wx n d m q x0 y0))
    case first =>
      by_cases q1 : y < y0
      · go_wp2_with fail
        go_meet
        exact ⟨⟨true, rfl, fun _ => rfl⟩, HL⟩
      · by_cases q2 : y = y0
        · have e1 : (y == y0) = true := by simpa using q2
          have e1' : (y0 == y) = true := by simpa using q2.symm
          by_cases q3 : x0 = x
          · have e2 : (x0 == x) = true := by simpa using q3
            clear q2 q3
            go_wp2_with fail
            go_meet
            exact ⟨⟨true, rfl, fun _ => rfl⟩, HL⟩
          · have e2 : (x0 == x) = false := by simpa using q3
            have HAB2 : Hid (bi = true → (x.natAbs : Int) < x0.natAbs) := hide (fun h => by have := HBI.out h; omega)
            clear q2 q3
            go_wp2_with fail
            go_meet
            refine ⟨⟨_, rfl, fun h => ?_⟩, HL⟩
            have k1 := HAB2.out h
            have k2 := HPB.out h
            have k3 := HFF.out.1
            have w1' : wrap64 (-x) = -x := IntWalk.wrap64_in _ (by omega)
            have w2' : wrap64 (-x0) = -x0 := IntWalk.wrap64_in _ (by omega)
            rw [w1', w2', decide_eq_true_eq]
            omega
        · have e1 : (y == y0) = false := by simpa using q2
          have HNB : Hid (bi = true → False) := hide (fun h => by have := HBI.out h; omega)
          clear q2
          go_wp2_with fail
          go_meet
          exact ⟨⟨false, rfl, fun h => (HNB.out h).elim⟩, HL⟩
    case rest =>
      obtain ⟨⟨lb, rfl, hlb⟩, HL'⟩ := hcut
      have HLB := hide hlb
      clear hlb HL HF r1 r2 r3 r4 r5 r6 g1 g2
      cases bi
      · go_wp2_with fail
        refine (awake_any _).mono ?_
        rintro en w9 ⟨rfl, hb⟩
        have HB9 := hide (bt HL'.out.2.2 hb)
        clear hb
        go_wp2_with fail
        go_ret
        exact ⟨rfl, HB9.out⟩
      · obtain rfl := HLB.out rfl
        go_wp2_with fail
        refine (awake_any _).mono ?_
        rintro en w9 ⟨rfl, hb⟩
        have HB9 := hide (bt HL'.out.2.2 hb)
        clear hb
        go_wp2_with fail
        go_ret
        exact ⟨rfl, HB9.out⟩
theorem law_least (n d m q p s : Int) (w : World) (i1 : In64 n) (i2 : In64 d) (i3 : In64 m) (i4 : In64 q) (i5 : In64 p) (i6 : In64 s) : Calls Try.prog 14 #[.agg #[.int .i64 n, .int .i64 d], .agg #[.int .i64 m, .int .i64 q], .agg #[.int .i64 p, .int .i64 s]] w fun e w' => e = .returned (.bool true) ∧ Below w.heap.size w w' := by
  have hor : n * q ≤ m * d ∨ m * d < n * q := by omega
  cases c0 : M.okB p s <;> cases c1 : M.okB n d <;> cases c2 : M.okB m q
  · exact law_least_fa1 n d m q p s w i1 i2 i3 i4 i5 i6 c0 c1
  · exact law_least_fa1 n d m q p s w i1 i2 i3 i4 i5 i6 c0 c1
  · exact law_least_fa2 n d m q p s w i1 i2 i3 i4 i5 i6 c0 c1 c2
  · rcases hor with h | h
    · exact law_least_fc n d m q p s w i1 i2 i3 i4 i5 i6 c0 c1 c2 h
    · exact law_least_fb n d m q p s w i1 i2 i3 i4 i5 i6 c0 c1 c2 h
  · exact law_least_ta1 n d m q p s w i1 i2 i3 i4 i5 i6 c0 c1
  · exact law_least_ta1 n d m q p s w i1 i2 i3 i4 i5 i6 c0 c1
  · exact law_least_ta2 n d m q p s w i1 i2 i3 i4 i5 i6 c0 c1 c2
  · rcases hor with h | h
    · exact law_least_tc n d m q p s w i1 i2 i3 i4 i5 i6 c0 c1 c2 h
    · exact law_least_tb n d m q p s w i1 i2 i3 i4 i5 i6 c0 c1 c2 h
end Go.Proofs.Ytpgnbjlpkpmpcaa.R
