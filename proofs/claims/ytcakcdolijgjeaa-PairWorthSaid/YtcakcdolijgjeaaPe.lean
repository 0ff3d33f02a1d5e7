/- The cost of a pair of valid gloves: of the program, of the reference. -/
import Derived.Test.YtcakcdolijgjeaaPd
set_option linter.unusedVariables false
namespace Go.Proofs.Ytcakcdolijgjeaa
open Go Go.RowKit Go.Ab
abbrev G4 := Int × Int × Int × Int
def gOk (g : G4) : Bool := okG g.1 g.2.1 g.2.2.1 g.2.2.2
def gVal (g : G4) : Value := .agg #[.int .i64 g.1, .int .i64 g.2.1, .int .i64 g.2.2.1, .int .i64 g.2.2.2]
def uVal (w m : G4) : Value := .agg #[.int .i64 w.1, .int .i64 w.2.1, .int .i64 w.2.2.1, .int .i64 w.2.2.2, .int .i64 m.1, .int .i64 m.2.1, .int .i64 m.2.2.1, .int .i64 m.2.2.2]
/-- how far two measures are apart -/
def df (x y : Int) : Int := if y - x > x - y then y - x else x - y
/-- the cost of a pair; -1: it is not allowed -/
def prc (w m a b : G4) : Int :=
  if df a.1 b.1 > m.1 ∨ df a.2.1 b.2.1 > m.2.1 ∨ df a.2.2.1 b.2.2.1 > m.2.2.1 ∨ df a.2.2.2 b.2.2.2 > m.2.2.2 then -1
  else df a.1 b.1 * w.1 + df a.2.1 b.2.1 * w.2.1 + df a.2.2.1 b.2.2.1 * w.2.2.1 + df a.2.2.2 b.2.2.2 * w.2.2.2
theorem gOk_get {g : G4} (h : gOk g = true) : (0 ≤ g.1 ∧ g.1 ≤ 1000) ∧ (0 ≤ g.2.1 ∧ g.2.1 ≤ 1000) ∧ (0 ≤ g.2.2.1 ∧ g.2.2.1 ≤ 1000) ∧ (0 ≤ g.2.2.2 ∧ g.2.2.2 ≤ 1000) := okG_iff.1 h
theorem wr_in {n : Int} (h1 : -9223372036854775808 ≤ n) (h2 : n ≤ 9223372036854775807) : wr n = n := IntWalk.i64_in _ (by omega)
theorem dK_df {x y : Int} (hx : 0 ≤ x ∧ x ≤ 1000) (hy : 0 ≤ y ∧ y ≤ 1000) : dK x y = df x y := by
  unfold dK df
  rw [wr_in (n := y - x) (by omega) (by omega), wr_in (n := x - y) (by omega) (by omega)]
  by_cases h : y - x > x - y
  · rw [decide_eq_true h, if_pos h]
  · rw [decide_eq_false h, if_neg h]
theorem df_in {x y : Int} (hx : 0 ≤ x ∧ x ≤ 1000) (hy : 0 ≤ y ∧ y ≤ 1000) : 0 ≤ df x y ∧ df x y ≤ 1000 := by
  unfold df
  split <;> omega
theorem df_comm (x y : Int) : df x y = df y x := by
  unfold df
  split <;> split <;> omega
theorem mul_in {d w : Int} (hd : 0 ≤ d ∧ d ≤ 1000) (hw : 0 ≤ w ∧ w ≤ 1000) : 0 ≤ d * w ∧ d * w ≤ 1000000 := by
  refine ⟨Int.mul_nonneg hd.1 hw.1, ?_⟩
  have := Int.mul_le_mul hd.2 hw.2 hw.1 (by omega : (0 : Int) ≤ 1000)
  omega
theorem prc_in {w m a b : G4} (hw : gOk w = true) (ha : gOk a = true) (hb : gOk b = true) : -1 ≤ prc w m a b ∧ prc w m a b ≤ 4000000 := by
  have hw := gOk_get hw
  have ha := gOk_get ha
  have hb := gOk_get hb
  unfold prc
  split
  · omega
  · have h0 := mul_in (df_in ha.1 hb.1) hw.1
    have h1 := mul_in (df_in ha.2.1 hb.2.1) hw.2.1
    have h2 := mul_in (df_in ha.2.2.1 hb.2.2.1) hw.2.2.1
    have h3 := mul_in (df_in ha.2.2.2 hb.2.2.2) hw.2.2.2
    omega
theorem prc_comm (w m a b : G4) : prc w m a b = prc w m b a := by
  unfold prc
  rw [df_comm a.1 b.1, df_comm a.2.1 b.2.1, df_comm a.2.2.1 b.2.2.1, df_comm a.2.2.2 b.2.2.2]
theorem sum_wr {s0 s1 s2 s3 : Int} (h0 : 0 ≤ s0 ∧ s0 ≤ 1000000) (h1 : 0 ≤ s1 ∧ s1 ≤ 1000000) (h2 : 0 ≤ s2 ∧ s2 ≤ 1000000) (h3 : 0 ≤ s3 ∧ s3 ≤ 1000000) :
    wr (wr (wr (wr (0 + wr s0) + wr s1) + wr s2) + wr s3) = s0 + s1 + s2 + s3 := by
  rw [wr_in (n := s0) (by omega) (by omega), wr_in (n := s1) (by omega) (by omega), wr_in (n := s2) (by omega) (by omega), wr_in (n := s3) (by omega) (by omega)]
  rw [wr_in (n := 0 + s0) (by omega) (by omega), wr_in (n := 0 + s0 + s1) (by omega) (by omega), wr_in (n := 0 + s0 + s1 + s2) (by omega) (by omega), wr_in (n := 0 + s0 + s1 + s2 + s3) (by omega) (by omega)]
  omega
theorem cost_is (w m a b : G4) (W : World) (hw : gOk w = true) (hm : gOk m = true) (ha : gOk a = true) (hb : gOk b = true) :
    Calls Try.prog 61 #[uVal w m, gVal a, gVal b] W fun e w' => e = .returned (.tuple #[.int .i64 (if 0 ≤ prc w m a b then prc w m a b else 0), .bool (decide (0 ≤ prc w m a b))]) ∧ Below W.heap.size W w' := by
  have hw' := gOk_get hw
  have ha' := gOk_get ha
  have hb' := gOk_get hb
  obtain ⟨a0, a1, a2, a3⟩ := a
  obtain ⟨b0, b1, b2, b3⟩ := b
  obtain ⟨w0, w1, w2, w3⟩ := w
  obtain ⟨m0, m1, m2, m3⟩ := m
  simp only at hw' ha' hb'
  have e0 := dK_df ha'.1 hb'.1
  have e1 := dK_df ha'.2.1 hb'.2.1
  have e2 := dK_df ha'.2.2.1 hb'.2.2.1
  have e3 := dK_df ha'.2.2.2 hb'.2.2.2
  have s0 := mul_in (df_in ha'.1 hb'.1) hw'.1
  have s1 := mul_in (df_in ha'.2.1 hb'.2.1) hw'.2.1
  have s2 := mul_in (df_in ha'.2.2.1 hb'.2.2.1) hw'.2.2.1
  have s3 := mul_in (df_in ha'.2.2.2 hb'.2.2.2) hw'.2.2.2
  by_cases h0 : df a0 b0 > m0
  · have hp : prc (w0, w1, w2, w3) (m0, m1, m2, m3) (a0, a1, a2, a3) (b0, b1, b2, b3) = -1 := by unfold prc; exact if_pos (by first | exact .inl h0 | exact .inr (.inl h0) | exact .inr (.inr (.inl h0)) | exact .inr (.inr (.inr h0)))
    have key := told_call (kn := noKn) (kn_ok (noPr_ok _) _) (args := [uV w0 w1 w2 w3 m0 m1 m2 m3, gV a0 a1 a2 a3, gV b0 b1 b2 b3]) rfl rfl (cost_0 a0 a1 a2 a3 b0 b1 b2 b3 w0 w1 w2 w3 m0 m1 m2 m3) (by simp [e0]; omega) W
    refine key.mono ?_
    rintro e w' ⟨rfl, hb⟩
    exact ⟨by rw [hp]; rfl, hb⟩
  by_cases h1 : df a1 b1 > m1
  · have hp : prc (w0, w1, w2, w3) (m0, m1, m2, m3) (a0, a1, a2, a3) (b0, b1, b2, b3) = -1 := by unfold prc; exact if_pos (by first | exact .inl h1 | exact .inr (.inl h1) | exact .inr (.inr (.inl h1)) | exact .inr (.inr (.inr h1)))
    have key := told_call (kn := noKn) (kn_ok (noPr_ok _) _) (args := [uV w0 w1 w2 w3 m0 m1 m2 m3, gV a0 a1 a2 a3, gV b0 b1 b2 b3]) rfl rfl (cost_1 a0 a1 a2 a3 b0 b1 b2 b3 w0 w1 w2 w3 m0 m1 m2 m3) (by simp [e0, e1]; omega) W
    refine key.mono ?_
    rintro e w' ⟨rfl, hb⟩
    exact ⟨by rw [hp]; rfl, hb⟩
  by_cases h2 : df a2 b2 > m2
  · have hp : prc (w0, w1, w2, w3) (m0, m1, m2, m3) (a0, a1, a2, a3) (b0, b1, b2, b3) = -1 := by unfold prc; exact if_pos (by first | exact .inl h2 | exact .inr (.inl h2) | exact .inr (.inr (.inl h2)) | exact .inr (.inr (.inr h2)))
    have key := told_call (kn := noKn) (kn_ok (noPr_ok _) _) (args := [uV w0 w1 w2 w3 m0 m1 m2 m3, gV a0 a1 a2 a3, gV b0 b1 b2 b3]) rfl rfl (cost_2 a0 a1 a2 a3 b0 b1 b2 b3 w0 w1 w2 w3 m0 m1 m2 m3) (by simp [e0, e1, e2]; omega) W
    refine key.mono ?_
    rintro e w' ⟨rfl, hb⟩
    exact ⟨by rw [hp]; rfl, hb⟩
  by_cases h3 : df a3 b3 > m3
  · have hp : prc (w0, w1, w2, w3) (m0, m1, m2, m3) (a0, a1, a2, a3) (b0, b1, b2, b3) = -1 := by unfold prc; exact if_pos (by first | exact .inl h3 | exact .inr (.inl h3) | exact .inr (.inr (.inl h3)) | exact .inr (.inr (.inr h3)))
    have key := told_call (kn := noKn) (kn_ok (noPr_ok _) _) (args := [uV w0 w1 w2 w3 m0 m1 m2 m3, gV a0 a1 a2 a3, gV b0 b1 b2 b3]) rfl rfl (cost_3 a0 a1 a2 a3 b0 b1 b2 b3 w0 w1 w2 w3 m0 m1 m2 m3) (by simp [e0, e1, e2, e3]; omega) W
    refine key.mono ?_
    rintro e w' ⟨rfl, hb⟩
    exact ⟨by rw [hp]; rfl, hb⟩
  have hp : prc (w0, w1, w2, w3) (m0, m1, m2, m3) (a0, a1, a2, a3) (b0, b1, b2, b3) = df a0 b0 * w0 + df a1 b1 * w1 + df a2 b2 * w2 + df a3 b3 * w3 := by unfold prc; exact if_neg (by simp only; omega)
  have key := told_call (kn := noKn) (kn_ok (noPr_ok _) _) (args := [uV w0 w1 w2 w3 m0 m1 m2 m3, gV a0 a1 a2 a3, gV b0 b1 b2 b3]) rfl rfl (cost_4 a0 a1 a2 a3 b0 b1 b2 b3 w0 w1 w2 w3 m0 m1 m2 m3) (by simp [e0, e1, e2, e3]; omega) W
  rw [e0, e1, e2, e3, sum_wr s0 s1 s2 s3, ← hp] at key
  refine key.mono ?_
  rintro e w' ⟨rfl, hb⟩
  have hn : 0 ≤ prc (w0, w1, w2, w3) (m0, m1, m2, m3) (a0, a1, a2, a3) (b0, b1, b2, b3) := by rw [hp]; omega
  exact ⟨by rw [if_pos hn, decide_eq_true hn], hb⟩
theorem price_is (w m a b : G4) (W : World) (hw : gOk w = true) (hm : gOk m = true) (ha : gOk a = true) (hb : gOk b = true) :
    Calls Try.prog 48 #[gVal a, gVal b, uVal w m] W fun e w' => e = .returned (.int .i64 (prc w m a b)) ∧ Below W.heap.size W w' := by
  have hw' := gOk_get hw
  have ha' := gOk_get ha
  have hb' := gOk_get hb
  obtain ⟨a0, a1, a2, a3⟩ := a
  obtain ⟨b0, b1, b2, b3⟩ := b
  obtain ⟨w0, w1, w2, w3⟩ := w
  obtain ⟨m0, m1, m2, m3⟩ := m
  simp only at hw' ha' hb'
  have e0 := dK_df ha'.1 hb'.1
  have e1 := dK_df ha'.2.1 hb'.2.1
  have e2 := dK_df ha'.2.2.1 hb'.2.2.1
  have e3 := dK_df ha'.2.2.2 hb'.2.2.2
  have s0 := mul_in (df_in ha'.1 hb'.1) hw'.1
  have s1 := mul_in (df_in ha'.2.1 hb'.2.1) hw'.2.1
  have s2 := mul_in (df_in ha'.2.2.1 hb'.2.2.1) hw'.2.2.1
  have s3 := mul_in (df_in ha'.2.2.2 hb'.2.2.2) hw'.2.2.2
  by_cases h0 : df a0 b0 > m0
  · have hp : prc (w0, w1, w2, w3) (m0, m1, m2, m3) (a0, a1, a2, a3) (b0, b1, b2, b3) = -1 := by unfold prc; exact if_pos (by first | exact .inl h0 | exact .inr (.inl h0) | exact .inr (.inr (.inl h0)) | exact .inr (.inr (.inr h0)))
    have key := told_call (kn := noKn) (kn_ok (noPr_ok _) _) (args := [gV a0 a1 a2 a3, gV b0 b1 b2 b3, uV w0 w1 w2 w3 m0 m1 m2 m3]) rfl rfl (price_0 a0 a1 a2 a3 b0 b1 b2 b3 w0 w1 w2 w3 m0 m1 m2 m3) (by simp [e0]; omega) W
    refine key.mono ?_
    rintro e w' ⟨rfl, hb⟩
    exact ⟨by rw [hp], hb⟩
  by_cases h1 : df a1 b1 > m1
  · have hp : prc (w0, w1, w2, w3) (m0, m1, m2, m3) (a0, a1, a2, a3) (b0, b1, b2, b3) = -1 := by unfold prc; exact if_pos (by first | exact .inl h1 | exact .inr (.inl h1) | exact .inr (.inr (.inl h1)) | exact .inr (.inr (.inr h1)))
    have key := told_call (kn := noKn) (kn_ok (noPr_ok _) _) (args := [gV a0 a1 a2 a3, gV b0 b1 b2 b3, uV w0 w1 w2 w3 m0 m1 m2 m3]) rfl rfl (price_1 a0 a1 a2 a3 b0 b1 b2 b3 w0 w1 w2 w3 m0 m1 m2 m3) (by simp [e0, e1]; omega) W
    refine key.mono ?_
    rintro e w' ⟨rfl, hb⟩
    exact ⟨by rw [hp], hb⟩
  by_cases h2 : df a2 b2 > m2
  · have hp : prc (w0, w1, w2, w3) (m0, m1, m2, m3) (a0, a1, a2, a3) (b0, b1, b2, b3) = -1 := by unfold prc; exact if_pos (by first | exact .inl h2 | exact .inr (.inl h2) | exact .inr (.inr (.inl h2)) | exact .inr (.inr (.inr h2)))
    have key := told_call (kn := noKn) (kn_ok (noPr_ok _) _) (args := [gV a0 a1 a2 a3, gV b0 b1 b2 b3, uV w0 w1 w2 w3 m0 m1 m2 m3]) rfl rfl (price_2 a0 a1 a2 a3 b0 b1 b2 b3 w0 w1 w2 w3 m0 m1 m2 m3) (by simp [e0, e1, e2]; omega) W
    refine key.mono ?_
    rintro e w' ⟨rfl, hb⟩
    exact ⟨by rw [hp], hb⟩
  by_cases h3 : df a3 b3 > m3
  · have hp : prc (w0, w1, w2, w3) (m0, m1, m2, m3) (a0, a1, a2, a3) (b0, b1, b2, b3) = -1 := by unfold prc; exact if_pos (by first | exact .inl h3 | exact .inr (.inl h3) | exact .inr (.inr (.inl h3)) | exact .inr (.inr (.inr h3)))
    have key := told_call (kn := noKn) (kn_ok (noPr_ok _) _) (args := [gV a0 a1 a2 a3, gV b0 b1 b2 b3, uV w0 w1 w2 w3 m0 m1 m2 m3]) rfl rfl (price_3 a0 a1 a2 a3 b0 b1 b2 b3 w0 w1 w2 w3 m0 m1 m2 m3) (by simp [e0, e1, e2, e3]; omega) W
    refine key.mono ?_
    rintro e w' ⟨rfl, hb⟩
    exact ⟨by rw [hp], hb⟩
  have hp : prc (w0, w1, w2, w3) (m0, m1, m2, m3) (a0, a1, a2, a3) (b0, b1, b2, b3) = df a0 b0 * w0 + df a1 b1 * w1 + df a2 b2 * w2 + df a3 b3 * w3 := by unfold prc; exact if_neg (by simp only; omega)
  have key := told_call (kn := noKn) (kn_ok (noPr_ok _) _) (args := [gV a0 a1 a2 a3, gV b0 b1 b2 b3, uV w0 w1 w2 w3 m0 m1 m2 m3]) rfl rfl (price_4 a0 a1 a2 a3 b0 b1 b2 b3 w0 w1 w2 w3 m0 m1 m2 m3) (by simp [e0, e1, e2, e3]; omega) W
  rw [e0, e1, e2, e3, sum_wr s0 s1 s2 s3, ← hp] at key
  refine key.mono ?_
  rintro e w' ⟨rfl, hb⟩
  exact ⟨rfl, hb⟩
end Go.Proofs.Ytcakcdolijgjeaa
