/- A rule's validity; Cost, of the program and of the reference. -/
import Derived.Test.YtcakcdolijgjeaaPe
set_option linter.unusedVariables false
namespace Go.Proofs.Ytcakcdolijgjeaa
open Go Go.RowKit Go.Ab
/-- a box with a glove -/
def Bx4 (W : World) (n : Nat) (a b c d : Int) : Prop := (W.cell? ⟨n, 0, none⟩ = some (.int .i64 a) ∧ W.cell? ⟨n, 1, none⟩ = some (.int .i64 b)) ∧ (W.cell? ⟨n, 2, none⟩ = some (.int .i64 c) ∧ W.cell? ⟨n, 3, none⟩ = some (.int .i64 d))
/-- a box with a rule -/
def Bx8 (W : World) (n : Nat) (a b c d p q r s : Int) : Prop := Bx4 W n a b c d ∧ (W.cell? ⟨n, 4, none⟩ = some (.int .i64 p) ∧ W.cell? ⟨n, 5, none⟩ = some (.int .i64 q)) ∧ (W.cell? ⟨n, 6, none⟩ = some (.int .i64 r) ∧ W.cell? ⟨n, 7, none⟩ = some (.int .i64 s))
theorem Bx4.below {W W' : World} {n : Nat} {a b c d : Int} (h : Bx4 W n a b c d) (hb : Below W.heap.size W W') : Bx4 W' n a b c d := ⟨⟨kc hb h.1.1, kc hb h.1.2⟩, kc hb h.2.1, kc hb h.2.2⟩
theorem Bx8.below {W W' : World} {n : Nat} {a b c d p q r s : Int} (h : Bx8 W n a b c d p q r s) (hb : Below W.heap.size W W') : Bx8 W' n a b c d p q r s := ⟨h.1.below hb, ⟨kc hb h.2.1.1, kc hb h.2.1.2⟩, kc hb h.2.2.1, kc hb h.2.2.2⟩
theorem bx4_new (W : World) (a b c d : Int) (t : Nat) : Bx4 (W.alloc (.cells #[.int .i64 a, .int .i64 b, .int .i64 c, .int .i64 d] t)) W.heap.size a b c d := ⟨⟨by simp [go_sem], by simp [go_sem]⟩, by simp [go_sem], by simp [go_sem]⟩
theorem bx8_new (W : World) (a b c d p q r s : Int) (t : Nat) : Bx8 (W.alloc (.cells #[.int .i64 a, .int .i64 b, .int .i64 c, .int .i64 d, .int .i64 p, .int .i64 q, .int .i64 r, .int .i64 s] t)) W.heap.size a b c d p q r s := ⟨⟨⟨by simp [go_sem], by simp [go_sem]⟩, by simp [go_sem], by simp [go_sem]⟩, ⟨by simp [go_sem], by simp [go_sem]⟩, by simp [go_sem], by simp [go_sem]⟩
theorem gval_is (g : G4) (W : World) : Calls Try.prog 59 #[gVal g] W fun e w' => e = .returned (.bool (gOk g)) ∧ Below W.heap.size W w' := isValid_is _ _ _ _ W
theorem rgval_is (g : G4) (W : World) : Calls Try.prog 62 #[gVal g] W fun e w' => e = .returned (.bool (gOk g)) ∧ Below W.heap.size W w' := valid_is _ _ _ _ W
theorem ba (W : World) (o : Obj) : Below W.heap.size W (W.alloc o) := (Below.refl _ _).alloc (Nat.le_refl _) _
set_option maxRecDepth 20000 in
set_option maxHeartbeats 1000000 in
theorem ruleOk_is (w0 w1 w2 w3 m0 m1 m2 m3 : Int) (W : World) : Calls Try.prog 60 #[.agg #[.int .i64 w0, .int .i64 w1, .int .i64 w2, .int .i64 w3, .int .i64 m0, .int .i64 m1, .int .i64 m2, .int .i64 m3]] W fun e w' => e = .returned (.bool (okG w0 w1 w2 w3 && okG m0 m1 m2 m3)) ∧ Below W.heap.size W w' := by
  have H8 := hide (bx8_new W w0 w1 w2 w3 m0 m1 m2 m3 32)
  go_enter Try.func60, Try.ntmps60
  go_wp2_with fail
  refine (isValid_is _ _ _ _ _).mono ?_
  rintro e W1 ⟨rfl, hb⟩
  have HB := hide (bt (ba W _) hb)
  have HX := hide (H8.out.below hb)
  clear hb H8
  cases hv : okG w0 w1 w2 w3 with
  | false =>
    go_wp2_with fail
    go_ret
    exact ⟨by rw [hv]; rfl, HB.out⟩
  | true =>
    obtain ⟨_, ⟨c4, c5⟩, c6, c7⟩ := HX.out
    go_wp2_with fail
    refine (isValid_is _ _ _ _ _).mono ?_
    rintro e W2 ⟨rfl, hb⟩
    have HC := hide (bt HB.out hb)
    clear hb
    go_wp2_with fail
    go_ret
    exact ⟨by rw [hv]; rfl, HC.out⟩
set_option maxRecDepth 20000 in
set_option maxHeartbeats 1000000 in
theorem law_is (w0 w1 w2 w3 m0 m1 m2 m3 : Int) (W : World) : Calls Try.prog 63 #[.agg #[.int .i64 w0, .int .i64 w1, .int .i64 w2, .int .i64 w3, .int .i64 m0, .int .i64 m1, .int .i64 m2, .int .i64 m3]] W fun e w' => e = .returned (.bool (okG w0 w1 w2 w3 && okG m0 m1 m2 m3)) ∧ Below W.heap.size W w' := by
  have H8 := hide (bx8_new W w0 w1 w2 w3 m0 m1 m2 m3 25)
  go_enter Try.func63, Try.ntmps63
  go_wp2_with fail
  refine (valid_is _ _ _ _ _).mono ?_
  rintro e W1 ⟨rfl, hb⟩
  have HB := hide (bt (ba W _) hb)
  have HX := hide (H8.out.below hb)
  clear hb H8
  cases hv : okG w0 w1 w2 w3 with
  | false =>
    go_wp2_with fail
    go_ret
    exact ⟨by rw [hv]; rfl, HB.out⟩
  | true =>
    obtain ⟨_, ⟨c4, c5⟩, c6, c7⟩ := HX.out
    go_wp2_with fail
    refine (valid_is _ _ _ _ _).mono ?_
    rintro e W2 ⟨rfl, hb⟩
    have HC := hide (bt HB.out hb)
    clear hb
    go_wp2_with fail
    go_ret
    exact ⟨by rw [hv]; rfl, HC.out⟩
theorem cost_yes (w m a b : G4) (W : World) (hw : gOk w = true) (hm : gOk m = true) (ha : gOk a = true) (hb : gOk b = true) (hn : 0 ≤ prc w m a b) :
    Calls Try.prog 61 #[uVal w m, gVal a, gVal b] W fun e w' => e = .returned (.tuple #[.int .i64 (prc w m a b), .bool true]) ∧ Below W.heap.size W w' := by
  have := cost_is w m a b W hw hm ha hb
  rw [if_pos hn, decide_eq_true hn] at this
  exact this
theorem cost_not (w m a b : G4) (W : World) (hw : gOk w = true) (hm : gOk m = true) (ha : gOk a = true) (hb : gOk b = true) (hn : ¬ 0 ≤ prc w m a b) :
    Calls Try.prog 61 #[uVal w m, gVal a, gVal b] W fun e w' => e = .returned (.tuple #[.int .i64 0, .bool false]) ∧ Below W.heap.size W w' := by
  have := cost_is w m a b W hw hm ha hb
  rw [if_neg hn, decide_eq_false hn] at this
  exact this
/-- what Cost returns -/
def costV (w m a b : G4) : Value := if gOk a && gOk b && (gOk w && gOk m) then (.tuple #[.int .i64 (if 0 ≤ prc w m a b then prc w m a b else 0), .bool (decide (0 ≤ prc w m a b)), .int .i64 0]) else (.tuple #[.int .i64 0, .bool false, .int .i64 2])
theorem costV_no {w m a b : G4} (h : (gOk a && gOk b && (gOk w && gOk m)) = false) : costV w m a b = .tuple #[.int .i64 0, .bool false, .int .i64 2] := by unfold costV; rw [h]; rfl
theorem costV_all {w m a b : G4} (h : (gOk a && gOk b && (gOk w && gOk m)) = true) : costV w m a b = .tuple #[.int .i64 (if 0 ≤ prc w m a b then prc w m a b else 0), .bool (decide (0 ≤ prc w m a b)), .int .i64 0] := by unfold costV; rw [h]; rfl
theorem costV_yes {w m a b : G4} (h : (gOk a && gOk b && (gOk w && gOk m)) = true) (hn : 0 ≤ prc w m a b) : costV w m a b = .tuple #[.int .i64 (prc w m a b), .bool true, .int .i64 0] := by rw [costV_all h, if_pos hn, decide_eq_true hn]
theorem costV_not {w m a b : G4} (h : (gOk a && gOk b && (gOk w && gOk m)) = true) (hn : ¬ 0 ≤ prc w m a b) : costV w m a b = .tuple #[.int .i64 0, .bool false, .int .i64 0] := by rw [costV_all h, if_neg hn, decide_eq_false hn]
/-- the boxes of Cost -/
def C3 (W0 W : World) (a0 a1 a2 a3 b0 b1 b2 b3 w0 w1 w2 w3 m0 m1 m2 m3 : Int) : Prop :=
  Bx4 W W0.heap.size a0 a1 a2 a3 ∧ Bx4 W (W0.heap.size + 1) b0 b1 b2 b3 ∧ Bx8 W (W0.heap.size + 2) w0 w1 w2 w3 m0 m1 m2 m3 ∧ Below W0.heap.size W0 W
theorem C3.below {W0 W W' : World} {a0 a1 a2 a3 b0 b1 b2 b3 w0 w1 w2 w3 m0 m1 m2 m3 : Int} (h : C3 W0 W a0 a1 a2 a3 b0 b1 b2 b3 w0 w1 w2 w3 m0 m1 m2 m3) (hb : Below W.heap.size W W') : C3 W0 W' a0 a1 a2 a3 b0 b1 b2 b3 w0 w1 w2 w3 m0 m1 m2 m3 :=
  ⟨h.1.below hb, h.2.1.below hb, h.2.2.1.below hb, bt h.2.2.2 hb⟩
theorem c3_new (W : World) (a0 a1 a2 a3 b0 b1 b2 b3 w0 w1 w2 w3 m0 m1 m2 m3 : Int) (t u : Nat) : C3 W (((W.alloc (.cells #[.int .i64 a0, .int .i64 a1, .int .i64 a2, .int .i64 a3] t)).alloc (.cells #[.int .i64 b0, .int .i64 b1, .int .i64 b2, .int .i64 b3] t)).alloc (.cells #[.int .i64 w0, .int .i64 w1, .int .i64 w2, .int .i64 w3, .int .i64 m0, .int .i64 m1, .int .i64 m2, .int .i64 m3] u)) a0 a1 a2 a3 b0 b1 b2 b3 w0 w1 w2 w3 m0 m1 m2 m3 := by
  have A1 := bx4_new W a0 a1 a2 a3 t
  generalize h1 : W.alloc (.cells #[.int .i64 a0, .int .i64 a1, .int .i64 a2, .int .i64 a3] t) = W1 at A1 ⊢
  have e1 : W1.heap.size = W.heap.size + 1 := by rw [← h1]; simp
  have B1 : Below W.heap.size W W1 := by rw [← h1]; exact ba _ _
  have A2 := bx4_new W1 b0 b1 b2 b3 t
  generalize h2 : W1.alloc (.cells #[.int .i64 b0, .int .i64 b1, .int .i64 b2, .int .i64 b3] t) = W2 at A2 ⊢
  have e2 : W2.heap.size = W.heap.size + 2 := by rw [← h2]; simp [e1]
  have B2 : Below W1.heap.size W1 W2 := by rw [← h2]; exact ba _ _
  have A3 := bx8_new W2 w0 w1 w2 w3 m0 m1 m2 m3 u
  generalize h3 : W2.alloc (.cells #[.int .i64 w0, .int .i64 w1, .int .i64 w2, .int .i64 w3, .int .i64 m0, .int .i64 m1, .int .i64 m2, .int .i64 m3] u) = W3 at A3 ⊢
  have B3 : Below W2.heap.size W2 W3 := by rw [← h3]; exact ba _ _
  rw [e2] at A3
  rw [e1] at A2
  exact ⟨(A1.below B2).below B3, A2.below B3, A3, bt (bt B1 B2) B3⟩
set_option maxRecDepth 20000 in
set_option maxHeartbeats 2000000 in
theorem Cost_is (w m a b : G4) (W : World) : Calls Try.prog 21 #[gVal a, gVal b, uVal w m] W fun e w' => e = .returned (costV w m a b) ∧ Below W.heap.size W w' := by
  unfold gVal uVal
  obtain ⟨a0, a1, a2, a3⟩ := a
  obtain ⟨b0, b1, b2, b3⟩ := b
  obtain ⟨w0, w1, w2, w3⟩ := w
  obtain ⟨m0, m1, m2, m3⟩ := m
  simp only
  have HX := hide (c3_new W a0 a1 a2 a3 b0 b1 b2 b3 w0 w1 w2 w3 m0 m1 m2 m3 29 32)
  go_enter Try.func21, Try.ntmps21
  go_wp2_with fail
  refine (isValid_is _ _ _ _ _).mono ?_
  rintro e W1 ⟨rfl, hb⟩
  have HX := hide (HX.out.below hb)
  clear hb
  cases va : okG a0 a1 a2 a3 with
  | false =>
    go_wp2_with fail
    go_ret3
    exact ⟨by rw [costV_no (by unfold gOk; simp only; rw [va]; rfl)]; rfl, HX.out.2.2.2⟩
  | true =>
    obtain ⟨⟨⟨c0, c1⟩, c2, c3⟩, ⟨⟨d0, d1⟩, d2, d3⟩, ⟨⟨⟨q0, q1⟩, q2, q3⟩, ⟨r0, r1⟩, r2, r3⟩, _⟩ := HX.out
    go_wp2_with fail
    refine (isValid_is _ _ _ _ _).mono ?_
    rintro e W2 ⟨rfl, hb⟩
    have HX := hide (HX.out.below hb)
    clear hb c0 c1 c2 c3 d0 d1 d2 d3 q0 q1 q2 q3 r0 r1 r2 r3
    cases vb : okG b0 b1 b2 b3 with
    | false =>
      go_wp2_with fail
      go_ret3
      exact ⟨by rw [costV_no (by unfold gOk; simp only; rw [va, vb]; rfl)]; rfl, HX.out.2.2.2⟩
    | true =>
      obtain ⟨⟨⟨c0, c1⟩, c2, c3⟩, ⟨⟨d0, d1⟩, d2, d3⟩, ⟨⟨⟨q0, q1⟩, q2, q3⟩, ⟨r0, r1⟩, r2, r3⟩, _⟩ := HX.out
      go_wp2_with fail
      refine (ruleOk_is _ _ _ _ _ _ _ _ _).mono ?_
      rintro e W3 ⟨rfl, hb⟩
      have HX := hide (HX.out.below hb)
      clear hb c0 c1 c2 c3 d0 d1 d2 d3 q0 q1 q2 q3 r0 r1 r2 r3
      cases vw : (okG w0 w1 w2 w3 && okG m0 m1 m2 m3) with
      | false =>
        go_wp2_with fail
        go_ret3
        exact ⟨by rw [costV_no (by unfold gOk; simp only; rw [va, vb, vw]; rfl)]; rfl, HX.out.2.2.2⟩
      | true =>
        obtain ⟨⟨⟨c0, c1⟩, c2, c3⟩, ⟨⟨d0, d1⟩, d2, d3⟩, ⟨⟨⟨q0, q1⟩, q2, q3⟩, ⟨r0, r1⟩, r2, r3⟩, _⟩ := HX.out
        have vw' := vw
        simp only [Bool.and_eq_true] at vw'
        go_wp2_with fail
        by_cases h0 : 0 ≤ prc (w0, w1, w2, w3) (m0, m1, m2, m3) (a0, a1, a2, a3) (b0, b1, b2, b3)
        · have HH := hide (costV_yes (w := (w0, w1, w2, w3)) (m := (m0, m1, m2, m3)) (a := (a0, a1, a2, a3)) (b := (b0, b1, b2, b3)) (by unfold gOk; simp only; rw [va, vb, vw]; rfl) h0)
          refine (cost_yes (w0, w1, w2, w3) (m0, m1, m2, m3) (a0, a1, a2, a3) (b0, b1, b2, b3) _ vw'.1 vw'.2 va vb h0).mono ?_
          rintro e W4 ⟨rfl, hb⟩
          have HX := hide (HX.out.below hb)
          clear hb c0 c1 c2 c3 d0 d1 d2 d3 q0 q1 q2 q3 r0 r1 r2 r3 h0
          go_wp2_with fail
          go_ret3
          exact ⟨by rw [HH.out]; rfl, HX.out.2.2.2⟩
        · have HH := hide (costV_not (w := (w0, w1, w2, w3)) (m := (m0, m1, m2, m3)) (a := (a0, a1, a2, a3)) (b := (b0, b1, b2, b3)) (by unfold gOk; simp only; rw [va, vb, vw]; rfl) h0)
          refine (cost_not (w0, w1, w2, w3) (m0, m1, m2, m3) (a0, a1, a2, a3) (b0, b1, b2, b3) _ vw'.1 vw'.2 va vb h0).mono ?_
          rintro e W4 ⟨rfl, hb⟩
          have HX := hide (HX.out.below hb)
          clear hb c0 c1 c2 c3 d0 d1 d2 d3 q0 q1 q2 q3 r0 r1 r2 r3 h0
          go_wp2_with fail
          go_ret3
          exact ⟨by rw [HH.out]; rfl, HX.out.2.2.2⟩
set_option maxRecDepth 20000 in
set_option maxHeartbeats 2000000 in
theorem RCost_is (w m a b : G4) (W : World) : Calls Try.prog 24 #[gVal a, gVal b, uVal w m] W fun e w' => e = .returned (costV w m a b) ∧ Below W.heap.size W w' := by
  unfold gVal uVal
  obtain ⟨a0, a1, a2, a3⟩ := a
  obtain ⟨b0, b1, b2, b3⟩ := b
  obtain ⟨w0, w1, w2, w3⟩ := w
  obtain ⟨m0, m1, m2, m3⟩ := m
  simp only
  have HX := hide (c3_new W a0 a1 a2 a3 b0 b1 b2 b3 w0 w1 w2 w3 m0 m1 m2 m3 23 25)
  go_enter Try.func24, Try.ntmps24
  go_wp2_with fail
  refine (valid_is _ _ _ _ _).mono ?_
  rintro e W1 ⟨rfl, hb⟩
  have HX := hide (HX.out.below hb)
  clear hb
  cases va : okG a0 a1 a2 a3 with
  | false =>
    go_wp2_with fail
    go_ret3
    exact ⟨by rw [costV_no (by unfold gOk; simp only; rw [va]; rfl)]; rfl, HX.out.2.2.2⟩
  | true =>
    obtain ⟨⟨⟨c0, c1⟩, c2, c3⟩, ⟨⟨d0, d1⟩, d2, d3⟩, ⟨⟨⟨q0, q1⟩, q2, q3⟩, ⟨r0, r1⟩, r2, r3⟩, _⟩ := HX.out
    go_wp2_with fail
    refine (valid_is _ _ _ _ _).mono ?_
    rintro e W2 ⟨rfl, hb⟩
    have HX := hide (HX.out.below hb)
    clear hb c0 c1 c2 c3 d0 d1 d2 d3 q0 q1 q2 q3 r0 r1 r2 r3
    cases vb : okG b0 b1 b2 b3 with
    | false =>
      go_wp2_with fail
      go_ret3
      exact ⟨by rw [costV_no (by unfold gOk; simp only; rw [va, vb]; rfl)]; rfl, HX.out.2.2.2⟩
    | true =>
      obtain ⟨⟨⟨c0, c1⟩, c2, c3⟩, ⟨⟨d0, d1⟩, d2, d3⟩, ⟨⟨⟨q0, q1⟩, q2, q3⟩, ⟨r0, r1⟩, r2, r3⟩, _⟩ := HX.out
      go_wp2_with fail
      refine (law_is _ _ _ _ _ _ _ _ _).mono ?_
      rintro e W3 ⟨rfl, hb⟩
      have HX := hide (HX.out.below hb)
      clear hb c0 c1 c2 c3 d0 d1 d2 d3 q0 q1 q2 q3 r0 r1 r2 r3
      cases vw : (okG w0 w1 w2 w3 && okG m0 m1 m2 m3) with
      | false =>
        go_wp2_with fail
        go_ret3
        exact ⟨by rw [costV_no (by unfold gOk; simp only; rw [va, vb, vw]; rfl)]; rfl, HX.out.2.2.2⟩
      | true =>
        obtain ⟨⟨⟨c0, c1⟩, c2, c3⟩, ⟨⟨d0, d1⟩, d2, d3⟩, ⟨⟨⟨q0, q1⟩, q2, q3⟩, ⟨r0, r1⟩, r2, r3⟩, _⟩ := HX.out
        have vw' := vw
        simp only [Bool.and_eq_true] at vw'
        go_wp2_with fail
        refine (price_is (w0, w1, w2, w3) (m0, m1, m2, m3) (a0, a1, a2, a3) (b0, b1, b2, b3) _ vw'.1 vw'.2 va vb).mono ?_
        rintro e W4 ⟨rfl, hb⟩
        have HX := hide (HX.out.below hb)
        clear hb c0 c1 c2 c3 d0 d1 d2 d3 q0 q1 q2 q3 r0 r1 r2 r3
        have HI := prc_in (w := (w0, w1, w2, w3)) (m := (m0, m1, m2, m3)) (a := (a0, a1, a2, a3)) (b := (b0, b1, b2, b3)) vw'.1 va vb
        obtain ⟨n, hn⟩ : ∃ n, Hid (n = prc (w0, w1, w2, w3) (m0, m1, m2, m3) (a0, a1, a2, a3) (b0, b1, b2, b3)) := ⟨_, hide rfl⟩
        rw [← hn.out] at HI
        rw [← hn.out]
        by_cases h0 : 0 ≤ n
        · have HH := hide (costV_yes (w := (w0, w1, w2, w3)) (m := (m0, m1, m2, m3)) (a := (a0, a1, a2, a3)) (b := (b0, b1, b2, b3)) (by unfold gOk; simp only; rw [va, vb, vw]; rfl) (by rw [← hn.out]; exact h0))
          go_wp2_with fail
          go_ret3
          exact ⟨by rw [HH.out, ← hn.out]; rfl, HX.out.2.2.2⟩
        · have HH := hide (costV_not (w := (w0, w1, w2, w3)) (m := (m0, m1, m2, m3)) (a := (a0, a1, a2, a3)) (b := (b0, b1, b2, b3)) (by unfold gOk; simp only; rw [va, vb, vw]; rfl) (by rw [← hn.out]; exact h0))
          go_wp2_with fail
          go_ret3
          exact ⟨by rw [HH.out]; rfl, HX.out.2.2.2⟩
end Go.Proofs.Ytcakcdolijgjeaa
