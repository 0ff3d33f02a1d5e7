import Derived.Test.YtpgnbjlpkpmpcaaZd
namespace Go.Proofs.Ytpgnbjlpkpmpcaa.R
open Go.RowKit Go.Proofs.Ytpgnbjlpkpmpcaa.N
/-- the box of a rational number and a fraction's variable -/
def F1 (w0 w : World) (s : Bool) (a b : Option Addr) (la ca lb cb : Nat) : Prop :=
  (w.cell? ⟨w0.heap.size, 0, none⟩ = some (.bool s) ∧ w.cell? ⟨w0.heap.size, 1, none⟩ = some (.slice a la ca) ∧ w.cell? ⟨w0.heap.size, 2, none⟩ = some (.slice b lb cb)) ∧
  (w.cell? ⟨w0.heap.size + 1, 0, none⟩ = some (.int .i64 0) ∧ w.cell? ⟨w0.heap.size + 1, 1, none⟩ = some (.int .i64 0) ∧ w.frozen? ⟨w0.heap.size + 1, 0, none⟩ = false ∧ w.frozen? ⟨w0.heap.size + 1, 1, none⟩ = false) ∧ Below w0.heap.size w0 w
theorem f1_made (w : World) (s : Bool) (a b : Option Addr) (la ca lb cb : Nat) : Hid (F1 w ((w.alloc (.cells #[.bool s, .slice a la ca, .slice b lb cb] 43)).alloc (.cells #[.int .i64 0, .int .i64 0] 23)) s a b la ca lb cb) :=
  hide ⟨⟨by simp [go_sem], by simp [go_sem], by simp [go_sem]⟩, ⟨by simp [go_sem], by simp [go_sem], by simp [go_sem], by simp [go_sem]⟩, ba (ba (Below.refl _ _) _) _⟩
theorem f1_step {w0 w w' : World} {s : Bool} {a b : Option Addr} {la ca lb cb : Nat} (h : Hid (F1 w0 w s a b la ca lb cb)) (hb : Below w.heap.size w w') : Hid (F1 w0 w' s a b la ca lb cb) := by
  obtain ⟨⟨c0, c1, c2⟩, ⟨d0, d1, f0, f1⟩, b⟩ := h.out
  exact hide ⟨⟨kc hb c0, kc hb c1, kc hb c2⟩, ⟨kc hb d0, kc hb d1, kf hb d0 f0, kf hb d1 f1⟩, bt b hb⟩
/-- Frac's answer -/
theorem frac_vals (q : Rat) : M.aN q = (if M.fits q = true then (if q.num < 0 then -(q.num.natAbs : Int) else (q.num.natAbs : Int)) else 0) := by
  unfold M.aN; split
  · split <;> omega
  · rfl
theorem fits_iff (q : Rat) : M.fits q = true ↔ q.num.natAbs ≤ 1000000000 ∧ q.den ≤ 1000000000 := by
  unfold M.fits; rw [decide_eq_true_eq]; omega
set_option maxRecDepth 20000 in
set_option maxHeartbeats 1000000 in
theorem frac_a (s : Bool) (n1 n2 : Nat) (ao bo : Option Addr) (la ca lb cb : Nat) (w : World) (H1 : Hid (RN w (.slice ao la ca) n1)) (H2 : Hid (RN w (.slice bo lb cb) n2)) (C1 : Hid (4611686018427387904 < n1)) (C2 : Hid (n2 ≤ 4611686018427387904)) :
    Calls Try.prog 75 #[.agg #[.bool s, .slice ao la ca, .slice bo lb cb]] w fun e w' => e = .returned (.tuple #[.agg #[.int .i64 0, .int .i64 0], .bool false]) ∧ Below w.heap.size w w' := by
  have hf := f1_made w s ao bo la ca lb cb
  go_enter Try.func75, Try.ntmps75
  go_wp2_with fail
  refine (small_no _ n1 _ (H1.out.below (ba (ba (Below.refl _ _) _) _)) C1).mono ?_
  rintro e w1 ⟨rfl, rfl⟩
  go_wp2_with fail
  refine (small_yes _ n2 _ (H2.out.below (ba (ba (Below.refl _ _) _) _)) C2).mono ?_
  rintro e w2 ⟨rfl, rfl⟩
  go_wp2_with fail
  refine bodyPost_ret (v := .tuple #[.agg #[.int .i64 0, .int .i64 0], .bool false]) (by simp [results, Try.results75, go_sem]) rfl ⟨rfl, ?_⟩
  first | exact hf.out.2.2 | exact bs (bs hf.out.2.2 (by simp only []; omega) _) (by simp only []; omega) _ | exact ba (ba (Below.refl _ _) _) _
set_option maxRecDepth 20000 in
set_option maxHeartbeats 1000000 in
theorem frac_a2 (s : Bool) (n1 n2 : Nat) (ao bo : Option Addr) (la ca lb cb : Nat) (w : World) (H1 : Hid (RN w (.slice ao la ca) n1)) (H2 : Hid (RN w (.slice bo lb cb) n2)) (C1 : Hid (4611686018427387904 < n1)) (C2 : Hid (4611686018427387904 < n2)) :
    Calls Try.prog 75 #[.agg #[.bool s, .slice ao la ca, .slice bo lb cb]] w fun e w' => e = .returned (.tuple #[.agg #[.int .i64 0, .int .i64 0], .bool false]) ∧ Below w.heap.size w w' := by
  have hf := f1_made w s ao bo la ca lb cb
  go_enter Try.func75, Try.ntmps75
  go_wp2_with fail
  refine (small_no _ n1 _ (H1.out.below (ba (ba (Below.refl _ _) _) _)) C1).mono ?_
  rintro e w1 ⟨rfl, rfl⟩
  go_wp2_with fail
  refine (small_no _ n2 _ (H2.out.below (ba (ba (Below.refl _ _) _) _)) C2).mono ?_
  rintro e w2 ⟨rfl, rfl⟩
  go_wp2_with fail
  refine bodyPost_ret (v := .tuple #[.agg #[.int .i64 0, .int .i64 0], .bool false]) (by simp [results, Try.results75, go_sem]) rfl ⟨rfl, ?_⟩
  first | exact hf.out.2.2 | exact bs (bs hf.out.2.2 (by simp only []; omega) _) (by simp only []; omega) _ | exact ba (ba (Below.refl _ _) _) _
set_option maxRecDepth 20000 in
set_option maxHeartbeats 1000000 in
theorem frac_b (s : Bool) (n1 n2 : Nat) (ao bo : Option Addr) (la ca lb cb : Nat) (w : World) (H1 : Hid (RN w (.slice ao la ca) n1)) (H2 : Hid (RN w (.slice bo lb cb) n2)) (C1 : Hid (n1 ≤ 4611686018427387904)) (C2 : Hid (4611686018427387904 < n2)) :
    Calls Try.prog 75 #[.agg #[.bool s, .slice ao la ca, .slice bo lb cb]] w fun e w' => e = .returned (.tuple #[.agg #[.int .i64 0, .int .i64 0], .bool false]) ∧ Below w.heap.size w w' := by
  have hf := f1_made w s ao bo la ca lb cb
  go_enter Try.func75, Try.ntmps75
  go_wp2_with fail
  refine (small_yes _ n1 _ (H1.out.below (ba (ba (Below.refl _ _) _) _)) C1).mono ?_
  rintro e w1 ⟨rfl, rfl⟩
  go_wp2_with fail
  refine (small_no _ n2 _ (H2.out.below (ba (ba (Below.refl _ _) _) _)) C2).mono ?_
  rintro e w2 ⟨rfl, rfl⟩
  go_wp2_with fail
  refine bodyPost_ret (v := .tuple #[.agg #[.int .i64 0, .int .i64 0], .bool false]) (by simp [results, Try.results75, go_sem]) rfl ⟨rfl, ?_⟩
  first | exact hf.out.2.2 | exact bs (bs hf.out.2.2 (by simp only []; omega) _) (by simp only []; omega) _ | exact ba (ba (Below.refl _ _) _) _
set_option maxRecDepth 20000 in
set_option maxHeartbeats 1000000 in
theorem frac_c (s : Bool) (n1 n2 : Nat) (ao bo : Option Addr) (la ca lb cb : Nat) (w : World) (H1 : Hid (RN w (.slice ao la ca) n1)) (H2 : Hid (RN w (.slice bo lb cb) n2)) (C1 : Hid (n1 ≤ 4611686018427387904)) (C2 : Hid (n2 ≤ 4611686018427387904)) (h3 : (1000000000 : Int) < (n1 : Int)) :
    Calls Try.prog 75 #[.agg #[.bool s, .slice ao la ca, .slice bo lb cb]] w fun e w' => e = .returned (.tuple #[.agg #[.int .i64 0, .int .i64 0], .bool false]) ∧ Below w.heap.size w w' := by
  have hf := f1_made w s ao bo la ca lb cb
  go_enter Try.func75, Try.ntmps75
  go_wp2_with fail
  refine (small_yes _ n1 _ (H1.out.below (ba (ba (Below.refl _ _) _) _)) C1).mono ?_
  rintro e w1 ⟨rfl, rfl⟩
  go_wp2_with fail
  refine (small_yes _ n2 _ (H2.out.below (ba (ba (Below.refl _ _) _) _)) C2).mono ?_
  rintro e w2 ⟨rfl, rfl⟩
  go_wp2_with fail
  refine bodyPost_ret (v := .tuple #[.agg #[.int .i64 0, .int .i64 0], .bool false]) (by simp [results, Try.results75, go_sem]) rfl ⟨rfl, ?_⟩
  first | exact hf.out.2.2 | exact bs (bs hf.out.2.2 (by simp only []; omega) _) (by simp only []; omega) _ | exact ba (ba (Below.refl _ _) _) _
set_option maxRecDepth 20000 in
set_option maxHeartbeats 1000000 in
theorem frac_d (s : Bool) (n1 n2 : Nat) (ao bo : Option Addr) (la ca lb cb : Nat) (w : World) (H1 : Hid (RN w (.slice ao la ca) n1)) (H2 : Hid (RN w (.slice bo lb cb) n2)) (C1 : Hid (n1 ≤ 4611686018427387904)) (C2 : Hid (n2 ≤ 4611686018427387904)) (h3 : (n1 : Int) ≤ 1000000000) (h4 : (1000000000 : Int) < (n2 : Int)) :
    Calls Try.prog 75 #[.agg #[.bool s, .slice ao la ca, .slice bo lb cb]] w fun e w' => e = .returned (.tuple #[.agg #[.int .i64 0, .int .i64 0], .bool false]) ∧ Below w.heap.size w w' := by
  have hf := f1_made w s ao bo la ca lb cb
  have h3' : decide ((1000000000 : Int) < (n1 : Int)) = false := by simpa using h3
  go_enter Try.func75, Try.ntmps75
  go_wp2_with fail
  refine (small_yes _ n1 _ (H1.out.below (ba (ba (Below.refl _ _) _) _)) C1).mono ?_
  rintro e w1 ⟨rfl, rfl⟩
  go_wp2_with fail
  refine (small_yes _ n2 _ (H2.out.below (ba (ba (Below.refl _ _) _) _)) C2).mono ?_
  rintro e w2 ⟨rfl, rfl⟩
  go_wp2_with fail
  refine bodyPost_ret (v := .tuple #[.agg #[.int .i64 0, .int .i64 0], .bool false]) (by simp [results, Try.results75, go_sem]) rfl ⟨rfl, ?_⟩
  first | exact hf.out.2.2 | exact bs (bs hf.out.2.2 (by simp only []; omega) _) (by simp only []; omega) _ | exact ba (ba (Below.refl _ _) _) _
set_option maxRecDepth 20000 in
set_option maxHeartbeats 1000000 in
theorem frac_e (n1 n2 : Nat) (ao bo : Option Addr) (la ca lb cb : Nat) (w : World) (H1 : Hid (RN w (.slice ao la ca) n1)) (H2 : Hid (RN w (.slice bo lb cb) n2)) (C1 : Hid (n1 ≤ 4611686018427387904)) (C2 : Hid (n2 ≤ 4611686018427387904)) (h3 : (n1 : Int) ≤ 1000000000) (h4 : (n2 : Int) ≤ 1000000000) :
    Calls Try.prog 75 #[.agg #[.bool true, .slice ao la ca, .slice bo lb cb]] w fun e w' => e = .returned (.tuple #[.agg #[.int .i64 (-(n1 : Int)), .int .i64 n2], .bool true]) ∧ Below w.heap.size w w' := by
  have hf := f1_made w true ao bo la ca lb cb
  have h3' : decide ((1000000000 : Int) < (n1 : Int)) = false := by simpa using h3
  have h4' : decide ((1000000000 : Int) < (n2 : Int)) = false := by simpa using h4
  go_enter Try.func75, Try.ntmps75
  go_wp2_with fail
  refine (small_yes _ n1 _ (H1.out.below (ba (ba (Below.refl _ _) _) _)) C1).mono ?_
  rintro e w1 ⟨rfl, rfl⟩
  go_wp2_with fail
  refine (small_yes _ n2 _ (H2.out.below (ba (ba (Below.refl _ _) _) _)) C2).mono ?_
  rintro e w2 ⟨rfl, rfl⟩
  go_wp2_with fail
  refine bodyPost_ret (v := .tuple #[.agg #[.int .i64 (-(n1 : Int)), .int .i64 n2], .bool true]) (by simp [results, Try.results75, go_sem]) rfl ⟨rfl, ?_⟩
  first | exact hf.out.2.2 | exact bs (bs hf.out.2.2 (by simp only []; omega) _) (by simp only []; omega) _ | exact ba (ba (Below.refl _ _) _) _
set_option maxRecDepth 20000 in
set_option maxHeartbeats 1000000 in
theorem frac_f (n1 n2 : Nat) (ao bo : Option Addr) (la ca lb cb : Nat) (w : World) (H1 : Hid (RN w (.slice ao la ca) n1)) (H2 : Hid (RN w (.slice bo lb cb) n2)) (C1 : Hid (n1 ≤ 4611686018427387904)) (C2 : Hid (n2 ≤ 4611686018427387904)) (h3 : (n1 : Int) ≤ 1000000000) (h4 : (n2 : Int) ≤ 1000000000) :
    Calls Try.prog 75 #[.agg #[.bool false, .slice ao la ca, .slice bo lb cb]] w fun e w' => e = .returned (.tuple #[.agg #[.int .i64 n1, .int .i64 n2], .bool true]) ∧ Below w.heap.size w w' := by
  have hf := f1_made w false ao bo la ca lb cb
  have h3' : decide ((1000000000 : Int) < (n1 : Int)) = false := by simpa using h3
  have h4' : decide ((1000000000 : Int) < (n2 : Int)) = false := by simpa using h4
  go_enter Try.func75, Try.ntmps75
  go_wp2_with fail
  refine (small_yes _ n1 _ (H1.out.below (ba (ba (Below.refl _ _) _) _)) C1).mono ?_
  rintro e w1 ⟨rfl, rfl⟩
  go_wp2_with fail
  refine (small_yes _ n2 _ (H2.out.below (ba (ba (Below.refl _ _) _) _)) C2).mono ?_
  rintro e w2 ⟨rfl, rfl⟩
  go_wp2_with fail
  refine bodyPost_ret (v := .tuple #[.agg #[.int .i64 n1, .int .i64 n2], .bool true]) (by simp [results, Try.results75, go_sem]) rfl ⟨rfl, ?_⟩
  first | exact hf.out.2.2 | exact bs (bs hf.out.2.2 (by simp only []; omega) _) (by simp only []; omega) _ | exact ba (ba (Below.refl _ _) _) _
theorem frac_q (q : Rat) (vq : Value) (w : World) (hq : RQ w vq q) (x y : Int) (g : Bool) (hx : Hid (x = M.aN q)) (hy : Hid (y = M.aD q)) (hg : Hid (g = M.fits q)) : Calls Try.prog 75 #[vq] w fun e w' => e = .returned (.tuple #[.agg #[.int .i64 x, .int .i64 y], .bool g]) ∧ Below w.heap.size w w' := by
  obtain ⟨ao, la, ca, bo, lb, cb, rfl, a1, a2⟩ := hq
  have H1 := hide a1
  have H2 := hide a2
  have hfi := fits_iff q
  have hfv := frac_vals q
  rw [hx.out, hy.out, hg.out]
  by_cases hf : M.fits q = true
  · obtain ⟨f1, f2⟩ := hfi.1 hf
    rw [hf, if_pos rfl] at hfv
    have e2 : M.aD q = (q.den : Int) := by unfold M.aD; rw [if_pos hf]
    rw [hf, e2]
    by_cases hn : q.num < 0
    · rw [if_pos hn] at hfv
      rw [hfv, show decide (q.num < 0) = true by simpa using hn]
      exact frac_e _ _ ao bo la ca lb cb w H1 H2 (hide (by omega)) (hide (by omega)) (by omega) (by omega)
    · rw [if_neg hn] at hfv
      rw [hfv, show decide (q.num < 0) = false by simpa using hn]
      exact frac_f _ _ ao bo la ca lb cb w H1 H2 (hide (by omega)) (hide (by omega)) (by omega) (by omega)
  · have hf0 : M.fits q = false := by simpa using hf
    have e1 : M.aN q = 0 := by unfold M.aN; rw [if_neg hf]
    have e2 : M.aD q = 0 := by unfold M.aD; rw [if_neg hf]
    rw [hf0, e1, e2]
    have hor : ¬ (q.num.natAbs ≤ 1000000000 ∧ q.den ≤ 1000000000) := fun c => hf (hfi.2 c)
    by_cases c1 : q.num.natAbs ≤ 4611686018427387904
    · by_cases c2 : q.den ≤ 4611686018427387904
      · by_cases c3 : (q.num.natAbs : Int) ≤ 1000000000
        · exact frac_d _ _ _ ao bo la ca lb cb w H1 H2 (hide c1) (hide c2) c3 (by omega)
        · exact frac_c _ _ _ ao bo la ca lb cb w H1 H2 (hide c1) (hide c2) (by omega)
      · exact frac_b _ _ _ ao bo la ca lb cb w H1 H2 (hide c1) (hide (by omega))
    · by_cases c2 : q.den ≤ 4611686018427387904
      · exact frac_a _ _ _ ao bo la ca lb cb w H1 H2 (hide (by omega)) (hide c2)
      · exact frac_a2 _ _ _ ao bo la ca lb cb w H1 H2 (hide (by omega)) (hide (by omega))
end Go.Proofs.Ytpgnbjlpkpmpcaa.R
