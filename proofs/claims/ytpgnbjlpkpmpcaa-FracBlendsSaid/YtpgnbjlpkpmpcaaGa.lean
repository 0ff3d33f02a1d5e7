import Derived.Test.YtpgnbjlpkpmpcaaZo
import Derived.Test.YtpgnbjlpkpmpcaaDb
set_option linter.unusedVariables false
namespace Go.Proofs.Ytpgnbjlpkpmpcaa.R
open Go.RowKit Go.Proofs.Ytpgnbjlpkpmpcaa.N
/-- a sum's fraction and error -/
def addT (x y n d : Int) : Int × Int × Int := if (M.okB x y && M.okB n d) = true then (M.aN (Rat.divInt x y + Rat.divInt n d), M.aD (Rat.divInt x y + Rat.divInt n d), M.aE (Rat.divInt x y + Rat.divInt n d)) else (0, 0, 2)
theorem addT_ans (x y n d : Int) : Ans x y n d (Rat.divInt x y + Rat.divInt n d) (addT x y n d).1 (addT x y n d).2.1 (addT x y n d).2.2 := by
  unfold Ans Tri addT
  split <;> exact ⟨rfl, rfl, rfl⟩
/-- the sum of the first k, with the first error -/
def acc (ns ds : Nat → Int) : Nat → Int × Int × Int
  | 0 => (0, 1, 0)
  | k + 1 => if (acc ns ds k).2.2 = 0 then addT (acc ns ds k).1 (acc ns ds k).2.1 (ns k) (ds k) else acc ns ds k
theorem acc_succ (ns ds : Nat → Int) (k : Nat) : acc ns ds (k + 1) = if (acc ns ds k).2.2 = 0 then addT (acc ns ds k).1 (acc ns ds k).2.1 (ns k) (ds k) else acc ns ds k := rfl
theorem addT_zero {x y n d : Int} (h : (addT x y n d).2.2 ≠ 0) : (addT x y n d).1 = 0 ∧ (addT x y n d).2.1 = 0 := by
  unfold addT at *
  split at h
  · rename_i c
    rw [if_pos c]
    simp only at h ⊢
    unfold M.aE at h
    split at h
    · exact absurd rfl h
    · rename_i c2
      unfold M.aN M.aD
      rw [if_neg c2, if_neg c2]; exact ⟨rfl, rfl⟩
  · rename_i c
    rw [if_neg c]; exact ⟨rfl, rfl⟩
theorem addT_ok {x y n d : Int} (h : (addT x y n d).2.2 = 0) : M.okB (addT x y n d).1 (addT x y n d).2.1 = true := by
  unfold addT at *
  split at h
  · rename_i c
    rw [if_pos c]
    exact (M.ans_fits h).1
  · exact absurd h (by decide)
theorem acc_ok (ns ds : Nat → Int) (k : Nat) (h : (acc ns ds k).2.2 = 0) : M.okB (acc ns ds k).1 (acc ns ds k).2.1 = true := by
  cases k with
  | zero => show M.okB 0 1 = true; decide
  | succ k =>
    rw [acc_succ] at *
    by_cases c : (acc ns ds k).2.2 = 0
    · rw [if_pos c] at *; exact addT_ok h
    · rw [if_neg c] at h; exact absurd h c
theorem acc_stays (ns ds : Nat → Int) (k m : Nat) (h : (acc ns ds k).2.2 ≠ 0) : acc ns ds (k + m) = acc ns ds k := by
  induction m with
  | zero => rfl
  | succ m ih =>
    show (if (acc ns ds (k + m)).2.2 = 0 then _ else acc ns ds (k + m)) = _
    rw [ih, if_neg h]
theorem acc_zero (ns ds : Nat → Int) (k : Nat) (h : (acc ns ds k).2.2 ≠ 0) : (acc ns ds k).1 = 0 ∧ (acc ns ds k).2.1 = 0 := by
  induction k with
  | zero => exact absurd rfl h
  | succ k ih =>
    rw [acc_succ] at *
    by_cases c : (acc ns ds k).2.2 = 0
    · rw [if_pos c] at *; exact addT_zero h
    · rw [if_neg c] at *; exact ih c
/-- the result's variable and the sum so far -/
def Su (w0 w : World) (s4 : Nat) (x y : Int) : Prop := R2 w0 w0.heap.size w ∧ (w.cell? ⟨s4, 0, none⟩ = some (.int .i64 x) ∧ w.cell? ⟨s4, 1, none⟩ = some (.int .i64 y)) ∧ (w.frozen? ⟨s4, 0, none⟩ = false ∧ w.frozen? ⟨s4, 1, none⟩ = false) ∧ w0.heap.size < s4
theorem su_step {w0 w w' : World} {s4 : Nat} {x y : Int} (h : Hid (Su w0 w s4 x y)) (hb : Below w.heap.size w w') : Hid (Su w0 w' s4 x y) := by
  obtain ⟨r, ⟨c1, c2⟩, ⟨f1, f2⟩, z⟩ := h.out
  exact hide ⟨(r2_step (hide r) hb).out, ⟨kc hb c1, kc hb c2⟩, ⟨kf hb c1 f1, kf hb c2 f2⟩, z⟩
theorem su_set {w0 w : World} {s4 : Nat} {x y : Int} (h : Hid (Su w0 w s4 x y)) (u v : Int) : Hid (Su w0 ((w.setCell ⟨s4, 0, none⟩ (.int .i64 u)).setCell ⟨s4, 1, none⟩ (.int .i64 v)) s4 u v) := by
  obtain ⟨⟨⟨⟨a, ha⟩, ⟨b, hb⟩⟩, ⟨g1, g2⟩, z0, bl⟩, ⟨c1, c2⟩, ⟨f1, f2⟩, z⟩ := h.out
  refine hide ⟨⟨⟨⟨a, keep2 ha (by simp only []; omega) _ _⟩, ⟨b, keep2 hb (by simp only []; omega) _ _⟩⟩, ?_, z0, bs (bs bl (by simp only []; omega) _) (by simp only []; omega) _⟩, ⟨got0 c1 _ _, got1 c2 _ _⟩, ?_, z⟩
  · simp only [frozen_set]; exact ⟨g1, g2⟩
  · simp only [frozen_set]; exact ⟨f1, f2⟩
theorem su_new {w0 w : World} (h : Hid (R2 w0 w0.heap.size w)) (x y : Int) : Hid (Su w0 (w.alloc (.cells #[.int .i64 x, .int .i64 y] 23)) w.heap.size x y) := by
  have hr := r2_step h (ba (Below.refl _ _) (.cells #[.int .i64 x, .int .i64 y] 23))
  obtain ⟨⟨⟨a, ha⟩, _⟩, _⟩ := h.out
  exact hide ⟨hr.out, ⟨by simp [go_sem], by simp [go_sem]⟩, ⟨by simp [go_sem], by simp [go_sem]⟩, cell_lt ha⟩
theorem r2_start (w : World) : Hid (R2 w w.heap.size (w.alloc (.cells #[.int .i64 0, .int .i64 0] 23))) :=
  hide ⟨⟨⟨.int .i64 0, by simp [go_sem]⟩, ⟨.int .i64 0, by simp [go_sem]⟩⟩, ⟨by simp [go_sem], by simp [go_sem]⟩, Nat.le_refl _, ba (Below.refl _ _) _⟩
/-- the cells of the slice -/
def Cells (w : World) (b off len : Nat) (ns ds : Nat → Int) : Prop := (∀ i, i < len → FrAt w b (off + i * 2) (ns i) (ds i)) ∧ (∀ i, i < len → In64 (ns i) ∧ In64 (ds i))
def SumRel (w0 : World) (s4 : Nat) (ns ds : Nat → Int) (k : Nat) (wr : World) : Prop := (acc ns ds k).2.2 = 0 ∧ Su w0 wr s4 (acc ns ds k).1 (acc ns ds k).2.1
set_option maxRecDepth 20000 in
set_option maxHeartbeats 2000000 in
theorem sum_long (b off len cap : Nat) (w : World) (h : 64 < len) :
    Calls Try.prog 67 #[.slice (some ⟨b, off, none⟩) len cap] w fun e w' => e = .returned (.tuple #[.agg #[.int .i64 0, .int .i64 0], .int .i64 3]) ∧ Below w.heap.size w w' := by
  have hl : (64 : Int) < (len : Int) := by omega
  have hr := r2_start w
  clear h
  go_enter Try.func67, Try.ntmps67
  go_wp2_with fail
  refine bodyPost_ret (v := .tuple #[.agg #[.int .i64 0, .int .i64 0], .int .i64 3]) (by simp [results, Try.results67, go_sem]) rfl ⟨rfl, ba (Below.refl _ _) _⟩
set_option maxRecDepth 20000 in
set_option maxHeartbeats 2000000 in
theorem sum_bad (b off len cap : Nat) (ns ds : Nat → Int) (w : World) (h : len ≤ 64) (HC : Hid (Cells w b off len ns ds)) (ha : Hid (allOk ns ds len = false)) :
    Calls Try.prog 67 #[.slice (some ⟨b, off, none⟩) len cap] w fun e w' => e = .returned (.tuple #[.agg #[.int .i64 0, .int .i64 0], .int .i64 2]) ∧ Below w.heap.size w w' := by
  have hl : (len : Int) ≤ 64 := by omega
  have hr := r2_start w
  go_enter Try.func67, Try.ntmps67
  go_wp2_with fail
  refine (allv_any b off len cap ns ds _ (by omega) (fun i hi => (HC.out.1 i hi).below (ba (Below.refl _ _) _)) HC.out.2).mono ?_
  rintro en w1 ⟨rfl, hb⟩
  rw [ha.out]
  have hr1 := r2_step hr hb
  clear hb hr
  obtain ⟨⟨⟨u0, g0⟩, ⟨u1, g1⟩⟩, ⟨g2, g3⟩, _⟩ := hr1.out
  go_wp2_with fail
  refine bodyPost_ret (v := .tuple #[.agg #[.int .i64 0, .int .i64 0], .int .i64 2]) (by simp [results, Try.results67, go_sem, g0, g1]) rfl ⟨rfl, ?_⟩
  exact bs (bs hr1.out.2.2.2 (Nat.le_refl _) _) (Nat.le_refl _) _
set_option maxRecDepth 20000 in
set_option maxHeartbeats 4000000 in
theorem sum_yes (b off len cap : Nat) (ns ds : Nat → Int) (w : World) (h : len ≤ 64) (HC : Hid (Cells w b off len ns ds)) (ha : Hid (allOk ns ds len = true)) (x y z : Int) (hx : Hid ((x, y, z) = acc ns ds len)) :
    Calls Try.prog 67 #[.slice (some ⟨b, off, none⟩) len cap] w fun e w' => e = .returned (.tuple #[.agg #[.int .i64 x, .int .i64 y], .int .i64 z]) ∧ Below w.heap.size w w' := by
  have hl : (len : Int) ≤ 64 := by omega
  have hr := r2_start w
  go_enter Try.func67, Try.ntmps67
  go_wp2_with fail
  refine (allv_any b off len cap ns ds _ (by omega) (fun i hi => (HC.out.1 i hi).below (ba (Below.refl _ _) _)) HC.out.2).mono ?_
  rintro en w1 ⟨rfl, hb⟩
  rw [ha.out]
  have hr1 := r2_step hr hb
  clear hb hr
  have hsu := su_new hr1 0 1
  go_wp2_with fail
  obtain ⟨s4, hs4⟩ : ∃ s4, s4 = w1.heap.size := ⟨_, rfl⟩
  rw [← hs4] at hsu ⊢
  clear hs4
  go_loopw [19] (fun i wr => ∃ k : Nat, k ≤ len ∧ i = .int .i64 k ∧ SumRel w s4 ns ds k wr) (fun i _ => len - (intOf i).toNat)
  case atStart => exact ⟨0, by omega, rfl, rfl, hsu.out⟩
  case round =>
    obtain ⟨k, hk, rfl, h0, hS⟩ := hrel
    have HS := hide hS
    have H0 := hide h0
    clear hS h0
    by_cases hlt : k < len
    · obtain ⟨c1, c2⟩ := (HC.out.1 k hlt).below HS.out.1.2.2.2
      obtain ⟨X, hX⟩ : ∃ X, Hid (X = (acc ns ds k).1) := ⟨_, rfl⟩
      obtain ⟨Y, hY⟩ : ∃ Y, Hid (Y = (acc ns ds k).2.1) := ⟨_, rfl⟩
      have HOK : Hid (M.okB X Y = true) := hide (by rw [hX.out, hY.out]; exact acc_ok ns ds k H0.out)
      rw [← hX.out, ← hY.out] at HS
      have HI : Hid (Ins X Y (ns k) (ds k)) := hide ⟨okB_bd HOK.out, HC.out.2 k hlt⟩
      obtain ⟨x', hx'⟩ : ∃ v, Hid (v = (addT X Y (ns k) (ds k)).1) := ⟨_, rfl⟩
      obtain ⟨y', hy'⟩ : ∃ v, Hid (v = (addT X Y (ns k) (ds k)).2.1) := ⟨_, rfl⟩
      obtain ⟨z', hz'⟩ : ∃ v, Hid (v = (addT X Y (ns k) (ds k)).2.2) := ⟨_, rfl⟩
      have HAN : Hid (Ans X Y (ns k) (ds k) (Rat.divInt X Y + Rat.divInt (ns k) (ds k)) x' y' z') := hide (by rw [hx'.out, hy'.out, hz'.out]; exact addT_ans X Y (ns k) (ds k))
      have HAC : Hid (acc ns ds (k + 1) = (x', y', z')) := hide (by rw [acc_succ, if_pos H0.out, ← hX.out, ← hY.out, hx'.out, hy'.out, hz'.out])
      have hs1 := su_step HS (ba (Below.refl _ _) (.cells #[.int .i64 (ns k), .int .i64 (ds k)] 23))
      obtain ⟨_, ⟨p1, p2⟩, _, _⟩ := HS.out
      have z1 := cell_lt p1
      go_wp2_with fail
      with_reducible refine (add_is X Y (ns k) (ds k) x' y' z' _ HI HAN).mono ?_
      rintro en w2 ⟨rfl, hb⟩
      have hs2 := su_step hs1 hb
      clear hb hs1 p1 p2 c1 c2 z1
      obtain ⟨⟨⟨⟨u0, g0⟩, ⟨u1, g1⟩⟩, ⟨g2, g3⟩, _, _⟩, ⟨p1, p2⟩, ⟨f1, f2⟩, hz⟩ := hs2.out
      by_cases hz0 : z' = 0
      · subst hz0
        have hs3 := su_set hs2 x' y'
        go_wp2_with fail
        go_roundw
        case rel => exact ⟨k + 1, by omega, by go_num, by rw [HAC.out], by rw [HAC.out]; exact hs3.out⟩
        case measure => simp [intOf]; omega
      · have hzb : (z' == 0) = false := by simpa using hz0
        have hzb2 : (z' != 0) = true := by simpa using hz0
        have HE : Hid ((x, y, z) = (0, 0, z')) := hide (by
          rw [hx.out]
          have h1 : (acc ns ds (k + 1)).2.2 ≠ 0 := by rw [HAC.out]; exact hz0
          have h2 := acc_stays ns ds (k + 1) (len - (k + 1)) h1
          rw [show k + 1 + (len - (k + 1)) = len by omega] at h2
          obtain ⟨e1, e2⟩ := acc_zero ns ds (k + 1) h1
          rw [HAC.out] at e1 e2 h2
          rw [h2]; simp only at e1 e2; rw [e1, e2])
        have hne1 : w.heap.size ≠ s4 := by omega
        have hne2 : s4 ≠ w.heap.size := by omega
        clear hz0
        go_wp2_with fail
        have e3 := HE.out
        simp only [Prod.mk.injEq] at e3
        obtain ⟨rfl, rfl, rfl⟩ := e3
        refine bodyPost_ret (v := .tuple #[.agg #[.int .i64 0, .int .i64 0], .int .i64 z]) (by simp [results, Try.results67, go_sem, *]) rfl ⟨rfl, ?_⟩
        exact bs (bs (su_set hs2 x' y').out.1.2.2.2 (Nat.le_refl _) _) (Nat.le_refl _) _
    · have hkl : k = len := by omega
      subst hkl
      have HE : Hid (x = (acc ns ds k).1 ∧ y = (acc ns ds k).2.1 ∧ z = 0) := hide (by
        have := hx.out
        rw [← this] at H0 ⊢
        exact ⟨rfl, rfl, H0.out⟩)
      rw [← HE.out.1, ← HE.out.2.1] at HS
      obtain ⟨⟨⟨⟨u0, g0⟩, ⟨u1, g1⟩⟩, ⟨g2, g3⟩, _, _⟩, ⟨p1, p2⟩, ⟨f1, f2⟩, hz⟩ := HS.out
      go_wp2_with fail
      refine bodyPost_ret (v := .tuple #[.agg #[.int .i64 x, .int .i64 y], .int .i64 0]) (by simp [results, Try.results67, go_sem, *]) rfl ⟨by rw [HE.out.2.2], ?_⟩
      exact bs (bs HS.out.1.2.2.2 (Nat.le_refl _) _) (Nat.le_refl _) _
end Go.Proofs.Ytpgnbjlpkpmpcaa.R
