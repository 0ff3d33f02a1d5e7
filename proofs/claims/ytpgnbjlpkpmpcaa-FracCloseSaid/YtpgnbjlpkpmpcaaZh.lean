import Derived.Test.YtpgnbjlpkpmpcaaZg
namespace Go.Proofs.Ytpgnbjlpkpmpcaa.R
open Go.RowKit Go.Proofs.Ytpgnbjlpkpmpcaa.N
/-- a fraction's variable, as it was made -/
def S2 (s : Nat) (w : World) : Prop := w.cell? ⟨s, 0, none⟩ = some (.int .i64 0) ∧ w.cell? ⟨s, 1, none⟩ = some (.int .i64 0) ∧ w.frozen? ⟨s, 0, none⟩ = false ∧ w.frozen? ⟨s, 1, none⟩ = false
theorem s2_step {s : Nat} {w w' : World} (h : Hid (S2 s w)) (hb : Below w.heap.size w w') : Hid (S2 s w') := by
  obtain ⟨c0, c1, f0, f1⟩ := h.out
  exact hide ⟨kc hb c0, kc hb c1, kf hb c0 f0, kf hb c1 f1⟩
theorem s2_new (w : World) : Hid (S2 w.heap.size (w.alloc (.cells #[.int .i64 0, .int .i64 0] 23))) := hide ⟨by simp [go_sem], by simp [go_sem], by simp [go_sem], by simp [go_sem]⟩
theorem s2_end {w0 w : World} (h : Below w0.heap.size w0 w) (u v : Value) : Below w0.heap.size w0 ((w.setCell ⟨w0.heap.size, 0, none⟩ u).setCell ⟨w0.heap.size, 1, none⟩ v) := bs (bs h (Nat.le_refl _) u) (Nat.le_refl _) v
set_option maxHeartbeats 1000000 in
theorem rnew_is (n d x y z : Int) (w : World) (hn : In64 n) (hd : In64 d) (hx : Hid (x = M.nN n d)) (hy : Hid (y = M.nD n d)) (hz : Hid (z = M.nE n d)) : Calls Try.prog 24 #[.int .i64 n, .int .i64 d] w fun e w' => e = .returned (.tuple #[.agg #[.int .i64 x, .int .i64 y], .int .i64 z]) ∧ Below w.heap.size w w' := by
  by_cases h0 : d = 0
  · subst h0
    have HX : Hid (x = 0 ∧ y = 0 ∧ z = 4) := hide (by rw [hx.out, hy.out, hz.out]; simp [M.nN, M.nD, M.nE])
    go_enter Try.func24, Try.ntmps24
    go_wp2_with fail
    refine bodyPost_ret (v := .tuple #[.agg #[.int .i64 0, .int .i64 0], .int .i64 4]) (by simp [results, Try.results24, go_sem]) rfl ⟨by rw [HX.out.1, HX.out.2.1, HX.out.2.2], ?_⟩
    exact ba (Below.refl _ _) _
  · have hb : (d == 0) = false := by rw [beq_eq_false_iff_ne]; exact h0
    have G := hide (And.intro hn hd); clear hn hd
    obtain ⟨r, hr⟩ : ∃ r, Hid (r = (n : Rat) / (d : Rat)) := ⟨_, rfl⟩
    have HR : Hid (x = M.aN r ∧ y = M.aD r ∧ z = M.aE r) := by
      obtain ⟨e1, e2, e3⟩ := M.new_is (n := n) h0 rfl
      rw [hr.out, of_divInt, hx.out, hy.out, hz.out]; exact hide ⟨e1, e2, e3⟩
    have HD0 : Hid ((d : Rat) ≠ 0) := hide (by intro c; exact h0 (by exact_mod_cast c))
    clear hx hy hz h0
    go_enter Try.func24, Try.ntmps24
    go_wp2_with fail
    refine (int_q n _ G.out.1.1 G.out.1.2).mono ?_
    rintro e w1 ⟨v1, rfl, hv1, hb1⟩
    have s1 := s2_step (s2_new w) hb1
    have HB1 := hide (bt (ba (Below.refl w.heap.size w) _) hb1)
    have HV1 := hide hv1
    clear hv1 hb1
    go_wp2_with fail
    refine (int_q d _ G.out.2.1 G.out.2.2).mono ?_
    rintro e w2 ⟨v2, rfl, hv2, hb2⟩
    have s2 := s2_step s1 hb2
    have HB2 := hide (bt HB1.out hb2)
    have HV2 := hide hv2
    have HV1b := hide (HV1.out.below hb2)
    clear hv2 hb2
    go_wp2_with fail
    refine (over_is 2 _ _ r _ _ _ HV1b.out HV2.out (bq_int G.out.1) (bq_int G.out.2) half2 HD0.out hr).mono ?_
    rintro e w3 ⟨v3, rfl, hv3, hb3⟩
    have s3 := s2_step s2 hb3
    have HB3 := hide (bt HB2.out hb3)
    have HV3 := hide hv3
    clear hv3 hb3
    go_wp2_with fail
    refine (answer_q r _ _ HV3.out x y z (hide HR.out.1) (hide HR.out.2.1) (hide HR.out.2.2)).mono ?_
    rintro e w4 ⟨rfl, hb4⟩
    have s4 := s2_step s3 hb4
    have HB4 := hide (bt HB3.out hb4)
    clear hb4
    obtain ⟨c0, c1, f0, f1⟩ := s4.out
    go_wp2_with fail
    refine bodyPost_ret (v := .tuple #[.agg #[.int .i64 x, .int .i64 y], .int .i64 z]) (by simp [results, Try.results24, go_sem, c0, c1]) rfl ⟨rfl, s2_end HB4.out _ _⟩
theorem new_c (n d x y z : Int) (w : World) (h1 : In64 n) (h2 : In64 d) (hx : Hid (x = M.nN n d)) (hy : Hid (y = M.nD n d)) (hz : Hid (z = M.nE n d)) :
    Calls Try.prog 23 #[.int .i64 n, .int .i64 d] w fun e w' => e = .returned (.tuple #[.agg #[.int .i64 x, .int .i64 y], .int .i64 z]) ∧ Below w.heap.size w w' := by
  rw [hx.out, hy.out, hz.out]; exact new_any n d w h1.1 h1.2 h2.1 h2.2
set_option maxHeartbeats 1000000 in
theorem whole_is (n x y z : Int) (w : World) (hn : In64 n) (hx : Hid (x = M.nN n 1)) (hy : Hid (y = M.nD n 1)) (hz : Hid (z = M.nE n 1)) : Calls Try.prog 25 #[.int .i64 n] w fun e w' => e = .returned (.tuple #[.agg #[.int .i64 x, .int .i64 y], .int .i64 z]) ∧ Below w.heap.size w w' := by
  have G := hide hn; clear hn
  go_enter Try.func25, Try.ntmps25
  go_wp2_with fail
  refine (new_c n 1 x y z _ G.out ⟨by decide, by decide⟩ hx hy hz).mono ?_
  rintro e w4 ⟨rfl, hb4⟩
  have s4 := s2_step (s2_new w) hb4
  have HB4 := hide (bt (ba (Below.refl w.heap.size w) _) hb4)
  clear hb4
  obtain ⟨c0, c1, f0, f1⟩ := s4.out
  go_wp2_with fail
  refine bodyPost_ret (v := .tuple #[.agg #[.int .i64 x, .int .i64 y], .int .i64 z]) (by simp [results, Try.results25, go_sem, c0, c1]) rfl ⟨rfl, s2_end HB4.out _ _⟩
/-- a fraction that lies in memory -/
def Fx (w : World) (s : Nat) (x y : Int) : Prop := w.cell? ⟨s, 0, none⟩ = some (.int .i64 x) ∧ w.cell? ⟨s, 1, none⟩ = some (.int .i64 y) ∧ s < w.heap.size
theorem fx_step {w w' : World} {s : Nat} {x y : Int} (h : Hid (Fx w s x y)) (hb : Below w.heap.size w w') : Hid (Fx w' s x y) :=
  hide ⟨kc hb h.out.1, kc hb h.out.2.1, Nat.lt_of_lt_of_le h.out.2.2 hb.size⟩
theorem fx_new (w : World) (x y : Int) : Hid (Fx (w.alloc (.cells #[.int .i64 x, .int .i64 y] 23)) w.heap.size x y) := hide ⟨by simp [go_sem], by simp [go_sem], by simp⟩
set_option maxRecDepth 20000 in
set_option maxHeartbeats 2000000 in
theorem law_new (n d : Int) (w : World) (hn : In64 n) (hd : In64 d) : Calls Try.prog 4 #[.int .i64 n, .int .i64 d] w fun e w' => e = .returned (.bool true) ∧ Below w.heap.size w w' := by
  have G := hide (And.intro hn hd); clear hn hd
  have I1 : In64 1 := ⟨by decide, by decide⟩
  have HI1 := hide I1; clear I1
  obtain ⟨x, hx⟩ : ∃ x, Hid (x = M.nN n d) := ⟨_, rfl⟩
  obtain ⟨y, hy⟩ : ∃ x, Hid (x = M.nD n d) := ⟨_, rfl⟩
  obtain ⟨z, hz⟩ : ∃ x, Hid (x = M.nE n d) := ⟨_, rfl⟩
  obtain ⟨x', hx'⟩ : ∃ x, Hid (x = M.nN n 1) := ⟨_, rfl⟩
  obtain ⟨y', hy'⟩ : ∃ x, Hid (x = M.nD n 1) := ⟨_, rfl⟩
  obtain ⟨z', hz'⟩ : ∃ x, Hid (x = M.nE n 1) := ⟨_, rfl⟩
  go_enter Try.func4, Try.ntmps4
  go_wp2_with fail
  refine (new_c n d x y z _ G.out.1 G.out.2 hx hy hz).mono ?_
  rintro e w1 ⟨rfl, hb1⟩
  have HB1 := hide (ba hb1 (Obj.cells #[.int .i64 x, .int .i64 y] 23))
  have A1 := fx_new w1 x y
  clear hb1
  go_wp2_with fail
  refine (rnew_is n d x y z _ G.out.1 G.out.2 hx hy hz).mono ?_
  rintro e w2 ⟨rfl, hb2⟩
  have HB2 := hide (ba (bt HB1.out hb2) (Obj.cells #[.int .i64 x, .int .i64 y] 23))
  have A2 := fx_step (fx_step A1 hb2) (ba (Below.refl _ _) (Obj.cells #[.int .i64 x, .int .i64 y] 23))
  have B2 := fx_new w2 x y
  clear hb2
  go_wp2_with fail
  refine (whole_is n x' y' z' _ G.out.1 hx' hy' hz').mono ?_
  rintro e w3 ⟨rfl, hb3⟩
  have HB3 := hide (ba (bt HB2.out hb3) (Obj.cells #[.int .i64 x', .int .i64 y'] 23))
  have A3 := fx_step (fx_step A2 hb3) (ba (Below.refl _ _) (Obj.cells #[.int .i64 x', .int .i64 y'] 23))
  have B3 := fx_step (fx_step B2 hb3) (ba (Below.refl _ _) (Obj.cells #[.int .i64 x', .int .i64 y'] 23))
  have C3 := fx_new w3 x' y'
  clear hb3
  go_wp2_with fail
  refine (rnew_is n 1 x' y' z' _ G.out.1 HI1.out hx' hy' hz').mono ?_
  rintro e w4 ⟨rfl, hb4⟩
  have HB4 := hide (bt HB3.out hb4)
  have A4 := fx_step A3 hb4
  have B4 := fx_step B3 hb4
  have C4 := fx_step C3 hb4
  clear hb4
  obtain ⟨a1, a2, a3⟩ := A4.out
  obtain ⟨b1, b2, b3⟩ := B4.out
  obtain ⟨c1, c2, c3⟩ := C4.out
  go_wp2_with fail
  refine (awake_any _).mono ?_
  rintro e w5 ⟨rfl, hb5⟩
  have HB5 := hide (bt (ba HB4.out _) hb5)
  clear hb5
  go_wp2_with fail
  go_ret
  exact ⟨rfl, HB5.out⟩
end Go.Proofs.Ytpgnbjlpkpmpcaa.R
