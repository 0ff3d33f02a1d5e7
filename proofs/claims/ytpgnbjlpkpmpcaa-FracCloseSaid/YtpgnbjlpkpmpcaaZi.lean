import Derived.Test.YtpgnbjlpkpmpcaaZh
namespace Go.Proofs.Ytpgnbjlpkpmpcaa.R
open Go.RowKit Go.Proofs.Ytpgnbjlpkpmpcaa.N
/-- the boxes and the result's variable of a function of two fractions, at its begin -/
theorem k2_new (w : World) (n d m q : Int) : Hid (K2 w (((w.alloc (.cells #[.int .i64 n, .int .i64 d] 23)).alloc (.cells #[.int .i64 m, .int .i64 q] 23)).alloc (.cells #[.int .i64 0, .int .i64 0] 23)) n d m q) :=
  hide ⟨⟨by simp [go_sem], by simp [go_sem], by simp [go_sem], by simp [go_sem]⟩, ⟨by simp [go_sem], by simp [go_sem], by simp [go_sem], by simp [go_sem]⟩, ba (ba (ba (Below.refl _ _) _) _) _⟩
/-- a fraction's variable, whatever it holds, and all that was there before -/
def KR (w0 : World) (s : Nat) (w : World) : Prop := ((∃ u, w.cell? ⟨s, 0, none⟩ = some u) ∧ (∃ u, w.cell? ⟨s, 1, none⟩ = some u)) ∧ (w.frozen? ⟨s, 0, none⟩ = false ∧ w.frozen? ⟨s, 1, none⟩ = false) ∧ w0.heap.size ≤ s ∧ Below w0.heap.size w0 w
theorem kr_k2 {w0 w : World} {n d m q : Int} (h : Hid (K2 w0 w n d m q)) : Hid (KR w0 (w0.heap.size + 1 + 1) w) := by
  obtain ⟨_, ⟨q0, q1, f0, f1⟩, b⟩ := h.out
  exact hide ⟨⟨⟨_, q0⟩, ⟨_, q1⟩⟩, ⟨f0, f1⟩, by omega, b⟩
theorem kr_step {w0 w w' : World} {s : Nat} (h : Hid (KR w0 s w)) (hb : Below w.heap.size w w') : Hid (KR w0 s w') := by
  obtain ⟨⟨⟨u0, q0⟩, ⟨u1, q1⟩⟩, ⟨f0, f1⟩, hs, b⟩ := h.out
  exact hide ⟨⟨⟨_, kc hb q0⟩, ⟨_, kc hb q1⟩⟩, ⟨kf hb q0 f0, kf hb q1 f1⟩, hs, bt b hb⟩
theorem kr_drew {w0 w : World} {s : Nat} (h : Hid (KR w0 s w)) : Hid (KR w0 s w.drew) := by
  obtain ⟨a, b, hs, c⟩ := h.out
  exact hide ⟨a, b, hs, c.drew⟩
theorem kr_b {w0 w : World} {s : Nat} (h : Hid (KR w0 s w)) : Below w0.heap.size w0 w := h.out.2.2.2
theorem cell_set_ex {w : World} {a b : Addr} {u : Value} (h : ∃ v, w.cell? b = some v) : ∃ v, (w.setCell a u).cell? b = some v := by
  obtain ⟨v, hv⟩ := h
  by_cases e : a = b
  · subst e; exact ⟨u, World.cell?_setCell_same w a u hv⟩
  · exact ⟨v, by rw [World.cell?_setCell_other (h := e)]; exact hv⟩
theorem kr_set {w0 w : World} {s : Nat} (h : Hid (KR w0 s w)) (x y : Int) : Hid (KR w0 s ((w.setCell ⟨s, 0, none⟩ (.int .i64 x)).setCell ⟨s, 1, none⟩ (.int .i64 y))) := by
  obtain ⟨⟨d0, d1⟩, ⟨f0, f1⟩, hs, hb⟩ := h.out
  exact hide ⟨⟨cell_set_ex (cell_set_ex d0), cell_set_ex (cell_set_ex d1)⟩, ⟨by rw [frozen_set, frozen_set]; exact f0, by rw [frozen_set, frozen_set]; exact f1⟩, hs, bs (bs hb hs _) hs _⟩
theorem okB_bd {n d : Int} (h : M.okB n d = true) : In64 n ∧ In64 d := by
  have := okB_in h; exact ⟨⟨by omega, by omega⟩, ⟨by omega, by omega⟩⟩
theorem bq_frac {n d : Int} (h : M.okB n d = true) : Bq 2 (Rat.divInt n d) := by
  have := okB_in h
  have h1 := M.ok_num h
  have h2 := M.ok_den h
  unfold Bq
  rw [h1, show B ^ 2 = 18446744073709551616 by decide]
  omega
theorem ofr_q (n d : Int) (w : World) (h : M.okB n d = true) (r : Rat) (hr : Hid (r = Rat.divInt n d)) : Calls Try.prog 45 #[.agg #[.int .i64 n, .int .i64 d]] w (RetQ w r) := by
  rw [hr.out]
  have := okB_in h
  exact of_q n d w (okB_bd h).1 (okB_bd h).2 (by omega)
theorem plus_is (p q r : Rat) (vp vq : Value) (w : World) (hp : RQ w vp p) (hq : RQ w vq q) (bp : Hid (Bq 2 p)) (bq : Hid (Bq 2 q)) (hr : Hid (r = p + q)) : Calls Try.prog 51 #[vp, vq] w (RetQ w r) := by
  rw [hr.out]; exact plus_q 2 p q vp vq w hp hq bp.out bq.out half2
theorem less_is (p q r : Rat) (vp vq : Value) (w : World) (hp : RQ w vp p) (hq : RQ w vq q) (bp : Hid (Bq 2 p)) (bq : Hid (Bq 2 q)) (hr : Hid (r = p - q)) : Calls Try.prog 44 #[vp, vq] w (RetQ w r) := by
  rw [hr.out]; exact less_q 2 p q vp vq w hp hq bp.out bq.out half2
theorem prod_is (p q r : Rat) (vp vq : Value) (w : World) (hp : RQ w vp p) (hq : RQ w vq q) (bp : Hid (Bq 2 p)) (bq : Hid (Bq 2 q)) (hr : Hid (r = p * q)) : Calls Try.prog 85 #[vp, vq] w (RetQ w r) := by
  rw [hr.out]; exact times_q 2 p q vp vq w hp hq bp.out bq.out half2
theorem quot_is (p q r : Rat) (vp vq : Value) (w : World) (hp : RQ w vp p) (hq : RQ w vq q) (bp : Hid (Bq 2 p)) (bq : Hid (Bq 2 q)) (h0 : Hid (q ≠ 0)) (hr : Hid (r = p / q)) : Calls Try.prog 49 #[vp, vq] w (RetQ w r) := by
  rw [hr.out]; exact over_q 2 p q vp vq w hp hq bp.out bq.out half2 h0.out
set_option maxRecDepth 20000 in
set_option maxHeartbeats 2000000 in
theorem rmed_noa (n d m q : Int) (w : World) (hv1 : Hid (M.okB n d = false)) : Calls Try.prog 66 #[.agg #[.int .i64 n, .int .i64 d], .agg #[.int .i64 m, .int .i64 q]] w fun e w' => e = .returned (.tuple #[.agg #[.int .i64 0, .int .i64 0], .int .i64 2]) ∧ Below w.heap.size w w' := by
  go_enter Try.func66, Try.ntmps66
  go_wp2_with fail
  refine (rvalid_is n d _ _ hv1).mono ?_
  rintro e w1 ⟨rfl, hb1⟩
  have hk := k2_step (k2_new w n d m q) hb1; clear hb1
  obtain ⟨_, ⟨q0, q1, f0, f1⟩, _⟩ := hk.out
  go_wp2_with fail
  refine bodyPost_ret (v := .tuple #[.agg #[.int .i64 0, .int .i64 0], .int .i64 2]) (by simp [results, Try.results66, go_sem, *]) rfl ⟨rfl, ?_⟩
  exact k2_end hk _ _
set_option maxRecDepth 20000 in
set_option maxHeartbeats 2000000 in
theorem rmed_nob (n d m q : Int) (w : World) (hv1 : Hid (M.okB n d = true)) (hv2 : Hid (M.okB m q = false)) : Calls Try.prog 66 #[.agg #[.int .i64 n, .int .i64 d], .agg #[.int .i64 m, .int .i64 q]] w fun e w' => e = .returned (.tuple #[.agg #[.int .i64 0, .int .i64 0], .int .i64 2]) ∧ Below w.heap.size w w' := by
  go_enter Try.func66, Try.ntmps66
  go_wp2_with fail
  refine (rvalid_is n d _ _ hv1).mono ?_
  rintro e w1 ⟨rfl, hb1⟩
  have hk := k2_step (k2_new w n d m q) hb1; clear hb1
  obtain ⟨⟨c1, c2, c3, c4⟩, _, _⟩ := hk.out
  go_wp2_with fail
  refine (rvalid_is m q _ _ hv2).mono ?_
  rintro e w2 ⟨rfl, hb2⟩
  have hk := k2_step hk hb2; clear hb2 c1 c2 c3 c4
  obtain ⟨_, ⟨q0, q1, f0, f1⟩, _⟩ := hk.out
  go_wp2_with fail
  refine bodyPost_ret (v := .tuple #[.agg #[.int .i64 0, .int .i64 0], .int .i64 2]) (by simp [results, Try.results66, go_sem, *]) rfl ⟨rfl, ?_⟩
  exact k2_end hk _ _
set_option maxRecDepth 20000 in
set_option maxHeartbeats 2000000 in
theorem rmed_yes (n d m q x y z : Int) (w : World) (hv1 : Hid (M.okB n d = true)) (hv2 : Hid (M.okB m q = true)) (hx : Hid (x = M.nN (n + m) (d + q))) (hy : Hid (y = M.nD (n + m) (d + q))) (hz : Hid (z = M.nE (n + m) (d + q))) : Calls Try.prog 66 #[.agg #[.int .i64 n, .int .i64 d], .agg #[.int .i64 m, .int .i64 q]] w fun e w' => e = .returned (.tuple #[.agg #[.int .i64 x, .int .i64 y], .int .i64 z]) ∧ Below w.heap.size w w' := by
  go_enter Try.func66, Try.ntmps66
  go_wp2_with fail
  refine (rvalid_is n d _ _ hv1).mono ?_
  rintro e w1 ⟨rfl, hb1⟩
  have hk := k2_step (k2_new w n d m q) hb1; clear hb1
  obtain ⟨⟨c1, c2, c3, c4⟩, _, _⟩ := hk.out
  go_wp2_with fail
  refine (rvalid_is m q _ _ hv2).mono ?_
  rintro e w2 ⟨rfl, hb2⟩
  have hk := k2_step hk hb2; clear hb2 c1 c2 c3 c4
  obtain ⟨⟨_, _, _, _⟩, ⟨q0, q1, f0, f1⟩, _⟩ := hk.out
  obtain ⟨a1, a2, a3, a4⟩ := okB_in hv1.out
  obtain ⟨b1, b2, b3, b4⟩ := okB_in hv2.out
  go_wp2_with fail
  refine (rnew_is (n + m) (d + q) x y z _ ⟨by omega, by omega⟩ ⟨by omega, by omega⟩ hx hy hz).mono ?_
  rintro e w3 ⟨rfl, hb⟩
  have hk2 := k2_step hk hb; clear hb
  obtain ⟨⟨_, _, _, _⟩, ⟨_, _, _, _⟩, _⟩ := hk2.out
  go_wp2_with fail
  refine bodyPost_ret (v := .tuple #[.agg #[.int .i64 x, .int .i64 y], .int .i64 z]) (by simp [results, Try.results66, go_sem, *]) rfl ⟨rfl, ?_⟩
  exact k2_end hk2 _ _
end Go.Proofs.Ytpgnbjlpkpmpcaa.R
