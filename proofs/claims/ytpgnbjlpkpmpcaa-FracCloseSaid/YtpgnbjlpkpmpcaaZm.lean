import Derived.Test.YtpgnbjlpkpmpcaaZi
namespace Go.Proofs.Ytpgnbjlpkpmpcaa.R
open Go.RowKit Go.Proofs.Ytpgnbjlpkpmpcaa.N
set_option maxRecDepth 20000 in
set_option maxHeartbeats 2000000 in
theorem rcmp_noa (n d m q : Int) (w : World) (hv1 : Hid (M.okB n d = false)) : Calls Try.prog 27 #[.agg #[.int .i64 n, .int .i64 d], .agg #[.int .i64 m, .int .i64 q]] w fun e w' => e = .returned (.tuple #[.int .i64 0, .int .i64 2]) ∧ Below w.heap.size w w' := by
  go_enter Try.func27, Try.ntmps27
  go_wp2_with fail
  refine (rvalid_is n d _ _ hv1).mono ?_
  rintro e w1 ⟨rfl, hb1⟩
  have hk := l2_step (l2_start (w := w) (n := n) (d := d) (m := m) (q := q)) hb1; clear hb1
  go_wp2_with fail
  go_ret2
  exact ⟨rfl, hk.out.2.2⟩
set_option maxRecDepth 20000 in
set_option maxHeartbeats 2000000 in
theorem rcmp_nob (n d m q : Int) (w : World) (hv1 : Hid (M.okB n d = true)) (hv2 : Hid (M.okB m q = false)) : Calls Try.prog 27 #[.agg #[.int .i64 n, .int .i64 d], .agg #[.int .i64 m, .int .i64 q]] w fun e w' => e = .returned (.tuple #[.int .i64 0, .int .i64 2]) ∧ Below w.heap.size w w' := by
  go_enter Try.func27, Try.ntmps27
  go_wp2_with fail
  refine (rvalid_is n d _ _ hv1).mono ?_
  rintro e w1 ⟨rfl, hb1⟩
  have hk := l2_step (l2_start (w := w) (n := n) (d := d) (m := m) (q := q)) hb1; clear hb1
  obtain ⟨⟨c1, c2, c3, c4⟩, _, _⟩ := hk.out
  go_wp2_with fail
  refine (rvalid_is m q _ _ hv2).mono ?_
  rintro e w2 ⟨rfl, hb2⟩
  have hk := l2_step hk hb2; clear hb2 c1 c2 c3 c4
  go_wp2_with fail
  go_ret2
  exact ⟨rfl, hk.out.2.2⟩
set_option maxRecDepth 20000 in
set_option maxHeartbeats 2000000 in
theorem order_is (p q : Rat) (vp vq : Value) (w : World) (hp : RQ w vp p) (hq : RQ w vq q) (bp : Hid (Bq 2 p)) (bq : Hid (Bq 2 q)) (s : Int) (hs : Hid (s = Int.sign (p - q).num)) : Calls Try.prog 50 #[vp, vq] w fun e w' => e = .returned (.int .i64 s) ∧ Below w.heap.size w w' :=
  order_q 2 p q vp vq w hp hq bp.out bq.out half2 s hs
theorem sign_sub {n d m q : Int} (h1 : M.okB n d = true) (h2 : M.okB m q = true) : Int.sign (n * q - m * d) = Int.sign (Rat.divInt n d - Rat.divInt m q).num := by
  have p1 := M.okB_pos h1
  have p2 := M.okB_pos h2
  rw [← M.sub_is p1 p2]
  have h := M.divInt_num_sign (u := n * q + -m * d) (Int.mul_pos p1 p2)
  have e : n * q - m * d = n * q + -m * d := by rw [Int.neg_mul]; omega
  rw [e]
  generalize n * q + -m * d = u at *
  rcases Int.lt_trichotomy u 0 with hu | hu | hu
  · rw [Int.sign_eq_neg_one_of_neg hu, Int.sign_eq_neg_one_of_neg (h.1.2 hu)]
  · have : (Rat.divInt u (d * q)).num = 0 := by omega
    rw [this, hu]
  · rw [Int.sign_eq_one_of_pos hu, Int.sign_eq_one_of_pos (h.2.2 hu)]
theorem l2_drew {w0 w : World} {n d m q : Int} (h : Hid (L2 w0 w n d m q)) : Hid (L2 w0 w.drew n d m q) := by
  obtain ⟨a, b, c⟩ := h.out
  exact hide ⟨a, b, c.drew⟩
set_option maxRecDepth 20000 in
set_option maxHeartbeats 2000000 in
theorem rcmp_yes (n d m q z : Int) (w : World) (hv1 : Hid (M.okB n d = true)) (hv2 : Hid (M.okB m q = true)) (hz : Hid (z = Int.sign (n * q - m * d))) : Calls Try.prog 27 #[.agg #[.int .i64 n, .int .i64 d], .agg #[.int .i64 m, .int .i64 q]] w fun e w' => e = .returned (.tuple #[.int .i64 z, .int .i64 0]) ∧ Below w.heap.size w w' := by
  obtain ⟨s, hs⟩ : ∃ s, Hid (s = Rat.divInt n d) := ⟨_, rfl⟩
  obtain ⟨t, ht⟩ : ∃ t, Hid (t = Rat.divInt m q) := ⟨_, rfl⟩
  have bss : Hid (Bq 2 s) := by rw [hs.out]; exact hide (bq_frac hv1.out)
  have bt' : Hid (Bq 2 t) := by rw [ht.out]; exact hide (bq_frac hv2.out)
  have hz' : Hid (z = Int.sign (s - t).num) := by rw [hs.out, ht.out, hz.out]; exact hide (sign_sub hv1.out hv2.out)
  go_enter Try.func27, Try.ntmps27
  go_wp2_with fail
  refine (rvalid_is n d _ _ hv1).mono ?_
  rintro e w1 ⟨rfl, hb1⟩
  have hk := l2_step (l2_start (w := w) (n := n) (d := d) (m := m) (q := q)) hb1; clear hb1
  obtain ⟨⟨c1, c2, c3, c4⟩, _, _⟩ := hk.out
  go_wp2_with fail
  refine (rvalid_is m q _ _ hv2).mono ?_
  rintro e w2 ⟨rfl, hb2⟩
  have hk := l2_step hk hb2; clear hb2 c1 c2 c3 c4
  obtain ⟨⟨e1, e2, e3, e4⟩, _, _⟩ := hk.out
  go_wp2_with fail
  go_region_held3 (fun w' => w'.cell? ⟨w.heap.size, 0, none⟩ = some (.int .i64 n) ∧ w'.cell? ⟨w.heap.size, 1, none⟩ = some (.int .i64 d) ∧ w'.cell? ⟨w.heap.size + 1, 0, none⟩ = some (.int .i64 m) ∧ w'.cell? ⟨w.heap.size + 1, 1, none⟩ = some (.int .i64 q) ∧ Hid (L2 w w' n d m q))
    ((go_split_ands; (first | dsimp only | skip); refine ⟨?_, ?_, ?_, ?_, ?_⟩ <;> first | with_reducible assumption | (simp only [World.cell?_drew]; with_reducible assumption) | (with_reducible exact kc hbw ‹_›) | (with_reducible exact l2_drew ‹_›) | (with_reducible exact l2_step ‹_› hbw)))
    (first | (go_at_call_of 45 n; refine (ofr_q n d _ hv1.out s hs).mono ?_; rintro e w' ⟨vs, rfl, hvs, hbw⟩) | (go_at_call_of 45 m; refine (ofr_q m q _ hv2.out t ht).mono ?_; rintro e w' ⟨vt, rfl, hvt, hbw⟩; have hvs := hvs.below hbw) | (go_at_call 50; refine (order_is s t _ _ _ hvs hvt bss bt' z hz').mono ?_; rintro e w' ⟨rfl, hbw⟩))
  go_wp2_with fail
  go_ret2
  go_split_ands
  exact ⟨rfl, (Hid.out (p := L2 _ _ _ _ _ _) ‹_›).2.2⟩
theorem k1_new (w : World) (n d : Int) : Hid (K1 w ((w.alloc (.cells #[.int .i64 n, .int .i64 d] 23)).alloc (.cells #[.int .i64 0, .int .i64 0] 23)) n d) :=
  hide ⟨⟨by simp [go_sem], by simp [go_sem]⟩, ⟨by simp [go_sem], by simp [go_sem], by simp [go_sem], by simp [go_sem]⟩, ba (ba (Below.refl _ _) _) _⟩
set_option maxRecDepth 20000 in
set_option maxHeartbeats 2000000 in
theorem rneg_no (n d : Int) (w : World) (hv : Hid (M.okB n d = false)) : Calls Try.prog 37 #[.agg #[.int .i64 n, .int .i64 d]] w fun e w' => e = .returned (.tuple #[.agg #[.int .i64 0, .int .i64 0], .int .i64 2]) ∧ Below w.heap.size w w' := by
  go_enter Try.func37, Try.ntmps37
  go_wp2_with fail
  refine (rvalid_is n d _ _ hv).mono ?_
  rintro e w1 ⟨rfl, hb1⟩
  have hk := k1_step (k1_new w n d) hb1; clear hb1
  obtain ⟨⟨c1, c2⟩, ⟨q0, q1, f0, f1⟩, _⟩ := hk.out
  go_wp2_with fail
  refine bodyPost_ret (v := .tuple #[.agg #[.int .i64 0, .int .i64 0], .int .i64 2]) (by simp [results, Try.results37, go_sem, *]) rfl ⟨rfl, ?_⟩
  exact k1_end hk _ _
set_option maxRecDepth 20000 in
set_option maxHeartbeats 2000000 in
theorem rneg_yes (n d z : Int) (w : World) (hv : Hid (M.okB n d = true)) (hz : Hid (z = -n)) : Calls Try.prog 37 #[.agg #[.int .i64 n, .int .i64 d]] w fun e w' => e = .returned (.tuple #[.agg #[.int .i64 z, .int .i64 d], .int .i64 0]) ∧ Below w.heap.size w w' := by
  obtain ⟨a1, a2, a3, a4⟩ := okB_in hv.out
  go_enter Try.func37, Try.ntmps37
  go_wp2_with fail
  refine (rvalid_is n d _ _ hv).mono ?_
  rintro e w1 ⟨rfl, hb1⟩
  have hk := k1_step (k1_new w n d) hb1; clear hb1
  obtain ⟨⟨c1, c2⟩, ⟨q0, q1, f0, f1⟩, _⟩ := hk.out
  have hz2 : -n = z := hz.out.symm
  go_wp2_with fail
  refine bodyPost_ret (v := .tuple #[.agg #[.int .i64 z, .int .i64 d], .int .i64 0]) (by simp [results, Try.results37, go_sem, *]) rfl ⟨rfl, ?_⟩
  exact k1_end hk _ _
set_option maxRecDepth 20000 in
set_option maxHeartbeats 2000000 in
theorem rabs_no (n d : Int) (w : World) (hv : Hid (M.okB n d = false)) : Calls Try.prog 39 #[.agg #[.int .i64 n, .int .i64 d]] w fun e w' => e = .returned (.tuple #[.agg #[.int .i64 0, .int .i64 0], .int .i64 2]) ∧ Below w.heap.size w w' := by
  go_enter Try.func39, Try.ntmps39
  go_wp2_with fail
  refine (rvalid_is n d _ _ hv).mono ?_
  rintro e w1 ⟨rfl, hb1⟩
  have hk := k1_step (k1_new w n d) hb1; clear hb1
  obtain ⟨⟨c1, c2⟩, ⟨q0, q1, f0, f1⟩, _⟩ := hk.out
  go_wp2_with fail
  refine bodyPost_ret (v := .tuple #[.agg #[.int .i64 0, .int .i64 0], .int .i64 2]) (by simp [results, Try.results39, go_sem, *]) rfl ⟨rfl, ?_⟩
  exact k1_end hk _ _
set_option maxRecDepth 20000 in
set_option maxHeartbeats 2000000 in
theorem rabs_yes (n d z : Int) (w : World) (hv : Hid (M.okB n d = true)) (hz : Hid (z = (n.natAbs : Int))) : Calls Try.prog 39 #[.agg #[.int .i64 n, .int .i64 d]] w fun e w' => e = .returned (.tuple #[.agg #[.int .i64 z, .int .i64 d], .int .i64 0]) ∧ Below w.heap.size w w' := by
  obtain ⟨a1, a2, a3, a4⟩ := okB_in hv.out
  go_enter Try.func39, Try.ntmps39
  go_wp2_with fail
  refine (rvalid_is n d _ _ hv).mono ?_
  rintro e w1 ⟨rfl, hb1⟩
  have hk := k1_step (k1_new w n d) hb1; clear hb1
  obtain ⟨⟨c1, c2⟩, ⟨q0, q1, f0, f1⟩, _⟩ := hk.out
  have hz2 : max n (-n) = z := by rw [hz.out]; omega
  go_wp2_with fail
  refine bodyPost_ret (v := .tuple #[.agg #[.int .i64 z, .int .i64 d], .int .i64 0]) (by simp [results, Try.results39, go_sem, *]) rfl ⟨rfl, ?_⟩
  exact k1_end hk _ _
end Go.Proofs.Ytpgnbjlpkpmpcaa.R
