import Derived.Test.YtpgnbjlpkpmpcaaZi
namespace Go.Proofs.Ytpgnbjlpkpmpcaa.R
open Go.RowKit Go.Proofs.Ytpgnbjlpkpmpcaa.N
set_option maxRecDepth 20000 in
set_option maxHeartbeats 2000000 in
theorem radd_noa (n d m q : Int) (w : World) (hv1 : Hid (M.okB n d = false)) : Calls Try.prog 29 #[.agg #[.int .i64 n, .int .i64 d], .agg #[.int .i64 m, .int .i64 q]] w fun e w' => e = .returned (.tuple #[.agg #[.int .i64 0, .int .i64 0], .int .i64 2]) ∧ Below w.heap.size w w' := by
  go_enter Try.func29, Try.ntmps29
  go_wp2_with fail
  refine (rvalid_is n d _ _ hv1).mono ?_
  rintro e w1 ⟨rfl, hb1⟩
  have hk := k2_step (k2_new w n d m q) hb1; clear hb1
  obtain ⟨_, ⟨q0, q1, f0, f1⟩, _⟩ := hk.out
  go_wp2_with fail
  refine bodyPost_ret (v := .tuple #[.agg #[.int .i64 0, .int .i64 0], .int .i64 2]) (by simp [results, Try.results29, go_sem, *]) rfl ⟨rfl, ?_⟩
  exact k2_end hk _ _
set_option maxRecDepth 20000 in
set_option maxHeartbeats 2000000 in
theorem radd_nob (n d m q : Int) (w : World) (hv1 : Hid (M.okB n d = true)) (hv2 : Hid (M.okB m q = false)) : Calls Try.prog 29 #[.agg #[.int .i64 n, .int .i64 d], .agg #[.int .i64 m, .int .i64 q]] w fun e w' => e = .returned (.tuple #[.agg #[.int .i64 0, .int .i64 0], .int .i64 2]) ∧ Below w.heap.size w w' := by
  go_enter Try.func29, Try.ntmps29
  go_wp2_with fail
  refine (rvalid_is n d _ _ hv1).mono ?_
  rintro e w1 ⟨rfl, hb1⟩
  have hk := k2_step (k2_new w n d m q) hb1; clear hb1
  obtain ⟨⟨c1, c2, c3, c4⟩, _, _⟩ := hk.out
  go_wp2_with fail
  refine (rvalid_is m q _ _ hv2).mono ?_
  rintro e w2 ⟨rfl, hb2⟩
  have hk := k2_step hk hb2; clear hb2 c1 c2 c3 c4
  obtain ⟨_, ⟨q0, q1, f0, f1⟩, _⟩ := hk.out
  go_wp2_with fail
  refine bodyPost_ret (v := .tuple #[.agg #[.int .i64 0, .int .i64 0], .int .i64 2]) (by simp [results, Try.results29, go_sem, *]) rfl ⟨rfl, ?_⟩
  exact k2_end hk _ _
set_option maxRecDepth 20000 in
set_option maxHeartbeats 2000000 in
theorem radd_yes (n d m q x y z : Int) (r : Rat) (w : World) (hv1 : Hid (M.okB n d = true)) (hv2 : Hid (M.okB m q = true)) (hr : Hid (r = Rat.divInt n d + Rat.divInt m q)) (hx : Hid (x = M.aN r)) (hy : Hid (y = M.aD r)) (hz : Hid (z = M.aE r)) : Calls Try.prog 29 #[.agg #[.int .i64 n, .int .i64 d], .agg #[.int .i64 m, .int .i64 q]] w fun e w' => e = .returned (.tuple #[.agg #[.int .i64 x, .int .i64 y], .int .i64 z]) ∧ Below w.heap.size w w' := by
  obtain ⟨s, hs⟩ : ∃ s, Hid (s = Rat.divInt n d) := ⟨_, rfl⟩
  obtain ⟨t, ht⟩ : ∃ t, Hid (t = Rat.divInt m q) := ⟨_, rfl⟩
  have bss : Hid (Bq 2 s) := by rw [hs.out]; exact hide (bq_frac hv1.out)
  have bt' : Hid (Bq 2 t) := by rw [ht.out]; exact hide (bq_frac hv2.out)
  have hr' : Hid (r = s + t) := by rw [hs.out, ht.out]; exact hr
  go_enter Try.func29, Try.ntmps29
  go_wp2_with fail
  refine (rvalid_is n d _ _ hv1).mono ?_
  rintro e w1 ⟨rfl, hb1⟩
  have hk := k2_step (k2_new w n d m q) hb1; clear hb1
  obtain ⟨⟨c1, c2, c3, c4⟩, _, _⟩ := hk.out
  go_wp2_with fail
  refine (rvalid_is m q _ _ hv2).mono ?_
  rintro e w2 ⟨rfl, hb2⟩
  have hk := k2_step hk hb2; clear hb2 c1 c2 c3 c4
  have hkr : Hid (KR w (w.heap.size + 1 + 1) w2) := kr_k2 hk
  obtain ⟨⟨e1, e2, e3, e4⟩, _, _⟩ := hk.out
  clear hk
  go_wp2_with fail
  go_region_held3 (fun w' => w'.cell? ⟨w.heap.size, 0, none⟩ = some (.int .i64 n) ∧ w'.cell? ⟨w.heap.size, 1, none⟩ = some (.int .i64 d) ∧ w'.cell? ⟨w.heap.size + 1, 0, none⟩ = some (.int .i64 m) ∧ w'.cell? ⟨w.heap.size + 1, 1, none⟩ = some (.int .i64 q) ∧ Hid (KR w (w.heap.size + 1 + 1) w'))
    ((go_split_ands; (first | dsimp only | skip); refine ⟨?_, ?_, ?_, ?_, ?_⟩ <;> first | with_reducible assumption | (simp only [World.cell?_drew]; with_reducible assumption) | (with_reducible exact kc hbw ‹_›) | (with_reducible exact kr_drew ‹_›) | (with_reducible exact kr_step ‹_› hbw) | (with_reducible exact kr_set ‹_› _ _) | (go_simp; done)))
    (first | (go_at_call_of 45 n; refine (ofr_q n d _ hv1.out s hs).mono ?_; rintro e w' ⟨vs, rfl, hvs, hbw⟩) | (go_at_call_of 45 m; refine (ofr_q m q _ hv2.out t ht).mono ?_; rintro e w' ⟨vt, rfl, hvt, hbw⟩; have hvs := hvs.below hbw) | (go_at_call 51; refine (plus_is s t r _ _ _ hvs hvt bss bt' hr').mono ?_; rintro e w' ⟨vr, rfl, hvr, hbw⟩) | (go_at_call 76; go_split_ands; refine (answer_q r _ _ hvr x y z hx hy hz).mono ?_; rintro e w' ⟨rfl, hbw⟩; have hkr := kr_step ‹_› hbw; obtain ⟨⟨⟨u0, g0⟩, ⟨u1, g1⟩⟩, ⟨g2, g3⟩, _⟩ := hkr.out))
  go_wp2_with fail
  refine bodyPost_ret (v := .tuple #[.agg #[.int .i64 x, .int .i64 y], .int .i64 z]) (by simp [results, Try.results29, go_sem, g0, g1]) rfl ⟨rfl, ?_⟩
  exact bs (bs (kr_b hkr) (by simp only []; omega) _) (by simp only []; omega) _
set_option maxRecDepth 20000 in
set_option maxHeartbeats 2000000 in
theorem rsub_noa (n d m q : Int) (w : World) (hv1 : Hid (M.okB n d = false)) : Calls Try.prog 31 #[.agg #[.int .i64 n, .int .i64 d], .agg #[.int .i64 m, .int .i64 q]] w fun e w' => e = .returned (.tuple #[.agg #[.int .i64 0, .int .i64 0], .int .i64 2]) ∧ Below w.heap.size w w' := by
  go_enter Try.func31, Try.ntmps31
  go_wp2_with fail
  refine (rvalid_is n d _ _ hv1).mono ?_
  rintro e w1 ⟨rfl, hb1⟩
  have hk := k2_step (k2_new w n d m q) hb1; clear hb1
  obtain ⟨_, ⟨q0, q1, f0, f1⟩, _⟩ := hk.out
  go_wp2_with fail
  refine bodyPost_ret (v := .tuple #[.agg #[.int .i64 0, .int .i64 0], .int .i64 2]) (by simp [results, Try.results31, go_sem, *]) rfl ⟨rfl, ?_⟩
  exact k2_end hk _ _
set_option maxRecDepth 20000 in
set_option maxHeartbeats 2000000 in
theorem rsub_nob (n d m q : Int) (w : World) (hv1 : Hid (M.okB n d = true)) (hv2 : Hid (M.okB m q = false)) : Calls Try.prog 31 #[.agg #[.int .i64 n, .int .i64 d], .agg #[.int .i64 m, .int .i64 q]] w fun e w' => e = .returned (.tuple #[.agg #[.int .i64 0, .int .i64 0], .int .i64 2]) ∧ Below w.heap.size w w' := by
  go_enter Try.func31, Try.ntmps31
  go_wp2_with fail
  refine (rvalid_is n d _ _ hv1).mono ?_
  rintro e w1 ⟨rfl, hb1⟩
  have hk := k2_step (k2_new w n d m q) hb1; clear hb1
  obtain ⟨⟨c1, c2, c3, c4⟩, _, _⟩ := hk.out
  go_wp2_with fail
  refine (rvalid_is m q _ _ hv2).mono ?_
  rintro e w2 ⟨rfl, hb2⟩
  have hk := k2_step hk hb2; clear hb2 c1 c2 c3 c4
  obtain ⟨_, ⟨q0, q1, f0, f1⟩, _⟩ := hk.out
  go_wp2_with fail
  refine bodyPost_ret (v := .tuple #[.agg #[.int .i64 0, .int .i64 0], .int .i64 2]) (by simp [results, Try.results31, go_sem, *]) rfl ⟨rfl, ?_⟩
  exact k2_end hk _ _
set_option maxRecDepth 20000 in
set_option maxHeartbeats 2000000 in
theorem rsub_yes (n d m q x y z : Int) (r : Rat) (w : World) (hv1 : Hid (M.okB n d = true)) (hv2 : Hid (M.okB m q = true)) (hr : Hid (r = Rat.divInt n d - Rat.divInt m q)) (hx : Hid (x = M.aN r)) (hy : Hid (y = M.aD r)) (hz : Hid (z = M.aE r)) : Calls Try.prog 31 #[.agg #[.int .i64 n, .int .i64 d], .agg #[.int .i64 m, .int .i64 q]] w fun e w' => e = .returned (.tuple #[.agg #[.int .i64 x, .int .i64 y], .int .i64 z]) ∧ Below w.heap.size w w' := by
  obtain ⟨s, hs⟩ : ∃ s, Hid (s = Rat.divInt n d) := ⟨_, rfl⟩
  obtain ⟨t, ht⟩ : ∃ t, Hid (t = Rat.divInt m q) := ⟨_, rfl⟩
  have bss : Hid (Bq 2 s) := by rw [hs.out]; exact hide (bq_frac hv1.out)
  have bt' : Hid (Bq 2 t) := by rw [ht.out]; exact hide (bq_frac hv2.out)
  have hr' : Hid (r = s - t) := by rw [hs.out, ht.out]; exact hr
  go_enter Try.func31, Try.ntmps31
  go_wp2_with fail
  refine (rvalid_is n d _ _ hv1).mono ?_
  rintro e w1 ⟨rfl, hb1⟩
  have hk := k2_step (k2_new w n d m q) hb1; clear hb1
  obtain ⟨⟨c1, c2, c3, c4⟩, _, _⟩ := hk.out
  go_wp2_with fail
  refine (rvalid_is m q _ _ hv2).mono ?_
  rintro e w2 ⟨rfl, hb2⟩
  have hk := k2_step hk hb2; clear hb2 c1 c2 c3 c4
  have hkr : Hid (KR w (w.heap.size + 1 + 1) w2) := kr_k2 hk
  obtain ⟨⟨e1, e2, e3, e4⟩, _, _⟩ := hk.out
  clear hk
  go_wp2_with fail
  go_region_held3 (fun w' => w'.cell? ⟨w.heap.size, 0, none⟩ = some (.int .i64 n) ∧ w'.cell? ⟨w.heap.size, 1, none⟩ = some (.int .i64 d) ∧ w'.cell? ⟨w.heap.size + 1, 0, none⟩ = some (.int .i64 m) ∧ w'.cell? ⟨w.heap.size + 1, 1, none⟩ = some (.int .i64 q) ∧ Hid (KR w (w.heap.size + 1 + 1) w'))
    ((go_split_ands; (first | dsimp only | skip); refine ⟨?_, ?_, ?_, ?_, ?_⟩ <;> first | with_reducible assumption | (simp only [World.cell?_drew]; with_reducible assumption) | (with_reducible exact kc hbw ‹_›) | (with_reducible exact kr_drew ‹_›) | (with_reducible exact kr_step ‹_› hbw) | (with_reducible exact kr_set ‹_› _ _) | (go_simp; done)))
    (first | (go_at_call_of 45 n; refine (ofr_q n d _ hv1.out s hs).mono ?_; rintro e w' ⟨vs, rfl, hvs, hbw⟩) | (go_at_call_of 45 m; refine (ofr_q m q _ hv2.out t ht).mono ?_; rintro e w' ⟨vt, rfl, hvt, hbw⟩; have hvs := hvs.below hbw) | (go_at_call 44; refine (less_is s t r _ _ _ hvs hvt bss bt' hr').mono ?_; rintro e w' ⟨vr, rfl, hvr, hbw⟩) | (go_at_call 76; go_split_ands; refine (answer_q r _ _ hvr x y z hx hy hz).mono ?_; rintro e w' ⟨rfl, hbw⟩; have hkr := kr_step ‹_› hbw; obtain ⟨⟨⟨u0, g0⟩, ⟨u1, g1⟩⟩, ⟨g2, g3⟩, _⟩ := hkr.out))
  go_wp2_with fail
  refine bodyPost_ret (v := .tuple #[.agg #[.int .i64 x, .int .i64 y], .int .i64 z]) (by simp [results, Try.results31, go_sem, g0, g1]) rfl ⟨rfl, ?_⟩
  exact bs (bs (kr_b hkr) (by simp only []; omega) _) (by simp only []; omega) _
end Go.Proofs.Ytpgnbjlpkpmpcaa.R
