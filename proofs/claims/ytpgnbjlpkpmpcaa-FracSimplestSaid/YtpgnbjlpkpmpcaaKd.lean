import Derived.Test.YtpgnbjlpkpmpcaaKc
set_option linter.unusedVariables false
namespace Go.Proofs.Ytpgnbjlpkpmpcaa.R
open Go.RowKit Go.Proofs.Ytpgnbjlpkpmpcaa.N
theorem lst_unique {n d m q x y x' y' : Int} (h : Lst n d m q x y) (h' : Lst n d m q x' y') : x' = x ∧ y' = y := by
  obtain ⟨⟨o, a1, a2⟩, hm⟩ := h
  obtain ⟨⟨o', b1, b2⟩, hm'⟩ := h'
  have y0 := M.okB_pos o
  have y0' := M.okB_pos o'
  have k1 := hm x' y' (by omega) b1 b2
  have k2 := hm' x y (by omega) a1 a2
  omega
set_option maxRecDepth 20000 in
set_option maxHeartbeats 4000000 in
theorem rleast_bada (n d m q : Int) (w : World) (hv1 : Hid (M.okB n d = false)) :
    Calls Try.prog 64 #[.agg #[.int .i64 n, .int .i64 d], .agg #[.int .i64 m, .int .i64 q]] w fun e w' => e = .returned (.tuple #[.agg #[.int .i64 0, .int .i64 0], .int .i64 2]) ∧ Below w.heap.size w w' := by
  obtain ⟨W, hW⟩ : ∃ W, W = ((w.alloc (.cells #[.int .i64 n, .int .i64 d] 23)).alloc (.cells #[.int .i64 m, .int .i64 q] 23)).alloc (.cells #[.int .i64 0, .int .i64 0] 23) := ⟨_, rfl⟩
  have hk0 := k2_new' w n d m q
  go_enter Try.func64, Try.ntmps64
  go_wp2_with fail
  rw [← hW] at hk0 ⊢
  clear hW
  obtain ⟨⟨r1, r2, r3, r4⟩, _, _⟩ := hk0.out
  have hkd := k2_drew hk0
  go_region_with (go_at_call 21; (with_reducible refine (rvalid_is n d false _ hv1).mono ?_); rintro en w' ⟨rfl, hbw⟩; have hk9 := k2_step hkd hbw)
  all_goals
    clear hk0 hkd r1 r2 r3 r4
    obtain ⟨_, ⟨q0, q1, f0, f1⟩, _⟩ := hk9.out
    go_wp2_with fail
    refine bodyPost_ret (v := .tuple #[.agg #[.int .i64 0, .int .i64 0], .int .i64 2]) (by simp [results, Try.results64, go_sem, q0, q1]) rfl ⟨rfl, ?_⟩
    exact k2_end hk9 _ _
set_option maxRecDepth 20000 in
set_option maxHeartbeats 4000000 in
theorem rleast_badb (n d m q : Int) (w : World) (hv1 : Hid (M.okB n d = true)) (hv2 : Hid (M.okB m q = false)) :
    Calls Try.prog 64 #[.agg #[.int .i64 n, .int .i64 d], .agg #[.int .i64 m, .int .i64 q]] w fun e w' => e = .returned (.tuple #[.agg #[.int .i64 0, .int .i64 0], .int .i64 2]) ∧ Below w.heap.size w w' := by
  obtain ⟨W, hW⟩ : ∃ W, W = ((w.alloc (.cells #[.int .i64 n, .int .i64 d] 23)).alloc (.cells #[.int .i64 m, .int .i64 q] 23)).alloc (.cells #[.int .i64 0, .int .i64 0] 23) := ⟨_, rfl⟩
  have hk0 := k2_new' w n d m q
  go_enter Try.func64, Try.ntmps64
  go_wp2_with fail
  rw [← hW] at hk0 ⊢
  clear hW
  obtain ⟨⟨r1, r2, r3, r4⟩, _, _⟩ := hk0.out
  have hkd := k2_drew hk0
  go_region_with (first
    | (go_at_call 21; (with_reducible refine (rvalid_is n d true _ hv1).mono ?_); rintro en w' ⟨rfl, hbw⟩; have hk8 := k2_step hkd hbw; obtain ⟨⟨r1', r2', r3', r4'⟩, _, _⟩ := hk8.out)
    | (go_at_call 21; (with_reducible refine (rvalid_is m q false _ hv2).mono ?_); rintro en w' ⟨rfl, hbw⟩; have hk9 := k2_step hk8 hbw))
  all_goals
    clear hk0 hkd r1 r2 r3 r4
    obtain ⟨_, ⟨q0, q1, f0, f1⟩, _⟩ := hk9.out
    go_wp2_with fail
    refine bodyPost_ret (v := .tuple #[.agg #[.int .i64 0, .int .i64 0], .int .i64 2]) (by simp [results, Try.results64, go_sem, q0, q1]) rfl ⟨rfl, ?_⟩
    exact k2_end hk9 _ _
set_option maxRecDepth 20000 in
set_option maxHeartbeats 8000000 in
theorem rleast_order (n d m q : Int) (w : World) (h1 : M.okB n d = true) (h2 : M.okB m q = true) (h : m * d < n * q) :
    Calls Try.prog 64 #[.agg #[.int .i64 n, .int .i64 d], .agg #[.int .i64 m, .int .i64 q]] w fun e w' => e = .returned (.tuple #[.agg #[.int .i64 0, .int .i64 0], .int .i64 2]) ∧ Below w.heap.size w w' := by
  have hv1 := hide h1
  have hv2 := hide h2
  obtain ⟨a, ha⟩ : ∃ a, Hid (a = Rat.divInt n d) := ⟨_, rfl⟩
  obtain ⟨b, hb⟩ : ∃ b, Hid (b = Rat.divInt m q) := ⟨_, rfl⟩
  have hba : Hid (Bq 2 a) := hide (by rw [ha.out]; exact bq_frac h1)
  have hbb : Hid (Bq 2 b) := hide (by rw [hb.out]; exact bq_frac h2)
  have hsg : Hid ((1 : Int) = Int.sign (a - b).num) := hide (by rw [ha.out, hb.out, ← sign_sub h1 h2]; exact (Int.sign_eq_one_of_pos (by omega)).symm)
  clear h
  obtain ⟨W, hW⟩ : ∃ W, W = ((w.alloc (.cells #[.int .i64 n, .int .i64 d] 23)).alloc (.cells #[.int .i64 m, .int .i64 q] 23)).alloc (.cells #[.int .i64 0, .int .i64 0] 23) := ⟨_, rfl⟩
  have hk0 := k2_new' w n d m q
  go_enter Try.func64, Try.ntmps64
  go_wp2_with fail
  rw [← hW] at hk0 ⊢
  clear hW
  obtain ⟨⟨r1, r2, r3, r4⟩, _, _⟩ := hk0.out
  go_region_held3 (fun w' => w'.cell? ⟨w.heap.size, 0, none⟩ = some (.int .i64 n) ∧ w'.cell? ⟨w.heap.size, 1, none⟩ = some (.int .i64 d) ∧ w'.cell? ⟨w.heap.size + 1, 0, none⟩ = some (.int .i64 m) ∧ w'.cell? ⟨w.heap.size + 1, 1, none⟩ = some (.int .i64 q) ∧ Hid (K2 w w' n d m q))
    ((go_split_ands; (first | dsimp only | skip); refine ⟨?_, ?_, ?_, ?_, ?_⟩ <;> first | with_reducible assumption | (simp only [World.cell?_drew]; with_reducible assumption) | (with_reducible exact kc hbw ‹_›) | (with_reducible exact k2_drew ‹_›) | (with_reducible exact k2_step ‹_› hbw) | (go_simp; done)))
    (first
      | (go_at_call 21; (with_reducible refine (rvalid_is n d true _ hv1).mono ?_); rintro en w' ⟨rfl, hbw⟩)
      | (go_at_call 21; (with_reducible refine (rvalid_is m q true _ hv2).mono ?_); rintro en w' ⟨rfl, hbw⟩)
      | (go_at_call 45; (with_reducible refine (ofr_q n d _ h1 a ha).mono ?_); rintro en w' ⟨v1, rfl, hq1, hbw⟩; have X1 := hide hq1)
      | (go_at_call 45; (with_reducible refine (ofr_q m q _ h2 b hb).mono ?_); rintro en w' ⟨v2, rfl, hq2, hbw⟩; have X2 := hide hq2; have X1' := hide (RQ.below X1.out hbw))
      | (go_at_call 50; (with_reducible refine (order_is a b _ _ _ X1'.out X2.out hba hbb 1 hsg).mono ?_); rintro en w' ⟨rfl, hbw⟩; go_split_ands; have hk9 := k2_step ‹_› hbw))
  all_goals
    clear hk0 r1 r2 r3 r4
    obtain ⟨_, ⟨q0, q1, f0, f1⟩, _⟩ := hk9.out
    go_wp2_with fail
    refine bodyPost_ret (v := .tuple #[.agg #[.int .i64 0, .int .i64 0], .int .i64 2]) (by simp [results, Try.results64, go_sem, q0, q1]) rfl ⟨rfl, ?_⟩
    exact k2_end hk9 _ _
set_option maxRecDepth 20000 in
set_option maxHeartbeats 8000000 in
theorem rleast_yes (n d m q : Int) (w : World) (h1 : M.okB n d = true) (h2 : M.okB m q = true) (h : n * q ≤ m * d) :
    Calls Try.prog 64 #[.agg #[.int .i64 n, .int .i64 d], .agg #[.int .i64 m, .int .i64 q]] w (LstRet w n d m q) := by
  have hv1 := hide h1
  have hv2 := hide h2
  obtain ⟨a, ha⟩ : ∃ a, Hid (a = Rat.divInt n d) := ⟨_, rfl⟩
  obtain ⟨b, hb⟩ : ∃ b, Hid (b = Rat.divInt m q) := ⟨_, rfl⟩
  have hba : Hid (Bq 2 a) := hide (by rw [ha.out]; exact bq_frac h1)
  have hbb : Hid (Bq 2 b) := hide (by rw [hb.out]; exact bq_frac h2)
  obtain ⟨sg, hsg0⟩ : ∃ s, s = Int.sign (n * q - m * d) := ⟨_, rfl⟩
  have hs0 : sg ≤ 0 := by
    rw [hsg0]
    by_cases c : n * q - m * d = 0
    · rw [c]; decide
    · rw [Int.sign_eq_neg_one_of_neg (by omega)]; decide
  have hsg : Hid (sg = Int.sign (a - b).num) := hide (by rw [ha.out, hb.out, ← sign_sub h1 h2]; exact hsg0)
  have HH := hide h
  clear h hsg0
  obtain ⟨W, hW⟩ : ∃ W, W = ((w.alloc (.cells #[.int .i64 n, .int .i64 d] 23)).alloc (.cells #[.int .i64 m, .int .i64 q] 23)).alloc (.cells #[.int .i64 0, .int .i64 0] 23) := ⟨_, rfl⟩
  have hk0 := k2_new' w n d m q
  go_enter Try.func64, Try.ntmps64
  go_wp2_with fail
  rw [← hW] at hk0 ⊢
  clear hW
  obtain ⟨⟨r1, r2, r3, r4⟩, _, _⟩ := hk0.out
  go_region_held3 (fun w' => w'.cell? ⟨w.heap.size, 0, none⟩ = some (.int .i64 n) ∧ w'.cell? ⟨w.heap.size, 1, none⟩ = some (.int .i64 d) ∧ w'.cell? ⟨w.heap.size + 1, 0, none⟩ = some (.int .i64 m) ∧ w'.cell? ⟨w.heap.size + 1, 1, none⟩ = some (.int .i64 q) ∧ Hid (K2 w w' n d m q))
    ((go_split_ands; (first | dsimp only | skip); refine ⟨?_, ?_, ?_, ?_, ?_⟩ <;> first | with_reducible assumption | (simp only [World.cell?_drew]; with_reducible assumption) | (with_reducible exact kc hbw ‹_›) | (with_reducible exact k2_drew ‹_›) | (with_reducible exact k2_step ‹_› hbw) | (go_simp; done)))
    (first
      | (go_at_call 21; (with_reducible refine (rvalid_is n d true _ hv1).mono ?_); rintro en w' ⟨rfl, hbw⟩)
      | (go_at_call 21; (with_reducible refine (rvalid_is m q true _ hv2).mono ?_); rintro en w' ⟨rfl, hbw⟩)
      | (go_at_call 45; (with_reducible refine (ofr_q n d _ h1 a ha).mono ?_); rintro en w' ⟨v1, rfl, hq1, hbw⟩; have X1 := hide hq1)
      | (go_at_call 45; (with_reducible refine (ofr_q m q _ h2 b hb).mono ?_); rintro en w' ⟨v2, rfl, hq2, hbw⟩; have X2 := hide hq2; have X1' := hide (RQ.below X1.out hbw))
      | (go_at_call 50; (with_reducible refine (order_is a b _ _ _ X1'.out X2.out hba hbb sg hsg).mono ?_); rintro en w' ⟨rfl, hbw⟩; go_split_ands; have hk9 := k2_step ‹_› hbw))
  clear hk0 r1 r2 r3 r4
  have hkr : Hid (KR w (w.heap.size + 1 + 1) w') := kr_k2 hk9
  obtain ⟨⟨r1, r2, r3, r4⟩, ⟨q0, q1, f0, f1⟩, _⟩ := hk9.out
  go_wp2_with fail
  go_region_held3 (fun w' => w'.cell? ⟨w.heap.size, 0, none⟩ = some (.int .i64 n) ∧ w'.cell? ⟨w.heap.size, 1, none⟩ = some (.int .i64 d) ∧ w'.cell? ⟨w.heap.size + 1, 0, none⟩ = some (.int .i64 m) ∧ w'.cell? ⟨w.heap.size + 1, 1, none⟩ = some (.int .i64 q) ∧ Hid (KR w (w.heap.size + 1 + 1) w'))
    ((go_split_ands; (first | dsimp only | skip); refine ⟨?_, ?_, ?_, ?_, ?_⟩ <;> first | with_reducible assumption | (simp only [World.cell?_drew]; with_reducible assumption) | (with_reducible exact kc hbw ‹_›) | (with_reducible exact kr_drew ‹_›) | (with_reducible exact kr_step ‹_› hbw) | (with_reducible exact kr_set ‹_› _ _) | (go_simp; done)))
    (first
      | (go_at_call 45; (with_reducible refine (ofr_q n d _ h1 a ha).mono ?_); rintro en w' ⟨v3, rfl, hq1, hbw⟩; have Y1 := hide hq1)
      | (go_at_call 45; (with_reducible refine (ofr_q m q _ h2 b hb).mono ?_); rintro en w' ⟨v4, rfl, hq2, hbw⟩; rw [hb.out] at hq2; have Y2 := hide hq2; have hq3 := RQ.below Y1.out hbw; rw [ha.out] at hq3; have Y1' := hide hq3; clear hq3)
      | (go_at_call 106; (with_reducible refine (simple_all n d m q _ _ _ h1 h2 HH.out Y1'.out Y2.out).mono ?_); rintro en w' ⟨x, y, v5, rfl, hq5, hlst, hbw⟩; have Y5 := hide hq5; have HL := hide hlst; have hok := hide hlst.1.1; clear hlst)
      | (go_at_call 76; (with_reducible refine (answer_q (Rat.divInt x y) _ _ Y5.out x y 0 (hide (M.ans_ok hok.out).1.symm) (hide (M.ans_ok hok.out).2.1.symm) (hide (M.ans_ok hok.out).2.2.symm)).mono ?_); rintro en w' ⟨rfl, hbw⟩; go_split_ands; have hkr9 := kr_step ‹_› hbw; obtain ⟨⟨⟨u0, g0⟩, ⟨u1, g1⟩⟩, ⟨g2, g3⟩, _⟩ := hkr9.out))
  go_wp2_with fail
  refine bodyPost_ret (v := .tuple #[.agg #[.int .i64 x, .int .i64 y], .int .i64 0]) (by simp [results, Try.results64, go_sem, g0, g1]) rfl ⟨x, y, rfl, HL.out, ?_⟩
  exact bs (bs (kr_b hkr9) (by simp only []; omega) _) (by simp only []; omega) _
end Go.Proofs.Ytpgnbjlpkpmpcaa.R
